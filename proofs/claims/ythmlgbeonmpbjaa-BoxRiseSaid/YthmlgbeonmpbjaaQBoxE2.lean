/-
  Contracts over package box: copies by the program (a drawn region that stores a whole message).
-/
import Derived.Test.YthmlgbeonmpbjaaQBoxE
namespace Go.Proofs.Ythmlgbeonmpbjaa
set_option linter.unusedVariables false
set_option linter.unusedSimpArgs false
open Go.RowKit
set_option linter.unusedVariables false
set_option linter.unusedSimpArgs false

theorem flat_setX {α : Type} {k : Nat} {f : α → List Value} (hk : ∀ a, (f a).length = k) (a' : α) (j : Nat) (v : Value) (hj : j < k) : ∀ (l : List α) (i : Nat) (a : α), l[i]? = some a → f a' = (f a).set j v → (l.set i a').flatMap f = (l.flatMap f).set (i * k + j) v
  | [], _, _, h, _ => by simp at h
  | b :: l, 0, a, h, e => by
    cases h
    rw [List.set_cons_zero, List.flatMap_cons, List.flatMap_cons, e, Nat.zero_mul, Nat.zero_add, List.set_append_left _ _ (by rw [hk]; exact hj)]
  | b :: l, i + 1, a, h, e => by
    rw [List.set_cons_succ, List.flatMap_cons, List.flatMap_cons, flat_setX hk a' j v hj l i a h e, List.set_append_right _ _ (by rw [hk, Nat.add_mul]; omega), hk, show (i + 1) * k + j - k = i * k + j by rw [Nat.add_mul]; omega]
theorem OwnK.putX {α : Type} {k : Nat} {f : α → List Value} {w : World} {base n c : Nat} {e : TypeId} {A : Option Addr} {l : List α} (h : OwnK k f w base e A n c l) {i j : Nat} {a a' : α} (hi : l[i]? = some a) (hj : j < k) (v : Value) (hf : f a' = (f a).set j v) :
    ∃ g, A = some ⟨g, 0, none⟩ ∧ base ≤ g ∧ g < w.heap.size ∧ w.frozen? ⟨g, i * k + j, none⟩ = false ∧ w.cell? ⟨g, i * k + j, none⟩ = (f a)[j]? ∧ OwnK k f (w.setCell ⟨g, i * k + j, none⟩ v) base e A n c (l.set i a') := by
  have hlen := h.len
  have hil : i < l.length := (List.getElem?_eq_some_iff.1 hi).1
  obtain ⟨g', hA', _, hlt, hr⟩ := h.range (by omega)
  rcases h.1.2 with ⟨_, h0⟩ | ⟨g, cap, cur, hv, hg, hh, hnc, hcm, hcs, htk⟩
  · omega
  · injection hv with hA _ hc
    subst hA hc
    injection hA' with hA'
    injection hA' with hA'
    subst hA'
    have hcell := hr i a hi j ((f a)[j]'(by rw [h.2.2]; exact hj)) (List.getElem?_eq_getElem (by rw [h.2.2]; exact hj))
    refine ⟨g, rfl, hg, hlt, frozen_of_row w g _ cur _ hh, by rw [hcell, List.getElem?_eq_getElem], ?_, by rw [List.length_set]; exact hlen, h.2.2⟩
    refine ⟨by rw [flat_len h.2.2, List.length_set, hlen], .inr ⟨g, c, cur.setIfInBounds (i * k + j) v, rfl, hg, heap_setCell_same w g _ cur _ _ hh, hnc, hcm, by simpa using hcs, ?_⟩⟩
    rw [Array.toList_setIfInBounds, List.take_set, htk, flat_setX h.2.2 a' j v hj l i a hi hf]
/-- message i of one's own is stored anew, only its bytes lie elsewhere -/
theorem OwnK.putM {w : World} {base n c g : Nat} {l : List Hd} (h : OwnK 4 hdC w base 27 (some ⟨g, 0, none⟩) n c l) {i : Nat} {m : Mg} {xA yA : Option Addr} {xn xc yn yc : Nat} (hi : l[i]? = some ⟨m, xA, xn, xc⟩) :
    OwnK 4 hdC ((((w.setCell ⟨g, i * 4, none⟩ (.int .i64 m.uid)).setCell ⟨g, i * 4 + 1, none⟩ (.int .i64 m.flags)).setCell ⟨g, i * 4 + 2, none⟩ (.int .i64 m.date)).setCell ⟨g, i * 4 + 3, none⟩ (.slice yA yn yc)) base 27 (some ⟨g, 0, none⟩) n c (l.set i ⟨m, yA, yn, yc⟩) := by
  have same : l.set i ⟨m, xA, xn, xc⟩ = l := by
    obtain ⟨hil, e2⟩ := List.getElem?_eq_some_iff.1 hi
    rw [← e2, List.set_getElem_self]
  have hh : ∀ g' : Nat, some (⟨g, 0, none⟩ : Addr) = some ⟨g', 0, none⟩ → g' = g := fun g' e => by injection e with e; injection e with e; exact e.symm
  obtain ⟨g0, e0, _, _, _, _, h0⟩ := OwnK.putX h hi (j := 0) (a' := (⟨m, xA, xn, xc⟩ : Hd)) (by omega) (.int .i64 m.uid) (by unfold hdC; rfl)
  rw [hh g0 e0, same] at h0
  obtain ⟨g1, e1, _, _, _, _, h1⟩ := OwnK.putX h0 hi (j := 1) (a' := (⟨m, xA, xn, xc⟩ : Hd)) (by omega) (.int .i64 m.flags) (by unfold hdC; rfl)
  rw [hh g1 e1, same] at h1
  obtain ⟨g2, e2, _, _, _, _, h2⟩ := OwnK.putX h1 hi (j := 2) (a' := (⟨m, xA, xn, xc⟩ : Hd)) (by omega) (.int .i64 m.date) (by unfold hdC; rfl)
  rw [hh g2 e2, same] at h2
  obtain ⟨g3, e3, _, _, _, _, h3⟩ := OwnK.putX h2 hi (j := 3) (a' := (⟨m, yA, yn, yc⟩ : Hd)) (by omega) (.slice yA yn yc) (by unfold hdC; rfl)
  rw [hh g3 e3] at h3
  exact h3
theorem OwnK.rowF {w : World} {base n c g : Nat} {l : List Hd} (h : OwnK 4 hdC w base 27 (some ⟨g, 0, none⟩) n c l) (hn : 0 < n) : ∀ i, w.frozen? ⟨g, i, none⟩ = false := by
  obtain ⟨g', cur, e, _, hh, _⟩ := h.block hn
  injection e with e
  injection e with e
  subst e
  exact fun i => frozen_of_row w g i cur _ hh
theorem grown_put4o (w : World) (b o : Nat) (a0 a1 a2 a3 : Value) : w.grownBy ((((w.setCell ⟨b, o, none⟩ a0).setCell ⟨b, o + 1, none⟩ a1).setCell ⟨b, o + 2, none⟩ a2).setCell ⟨b, o + 3, none⟩ a3) (some b) :=
  grown_trans (grown_trans (grown_trans (grownBy_cell w b o a0) (grownBy_cell _ b _ a1)) (grownBy_cell _ b _ a2)) (grownBy_cell _ b _ a3)
theorem Bk.grown {w w' : World} {b g : Nat} {t : TypeId} {cs : Array Value} (h : Bk w b t cs) (hg : w.grownBy w' (some g)) (hne : b ≠ g) : Bk w' b t cs :=
  (hg.block b h.lt (fun e => hne (by injection e))).trans h
theorem below_put4o {B : Nat} {w0 w : World} (h : Below B w0 w) {b : Nat} (hb : B ≤ b) (o : Nat) (a0 a1 a2 a3 : Value) :
    Below B w0 ((((w.setCell ⟨b, o, none⟩ a0).setCell ⟨b, o + 1, none⟩ a1).setCell ⟨b, o + 2, none⟩ a2).setCell ⟨b, o + 3, none⟩ a3) :=
  (((h.setCell hb a0).setCell hb a1).setCell hb a2).setCell hb a3
theorem set_drop {gs hs : List Hd} {k : Nat} {a a' : Hd} (hg : gs.length = k) (ha : hs[k]? = some a) : (gs ++ hs.drop k).set k a' = (gs ++ [a']) ++ hs.drop (k + 1) := by
  subst hg
  have hk := (List.getElem?_eq_some_iff.1 ha).1
  rw [List.set_append_right _ _ (Nat.le_refl _), Nat.sub_self, List.drop_eq_getElem_cons hk, List.set_cons_zero, List.append_assoc]
  rfl
theorem get_drop {gs hs : List Hd} {k : Nat} {a : Hd} (hg : gs.length = k) (ha : hs[k]? = some a) : (gs ++ hs.drop k)[k]? = some a := by
  subst hg
  rw [List.getElem?_append_right (Nat.le_refl _), Nat.sub_self, List.getElem?_drop, Nat.add_zero]
  exact ha
/-- the first k messages are one's own already -/
def CopyAt (w : World) (nm : ByteArray) (v nx : Int) (A : Option Addr) (n c : Nat) (hs : List Hd) (k : Nat) (wr : World) : Prop :=
  ∃ gs : List Hd, OwnK 4 hdC wr (w.heap.size + 2) 27 A n c (gs ++ hs.drop k) ∧ gs.length = k ∧ (∀ h ∈ gs, OwnB wr (w.heap.size + 2) 5 h.A h.n h.c h.m.body) ∧ gs.map Hd.m = (hs.take k).map Hd.m ∧
    Bk wr w.heap.size 24 #[.string nm, .int .i64 v, .int .i64 nx, .slice A n c] ∧ Bk wr (w.heap.size + 1) 24 #[.string ⟨#[]⟩, .int .i64 0, .int .i64 0, .slice none 0 0] ∧ Below w.heap.size w wr ∧ w.heap.size + 2 ≤ wr.heap.size
theorem CopyAt.below {w wr W : World} {nm : ByteArray} {v nx : Int} {A : Option Addr} {n c k : Nat} {hs : List Hd} (h : CopyAt w nm v nx A n c hs k wr) (hb : Below wr.heap.size wr W) : CopyAt w nm v nx A n c hs k W := by
  obtain ⟨gs, h1, h2, h3, h4, h5, h6, h7, h8⟩ := h
  exact ⟨gs, h1.below hb, h2, fun x hx => (h3 x hx).below hb, h4, h5.below hb h5.lt, h6.below hb h6.lt, h7.trans (hb.mono h7.size), Nat.le_trans h8 hb.size⟩
theorem CopyAt.next {w W : World} {nm : ByteArray} {v nx : Int} {n c k g : Nat} {hs : List Hd} {m : Mg} {xA yA : Option Addr} {xn xc yc : Nat} (h : CopyAt w nm v nx (some ⟨g, 0, none⟩) n c hs k W) (hx : hs[k]? = some ⟨m, xA, xn, xc⟩) (hy : OwnB W (w.heap.size + 2) 5 yA xn yc m.body) :
    CopyAt w nm v nx (some ⟨g, 0, none⟩) n c hs (k + 1) ((((W.setCell ⟨g, k * 4, none⟩ (.int .i64 m.uid)).setCell ⟨g, k * 4 + 1, none⟩ (.int .i64 m.flags)).setCell ⟨g, k * 4 + 2, none⟩ (.int .i64 m.date)).setCell ⟨g, k * 4 + 3, none⟩ (.slice yA xn yc)) := by
  obtain ⟨gs, h1, h2, h3, h4, h5, h6, h7, h8⟩ := h
  have hg := grown_put4o W g (k * 4) (.int .i64 m.uid) (.int .i64 m.flags) (.int .i64 m.date) (.slice yA xn yc)
  have hgb : w.heap.size + 2 ≤ g := by
    have hk : k < n := by
      have := h1.len
      rw [List.length_append, List.length_drop, h2] at this
      have := (List.getElem?_eq_some_iff.1 hx).1
      omega
    exact (h1.1.lt g rfl).1
  have hne : ∀ b cs fr, some g = some b → w.heap.size + 2 ≤ b → W.heap[b]? ≠ some (.cells cs 5 fr) := fun b cs fr e _ => ownsB_type h1.1 (show 27 ≠ 5 by decide) b cs fr e
  have h1' := h1.putM (yA := yA) (yn := xn) (yc := yc) (get_drop h2 hx)
  rw [set_drop h2 hx] at h1'
  refine ⟨gs ++ [⟨m, yA, xn, yc⟩], h1', by rw [List.length_append, h2]; rfl, fun x hx' => ?_, ?_, h5.grown hg (by omega), h6.grown hg (by omega), below_put4o h7 (by omega) _ _ _ _ _, by simpa [World.setCell] using h8⟩
  · have hall : OwnB W (w.heap.size + 2) 5 x.A x.n x.c x.m.body := by
      rcases List.mem_append.1 hx' with hx' | hx'
      · exact h3 x hx'
      · rw [List.mem_singleton.1 hx']; exact hy
    exact ⟨ownsB_kept hall.1 hg hne, hall.2⟩
  · rw [List.map_append, h4, List.take_add_one, hx, List.map_append]
    rfl
set_option maxRecDepth 20000 in
set_option maxHeartbeats 8000000 in
theorem copy_any (nm : ByteArray) (v nx : Int) (A : Option Addr) (n c : Nat) (l : List Mg) (w : World) (hl : MsgsIn w w.heap.size A n l) (hn : n ≤ 1000000) (hsm : ∀ m ∈ l, m.body.length ≤ 1000000) :
    Calls Try.prog 24 #[.agg #[.string nm, .int .i64 v, .int .i64 nx, .slice A n c]] w (GiveX w nm v nx n l) := by
  obtain ⟨hs, hc, hin, rfl⟩ := hl
  have hmx : Try.prog.follows .mixedOrders = true := by kernel_rfl
  have h1 : Bk ((w.alloc (.cells #[.string nm, .int .i64 v, .int .i64 nx, .slice A n c] 24)).alloc (.cells #[.string ⟨#[]⟩, .int .i64 0, .int .i64 0, .slice none 0 0] 24)) w.heap.size 24 #[.string nm, .int .i64 v, .int .i64 nx, .slice A n c] := (Bk.new _ _ _).alloc _
  have h2 : Bk ((w.alloc (.cells #[.string nm, .int .i64 v, .int .i64 nx, .slice A n c] 24)).alloc (.cells #[.string ⟨#[]⟩, .int .i64 0, .int .i64 0, .slice none 0 0] 24)) (w.heap.size + 1) 24 #[.string ⟨#[]⟩, .int .i64 0, .int .i64 0, .slice none 0 0] := Bk.new2 _ _ _ _
  have hB : Below w.heap.size w ((w.alloc (.cells #[.string nm, .int .i64 v, .int .i64 nx, .slice A n c] 24)).alloc (.cells #[.string ⟨#[]⟩, .int .i64 0, .int .i64 0, .slice none 0 0] 24)) := ((Below.refl _ _).alloc (Nat.le_refl _) _).alloc (by simp) _
  have HL := Lib.hid hc.1
  have HIN := Lib.hid hin
  have HB := Lib.hid hB
  have HSM := Lib.hid hsm
  have HZ : Hid (((w.alloc (.cells #[.string nm, .int .i64 v, .int .i64 nx, .slice A n c] 24)).alloc (.cells #[.string ⟨#[]⟩, .int .i64 0, .int .i64 0, .slice none 0 0] 24)).heap.size = w.heap.size + 2) := Lib.hid (by simp)
  have CC := Lib.hid (cloneM_any A n c hs _ ((hc.below hB (Nat.le_refl _)).more hB.size) hn)
  have c3 := h1.cell 3
  have H1 := Lib.hid h1
  have H2 := Lib.hid h2
  clear h1 h2 hB hin hsm hc
  go_enter Try.func24, Try.ntmps24
  go_wp2_with fail
  generalize (w.alloc (.cells #[.string nm, .int .i64 v, .int .i64 nx, .slice A n c] 24)).alloc (.cells #[.string ⟨#[]⟩, .int .i64 0, .int .i64 0, .slice none 0 0] 24) = w1 at *
  refine CC.out.mono ?_
  rintro e w2 ⟨A', c', rfl, ho, hb⟩
  rw [HZ.out] at ho hb
  have h1 := H1.out.below hb (by omega)
  have h2 := H2.out.below hb (by omega)
  have f3 := h1.frozen 3
  have e3 := h1.cell 3
  have HAT : Hid (CopyAt w nm v nx A' n c' hs 0 (w2.setCell ⟨w.heap.size, 3, none⟩ (.slice A' n c'))) := Lib.hid
    ⟨[], ⟨ownsB_kept ho.1 (grownBy_cell w2 w.heap.size 3 _) (fun b cs fr q hb' => by injection q with q; omega), ho.2⟩, rfl, fun x hx => (by cases hx), rfl, h1.put 3 _, h2.far (show w.heap.size + 1 ≠ w.heap.size by omega) _, (HB.out.trans (hb.mono (by omega))).setCell (Nat.le_refl _) _, by have := hb.size; rw [HZ.out] at this; simpa [World.setCell] using this⟩
  clear ho hb h1 h2 c3 CC H1 H2 HB HZ
  go_wp2_with fail
  generalize w2.setCell ⟨w.heap.size, 3, none⟩ (.slice A' n c') = w3 at *
  go_loopw [12] (fun i wx => ∃ k : Nat, k ≤ n ∧ i = .int .i64 (k : Int) ∧ CopyAt w nm v nx A' n c' hs k wx) (fun i _ => n - (intOf i).toNat)
  case atStart => exact ⟨0, Nat.zero_le _, rfl, HAT.out⟩
  case round =>
    obtain ⟨k, hk, rfl, hat⟩ := hrel
    have HAT2 := Lib.hid hat
    clear hat HAT
    by_cases hlt : k < n
    · obtain ⟨x, hx⟩ : ∃ x, hs[k]? = some x := ⟨_, List.getElem?_eq_getElem (by rw [HL.out]; exact hlt)⟩
      have hat := HAT2.out
      obtain ⟨gs, q1, q2, q3, q4, q5, q6, q7, q8⟩ := hat
      obtain ⟨g, rfl, hgb, hgl, hrg⟩ := q1.range (by omega)
      have hin := HIN.out x (List.mem_of_getElem? hx)
      have hbl : x.n ≤ 1000000 := by have := HSM.out x.m (List.mem_map.2 ⟨x, List.mem_of_getElem? hx, rfl⟩); rw [hin.1.1] at this; exact this
      have HROW := Lib.hid (hrg k x (get_drop q2 hx))
      have hk0 : (0 : Int) ≤ (k : Int) := by omega
      have hkn : (k : Int) < (n : Int) := by omega
      obtain ⟨⟨u, f, d, bl⟩, xA, xn, xc⟩ := x
      replace hbl : xn ≤ 1000000 := hbl
      have hbW : Below wr.heap.size wr (wr.alloc (.cells #[.int .i64 u, .int .i64 f, .int .i64 d, .slice xA xn xc] 27)) := (Below.refl _ _).alloc (Nat.le_refl _) _
      have CM := Lib.hid (ownMsg_any u f d xA xn xc bl (wr.alloc (.cells #[.int .i64 u, .int .i64 f, .int .i64 d, .slice xA xn xc] 27)).drew (hin.1.below (q7.trans (hbW.drew.mono q7.size)) (Nat.le_refl _) |>.more (q7.trans (hbW.drew.mono q7.size)).size) (by omega))
      have HAT3 := Lib.hid (HAT2.out.below hbW.drew)
      have HX := Lib.hid hx
      have HGB := Lib.hid hgb
      have HGL := Lib.hid (show g < ((wr.alloc (.cells #[.int .i64 u, .int .i64 f, .int .i64 d, .slice xA xn xc] 27)).drew).heap.size from Nat.lt_of_lt_of_le hgl hbW.drew.size)
      have HSZ := Lib.hid (show w.heap.size + 2 ≤ ((wr.alloc (.cells #[.int .i64 u, .int .i64 f, .int .i64 d, .slice xA xn xc] 27)).drew).heap.size from Nat.le_trans q8 hbW.drew.size)
      have HGM := Lib.hid (show wr.heap.size ≠ g by omega)
      have hbx := (q5.alloc (.cells #[.int .i64 u, .int .i64 f, .int .i64 d, .slice xA xn xc] 27))
      have hmg : Bk (wr.alloc (.cells #[.int .i64 u, .int .i64 f, .int .i64 d, .slice xA xn xc] 27)) wr.heap.size 27 #[.int .i64 u, .int .i64 f, .int .i64 d, .slice xA xn xc] := Bk.new _ _ _
      have hwl : w.heap.size < wr.heap.size := q5.lt
      have hS0 : ((wr.alloc (.cells #[.int .i64 u, .int .i64 f, .int .i64 d, .slice xA xn xc] 27)).drew).cell? ⟨w.heap.size, 3, none⟩ = some (.slice (some ⟨g, 0, none⟩) n c') ∧ (((wr.alloc (.cells #[.int .i64 u, .int .i64 f, .int .i64 d, .slice xA xn xc] 27)).drew).cell? ⟨wr.heap.size, 0, none⟩ = some (.int .i64 u) ∧ ((wr.alloc (.cells #[.int .i64 u, .int .i64 f, .int .i64 d, .slice xA xn xc] 27)).drew).cell? ⟨wr.heap.size, 1, none⟩ = some (.int .i64 f) ∧ ((wr.alloc (.cells #[.int .i64 u, .int .i64 f, .int .i64 d, .slice xA xn xc] 27)).drew).cell? ⟨wr.heap.size, 2, none⟩ = some (.int .i64 d) ∧ ((wr.alloc (.cells #[.int .i64 u, .int .i64 f, .int .i64 d, .slice xA xn xc] 27)).drew).cell? ⟨wr.heap.size, 3, none⟩ = some (.slice xA xn xc)) := ⟨hbx.cell 3, hmg.cell 0, hmg.cell 1, hmg.cell 2, hmg.cell 3⟩
      have HS0 := Lib.hid hS0
      clear hx hin hbl hrg q1 q2 q3 q4 q5 q6 q7 q8 hbx hmg hbW hS0 HAT2
      go_wp2_with ((with_reducible show wpList _ _ _ (⟨some 16, _, _, _, _, _⟩ :: _) _ _); refine hold ?_)
      refine held (wpList_load_mid rfl 27 (.tmp 15) rfl g (k * 4) rfl _ _ HROW.out Try.underlying27 rfl (by kernel_rfl) ?_)
      unfold hdC
      go_wp2_with fail
      obtain ⟨bm, hbm⟩ : ∃ bm, wr.heap.size = bm := ⟨_, rfl⟩
      rw [hbm] at hwl HS0 HGM ⊢
      clear hbm HROW
      refine wp_region_held_drew (S := fun W' => W'.cell? ⟨w.heap.size, 3, none⟩ = some (.slice (some ⟨g, 0, none⟩) n c') ∧ (W'.cell? ⟨bm, 0, none⟩ = some (.int .i64 u) ∧ W'.cell? ⟨bm, 1, none⟩ = some (.int .i64 f) ∧ W'.cell? ⟨bm, 2, none⟩ = some (.int .i64 d) ∧ W'.cell? ⟨bm, 3, none⟩ = some (.slice xA xn xc))) hmx HS0.out (fun hHeld => ?_)
      generalize (wr.alloc (.cells #[.int .i64 u, .int .i64 f, .int .i64 d, .slice xA xn xc] 27)).drew = W at *
      simp only [List.size_toArray, List.length_cons, List.length_nil, Nat.reduceAdd]
      refine wpAnyH_take (i := 0) (v := .pointer (some ⟨w.heap.size, 3, none⟩)) rfl (by kernel_rfl) (by kernel_rfl) (by kernel_rfl) (fun _ _ _ h => h) (Or.inl ⟨by rfl, fun w0 hC => by simp [execOp, Act.eval, Act.put, go_sem]⟩) hHeld ?_
      try simp only [Act.put, List.setIfInBounds_toArray, List.set_cons_zero, List.set_cons_succ, List.getElem_toArray, List.getElem_cons_zero, List.getElem_cons_succ]
      refine wpAnyH_take (i := 1) (v := .slice (some ⟨g, 0, none⟩) n c') rfl (by kernel_rfl) (by kernel_rfl) (by kernel_rfl) (fun _ _ _ h => h) (Or.inl ⟨by rfl, fun w0 hC => by simp [execOp, Act.eval, Act.put, go_sem, hC.1]⟩) hHeld ?_
      try simp only [Act.put, List.setIfInBounds_toArray, List.set_cons_zero, List.set_cons_succ, List.getElem_toArray, List.getElem_cons_zero, List.getElem_cons_succ]
      refine wpAnyH_take (i := 2) (v := .int .i64 (k : Int)) rfl (by kernel_rfl) (by kernel_rfl) (by kernel_rfl) (fun _ _ _ h => h) (Or.inl ⟨by rfl, fun w0 hC => by simp [execOp, Act.eval, Act.put, go_sem]⟩) hHeld ?_
      try simp only [Act.put, List.setIfInBounds_toArray, List.set_cons_zero, List.set_cons_succ, List.getElem_toArray, List.getElem_cons_zero, List.getElem_cons_succ]
      refine wpAnyH_take (i := 3) (v := .agg #[.int .i64 u, .int .i64 f, .int .i64 d, .slice xA xn xc]) rfl (by kernel_rfl) (by kernel_rfl) (by kernel_rfl) (fun _ _ _ h => h) (Or.inl ⟨by rfl, fun w0 hC => by simp [execOp, Act.eval, Act.put, go_sem, hC.2.1, hC.2.2.1, hC.2.2.2.1, hC.2.2.2.2]⟩) hHeld ?_
      try simp only [Act.put, List.setIfInBounds_toArray, List.set_cons_zero, List.set_cons_succ, List.getElem_toArray, List.getElem_cons_zero, List.getElem_cons_succ]
      refine wpAnyH_ready (rs := [4]) (by kernel_rfl) (by simp) (AllReadyH.cons rfl (fun K hK => ?_) AllReadyH.nil)
      rw [if_pos (by rfl)]
      go_wp2_with fail
      refine CM.out.mono ?_
      rintro e W2 ⟨yA, yc, rfl, hy, hb2⟩
      have hgW : g < W.heap.size := HGL.out
      have hws := hb2.size
      have hat4 := HAT3.out.below hb2
      have HY := Lib.hid (hy.base_le HSZ.out)
      obtain ⟨gs, q1, q2, q3, q4, q5, q6, q7, q8⟩ := hat4
      obtain ⟨g', e', _, _, hrg⟩ := q1.range (by omega)
      injection e' with e'
      injection e' with e'
      subst e'
      have hr := row4 (hrg k _ (get_drop q2 HX.out))
      simp only at hr
      obtain ⟨r0, r1, r2, r3⟩ := hr
      have hfr := q1.rowF (by omega)
      have f0 := hfr (k * 4)
      have f1 := hfr (k * 4 + 1)
      have f2 := hfr (k * 4 + 2)
      have f3' := hfr (k * 4 + 3)
      have hS : W2.cell? ⟨w.heap.size, 3, none⟩ = some (.slice (some ⟨g, 0, none⟩) n c') ∧ (W2.cell? ⟨bm, 0, none⟩ = some (.int .i64 u) ∧ W2.cell? ⟨bm, 1, none⟩ = some (.int .i64 f) ∧ W2.cell? ⟨bm, 2, none⟩ = some (.int .i64 d) ∧ W2.cell? ⟨bm, 3, none⟩ = some (.slice xA xn xc)) :=
        ⟨(hb2.cell (p := ⟨w.heap.size, 3, none⟩) (World.block_lt_of_cell? _ _ hHeld.1)).trans hHeld.1, (hb2.cell (p := ⟨bm, 0, none⟩) (World.block_lt_of_cell? _ _ hHeld.2.1)).trans hHeld.2.1, (hb2.cell (p := ⟨bm, 1, none⟩) (World.block_lt_of_cell? _ _ hHeld.2.2.1)).trans hHeld.2.2.1, (hb2.cell (p := ⟨bm, 2, none⟩) (World.block_lt_of_cell? _ _ hHeld.2.2.2.1)).trans hHeld.2.2.2.1, (hb2.cell (p := ⟨bm, 3, none⟩) (World.block_lt_of_cell? _ _ hHeld.2.2.2.2)).trans hHeld.2.2.2.2⟩
      have HAT4 := Lib.hid (HAT3.out.below hb2)
      clear q1 q2 q3 q4 q5 q6 q7 q8 hrg hfr hHeld hy hb2 hws HAT3 HS0
      refine hK.out _ _ hS (fun hHeld => ?_)
      clear hK K
      try simp only [Act.put, List.setIfInBounds_toArray, List.set_cons_zero, List.set_cons_succ, List.getElem_toArray, List.getElem_cons_zero, List.getElem_cons_succ]
      have HS2 := Lib.hid hS
      clear hS
      refine wpAnyH_take (i := 5) (v := .pointer (some ⟨g, k * 4, none⟩)) rfl (by kernel_rfl) (by kernel_rfl) (by kernel_rfl) (fun _ _ _ h => h) (Or.inl ⟨by rfl, fun w0 hC => by simp [execOp, Act.eval, Act.put, go_sem, hk0, hkn, hlt]⟩) hHeld ?_
      try simp only [Act.put, List.setIfInBounds_toArray, List.set_cons_zero, List.set_cons_succ, List.getElem_toArray, List.getElem_cons_zero, List.getElem_cons_succ]
      refine wpAnyH_ready (rs := [6]) (by kernel_rfl) (by simp) (AllReadyH.cons rfl (fun K hK => ?_) AllReadyH.nil)
      rw [if_pos (by rfl)]
      go_wp2_with fail
      have hS : (((((W2.setCell ⟨g, k * 4, none⟩ (.int .i64 u)).setCell ⟨g, k * 4 + 1, none⟩ (.int .i64 f)).setCell ⟨g, k * 4 + 2, none⟩ (.int .i64 d)).setCell ⟨g, k * 4 + 3, none⟩ (.slice yA xn yc))).cell? ⟨w.heap.size, 3, none⟩ = some (.slice (some ⟨g, 0, none⟩) n c') ∧ (((((W2.setCell ⟨g, k * 4, none⟩ (.int .i64 u)).setCell ⟨g, k * 4 + 1, none⟩ (.int .i64 f)).setCell ⟨g, k * 4 + 2, none⟩ (.int .i64 d)).setCell ⟨g, k * 4 + 3, none⟩ (.slice yA xn yc)).cell? ⟨bm, 0, none⟩ = some (.int .i64 u) ∧ ((((W2.setCell ⟨g, k * 4, none⟩ (.int .i64 u)).setCell ⟨g, k * 4 + 1, none⟩ (.int .i64 f)).setCell ⟨g, k * 4 + 2, none⟩ (.int .i64 d)).setCell ⟨g, k * 4 + 3, none⟩ (.slice yA xn yc)).cell? ⟨bm, 1, none⟩ = some (.int .i64 f) ∧ ((((W2.setCell ⟨g, k * 4, none⟩ (.int .i64 u)).setCell ⟨g, k * 4 + 1, none⟩ (.int .i64 f)).setCell ⟨g, k * 4 + 2, none⟩ (.int .i64 d)).setCell ⟨g, k * 4 + 3, none⟩ (.slice yA xn yc)).cell? ⟨bm, 2, none⟩ = some (.int .i64 d) ∧ ((((W2.setCell ⟨g, k * 4, none⟩ (.int .i64 u)).setCell ⟨g, k * 4 + 1, none⟩ (.int .i64 f)).setCell ⟨g, k * 4 + 2, none⟩ (.int .i64 d)).setCell ⟨g, k * 4 + 3, none⟩ (.slice yA xn yc)).cell? ⟨bm, 3, none⟩ = some (.slice xA xn xc)) := by
        have hg := grown_put4o W2 g (k * 4) (.int .i64 u) (.int .i64 f) (.int .i64 d) (.slice yA xn yc)
        exact ⟨hg.cell HS2.out.1 (fun e => by injection e with e; have := HGB.out; simp only at e; omega), hg.cell HS2.out.2.1 (fun e => by injection e with e; have := HGM.out; simp only at e; omega), hg.cell HS2.out.2.2.1 (fun e => by injection e with e; have := HGM.out; simp only at e; omega), hg.cell HS2.out.2.2.2.1 (fun e => by injection e with e; have := HGM.out; simp only at e; omega), hg.cell HS2.out.2.2.2.2 (fun e => by injection e with e; have := HGM.out; simp only at e; omega)⟩
      refine hK.out _ _ hS (fun hHeld => ?_)
      clear hK K
      try simp only [Act.put, List.setIfInBounds_toArray, List.set_cons_zero, List.set_cons_succ, List.getElem_toArray, List.getElem_cons_zero, List.getElem_cons_succ]
      refine wpAnyH_done (by kernel_rfl) ?_ _
      have HAT5 := Lib.hid (HAT4.out.next HX.out HY.out)
      clear hHeld hS HS2 HAT4 HY r0 r1 r2 r3 f0 f1 f2 f3' CM
      go_wp2_with fail
      go_roundw
      case rel => exact ⟨k + 1, by omega, by go_num, HAT5.out⟩
      case measure => simp [intOf]; omega
    · have hkn : ¬ (k : Int) < (n : Int) := by omega
      obtain rfl : n = k := by omega
      obtain ⟨gs, q1, q2, q3, q4, q5, q6, q7, q8⟩ := HAT2.out
      have HO4 : Hid (OwnM wr (w.heap.size + 2) A' n c' (hs.map Hd.m)) := Lib.hid ⟨gs, by rw [List.drop_eq_nil_of_le (by rw [HL.out]; omega), List.append_nil] at q1; exact q1, q3, by rw [q4, List.take_of_length_le (by rw [HL.out]; omega)]⟩
      have HE2 := Lib.hid q6
      have HB2 := Lib.hid q7
      obtain ⟨⟨d0, d1, d2, d3⟩, g0, g1, g2, g3⟩ := q5.four
      obtain ⟨⟨p0, p1, p2, p3⟩, t0, t1, t2, t3⟩ := q6.four
      clear q1 q2 q3 q4 q5 q6 q7 q8 HAT2
      go_wp2_with fail
      refine bodyPost_ret (results_cell (a := ⟨w.heap.size + 1, 0, none⟩) rfl rfl (Bk.box_ (Bk.put4 HE2.out _ _ _ _))) rfl ⟨A', c', rfl, ?_, ?_⟩
      · exact (HO4.out.far (grown_put4 _ _ _ _ _ _) (by omega)).from_ (by omega)
      · exact below_put4 HB2.out (by omega) _ _ _ _
end Go.Proofs.Ythmlgbeonmpbjaa
