/-
  A part of the proof: see the last text.
-/
import Derived.Test.YtbogjfbfgbhdbaaGreatDoorSBoxA
import Derived.Test.YtbogjfbfgbhdbaaGreatDoorSAppK
import Derived.Lib.AppendZerosOnto
import Derived.Test.YtbogjfbfgbhdbaaGreatDoorSEventMath
namespace Go.Proofs.YtbogjfbfgbhdbaaGreatDoor
set_option linter.unusedVariables false
set_option linter.unusedSimpArgs false
open Go.RowKit
set_option linter.unusedVariables false
set_option linter.unusedSimpArgs false
theorem flat_setX {α : Type} {k : Nat} {f : α → List Value} (hk : ∀ a, (f a).length = k) (a' : α) (j : Nat) (v : Value) (hj : j < k) : ∀ (l : List α) (i : Nat) (a : α), l[i]? = some a → f a' = (f a).set j v → (l.set i a').flatMap f = (l.flatMap f).set (i * k + j) v
  | [], _, _, h, _ => by simp at h
  | b :: l, 0, a, h, e => by
    cases h
    rw [List.set_cons_zero, List.flatMap_cons, List.flatMap_cons, e, Nat.zero_mul, Nat.zero_add, List.set_append_left _ _ (by rw [hk]; exact hj)]
  | b :: l, i + 1, a, h, e => by
    rw [List.set_cons_succ, List.flatMap_cons, List.flatMap_cons, flat_setX hk a' j v hj l i a h e, List.set_append_right _ _ (by rw [hk, Nat.add_mul]; omega), hk, show (i + 1) * k + j - k = i * k + j by rw [Nat.add_mul]; omega]
theorem OwnK.putX {α : Type} {k : Nat} {f : α → List Value} {w : World} {base n c : Nat} {e : TypeId} {A : Option Addr} {l : List α} (h : OwnK k f w base e A n c l) {i j : Nat} {a a' : α} (hi : l[i]? = some a) (hj : j < k) (v : Value) (hf : f a' = (f a).set j v) :
    ∃ g, A = some ⟨g, 0, none⟩ ∧ base ≤ g ∧ g < w.heap.size ∧ w.frozen? ⟨g, i * k + j, none⟩ = false ∧ w.cell? ⟨g, i * k + j, none⟩ = (f a)[j]? ∧ OwnK k f (w.setCell ⟨g, i * k + j, none⟩ v) base e A n c (l.set i a') := by
  have hlen := h.len
  have hil : i < l.length := (List.getElem?_eq_some_iff.1 hi).1
  obtain ⟨g', hA', _, hlt, hr⟩ := h.range (by omega)
  rcases h.1.2 with ⟨_, h0⟩ | ⟨g, cap, cur, hv, hg, hh, hnc, hcm, hcs, htk⟩
  · omega
  · injection hv with hA _ hc
    subst hA hc
    injection hA' with hA'
    injection hA' with hA'
    subst hA'
    have hcell := hr i a hi j ((f a)[j]'(by rw [h.2.2]; exact hj)) (List.getElem?_eq_getElem (by rw [h.2.2]; exact hj))
    refine ⟨g, rfl, hg, hlt, frozen_of_row w g _ cur _ hh, by rw [hcell, List.getElem?_eq_getElem], ?_, by rw [List.length_set]; exact hlen, h.2.2⟩
    refine ⟨by rw [flat_len h.2.2, List.length_set, hlen], .inr ⟨g, c, cur.setIfInBounds (i * k + j) v, rfl, hg, heap_setCell_same w g _ cur _ _ hh, hnc, hcm, by simpa using hcs, ?_⟩⟩
    rw [Array.toList_setIfInBounds, List.take_set, htk, flat_setX h.2.2 a' j v hj l i a hi hf]
theorem OwnK.putM {w : World} {base n c g : Nat} {l : List Hd} (h : OwnK 4 hdC w base 49 (some ⟨g, 0, none⟩) n c l) {i : Nat} {m : Mg} {xA yA : Option Addr} {xn xc yn yc : Nat} (hi : l[i]? = some ⟨m, xA, xn, xc⟩) :
    OwnK 4 hdC ((((w.setCell ⟨g, i * 4, none⟩ (.int .i64 m.uid)).setCell ⟨g, i * 4 + 1, none⟩ (.int .i64 m.flags)).setCell ⟨g, i * 4 + 2, none⟩ (.int .i64 m.date)).setCell ⟨g, i * 4 + 3, none⟩ (.slice yA yn yc)) base 49 (some ⟨g, 0, none⟩) n c (l.set i ⟨m, yA, yn, yc⟩) := by
  have same : l.set i ⟨m, xA, xn, xc⟩ = l := by
    obtain ⟨hil, e2⟩ := List.getElem?_eq_some_iff.1 hi
    rw [← e2, List.set_getElem_self]
  have hh : ∀ g' : Nat, some (⟨g, 0, none⟩ : Addr) = some ⟨g', 0, none⟩ → g' = g := fun g' e => by injection e with e; injection e with e; exact e.symm
  obtain ⟨g0, e0, _, _, _, _, h0⟩ := OwnK.putX h hi (j := 0) (a' := (⟨m, xA, xn, xc⟩ : Hd)) (by omega) (.int .i64 m.uid) (by unfold hdC; rfl)
  rw [hh g0 e0, same] at h0
  obtain ⟨g1, e1, _, _, _, _, h1⟩ := OwnK.putX h0 hi (j := 1) (a' := (⟨m, xA, xn, xc⟩ : Hd)) (by omega) (.int .i64 m.flags) (by unfold hdC; rfl)
  rw [hh g1 e1, same] at h1
  obtain ⟨g2, e2, _, _, _, _, h2⟩ := OwnK.putX h1 hi (j := 2) (a' := (⟨m, xA, xn, xc⟩ : Hd)) (by omega) (.int .i64 m.date) (by unfold hdC; rfl)
  rw [hh g2 e2, same] at h2
  obtain ⟨g3, e3, _, _, _, _, h3⟩ := OwnK.putX h2 hi (j := 3) (a' := (⟨m, yA, yn, yc⟩ : Hd)) (by omega) (.slice yA yn yc) (by unfold hdC; rfl)
  rw [hh g3 e3] at h3
  exact h3
theorem OwnK.rowF {w : World} {base n c g : Nat} {l : List Hd} (h : OwnK 4 hdC w base 49 (some ⟨g, 0, none⟩) n c l) (hn : 0 < n) : ∀ i, w.frozen? ⟨g, i, none⟩ = false := by
  obtain ⟨g', cur, e, _, hh, _⟩ := h.block hn
  injection e with e
  injection e with e
  subst e
  exact fun i => frozen_of_row w g i cur _ hh
theorem grown_put4o (w : World) (b o : Nat) (a0 a1 a2 a3 : Value) : w.grownBy ((((w.setCell ⟨b, o, none⟩ a0).setCell ⟨b, o + 1, none⟩ a1).setCell ⟨b, o + 2, none⟩ a2).setCell ⟨b, o + 3, none⟩ a3) (some b) :=
  grown_trans (grown_trans (grown_trans (grownBy_cell w b o a0) (grownBy_cell _ b _ a1)) (grownBy_cell _ b _ a2)) (grownBy_cell _ b _ a3)
theorem Bk.grown {w w' : World} {b g : Nat} {t : TypeId} {cs : Array Value} (h : Bk w b t cs) (hg : w.grownBy w' (some g)) (hne : b ≠ g) : Bk w' b t cs :=
  (hg.block b h.lt (fun e => hne (by injection e))).trans h
theorem below_put4o {B : Nat} {w0 w : World} (h : Below B w0 w) {b : Nat} (hb : B ≤ b) (o : Nat) (a0 a1 a2 a3 : Value) :
    Below B w0 ((((w.setCell ⟨b, o, none⟩ a0).setCell ⟨b, o + 1, none⟩ a1).setCell ⟨b, o + 2, none⟩ a2).setCell ⟨b, o + 3, none⟩ a3) :=
  (((h.setCell hb a0).setCell hb a1).setCell hb a2).setCell hb a3
theorem set_drop {gs hs : List Hd} {k : Nat} {a a' : Hd} (hg : gs.length = k) (ha : hs[k]? = some a) : (gs ++ hs.drop k).set k a' = (gs ++ [a']) ++ hs.drop (k + 1) := by
  subst hg
  have hk := (List.getElem?_eq_some_iff.1 ha).1
  rw [List.set_append_right _ _ (Nat.le_refl _), Nat.sub_self, List.drop_eq_getElem_cons hk, List.set_cons_zero, List.append_assoc]
  rfl
theorem get_drop {gs hs : List Hd} {k : Nat} {a : Hd} (hg : gs.length = k) (ha : hs[k]? = some a) : (gs ++ hs.drop k)[k]? = some a := by
  subst hg
  rw [List.getElem?_append_right (Nat.le_refl _), Nat.sub_self, List.getElem?_drop, Nat.add_zero]
  exact ha
def CopyAt (w : World) (nm : ByteArray) (v nx : Int) (A : Option Addr) (n c : Nat) (hs : List Hd) (k : Nat) (wr : World) : Prop :=
  ∃ gs : List Hd, OwnK 4 hdC wr (w.heap.size + 2) 49 A n c (gs ++ hs.drop k) ∧ gs.length = k ∧ (∀ h ∈ gs, OwnB wr (w.heap.size + 2) 5 h.A h.n h.c h.m.body) ∧ gs.map Hd.m = (hs.take k).map Hd.m ∧
    Bk wr w.heap.size 44 #[.string nm, .int .i64 v, .int .i64 nx, .slice A n c] ∧ Bk wr (w.heap.size + 1) 44 #[.string ⟨#[]⟩, .int .i64 0, .int .i64 0, .slice none 0 0] ∧ Below w.heap.size w wr ∧ w.heap.size + 2 ≤ wr.heap.size
theorem CopyAt.below {w wr W : World} {nm : ByteArray} {v nx : Int} {A : Option Addr} {n c k : Nat} {hs : List Hd} (h : CopyAt w nm v nx A n c hs k wr) (hb : Below wr.heap.size wr W) : CopyAt w nm v nx A n c hs k W := by
  obtain ⟨gs, h1, h2, h3, h4, h5, h6, h7, h8⟩ := h
  exact ⟨gs, h1.below hb, h2, fun x hx => (h3 x hx).below hb, h4, h5.below hb h5.lt, h6.below hb h6.lt, h7.trans (hb.mono h7.size), Nat.le_trans h8 hb.size⟩
theorem CopyAt.next {w W : World} {nm : ByteArray} {v nx : Int} {n c k g : Nat} {hs : List Hd} {m : Mg} {xA yA : Option Addr} {xn xc yc : Nat} (h : CopyAt w nm v nx (some ⟨g, 0, none⟩) n c hs k W) (hx : hs[k]? = some ⟨m, xA, xn, xc⟩) (hy : OwnB W (w.heap.size + 2) 5 yA xn yc m.body) :
    CopyAt w nm v nx (some ⟨g, 0, none⟩) n c hs (k + 1) ((((W.setCell ⟨g, k * 4, none⟩ (.int .i64 m.uid)).setCell ⟨g, k * 4 + 1, none⟩ (.int .i64 m.flags)).setCell ⟨g, k * 4 + 2, none⟩ (.int .i64 m.date)).setCell ⟨g, k * 4 + 3, none⟩ (.slice yA xn yc)) := by
  obtain ⟨gs, h1, h2, h3, h4, h5, h6, h7, h8⟩ := h
  have hg := grown_put4o W g (k * 4) (.int .i64 m.uid) (.int .i64 m.flags) (.int .i64 m.date) (.slice yA xn yc)
  have hgb : w.heap.size + 2 ≤ g := by
    have hk : k < n := by
      have := h1.len
      rw [List.length_append, List.length_drop, h2] at this
      have := (List.getElem?_eq_some_iff.1 hx).1
      omega
    exact (h1.1.lt g rfl).1
  have hne : ∀ b cs fr, some g = some b → w.heap.size + 2 ≤ b → W.heap[b]? ≠ some (.cells cs 5 fr) := fun b cs fr e _ => ownsB_type h1.1 (show 49 ≠ 5 by decide) b cs fr e
  have h1' := h1.putM (yA := yA) (yn := xn) (yc := yc) (get_drop h2 hx)
  rw [set_drop h2 hx] at h1'
  refine ⟨gs ++ [⟨m, yA, xn, yc⟩], h1', by rw [List.length_append, h2]; rfl, fun x hx' => ?_, ?_, h5.grown hg (by omega), h6.grown hg (by omega), below_put4o h7 (by omega) _ _ _ _ _, by simpa [World.setCell] using h8⟩
  · have hall : OwnB W (w.heap.size + 2) 5 x.A x.n x.c x.m.body := by
      rcases List.mem_append.1 hx' with hx' | hx'
      · exact h3 x hx'
      · rw [List.mem_singleton.1 hx']; exact hy
    exact ⟨ownsB_kept hall.1 hg hne, hall.2⟩
  · rw [List.map_append, h4, List.take_add_one, hx, List.map_append]
    rfl
set_option maxRecDepth 20000 in
set_option maxHeartbeats 8000000 in
theorem copy_any (nm : ByteArray) (v nx : Int) (A : Option Addr) (n c : Nat) (l : List Mg) (w : World) (hl : MsgsIn w w.heap.size A n l) (hn : n ≤ 1000000) (hsm : ∀ m ∈ l, m.body.length ≤ 1000000) :
    Calls Tryz.prog 56 #[.agg #[.string nm, .int .i64 v, .int .i64 nx, .slice A n c]] w (GiveX w nm v nx n l) := by
  obtain ⟨hs, hc, hin, rfl⟩ := hl
  have hmx : Tryz.prog.follows .mixedOrders = true := by kernel_rfl
  have h1 : Bk ((w.alloc (.cells #[.string nm, .int .i64 v, .int .i64 nx, .slice A n c] 44)).alloc (.cells #[.string ⟨#[]⟩, .int .i64 0, .int .i64 0, .slice none 0 0] 44)) w.heap.size 44 #[.string nm, .int .i64 v, .int .i64 nx, .slice A n c] := (Bk.new _ _ _).alloc _
  have h2 : Bk ((w.alloc (.cells #[.string nm, .int .i64 v, .int .i64 nx, .slice A n c] 44)).alloc (.cells #[.string ⟨#[]⟩, .int .i64 0, .int .i64 0, .slice none 0 0] 44)) (w.heap.size + 1) 44 #[.string ⟨#[]⟩, .int .i64 0, .int .i64 0, .slice none 0 0] := Bk.new2 _ _ _ _
  have hB : Below w.heap.size w ((w.alloc (.cells #[.string nm, .int .i64 v, .int .i64 nx, .slice A n c] 44)).alloc (.cells #[.string ⟨#[]⟩, .int .i64 0, .int .i64 0, .slice none 0 0] 44)) := ((Below.refl _ _).alloc (Nat.le_refl _) _).alloc (by simp) _
  have HL := Lib.hid hc.1
  have HIN := Lib.hid hin
  have HB := Lib.hid hB
  have HSM := Lib.hid hsm
  have HZ : Hid (((w.alloc (.cells #[.string nm, .int .i64 v, .int .i64 nx, .slice A n c] 44)).alloc (.cells #[.string ⟨#[]⟩, .int .i64 0, .int .i64 0, .slice none 0 0] 44)).heap.size = w.heap.size + 2) := Lib.hid (by simp)
  have CC := Lib.hid (cloneM_any A n c hs _ ((hc.below hB (Nat.le_refl _)).more hB.size) hn)
  have c3 := h1.cell 3
  have H1 := Lib.hid h1
  have H2 := Lib.hid h2
  clear h1 h2 hB hin hsm hc
  go_enter Tryz.func56, Tryz.ntmps56
  go_wp2_with fail
  generalize (w.alloc (.cells #[.string nm, .int .i64 v, .int .i64 nx, .slice A n c] 44)).alloc (.cells #[.string ⟨#[]⟩, .int .i64 0, .int .i64 0, .slice none 0 0] 44) = w1 at *
  refine CC.out.mono ?_
  rintro e w2 ⟨A', c', rfl, ho, hb⟩
  rw [HZ.out] at ho hb
  have h1 := H1.out.below hb (by omega)
  have h2 := H2.out.below hb (by omega)
  have f3 := h1.frozen 3
  have e3 := h1.cell 3
  have HAT : Hid (CopyAt w nm v nx A' n c' hs 0 (w2.setCell ⟨w.heap.size, 3, none⟩ (.slice A' n c'))) := Lib.hid
    ⟨[], ⟨ownsB_kept ho.1 (grownBy_cell w2 w.heap.size 3 _) (fun b cs fr q hb' => by injection q with q; omega), ho.2⟩, rfl, fun x hx => (by cases hx), rfl, h1.put 3 _, h2.far (show w.heap.size + 1 ≠ w.heap.size by omega) _, (HB.out.trans (hb.mono (by omega))).setCell (Nat.le_refl _) _, by have := hb.size; rw [HZ.out] at this; simpa [World.setCell] using this⟩
  clear ho hb h1 h2 c3 CC H1 H2 HB HZ
  go_wp2_with fail
  generalize w2.setCell ⟨w.heap.size, 3, none⟩ (.slice A' n c') = w3 at *
  go_loopw [12] (fun i wx => ∃ k : Nat, k ≤ n ∧ i = .int .i64 (k : Int) ∧ CopyAt w nm v nx A' n c' hs k wx) (fun i _ => n - (intOf i).toNat)
  case atStart => exact ⟨0, Nat.zero_le _, rfl, HAT.out⟩
  case round =>
    obtain ⟨k, hk, rfl, hat⟩ := hrel
    have HAT2 := Lib.hid hat
    clear hat HAT
    by_cases hlt : k < n
    · obtain ⟨x, hx⟩ : ∃ x, hs[k]? = some x := ⟨_, List.getElem?_eq_getElem (by rw [HL.out]; exact hlt)⟩
      have hat := HAT2.out
      obtain ⟨gs, q1, q2, q3, q4, q5, q6, q7, q8⟩ := hat
      obtain ⟨g, rfl, hgb, hgl, hrg⟩ := q1.range (by omega)
      have hin := HIN.out x (List.mem_of_getElem? hx)
      have hbl : x.n ≤ 1000000 := by have := HSM.out x.m (List.mem_map.2 ⟨x, List.mem_of_getElem? hx, rfl⟩); rw [hin.1.1] at this; exact this
      have HROW := Lib.hid (hrg k x (get_drop q2 hx))
      have hk0 : (0 : Int) ≤ (k : Int) := by omega
      have hkn : (k : Int) < (n : Int) := by omega
      obtain ⟨⟨u, f, d, bl⟩, xA, xn, xc⟩ := x
      replace hbl : xn ≤ 1000000 := hbl
      have hbW : Below wr.heap.size wr (wr.alloc (.cells #[.int .i64 u, .int .i64 f, .int .i64 d, .slice xA xn xc] 49)) := (Below.refl _ _).alloc (Nat.le_refl _) _
      have CM := Lib.hid (ownMsg_any u f d xA xn xc bl (wr.alloc (.cells #[.int .i64 u, .int .i64 f, .int .i64 d, .slice xA xn xc] 49)).drew (hin.1.below (q7.trans (hbW.drew.mono q7.size)) (Nat.le_refl _) |>.more (q7.trans (hbW.drew.mono q7.size)).size) (by omega))
      have HAT3 := Lib.hid (HAT2.out.below hbW.drew)
      have HX := Lib.hid hx
      have HGB := Lib.hid hgb
      have HGL := Lib.hid (show g < ((wr.alloc (.cells #[.int .i64 u, .int .i64 f, .int .i64 d, .slice xA xn xc] 49)).drew).heap.size from Nat.lt_of_lt_of_le hgl hbW.drew.size)
      have HSZ := Lib.hid (show w.heap.size + 2 ≤ ((wr.alloc (.cells #[.int .i64 u, .int .i64 f, .int .i64 d, .slice xA xn xc] 49)).drew).heap.size from Nat.le_trans q8 hbW.drew.size)
      have HGM := Lib.hid (show wr.heap.size ≠ g by omega)
      have hbx := (q5.alloc (.cells #[.int .i64 u, .int .i64 f, .int .i64 d, .slice xA xn xc] 49))
      have hmg : Bk (wr.alloc (.cells #[.int .i64 u, .int .i64 f, .int .i64 d, .slice xA xn xc] 49)) wr.heap.size 49 #[.int .i64 u, .int .i64 f, .int .i64 d, .slice xA xn xc] := Bk.new _ _ _
      have hwl : w.heap.size < wr.heap.size := q5.lt
      have hS0 : ((wr.alloc (.cells #[.int .i64 u, .int .i64 f, .int .i64 d, .slice xA xn xc] 49)).drew).cell? ⟨w.heap.size, 3, none⟩ = some (.slice (some ⟨g, 0, none⟩) n c') ∧ (((wr.alloc (.cells #[.int .i64 u, .int .i64 f, .int .i64 d, .slice xA xn xc] 49)).drew).cell? ⟨wr.heap.size, 0, none⟩ = some (.int .i64 u) ∧ ((wr.alloc (.cells #[.int .i64 u, .int .i64 f, .int .i64 d, .slice xA xn xc] 49)).drew).cell? ⟨wr.heap.size, 1, none⟩ = some (.int .i64 f) ∧ ((wr.alloc (.cells #[.int .i64 u, .int .i64 f, .int .i64 d, .slice xA xn xc] 49)).drew).cell? ⟨wr.heap.size, 2, none⟩ = some (.int .i64 d) ∧ ((wr.alloc (.cells #[.int .i64 u, .int .i64 f, .int .i64 d, .slice xA xn xc] 49)).drew).cell? ⟨wr.heap.size, 3, none⟩ = some (.slice xA xn xc)) := ⟨hbx.cell 3, hmg.cell 0, hmg.cell 1, hmg.cell 2, hmg.cell 3⟩
      have HS0 := Lib.hid hS0
      clear hx hin hbl hrg q1 q2 q3 q4 q5 q6 q7 q8 hbx hmg hbW hS0 HAT2
      go_wp2_with ((with_reducible show wpList _ _ _ (⟨some 16, _, _, _, _, _⟩ :: _) _ _); refine hold ?_)
      refine held (wpList_load_mid rfl 49 (.tmp 15) rfl g (k * 4) rfl _ _ HROW.out Tryz.underlying49 rfl (by kernel_rfl) ?_)
      unfold hdC
      go_wp2_with fail
      obtain ⟨bm, hbm⟩ : ∃ bm, wr.heap.size = bm := ⟨_, rfl⟩
      rw [hbm] at hwl HS0 HGM ⊢
      clear hbm HROW
      refine wp_region_held_drew (S := fun W' => W'.cell? ⟨w.heap.size, 3, none⟩ = some (.slice (some ⟨g, 0, none⟩) n c') ∧ (W'.cell? ⟨bm, 0, none⟩ = some (.int .i64 u) ∧ W'.cell? ⟨bm, 1, none⟩ = some (.int .i64 f) ∧ W'.cell? ⟨bm, 2, none⟩ = some (.int .i64 d) ∧ W'.cell? ⟨bm, 3, none⟩ = some (.slice xA xn xc))) hmx HS0.out (fun hHeld => ?_)
      generalize (wr.alloc (.cells #[.int .i64 u, .int .i64 f, .int .i64 d, .slice xA xn xc] 49)).drew = W at *
      simp only [List.size_toArray, List.length_cons, List.length_nil, Nat.reduceAdd]
      refine wpAnyH_take (i := 0) (v := .pointer (some ⟨w.heap.size, 3, none⟩)) rfl (by kernel_rfl) (by kernel_rfl) (by kernel_rfl) (fun _ _ _ h => h) (Or.inl ⟨by rfl, fun w0 hC => by simp [execOp, Act.eval, Act.put, go_sem]⟩) hHeld ?_
      try simp only [Act.put, List.setIfInBounds_toArray, List.set_cons_zero, List.set_cons_succ, List.getElem_toArray, List.getElem_cons_zero, List.getElem_cons_succ]
      refine wpAnyH_take (i := 1) (v := .slice (some ⟨g, 0, none⟩) n c') rfl (by kernel_rfl) (by kernel_rfl) (by kernel_rfl) (fun _ _ _ h => h) (Or.inl ⟨by rfl, fun w0 hC => by simp [execOp, Act.eval, Act.put, go_sem, hC.1]⟩) hHeld ?_
      try simp only [Act.put, List.setIfInBounds_toArray, List.set_cons_zero, List.set_cons_succ, List.getElem_toArray, List.getElem_cons_zero, List.getElem_cons_succ]
      refine wpAnyH_take (i := 2) (v := .int .i64 (k : Int)) rfl (by kernel_rfl) (by kernel_rfl) (by kernel_rfl) (fun _ _ _ h => h) (Or.inl ⟨by rfl, fun w0 hC => by simp [execOp, Act.eval, Act.put, go_sem]⟩) hHeld ?_
      try simp only [Act.put, List.setIfInBounds_toArray, List.set_cons_zero, List.set_cons_succ, List.getElem_toArray, List.getElem_cons_zero, List.getElem_cons_succ]
      refine wpAnyH_take (i := 3) (v := .agg #[.int .i64 u, .int .i64 f, .int .i64 d, .slice xA xn xc]) rfl (by kernel_rfl) (by kernel_rfl) (by kernel_rfl) (fun _ _ _ h => h) (Or.inl ⟨by rfl, fun w0 hC => by simp [execOp, Act.eval, Act.put, go_sem, hC.2.1, hC.2.2.1, hC.2.2.2.1, hC.2.2.2.2]⟩) hHeld ?_
      try simp only [Act.put, List.setIfInBounds_toArray, List.set_cons_zero, List.set_cons_succ, List.getElem_toArray, List.getElem_cons_zero, List.getElem_cons_succ]
      refine wpAnyH_ready (rs := [4]) (by kernel_rfl) (by simp) (AllReadyH.cons rfl (fun K hK => ?_) AllReadyH.nil)
      rw [if_pos (by rfl)]
      go_wp2_with fail
      refine CM.out.mono ?_
      rintro e W2 ⟨yA, yc, rfl, hy, hb2⟩
      have hgW : g < W.heap.size := HGL.out
      have hws := hb2.size
      have hat4 := HAT3.out.below hb2
      have HY := Lib.hid (hy.base_le HSZ.out)
      obtain ⟨gs, q1, q2, q3, q4, q5, q6, q7, q8⟩ := hat4
      obtain ⟨g', e', _, _, hrg⟩ := q1.range (by omega)
      injection e' with e'
      injection e' with e'
      subst e'
      have hr := row4 (hrg k _ (get_drop q2 HX.out))
      simp only at hr
      obtain ⟨r0, r1, r2, r3⟩ := hr
      have hfr := q1.rowF (by omega)
      have f0 := hfr (k * 4)
      have f1 := hfr (k * 4 + 1)
      have f2 := hfr (k * 4 + 2)
      have f3' := hfr (k * 4 + 3)
      have hS : W2.cell? ⟨w.heap.size, 3, none⟩ = some (.slice (some ⟨g, 0, none⟩) n c') ∧ (W2.cell? ⟨bm, 0, none⟩ = some (.int .i64 u) ∧ W2.cell? ⟨bm, 1, none⟩ = some (.int .i64 f) ∧ W2.cell? ⟨bm, 2, none⟩ = some (.int .i64 d) ∧ W2.cell? ⟨bm, 3, none⟩ = some (.slice xA xn xc)) :=
        ⟨(hb2.cell (p := ⟨w.heap.size, 3, none⟩) (World.block_lt_of_cell? _ _ hHeld.1)).trans hHeld.1, (hb2.cell (p := ⟨bm, 0, none⟩) (World.block_lt_of_cell? _ _ hHeld.2.1)).trans hHeld.2.1, (hb2.cell (p := ⟨bm, 1, none⟩) (World.block_lt_of_cell? _ _ hHeld.2.2.1)).trans hHeld.2.2.1, (hb2.cell (p := ⟨bm, 2, none⟩) (World.block_lt_of_cell? _ _ hHeld.2.2.2.1)).trans hHeld.2.2.2.1, (hb2.cell (p := ⟨bm, 3, none⟩) (World.block_lt_of_cell? _ _ hHeld.2.2.2.2)).trans hHeld.2.2.2.2⟩
      have HAT4 := Lib.hid (HAT3.out.below hb2)
      clear q1 q2 q3 q4 q5 q6 q7 q8 hrg hfr hHeld hy hb2 hws HAT3 HS0
      refine hK.out _ _ hS (fun hHeld => ?_)
      clear hK K
      try simp only [Act.put, List.setIfInBounds_toArray, List.set_cons_zero, List.set_cons_succ, List.getElem_toArray, List.getElem_cons_zero, List.getElem_cons_succ]
      have HS2 := Lib.hid hS
      clear hS
      refine wpAnyH_take (i := 5) (v := .pointer (some ⟨g, k * 4, none⟩)) rfl (by kernel_rfl) (by kernel_rfl) (by kernel_rfl) (fun _ _ _ h => h) (Or.inl ⟨by rfl, fun w0 hC => by simp [execOp, Act.eval, Act.put, go_sem, hk0, hkn, hlt]⟩) hHeld ?_
      try simp only [Act.put, List.setIfInBounds_toArray, List.set_cons_zero, List.set_cons_succ, List.getElem_toArray, List.getElem_cons_zero, List.getElem_cons_succ]
      refine wpAnyH_ready (rs := [6]) (by kernel_rfl) (by simp) (AllReadyH.cons rfl (fun K hK => ?_) AllReadyH.nil)
      rw [if_pos (by rfl)]
      go_wp2_with fail
      have hS : (((((W2.setCell ⟨g, k * 4, none⟩ (.int .i64 u)).setCell ⟨g, k * 4 + 1, none⟩ (.int .i64 f)).setCell ⟨g, k * 4 + 2, none⟩ (.int .i64 d)).setCell ⟨g, k * 4 + 3, none⟩ (.slice yA xn yc))).cell? ⟨w.heap.size, 3, none⟩ = some (.slice (some ⟨g, 0, none⟩) n c') ∧ (((((W2.setCell ⟨g, k * 4, none⟩ (.int .i64 u)).setCell ⟨g, k * 4 + 1, none⟩ (.int .i64 f)).setCell ⟨g, k * 4 + 2, none⟩ (.int .i64 d)).setCell ⟨g, k * 4 + 3, none⟩ (.slice yA xn yc)).cell? ⟨bm, 0, none⟩ = some (.int .i64 u) ∧ ((((W2.setCell ⟨g, k * 4, none⟩ (.int .i64 u)).setCell ⟨g, k * 4 + 1, none⟩ (.int .i64 f)).setCell ⟨g, k * 4 + 2, none⟩ (.int .i64 d)).setCell ⟨g, k * 4 + 3, none⟩ (.slice yA xn yc)).cell? ⟨bm, 1, none⟩ = some (.int .i64 f) ∧ ((((W2.setCell ⟨g, k * 4, none⟩ (.int .i64 u)).setCell ⟨g, k * 4 + 1, none⟩ (.int .i64 f)).setCell ⟨g, k * 4 + 2, none⟩ (.int .i64 d)).setCell ⟨g, k * 4 + 3, none⟩ (.slice yA xn yc)).cell? ⟨bm, 2, none⟩ = some (.int .i64 d) ∧ ((((W2.setCell ⟨g, k * 4, none⟩ (.int .i64 u)).setCell ⟨g, k * 4 + 1, none⟩ (.int .i64 f)).setCell ⟨g, k * 4 + 2, none⟩ (.int .i64 d)).setCell ⟨g, k * 4 + 3, none⟩ (.slice yA xn yc)).cell? ⟨bm, 3, none⟩ = some (.slice xA xn xc)) := by
        have hg := grown_put4o W2 g (k * 4) (.int .i64 u) (.int .i64 f) (.int .i64 d) (.slice yA xn yc)
        exact ⟨hg.cell HS2.out.1 (fun e => by injection e with e; have := HGB.out; simp only at e; omega), hg.cell HS2.out.2.1 (fun e => by injection e with e; have := HGM.out; simp only at e; omega), hg.cell HS2.out.2.2.1 (fun e => by injection e with e; have := HGM.out; simp only at e; omega), hg.cell HS2.out.2.2.2.1 (fun e => by injection e with e; have := HGM.out; simp only at e; omega), hg.cell HS2.out.2.2.2.2 (fun e => by injection e with e; have := HGM.out; simp only at e; omega)⟩
      refine hK.out _ _ hS (fun hHeld => ?_)
      clear hK K
      try simp only [Act.put, List.setIfInBounds_toArray, List.set_cons_zero, List.set_cons_succ, List.getElem_toArray, List.getElem_cons_zero, List.getElem_cons_succ]
      refine wpAnyH_done (by kernel_rfl) ?_ _
      have HAT5 := Lib.hid (HAT4.out.next HX.out HY.out)
      clear hHeld hS HS2 HAT4 HY r0 r1 r2 r3 f0 f1 f2 f3' CM
      go_wp2_with fail
      go_roundw
      case rel => exact ⟨k + 1, by omega, by go_num, HAT5.out⟩
      case measure => simp [intOf]; omega
    · have hkn : ¬ (k : Int) < (n : Int) := by omega
      obtain rfl : n = k := by omega
      obtain ⟨gs, q1, q2, q3, q4, q5, q6, q7, q8⟩ := HAT2.out
      have HO4 : Hid (OwnM wr (w.heap.size + 2) A' n c' (hs.map Hd.m)) := Lib.hid ⟨gs, by rw [List.drop_eq_nil_of_le (by rw [HL.out]; omega), List.append_nil] at q1; exact q1, q3, by rw [q4, List.take_of_length_le (by rw [HL.out]; omega)]⟩
      have HE2 := Lib.hid q6
      have HB2 := Lib.hid q7
      obtain ⟨⟨d0, d1, d2, d3⟩, g0, g1, g2, g3⟩ := q5.four
      obtain ⟨⟨p0, p1, p2, p3⟩, t0, t1, t2, t3⟩ := q6.four
      clear q1 q2 q3 q4 q5 q6 q7 q8 HAT2
      go_wp2_with fail
      refine bodyPost_ret (results_cell (a := ⟨w.heap.size + 1, 0, none⟩) rfl rfl (Bk.box_ (Bk.put4 HE2.out _ _ _ _))) rfl ⟨A', c', rfl, ?_, ?_⟩
      · exact (HO4.out.far (grown_put4 _ _ _ _ _ _) (by omega)).from_ (by omega)
      · exact below_put4 HB2.out (by omega) _ _ _ _
end Go.Proofs.YtbogjfbfgbhdbaaGreatDoor
namespace Go.Proofs.YtbogjfbfgbhdbaaGreatDoor
set_option linter.unusedVariables false
set_option linter.unusedSimpArgs false
open Go.RowKit
set_option linter.unusedVariables false
set_option linter.unusedSimpArgs false
section
variable {α : Type} {k : Nat} {f : α → List Value}
theorem flat_take (hk : ∀ a, (f a).length = k) : ∀ (l : List α) (j : Nat), (l.flatMap f).take (j * k) = (l.take j).flatMap f
  | [], j => by simp
  | a :: l, 0 => by simp
  | a :: l, j + 1 => by
    rw [List.flatMap_cons, List.take_append, hk, List.take_succ_cons, List.flatMap_cons, ← flat_take hk l j, Nat.succ_mul, Nat.add_sub_cancel]
    rw [List.take_of_length_le (by rw [hk]; omega)]
theorem flat_drop (hk : ∀ a, (f a).length = k) : ∀ (l : List α) (j : Nat), (l.flatMap f).drop (j * k) = (l.drop j).flatMap f
  | [], j => by simp
  | a :: l, 0 => by simp
  | a :: l, j + 1 => by
    rw [List.flatMap_cons, List.drop_append, hk, List.drop_succ_cons, ← flat_drop hk l j, Nat.succ_mul, Nat.add_sub_cancel]
    rw [List.drop_eq_nil_of_le (by rw [hk]; omega), List.nil_append]
theorem splice_rows (hk : ∀ a, (f a).length = k) (l : List α) (rest : List Value) {j : Nat} (hj : j ≤ l.length) (us : List α) :
    splice (l.flatMap f ++ rest) (j * k) (us.flatMap f) = (l.take j ++ us ++ l.drop (j + us.length)).flatMap f ++ rest.drop ((j + us.length) * k - l.length * k) := by
  have h1 : j * k ≤ (l.flatMap f).length := by rw [flat_len hk]; exact Nat.mul_le_mul_right _ hj
  unfold splice
  rw [List.take_append_of_le_length h1, flat_take hk, flat_len hk, ← Nat.add_mul, List.drop_append, flat_drop hk, flat_len hk]
  simp only [List.flatMap_append, List.append_assoc]
theorem splice_cells (hk : ∀ a, (f a).length = k) (l : List α) (rest : List Value) {j : Nat} (hj : j ≤ l.length) (cs : List Value) :
    ∃ rest', splice (l.flatMap f ++ rest) (j * k) cs = (l.take j).flatMap f ++ rest' := by
  have h1 : j * k ≤ (l.flatMap f).length := by rw [flat_len hk]; exact Nat.mul_le_mul_right _ hj
  unfold splice
  rw [List.take_append_of_le_length h1, flat_take hk]
  exact ⟨_, rfl⟩
def RowsK (k : Nat) (f : α → List Value) (w : World) (e : TypeId) (g c : Nat) (l : List α) : Prop :=
  (∀ a, (f a).length = k) ∧ l.length ≤ c ∧ c ≤ maxLen ∧ ∃ cur rest, Bk w g e cur ∧ cur.size = c * k ∧ cur.toList = l.flatMap f ++ rest
variable {w w' : World} {e : TypeId} {g c n : Nat} {l : List α}
theorem RowsK.own (h : RowsK k f w e g c l) {base : Nat} (hb : base ≤ g) : OwnK k f w base e (some ⟨g, 0, none⟩) l.length c l := by
  obtain ⟨hk, hl, hm, cur, rest, hc, hs, ht⟩ := h
  refine ⟨⟨flat_len hk l, .inr ⟨g, c, cur, rfl, hb, hc, hl, hm, hs, ?_⟩⟩, rfl, hk⟩
  rw [ht, List.take_left' (flat_len hk l)]
theorem OwnK.rows {base : Nat} {A : Option Addr} (h : OwnK k f w base e A n c l) (hn : 0 < n) : ∃ g, A = some ⟨g, 0, none⟩ ∧ base ≤ g ∧ RowsK k f w e g c l := by
  obtain ⟨g, cur, rfl, hb, hc, hs, ht⟩ := h.block hn
  refine ⟨g, rfl, hb, h.2.2, by rw [h.len]; exact h.cap.1, h.cap.2, cur, cur.toList.drop (n * k), hc, hs, ?_⟩
  rw [← ht, List.take_append_drop]
theorem RowsK.lt (h : RowsK k f w e g c l) : g < w.heap.size := by
  obtain ⟨_, _, _, cur, rest, hc, _⟩ := h
  exact hc.lt
theorem RowsK.below (h : RowsK k f w e g c l) (hb : Below w.heap.size w w') : RowsK k f w' e g c l := by
  obtain ⟨hk, hl, hm, cur, rest, hc, hr⟩ := h
  exact ⟨hk, hl, hm, cur, rest, hc.below hb hc.lt, hr⟩
theorem RowsK.drew (h : RowsK k f w e g c l) : RowsK k f w.drew e g c l := h
theorem RowsK.to (h : RowsK k f w e g c l) (j : Nat) : RowsK k f w e g c (l.take j) := by
  obtain ⟨hk, hl, hm, cur, rest, hc, hs, ht⟩ := h
  refine ⟨hk, by rw [List.length_take]; omega, hm, cur, (l.drop j).flatMap f ++ rest, hc, hs, ?_⟩
  rw [ht, ← List.append_assoc, ← List.flatMap_append, List.take_append_drop]
theorem RowsK.range (h : RowsK k f w e g c l) {i : Nat} {a : α} (ha : l[i]? = some a) : w.rangeAt g (i * k) (f a) := by
  have hi : i < l.length := (List.getElem?_eq_some_iff.1 ha).1
  obtain ⟨g', e', hb, hg, hr⟩ := (h.own (Nat.le_refl g)).range (by omega)
  injection e' with e'
  injection e' with e' _ _
  subst e'
  exact hr i a ha
theorem RowsK.flat (h : RowsK k f w e g c l) (i : Nat) : w.rangeAt g (i * k) ((l.drop i).flatMap f) := by
  obtain ⟨hk, hl, hm, cur, rest, hc, hs, ht⟩ := h
  intro j v hv
  rw [hc.cell, ← Array.getElem?_toList, ht, List.getElem?_append_left (by
    rw [← flat_drop hk, List.getElem?_drop] at hv
    exact (List.getElem?_eq_some_iff.1 hv).1)]
  rw [← flat_drop hk, List.getElem?_drop] at hv
  exact hv
theorem RowsK.put (h : RowsK k f w e g c l) {j : Nat} (hj : j ≤ l.length) (us : List α) (hc : j + us.length ≤ c) : ∃ cur, Bk w g e cur ∧ cur.size = c * k ∧
    RowsK k f (w.setRow g (splice cur.toList (j * k) (us.flatMap f)).toArray) e g c (l.take j ++ us ++ l.drop (j + us.length)) := by
  obtain ⟨hk, hl, hm, cur, rest, hB, hs, ht⟩ := h
  have hfit : j * k + (us.flatMap f).length ≤ cur.toList.length := by
    rw [flat_len hk, ← Nat.add_mul, show cur.toList.length = c * k from hs]; exact Nat.mul_le_mul_right _ hc
  refine ⟨cur, hB, hs, hk, ?_, hm, _, rest.drop ((j + us.length) * k - l.length * k), hB.setRow_same _, ?_, ?_⟩
  · simp only [List.length_append, List.length_take, List.length_drop]; omega
  · rw [List.size_toArray, length_splice _ _ _ hfit]; exact hs
  · show splice cur.toList (j * k) (us.flatMap f) = _
    rw [ht, splice_rows hk l rest hj us]
theorem RowsK.cut (h : RowsK k f w e g c l) {j : Nat} (hj : j ≤ l.length) : ∃ cur, Bk w g e cur ∧ cur.size = c * k ∧ ∀ (cs : List Value), j * k + cs.length ≤ c * k →
    RowsK k f (w.setRow g (splice cur.toList (j * k) cs).toArray) e g c (l.take j) := by
  obtain ⟨hk, hl, hm, cur, rest, hB, hs, ht⟩ := h
  refine ⟨cur, hB, hs, fun cs hcs => ?_⟩
  obtain ⟨rest', hr⟩ := splice_cells hk l rest hj cs
  refine ⟨hk, by rw [List.length_take]; omega, hm, _, rest', hB.setRow_same _, ?_, ?_⟩
  · rw [List.size_toArray, length_splice _ _ _ (by rw [show cur.toList.length = c * k from hs]; exact hcs)]; exact hs
  · show splice cur.toList (j * k) cs = _
    rw [ht, hr]
theorem grown_setRow (w : World) (g : Nat) (cs : Array Value) : w.grownBy (w.setRow g cs) (some g) :=
  ⟨rfl, rfl, rfl, by simp, fun i hi hne => YtbogjfbfgbhdbaaGreatDoor.setRow_other' w g i cs (fun e => hne (by rw [e]))⟩
end
section
variable {P : Program} {α : Type} {k : Nat} {f : α → List Value}
theorem wpList_store_row {ops : Array Oper} {rest : List Oper} {o : Oper} {a : Act} {w : World} {Q : Exit → Act → World → Prop} (hgd : o.guard = none) (ty : TypeId) (x y : Operand) (ho : o.op = .store ty x y)
    {e : TypeId} {g c : Nat} {l : List α} (hR : RowsK k f w e g c l) (j : Nat) (hj : j < l.length) (u : α) (hx : a.eval x = .pointer (some ⟨g, j * k, none⟩)) (hy : a.eval y = .agg (f u).toArray)
    (hi : (P.info? ty).map (·.size) = some k) (h1 : ∀ v ∈ f u, v.oneCell' = true)
    (h : ∀ w', RowsK k f w' e g c (l.set j u) → w.grownBy w' (some g) → wpList P ops Q rest (a.put o.dst undef) w') : wpList P ops Q (o :: rest) a w := by
  have hlc := hR.2.1
  obtain ⟨cur, hB, hs, hP⟩ := hR.put (j := j) (by omega) [u] (by simp; omega)
  have hlen : (f u).toArray.size = k := by rw [List.size_toArray, hR.1]
  refine wpList_store_wide hgd ty x y ho g (j * k) (f u).toArray hx hy e cur hB (by
    rw [hlen, hs, ← Nat.succ_mul]; exact Nat.mul_le_mul_right _ (by omega)) (by rw [hlen]; exact hi) h1 ?_
  intro w' hw'
  have e1 : w' = w.setRow g (splice cur.toList (j * k) ([u].flatMap f)).toArray := by rw [hw'.out]; simp
  have e2 : l.take j ++ [u] ++ l.drop (j + [u].length) = l.set j u := by
    rw [List.set_eq_take_append_cons_drop, if_pos hj, List.append_assoc]; rfl
  rw [e2, ← e1] at hP
  exact h w' hP (by rw [e1]; exact grown_setRow _ _ _)
theorem run_copy_k (w : World) (dT sT ty elem : TypeId) (g o dLen dCap : Nat) (a : Addr) (sLen sCap : Nat) (cur : Array Value) (t : TypeId) (cs : List Value)
    (hu : P.underlying dT = some (.slice elem)) (hs : (P.info? elem).map (·.size) = some k) {m : Nat} (hm : Nat.min sLen dLen = m)
    (hg : Bk w g t cur) (hn : cs.length = m * k)
    (hsrc : ∀ j v, cs[j]? = some v → w.cell? (a.add j) = some v) (hfit : o + cs.length ≤ cur.size) (h1 : ∀ v ∈ cs, v.oneCell' = true) :
    (Builtin.copy_ #[dT, sT] ty #[.slice (some ⟨g, o, none⟩) dLen dCap, .slice (some a) sLen sCap]).run P w =
      .ok (goInt m) (w.setRow g (splice cur.toList o cs).toArray) := by
  have hl := run_loadCells_list (P := P) w a cs hsrc
  have hst := run_storeCells_at P g o t cs 0 cur w hg (by simpa using hfit) h1
  simp only [Nat.add_zero, List.append_assoc] at hst
  cases hq : P.info? elem with
  | none => simp [hq] at hs
  | some i =>
    have hi : i.size = k := by simpa [hq] using hs
    rw [hn] at hl
    simp [Builtin.copy_, run_underlying hu, Builtin.lenOf, Builtin.firstCells, sizeOf, typeInfo, hq, hi, hm, hl, hst, splice]
theorem zero_one {z : Array Value} (h : ∀ v ∈ z.toList, v.oneCell' = true) (hz : 0 < z.size) (n : Nat) : ∀ v ∈ (Builtin.zeroCells z n).toList, v.oneCell' = true := by
  intro v hv
  unfold Builtin.zeroCells at hv
  simp only [Array.toList_map, List.mem_map] at hv
  obtain ⟨i, _, rfl⟩ := hv
  have hi : i % z.size < z.size := Nat.mod_lt _ hz
  rw [getElem!_pos z _ hi]
  exact h _ (by simp)
theorem run_clear_k (w : World) (t e ty : TypeId) (z : Value) (ht : P.underlying t = some (.slice e)) (hv : ∀ w, (zeroValue e).run P w = .ok z w) (g o n c : Nat) (hn : 0 < n) (cur : Array Value) (et : TypeId) (hg : Bk w g et cur)
    (h1 : ∀ v ∈ (Builtin.zeroCells z.cells n).toList, v.oneCell' = true) (hfit : o + (Builtin.zeroCells z.cells n).size ≤ cur.size) :
    (Builtin.clear_ #[t] ty #[.slice (some ⟨g, o, none⟩) n c]).run P w = .ok (.tuple #[]) (w.setRow g (splice cur.toList o (Builtin.zeroCells z.cells n).toList).toArray) := by
  have hst := run_storeCells_at P g o et (Builtin.zeroCells z.cells n).toList 0 cur w hg (by simpa using hfit) h1
  simp only [Nat.add_zero, List.append_assoc] at hst
  obtain ⟨m, rfl⟩ : ∃ m, n = m + 1 := ⟨n - 1, by omega⟩
  simp [Builtin.clear_, run_underlying ht, hv, hst, splice]
end
end Go.Proofs.YtbogjfbfgbhdbaaGreatDoor
namespace Go.Proofs.YtbogjfbfgbhdbaaGreatDoor
set_option linter.unusedVariables false
set_option linter.unusedSimpArgs false
open Go.RowKit
set_option linter.unusedVariables false
set_option linter.unusedSimpArgs false
def Chg (e : TypeId) (base : Nat) (w w' : World) : Prop := Below base w w' ∧ ∃ row, w.grownBy w' row ∧ ∀ b cs t fr, row = some b → base ≤ b → w.heap[b]? = some (.cells cs t fr) → t = e
theorem Chg.cell {w : World} {b base : Nat} {e : TypeId} {cs : Array Value} (h : Bk w b e cs) (hb : base ≤ b) (i : Nat) (v : Value) : Chg e base w (w.setCell ⟨b, i, none⟩ v) :=
  ⟨(Below.refl base w).setCell hb v, some b, grownBy_cell w b i v, fun b' cs' t fr q _ hh => by
    injection q with q
    subst q
    unfold Bk at h
    rw [h] at hh
    injection hh with hh
    injection hh with _ q2 _
    exact q2.symm⟩
theorem Chg.of {w w' : World} {b base : Nat} {e : TypeId} {cs : Array Value} (h : Bk w b e cs) (hg : w.grownBy w' (some b)) (hb : Below base w w') : Chg e base w w' :=
  ⟨hb, some b, hg, fun b' cs' t fr q _ hh => by
    injection q with q
    subst q
    unfold Bk at h
    rw [h] at hh
    injection hh with hh
    injection hh with _ q2 _
    exact q2.symm⟩
theorem Chg.row {w w' : World} {base k n : Nat} {e : TypeId} {v : Value} {xs : List Value} (h : w.ownsRow base e k v n xs) (hg : w.grownBy w' v.ownBlock) (hb : Below base w w') : Chg e base w w' :=
  ⟨hb, v.ownBlock, hg, fun b cs t fr q _ hh => Classical.byContradiction fun hne => ownsB_type h (fun q2 => hne q2.symm) b cs fr q hh⟩
theorem Bk.chg {w w' : World} {b base : Nat} {e t : TypeId} {cs : Array Value} (h : Bk w b t cs) (hc : Chg e base w w') (hne : t ≠ e) : Bk w' b t cs := by
  by_cases hb : base ≤ b
  · obtain ⟨_, row, hg, ht⟩ := hc
    unfold Bk at h ⊢
    exact (hg.block b (Array.getElem?_eq_some_iff.1 h).1 (fun q => hne (ht b cs t (0, 0) q.symm hb h))).trans h
  · exact h.below hc.1 (by omega)
section
variable {α β : Type} {k : Nat} {f : α → List Value} {w w' : World} {base base' n c : Nat} {e : TypeId} {A : Option Addr}
theorem OwnK.chg {t : TypeId} {l : List α} (h : OwnK k f w base e A n c l) (hc : Chg t base w w') (hne : e ≠ t) : OwnK k f w' base e A n c l := by
  obtain ⟨_, row, hg, ht⟩ := hc
  exact ⟨ownsB_kept h.1 hg (fun b cs fr q hb hh => hne (ht b cs e fr q hb hh)), h.2⟩
theorem OwnB.chg {t : TypeId} {l : List Nat} (h : OwnB w base e A n c l) (hc : Chg t base w w') (hne : e ≠ t) : OwnB w' base e A n c l := by
  obtain ⟨_, row, hg, ht⟩ := hc
  exact ⟨ownsB_kept h.1 hg (fun b cs fr q hb hh => hne (ht b cs e fr q hb hh)), h.2⟩
theorem OwnM.chg {t : TypeId} {l : List Mg} (h : OwnM w base A n c l) (hc : Chg t base w w') (h1 : 49 ≠ t) (h2 : 5 ≠ t) : OwnM w' base A n c l := by
  obtain ⟨hs, a1, a2, a3⟩ := h
  exact ⟨hs, a1.chg hc h1, fun x hx => (a2 x hx).chg hc h2, a3⟩
end
structure OwnsP {α : Type} (T : TypeId → Prop) (P : World → Nat → α → Prop) : Prop where
  below : ∀ {w w' : World} {base : Nat} {a : α}, P w base a → Below w.heap.size w w' → P w' base a
  chg : ∀ {w w' : World} {base : Nat} {a : α} {t : TypeId}, P w base a → Chg t base w w' → ¬ T t → P w' base a
  from_ : ∀ {w : World} {base base' : Nat} {a : α}, P w base a → base' ≤ base → P w base' a
def NestO {α β : Type} (k : Nat) (f : α → List Value) (e : TypeId) (P : World → Nat → α → Prop) (g : α → β) (w : World) (base : Nat) (A : Option Addr) (n c : Nat) (l : List β) : Prop :=
  ∃ hs : List α, OwnK k f w base e A n c hs ∧ (∀ h ∈ hs, P w base h) ∧ hs.map g = l
section
variable {α β : Type} {k : Nat} {f : α → List Value} {P : World → Nat → α → Prop} {P' : World → Nat → α → Prop} {g : α → β} {w w' : World} {base base' n c : Nat} {A : Option Addr} {l : List β} {e : TypeId} {T : TypeId → Prop}
theorem NestO.nil (hk : ∀ a, (f a).length = k) : NestO k f e P g w base none 0 0 [] := ⟨[], OwnK.nil hk, fun h hh => (by cases hh), rfl⟩
theorem NestO.len (h : NestO k f e P g w base A n c l) : l.length = n := by
  obtain ⟨hs, h1, _, h3⟩ := h
  rw [← h3, List.length_map, h1.len]
theorem NestO.cap (h : NestO k f e P g w base A n c l) : n ≤ c ∧ c ≤ maxLen := by
  obtain ⟨hs, h1, _, _⟩ := h
  exact h1.cap
theorem NestO.below (S : OwnsP T P) (h : NestO k f e P g w base A n c l) (hb : Below w.heap.size w w') : NestO k f e P g w' base A n c l := by
  obtain ⟨hs, h1, h2, h3⟩ := h
  exact ⟨hs, h1.below hb, fun x hx => S.below (h2 x hx) hb, h3⟩
theorem NestO.chg {t : TypeId} (S : OwnsP T P) (h : NestO k f e P g w base A n c l) (hc : Chg t base w w') (h1 : e ≠ t) (h2 : ¬ T t) : NestO k f e P g w' base A n c l := by
  obtain ⟨hs, a1, a2, a3⟩ := h
  exact ⟨hs, a1.chg hc h1, fun x hx => S.chg (a2 x hx) hc h2, a3⟩
theorem NestO.from_ (S : OwnsP T P) (h : NestO k f e P g w base A n c l) (hb : base' ≤ base) : NestO k f e P g w base' A n c l := by
  obtain ⟨hs, h1, h2, h3⟩ := h
  exact ⟨hs, h1.from_ hb, fun x hx => S.from_ (h2 x hx) hb, h3⟩
theorem NestO.nest (h : NestO k f e P g w base A n c l) (hP : ∀ x, g x ∈ l → P w base x → P' w w.heap.size x) : Nest k f P' g w w.heap.size A n l := by
  obtain ⟨hs, h1, h2, h3⟩ := h
  refine ⟨hs, h1.col, fun x hx => hP x ?_ (h2 x hx), h3⟩
  rw [← h3]
  exact List.mem_map_of_mem hx
theorem NestO.at_ {j : Nat} (h : NestO k f e P g w base A n c l) (hj : j < n) : ∃ b x, A = some ⟨b, 0, none⟩ ∧ base ≤ b ∧ b < w.heap.size ∧ l[j]? = some (g x) ∧ l.take (j + 1) = l.take j ++ [g x] ∧ w.rangeAt b (j * k) (f x) ∧ P w base x ∧ ∃ cs, Bk w b e cs ∧ cs.size = c * k := by
  obtain ⟨hs, h1, h2, rfl⟩ := h
  obtain ⟨b, cur, hA, hb, hh, hz, ht⟩ := h1.block (by omega)
  obtain ⟨b', hA', _, hl', hr⟩ := h1.range (by omega)
  rw [hA] at hA'
  injection hA' with hA'
  injection hA' with hA'
  subst hA'
  obtain ⟨x, hx⟩ : ∃ x, hs[j]? = some x := ⟨_, List.getElem?_eq_getElem (by rw [h1.len]; exact hj)⟩
  have hx' : (hs.map g)[j]? = some (g x) := by rw [List.getElem?_map, hx]; rfl
  exact ⟨b, x, hA, hb, hl', hx', take_snoc_l _ _ _ hx', hr j x hx, h2 x (List.mem_of_getElem? hx), cur, hh, hz⟩
end
def BhO (w : World) (base : Nat) (h : Bh) : Prop := OwnM w base h.A h.n h.c h.b.msgs
def ThO (w : World) (base : Nat) (h : Th) : Prop := OwnB w base 5 h.A h.n h.c h.t.msg.body
def HhO (w : World) (base : Nat) (h : Hh) : Prop := OwnK 2 rgC w base 131 h.A h.n h.c h.set
theorem bhOwns : OwnsP (fun t => t = 49 ∨ t = 5) BhO :=
  ⟨fun h hb => OwnM.below h hb, fun h hc hn => OwnM.chg h hc (fun q => hn (.inl q.symm)) (fun q => hn (.inr q.symm)), fun h hb => OwnM.from_ h hb⟩
theorem thOwns : OwnsP (fun t => t = 5) ThO :=
  ⟨fun h hb => OwnB.below h hb, fun h hc hn => OwnB.chg h hc (fun q => hn q.symm), fun h hb => OwnB.base_le h hb⟩
theorem hhOwns : OwnsP (fun t => t = 131) HhO :=
  ⟨fun h hb => OwnK.below h hb, fun h hc hn => OwnK.chg h hc (fun q => hn q.symm), fun h hb => OwnK.from_ h hb⟩
abbrev BoxesO (w : World) (base : Nat) (A : Option Addr) (n c : Nat) (l : List Bx) : Prop := NestO 4 bhC 44 BhO Bh.b w base A n c l
abbrev TombsO (w : World) (base : Nat) (A : Option Addr) (n c : Nat) (l : List Tmb) : Prop := NestO 7 thC 51 ThO Th.t w base A n c l
abbrev HolsO (w : World) (base : Nat) (A : Option Addr) (n c : Nat) (l : List Hol) : Prop := NestO 3 hhC 71 HhO Hh.hol w base A n c l
structure SmSta (s : Sta) : Prop where
  lens : s.boxes.length ≤ 1000 ∧ s.subs.length ≤ 1000 ∧ s.rules.length ≤ 1000 ∧ s.tombs.length ≤ 1000 ∧ s.holds.length ≤ 1000
  bx : ∀ b ∈ s.boxes, b.msgs.length ≤ 100000 ∧ ∀ m ∈ b.msgs, m.body.length ≤ 100000
  tb : ∀ t ∈ s.tombs, t.msg.body.length ≤ 100000
  ho : ∀ h ∈ s.holds, h.set.length ≤ 100000
structure StaO (w : World) (base : Nat) (s : Sta) (p : StaAt) : Prop where
  bx : BoxesO w base p.bx.A p.bx.n p.bx.c s.boxes
  sb : OwnK 1 strC w base 9 p.sb.A p.sb.n p.sb.c s.subs
  ru : OwnK 2 rulC w base 83 p.ru.A p.ru.n p.ru.c s.rules
  tb : TombsO w base p.tb.A p.tb.n p.tb.c s.tombs
  ho : HolsO w base p.ho.A p.ho.n p.ho.c s.holds
def StaT (t : TypeId) : Prop := t = 44 ∨ t = 49 ∨ t = 5 ∨ t = 9 ∨ t = 83 ∨ t = 51 ∨ t = 71 ∨ t = 131
section
variable {w w' : World} {base base' : Nat} {s : Sta} {p : StaAt}
theorem StaO.below (h : StaO w base s p) (hb : Below w.heap.size w w') : StaO w' base s p :=
  ⟨h.bx.below bhOwns hb, h.sb.below hb, h.ru.below hb, h.tb.below thOwns hb, h.ho.below hhOwns hb⟩
theorem StaO.from_ (h : StaO w base s p) (hb : base' ≤ base) : StaO w base' s p :=
  ⟨h.bx.from_ bhOwns hb, h.sb.from_ hb, h.ru.from_ hb, h.tb.from_ thOwns hb, h.ho.from_ hhOwns hb⟩
theorem StaO.chg {t : TypeId} (h : StaO w base s p) (hc : Chg t base w w') (ht : ¬ StaT t) : StaO w' base s p := by
  unfold StaT at ht
  refine ⟨h.bx.chg bhOwns hc ?_ ?_, h.sb.chg hc ?_, h.ru.chg hc ?_, h.tb.chg thOwns hc ?_ ?_, h.ho.chg hhOwns hc ?_ ?_⟩ <;> intro q <;> apply ht <;> (first | (subst q; simp; done) | (rcases q with q | q <;> (subst q; simp)))
theorem BoxesO.in_ {A : Option Addr} {n c : Nat} {l : List Bx} (h : BoxesO w base A n c l) (hs : ∀ b ∈ l, b.msgs.length ≤ 100000 ∧ ∀ m ∈ b.msgs, m.body.length ≤ 100000) (hb : base ≤ w.heap.size) : BoxesIn w w.heap.size A n l :=
  h.nest fun x hx hP => ⟨OwnM.msgs hP fun m hm => Nat.le_trans ((hs _ hx).2 m hm) (by omega), by have := (hs _ hx).1; rw [OwnM.len hP] at this; omega⟩
theorem TombsO.in_ {A : Option Addr} {n c : Nat} {l : List Tmb} (h : TombsO w base A n c l) (hs : ∀ t ∈ l, t.msg.body.length ≤ 100000) (hb : base ≤ w.heap.size) : TombsIn w w.heap.size A n l :=
  h.nest fun x hx hP => ⟨OwnB.bytes hP, by have := hs _ hx; rw [OwnB.len hP] at this; omega⟩
theorem HolsO.in_ {A : Option Addr} {n c : Nat} {l : List Hol} (h : HolsO w base A n c l) (hs : ∀ t ∈ l, t.set.length ≤ 100000) (hb : base ≤ w.heap.size) : HolsIn w w.heap.size A n l :=
  h.nest fun x hx hP => ⟨OwnK.col hP, by have h1 := hs _ hx; have h2 : x.set.length = x.n := OwnK.len hP; have h3 : (Hh.hol x).set = x.set := rfl; rw [h3] at h1; omega⟩
theorem StaO.in_ (h : StaO w base s p) (hs : SmSta s) (hb : base ≤ w.heap.size) : StaIn w w.heap.size s p :=
  ⟨h.bx.in_ hs.bx hb, h.sb.col, h.ru.col, h.tb.in_ hs.tb hb, h.ho.in_ hs.ho hb, by
    have h1 := hs.lens
    rw [h.bx.len, h.sb.len, h.ru.len, h.tb.len, h.ho.len] at h1
    omega⟩
end
def staA (s : Sta) (p : StaAt) : Array Value := #[.int .i64 s.clock, .slice p.bx.A p.bx.n p.bx.c, .slice p.sb.A p.sb.n p.sb.c, .slice p.ru.A p.ru.n p.ru.c, .slice p.tb.A p.tb.n p.tb.c, .slice p.ho.A p.ho.n p.ho.c, .int .i64 s.nv, .int .i64 s.nt, .int .i64 s.nh]
end Go.Proofs.YtbogjfbfgbhdbaaGreatDoor
namespace Go.Proofs.YtbogjfbfgbhdbaaGreatDoor
set_option linter.unusedVariables false
set_option linter.unusedSimpArgs false
def OkL {α : Type} (ok : α → Prop) (R : α → α → Prop) (l : List α) : Prop := (∀ x ∈ l, ok x) ∧ l.Pairwise R
section
variable {α : Type} {ok : α → Prop} {R : α → α → Prop} {l : List α} {k j : Nat} {a b : α}
theorem OkL.nil : OkL ok R [] := ⟨fun x hx => (by cases hx), List.Pairwise.nil⟩
theorem pair_nextG (tr : ∀ a b c, R a b → R b c → R a c) : ∀ {l : List α} {a : α}, l.Pairwise R → (∀ b, l.getLast? = some b → R b a) → (l ++ [a]).Pairwise R := by
  intro l a h hl
  rw [List.pairwise_append]
  refine ⟨h, List.pairwise_singleton _ _, fun x hx y hy => ?_⟩
  rw [List.mem_singleton.1 hy]
  obtain ⟨i, hi⟩ := List.mem_iff_getElem?.1 hx
  have hin := (List.getElem?_eq_some_iff.1 hi).1
  by_cases he : i = l.length - 1
  · exact hl x (by rw [List.getLast?_eq_getElem?, ← he]; exact hi)
  · have hz : l[l.length - 1]? = some l[l.length - 1] := List.getElem?_eq_getElem (by omega)
    have h1 := List.pairwise_iff_getElem.1 h i (l.length - 1) hin (by omega) (by omega)
    rw [(List.getElem?_eq_some_iff.1 hi).2] at h1
    exact tr _ _ _ h1 (hl _ (by rw [List.getLast?_eq_getElem?]; exact hz))
theorem take_snocG (h : l[k]? = some a) : l.take (k + 1) = l.take k ++ [a] := by
  rw [List.take_add_one, h]; rfl
theorem last_take (hb : l[j]? = some b) : (l.take (j + 1)).getLast? = some b := by
  rw [take_snocG hb, List.getLast?_append]; rfl
theorem OkL.first (ha : l[0]? = some a) (h : ok a) : OkL ok R (l.take 1) := by
  rw [take_snocG ha]
  exact ⟨fun x hx => by simp at hx; rw [hx]; exact h, List.pairwise_singleton _ _⟩
theorem OkL.next (tr : ∀ a b c, R a b → R b c → R a c) (H : OkL ok R (l.take (j + 1))) (hb : l[j]? = some b) (ha : l[j + 1]? = some a) (h : ok a) (hr : R b a) : OkL ok R (l.take (j + 2)) := by
  rw [take_snocG ha]
  refine ⟨fun x hx => ?_, pair_nextG tr H.2 (fun c hc => ?_)⟩
  · rcases List.mem_append.1 hx with hx | hx
    · exact H.1 x hx
    · rw [List.mem_singleton.1 hx]; exact h
  · rw [last_take hb] at hc
    injection hc with hc
    rw [← hc]; exact hr
theorem pair_notG (hb : l[j]? = some b) (ha : l[j + 1]? = some a) (h : ¬ R b a) : ¬ l.Pairwise R := fun H => by
  obtain ⟨h1, e1⟩ := List.getElem?_eq_some_iff.1 hb
  obtain ⟨h2, e2⟩ := List.getElem?_eq_some_iff.1 ha
  have := List.pairwise_iff_getElem.1 H j (j + 1) h1 h2 (by omega)
  rw [e1, e2] at this
  exact h this
theorem OkL.all {n : Nat} (H : OkL ok R (l.take k)) (hl : l.length = n) (hk : ¬ k < n) : OkL ok R l := by
  rwa [List.take_of_length_le (by omega)] at H
end
open Classical in
noncomputable def okS (s : Sta) : Bool := decide (OkSta s)
theorem okS_no {s : Sta} (h : ¬ OkSta s) : okS s = false := @decide_eq_false _ (Classical.propDecidable _) h
theorem okS_yes {s : Sta} (h : OkSta s) : okS s = true := @decide_eq_true _ (Classical.propDecidable _) h
theorem okS_of {s : Sta} (h : okS s = true) : OkSta s := @of_decide_eq_true _ (Classical.propDecidable _) h
theorem okS_iff {s : Sta} {b : Bool} (h : OkSta s ↔ b = true) : okS s = b := by
  cases b
  · exact okS_no fun q => by have := h.1 q; cases this
  · exact okS_yes (h.2 rfl)
end Go.Proofs.YtbogjfbfgbhdbaaGreatDoor
namespace Go.Proofs.YtbogjfbfgbhdbaaGreatDoor
set_option linter.unusedVariables false
set_option linter.unusedSimpArgs false
open Go.RowKit
set_option linter.unusedVariables false
set_option linter.unusedSimpArgs false
theorem mg_ne1 {u f d u' f' d' : Int} {l l' : List Nat} (h : (u == u') = false) : decide ((⟨u, f, d, l⟩ : Mg) = ⟨u', f', d', l'⟩) = false := decide_eq_false (fun e => by
  have := congrArg Mg.uid e
  simp only at this
  rw [this] at h; simp at h)
theorem mg_ne2 {u f d u' f' d' : Int} {l l' : List Nat} (h : (f == f') = false) : decide ((⟨u, f, d, l⟩ : Mg) = ⟨u', f', d', l'⟩) = false := decide_eq_false (fun e => by
  have := congrArg Mg.flags e
  simp only at this
  rw [this] at h; simp at h)
theorem mg_ne3 {u f d u' f' d' : Int} {l l' : List Nat} (h : (d == d') = false) : decide ((⟨u, f, d, l⟩ : Mg) = ⟨u', f', d', l'⟩) = false := decide_eq_false (fun e => by
  have := congrArg Mg.date e
  simp only at this
  rw [this] at h; simp at h)
theorem mg_eq {u f d u' f' d' : Int} {l l' : List Nat} (h1 : (u == u') = true) (h2 : (f == f') = true) (h3 : (d == d') = true) : decide ((⟨u, f, d, l⟩ : Mg) = ⟨u', f', d', l'⟩) = decide (l = l') := by
  rw [beq_iff_eq.1 h1, beq_iff_eq.1 h2, beq_iff_eq.1 h3]
  by_cases h : l = l'
  · rw [h]; simp
  · rw [decide_eq_false h, decide_eq_false (fun e => h (by have := congrArg Mg.body e; simpa using this))]
set_option maxRecDepth 20000 in
set_option maxHeartbeats 2000000 in
theorem sameMsg_any (u f d : Int) (A : Option Addr) (n c : Nat) (l : List Nat) (u' f' d' : Int) (A' : Option Addr) (n' c' : Nat) (l' : List Nat) (w : World) (hl : Bytes w w.heap.size A n l) (hl' : Bytes w w.heap.size A' n' l') :
    Calls Tryz.prog 144 #[.agg #[.int .i64 u, .int .i64 f, .int .i64 d, .slice A n c], .agg #[.int .i64 u', .int .i64 f', .int .i64 d', .slice A' n' c']] w fun e w' => e = .returned (.bool (decide ((⟨u, f, d, l⟩ : Mg) = ⟨u', f', d', l'⟩))) ∧ w' = (w.alloc (.cells #[.int .i64 u, .int .i64 f, .int .i64 d, .slice A n c] 49)).alloc (.cells #[.int .i64 u', .int .i64 f', .int .i64 d', .slice A' n' c'] 49) := by
  have h1 : Bk ((w.alloc (.cells #[.int .i64 u, .int .i64 f, .int .i64 d, .slice A n c] 49)).alloc (.cells #[.int .i64 u', .int .i64 f', .int .i64 d', .slice A' n' c'] 49)) w.heap.size 49 #[.int .i64 u, .int .i64 f, .int .i64 d, .slice A n c] := (Bk.new _ _ _).alloc _
  have h2 : Bk ((w.alloc (.cells #[.int .i64 u, .int .i64 f, .int .i64 d, .slice A n c] 49)).alloc (.cells #[.int .i64 u', .int .i64 f', .int .i64 d', .slice A' n' c'] 49)) (w.heap.size + 1) 49 #[.int .i64 u', .int .i64 f', .int .i64 d', .slice A' n' c'] := Bk.new2 _ _ _ _
  have hB : Below w.heap.size w ((w.alloc (.cells #[.int .i64 u, .int .i64 f, .int .i64 d, .slice A n c] 49)).alloc (.cells #[.int .i64 u', .int .i64 f', .int .i64 d', .slice A' n' c'] 49)) := ((Below.refl _ _).alloc (Nat.le_refl _) _).alloc (by simp) _
  have HC := Lib.hid (byEqual_any A n c w.heap.size l A' n' c' w.heap.size l' ((w.alloc (.cells #[.int .i64 u, .int .i64 f, .int .i64 d, .slice A n c] 49)).alloc (.cells #[.int .i64 u', .int .i64 f', .int .i64 d', .slice A' n' c'] 49)) (hl.below hB (Nat.le_refl _)) (hl'.below hB (Nat.le_refl _)))
  obtain ⟨⟨c0, c1, c2, c3⟩, -, -, -, -⟩ := h1.four
  obtain ⟨⟨d0, d1, d2, d3⟩, -, -, -, -⟩ := h2.four
  clear h1 h2 hl hl' hB
  cases hu : (u == u')
  · have HR := Lib.hid (mg_ne1 (f := f) (d := d) (f' := f') (d' := d') (l := l) (l' := l') hu)
    go_enter Tryz.func144, Tryz.ntmps144
    go_wp2_with fail
    go_ret
    exact ⟨by rw [HR.out] <;> rfl, rfl⟩
  cases hf : (f == f')
  · have HR := Lib.hid (mg_ne2 (u := u) (d := d) (u' := u') (d' := d') (l := l) (l' := l') hf)
    go_enter Tryz.func144, Tryz.ntmps144
    go_wp2_with fail
    go_ret
    exact ⟨by rw [HR.out] <;> rfl, rfl⟩
  cases hd : (d == d')
  · have HR := Lib.hid (mg_ne3 (u := u) (f := f) (u' := u') (f' := f') (l := l) (l' := l') hd)
    go_enter Tryz.func144, Tryz.ntmps144
    go_wp2_with fail
    go_ret
    exact ⟨by rw [HR.out] <;> rfl, rfl⟩
  rw [mg_eq (l := l) (l' := l') hu hf hd]
  generalize decide (l = l') = q at *
  go_enter Tryz.func144, Tryz.ntmps144
  go_wp2_with fail
  refine HC.out.mono ?_
  rintro e w' ⟨rfl, rfl⟩
  go_wp2_with fail
  go_ret
  exact ⟨rfl, rfl⟩
set_option maxRecDepth 20000 in
set_option maxHeartbeats 2000000 in
theorem x11sameMsg_any (u f d : Int) (A : Option Addr) (n c : Nat) (l : List Nat) (u' f' d' : Int) (A' : Option Addr) (n' c' : Nat) (l' : List Nat) (w : World) (hl : Bytes w w.heap.size A n l) (hl' : Bytes w w.heap.size A' n' l') :
    Calls Tryz.prog 24 #[.agg #[.int .i64 u, .int .i64 f, .int .i64 d, .slice A n c], .agg #[.int .i64 u', .int .i64 f', .int .i64 d', .slice A' n' c']] w fun e w' => e = .returned (.bool (decide ((⟨u, f, d, l⟩ : Mg) = ⟨u', f', d', l'⟩))) ∧ w' = (w.alloc (.cells #[.int .i64 u, .int .i64 f, .int .i64 d, .slice A n c] 49)).alloc (.cells #[.int .i64 u', .int .i64 f', .int .i64 d', .slice A' n' c'] 49) := by
  have h1 : Bk ((w.alloc (.cells #[.int .i64 u, .int .i64 f, .int .i64 d, .slice A n c] 49)).alloc (.cells #[.int .i64 u', .int .i64 f', .int .i64 d', .slice A' n' c'] 49)) w.heap.size 49 #[.int .i64 u, .int .i64 f, .int .i64 d, .slice A n c] := (Bk.new _ _ _).alloc _
  have h2 : Bk ((w.alloc (.cells #[.int .i64 u, .int .i64 f, .int .i64 d, .slice A n c] 49)).alloc (.cells #[.int .i64 u', .int .i64 f', .int .i64 d', .slice A' n' c'] 49)) (w.heap.size + 1) 49 #[.int .i64 u', .int .i64 f', .int .i64 d', .slice A' n' c'] := Bk.new2 _ _ _ _
  have hB : Below w.heap.size w ((w.alloc (.cells #[.int .i64 u, .int .i64 f, .int .i64 d, .slice A n c] 49)).alloc (.cells #[.int .i64 u', .int .i64 f', .int .i64 d', .slice A' n' c'] 49)) := ((Below.refl _ _).alloc (Nat.le_refl _) _).alloc (by simp) _
  have HC := Lib.hid (x3same11_any A n c w.heap.size l A' n' c' w.heap.size l' ((w.alloc (.cells #[.int .i64 u, .int .i64 f, .int .i64 d, .slice A n c] 49)).alloc (.cells #[.int .i64 u', .int .i64 f', .int .i64 d', .slice A' n' c'] 49)) (hl.below hB (Nat.le_refl _)) (hl'.below hB (Nat.le_refl _)))
  obtain ⟨⟨c0, c1, c2, c3⟩, -, -, -, -⟩ := h1.four
  obtain ⟨⟨d0, d1, d2, d3⟩, -, -, -, -⟩ := h2.four
  clear h1 h2 hl hl' hB
  cases hu : (u == u')
  · have HR := Lib.hid (mg_ne1 (f := f) (d := d) (f' := f') (d' := d') (l := l) (l' := l') hu)
    go_enter Tryz.func24, Tryz.ntmps24
    go_wp2_with fail
    go_ret
    exact ⟨by rw [HR.out] <;> rfl, rfl⟩
  cases hf : (f == f')
  · have HR := Lib.hid (mg_ne2 (u := u) (d := d) (u' := u') (d' := d') (l := l) (l' := l') hf)
    go_enter Tryz.func24, Tryz.ntmps24
    go_wp2_with fail
    go_ret
    exact ⟨by rw [HR.out] <;> rfl, rfl⟩
  cases hd : (d == d')
  · have HR := Lib.hid (mg_ne3 (u := u) (f := f) (u' := u') (f' := f') (l := l) (l' := l') hd)
    go_enter Tryz.func24, Tryz.ntmps24
    go_wp2_with fail
    go_ret
    exact ⟨by rw [HR.out] <;> rfl, rfl⟩
  rw [mg_eq (l := l) (l' := l') hu hf hd]
  generalize decide (l = l') = q at *
  go_enter Tryz.func24, Tryz.ntmps24
  go_wp2_with fail
  refine HC.out.mono ?_
  rintro e w' ⟨rfl, rfl⟩
  go_wp2_with fail
  go_ret
  exact ⟨rfl, rfl⟩
end Go.Proofs.YtbogjfbfgbhdbaaGreatDoor
