/-
  Contracts over package uids and the document's own: numbers made a set; numbers picked, by the document.
-/
import Derived.Test.YtiophifilikajaaDoorQUidsB3
import Derived.Deep.RegionHeld3
import Derived.Deep.AppendLies
import Derived.StillTailTactics
import Derived.Stop.LaidErr
namespace Go.Proofs.YtiophifilikajaaDoor
set_option linter.unusedVariables false
set_option linter.unusedSimpArgs false
open Go.RowKit
set_option linter.unusedVariables false
set_option linter.unusedSimpArgs false

theorem info_rg : (Tryd.prog.info? 43).map (fun i => (i.zero, i.size, i.bytes)) = some (some (.agg #[.int .i64 0, .int .i64 0]), 2, 16) := by kernel_rfl
theorem rgC_one (r : Rg) : ∀ u ∈ rgC r, u.oneCell' = true := by
  intro u hu
  unfold rgC at hu
  rcases List.mem_cons.1 hu with rfl | hu
  · rfl
  · rw [List.mem_singleton.1 hu]; rfl
theorem flat_set {α : Type} {k : Nat} {f : α → List Value} (hk : ∀ a, (f a).length = k) (a' : α) (j : Nat) (v : Value) (hj : j < k) : ∀ (l : List α) (i : Nat) (a : α), l[i]? = some a → f a' = (f a).set j v → (l.set i a').flatMap f = (l.flatMap f).set (i * k + j) v
  | [], _, _, h, _ => by simp at h
  | b :: l, 0, a, h, e => by
    cases h
    rw [List.set_cons_zero, List.flatMap_cons, List.flatMap_cons, e, Nat.zero_mul, Nat.zero_add, List.set_append_left _ _ (by rw [hk]; exact hj)]
  | b :: l, i + 1, a, h, e => by
    rw [List.set_cons_succ, List.flatMap_cons, List.flatMap_cons, flat_set hk a' j v hj l i a h e, List.set_append_right _ _ (by rw [hk, Nat.add_mul]; omega), hk, show (i + 1) * k + j - k = i * k + j by rw [Nat.add_mul]; omega]
theorem OwnK.put {α : Type} {k : Nat} {f : α → List Value} {w : World} {base n c : Nat} {e : TypeId} {A : Option Addr} {l : List α} (h : OwnK k f w base e A n c l) {i j : Nat} {a a' : α} (hi : l[i]? = some a) (hj : j < k) (v : Value) (hf : f a' = (f a).set j v) :
    ∃ g, A = some ⟨g, 0, none⟩ ∧ base ≤ g ∧ g < w.heap.size ∧ w.frozen? ⟨g, i * k + j, none⟩ = false ∧ w.cell? ⟨g, i * k + j, none⟩ = (f a)[j]? ∧ OwnK k f (w.setCell ⟨g, i * k + j, none⟩ v) base e A n c (l.set i a') := by
  have hlen := h.len
  have hil : i < l.length := (List.getElem?_eq_some_iff.1 hi).1
  obtain ⟨g', hA', _, hlt, hr⟩ := h.range (by omega)
  rcases h.1.2 with ⟨_, h0⟩ | ⟨g, cap, cur, hv, hg, hh, hnc, hcm, hcs, htk⟩
  · omega
  · injection hv with hA _ hc
    subst hA hc
    injection hA' with hA'
    injection hA' with hA'
    subst hA'
    have hcell := hr i a hi j ((f a)[j]'(by rw [h.2.2]; exact hj)) (List.getElem?_eq_getElem (by rw [h.2.2]; exact hj))
    refine ⟨g, rfl, hg, hlt, frozen_of_row w g _ cur _ hh, by rw [hcell, List.getElem?_eq_getElem], ?_, by rw [List.length_set]; exact hlen, h.2.2⟩
    refine ⟨by rw [flat_len h.2.2, List.length_set, hlen], .inr ⟨g, c, cur.setIfInBounds (i * k + j) v, rfl, hg, heap_setCell_same w g _ cur _ _ hh, hnc, hcm, by simpa using hcs, ?_⟩⟩
    rw [Array.toList_setIfInBounds, List.take_set, htk, flat_set h.2.2 a' j v hj l i a hi hf]
/-- a slice of ranges is handed back -/
def GiveR (w : World) (l : List Rg) (e : Ending) (w' : World) : Prop := ∃ A n c, e = .returned (.slice A n c) ∧ ColK 2 rgC w' w'.heap.size A n l ∧ Below w.heap.size w w'
theorem ofZ_take {l : List Int} {k : Nat} {z : Int} (h : l.take (k + 1) = l.take k ++ [z]) : ofZ (l.take (k + 1)) = ofStep (ofZ (l.take k)) z := by rw [h, ofZ_snoc]

set_option maxRecDepth 20000 in
set_option maxHeartbeats 4000000 in
theorem uOf_any (B : Option Addr) (m d : Nat) (nums : List Int) (w : World) (hN : Col ints w w.heap.size B m nums) (hm : m ≤ 1000000) (hz : ∀ z ∈ nums, 1 ≤ z ∧ z ≤ 4294967295) :
    Calls Tryd.prog 22 #[.slice B m d] w (GiveR w (ofZ nums)) := by
  have HN := Lib.hid hN
  have HZ := Lib.hid hz
  clear hN hz
  go_enter Tryd.func22, Tryd.ntmps22
  go_wp2_with fail
  go_loopw [3, 9] (fun p i wx => ∃ (q n2 c2 : Nat) (A2 : Option Addr), q ≤ m ∧ i = .int .i64 (q : Int) ∧ p = .slice A2 n2 c2 ∧ n2 ≤ q ∧ OwnK 2 rgC wx w.heap.size 43 A2 n2 c2 (ofZ (nums.take q)) ∧ Below w.heap.size w wx) (fun _ i _ => m - (intOf i).toNat)
  case atStart =>
    refine ⟨0, _, _, _, Nat.zero_le _, rfl, rfl, Nat.le_refl _, ?_, (Below.refl _ _).alloc (Nat.le_refl _) _⟩
    exact ⟨⟨rfl, .inr ⟨w.heap.size, 0, _, rfl, Nat.le_refl _, heap_alloc_new w _, Nat.le_refl _, by unfold maxLen; omega, rfl, rfl⟩⟩, rfl, rgC_len⟩
  case round =>
    obtain ⟨q, n2, c2, A2, hq, rfl, rfl, hn2, hown, hb⟩ := hrel
    have HO := Lib.hid hown
    have HB := Lib.hid hb
    have HC := Lib.hid (HN.out.below hb (Nat.le_refl _))
    clear hown hb
    by_cases hlt : q < m
    · obtain ⟨b, o, z, rfl, hbb, hzz, htk, hcz⟩ := HC.out.at_ hlt
      have hzb := HZ.out z (List.mem_of_getElem? hzz)
      unfold ints at hcz
      have hq0 : (0 : Int) ≤ (q : Int) := by omega
      have hqm : (q : Int) < (m : Int) := by omega
      have HS := Lib.hid (ofZ_take htk)
      clear hzz htk
      rcases Nat.eq_zero_or_pos q with hqz | hqp
      · subst hqz
        have HS2 : Hid (ofZ (nums.take (0 + 1)) = ofZ (nums.take 0) ++ [(z, z)]) := Lib.hid (by rw [HS.out]; rfl)
        rw [Nat.add_zero] at hcz
        clear HS
        go_wp2_with ((with_reducible show wpList _ _ _ (⟨some 38, _, _, _, _, _⟩ :: _) _ _); refine hold ?_)
        refine held (wpList_append_k rfl (.tmp 33) (.tmp 37) 22 rfl Tryd.underlying22 info_rg rfl (by omega) (by omega) w.heap.size A2 n2 c2 _ rfl (HO.out.alloc _) wr.heap.size 0 (z, z) rfl
          (fun j v hv => by rw [Nat.zero_add, cell_of_row _ wr.heap.size j _ _ (0, 0) (heap_alloc_new wr _)]; unfold rgC at hv; simpa using hv) (rgC_one _) (by omega) (by have := HB.out.size; simp; omega) ?_)
        intro A3 c3 wx hown3 hb3 _
        rw [← HS2.out] at hown3
        have HO3 := Lib.hid hown3
        have HB3 := Lib.hid ((HB.out.alloc HB.out.size _).trans hb3)
        clear hown3 hb3
        go_wp2_with fail
        go_roundw
        case rel => exact ⟨1, n2 + 1, c3, A3, by omega, rfl, rfl, by omega, HO3.out, HB3.out⟩
        case measure => simp [intOf]; omega
      · obtain ⟨j, rfl⟩ : ∃ j, q = j + 1 := ⟨q - 1, by omega⟩
        obtain ⟨b', o', y, e, hbb', hyy, htk', hcy⟩ := HC.out.at_ (show j < m by omega)
        injection e with e
        injection e with e1 e2
        subst e1 e2
        unfold ints at hcy
        have hyb := HZ.out y (List.mem_of_getElem? hyy)
        obtain ⟨os, a, hos⟩ := ofZ_last (nums.take j) y
        rw [← htk'] at hos
        have hlen := HO.out.len
        rw [hos, List.length_append, List.length_singleton] at hlen
        have HOS := Lib.hid hos
        have hj0 : (0 : Int) ≤ (j : Int) := by omega
        have hjm : (j : Int) < (m : Int) := by omega
        have hwj : IntKind.i64.wrap (j : Int) = (j : Int) := IntWalk.i64_in _ (by omega)
        have hwz : IntKind.i64.wrap (z - y) = z - y := IntWalk.i64_in _ (by omega)
        have hd3 : (0 : Int) < (j : Int) + 1 := by omega
        clear hyy htk' hos
        by_cases h1 : z - y = 1
        · have h1' : (z - y == 1) = true := by simp; exact h1
          have HS2 : Hid (ofZ (nums.take (j + 1 + 1)) = os ++ [(a, z)]) := Lib.hid (by rw [HS.out, HOS.out, ofStep_on h1])
          obtain ⟨p, rfl⟩ : ∃ p, n2 = p + 1 := ⟨n2 - 1, by omega⟩
          have hown' := HO.out
          rw [HOS.out] at hown'
          have hl : os.length = p := by omega
          obtain ⟨g, rfl, hg1, hg2, hfz, hcl, hput⟩ := hown'.put (i := p) (j := 1) (a := (a, y)) (a' := (a, z)) (by rw [List.getElem?_append_right (by omega), hl, Nat.sub_self]; rfl) (by omega) (.int .i64 z) rfl
          have hst : (os ++ [(a, y)]).set p (a, z) = os ++ [(a, z)] := by rw [List.set_append_right _ _ (by omega), hl, Nat.sub_self]; rfl
          rw [hst, ← HS2.out] at hput
          have HPUT := Lib.hid hput
          have HG := Lib.hid hg1
          have hcl' : wr.cell? ⟨g, p * 2 + 1, none⟩ = some (.int .i64 y) := hcl
          have hp0 : (0 : Int) ≤ (p : Int) := by omega
          have hpn : (p : Int) < (p : Int) + 1 := by omega
          have hwp : IntKind.i64.wrap (p : Int) = (p : Int) := IntWalk.i64_in _ (by omega)
          clear hput hown' hst hl hcl hlen h1 hg1
          go_wp2_with fail
          go_roundw
          case rel => exact ⟨j + 1 + 1, p + 1, c2, some ⟨g, 0, none⟩, by omega, by go_num, rfl, by omega, HPUT.out, HB.out.setCell HG.out _⟩
          case measure => simp [intOf]; omega
        · have h1' : (z - y == 1) = false := by simp; exact h1
          have HS2 : Hid (ofZ (nums.take (j + 1 + 1)) = ofZ (nums.take (j + 1)) ++ [(z, z)]) := Lib.hid (by rw [HS.out, HOS.out, ofStep_new h1])
          clear hlen h1
          go_wp2_with ((with_reducible show wpList _ _ _ (⟨some 38, _, _, _, _, _⟩ :: _) _ _); refine hold ?_)
          refine held (wpList_append_k rfl (.tmp 33) (.tmp 37) 22 rfl Tryd.underlying22 info_rg rfl (by omega) (by omega) w.heap.size A2 n2 c2 _ rfl (HO.out.alloc _) wr.heap.size 0 (z, z) rfl
            (fun j v hv => by rw [Nat.zero_add, cell_of_row _ wr.heap.size j _ _ (0, 0) (heap_alloc_new wr _)]; unfold rgC at hv; simpa using hv) (rgC_one _) (by omega) (by have := HB.out.size; simp; omega) ?_)
          intro A3 c3 wx hown3 hb3 _
          rw [← HS2.out] at hown3
          have HO3 := Lib.hid hown3
          have HB3 := Lib.hid ((HB.out.alloc HB.out.size _).trans hb3)
          clear hown3 hb3
          go_wp2_with fail
          go_roundw
          case rel => exact ⟨j + 1 + 1, n2 + 1, c3, A3, by omega, by go_num, rfl, by omega, HO3.out, HB3.out⟩
          case measure => simp [intOf]; omega
    · have hqm : ¬ (q : Int) < (m : Int) := by omega
      have HALL : Hid (ofZ (nums.take q) = ofZ nums) := Lib.hid (by rw [List.take_of_length_le (by rw [HN.out.1]; omega)])
      go_wp2_with fail
      go_ret
      exact ⟨A2, n2, c2, rfl, by rw [← HALL.out]; exact HO.out.col, HB.out⟩
end Go.Proofs.YtiophifilikajaaDoor

/-
  Contracts over the document's own sets: numbers made a set; numbers picked.
-/
namespace Go.Proofs.YtiophifilikajaaDoor
set_option linter.unusedVariables false
set_option linter.unusedSimpArgs false
open Go.RowKit
set_option linter.unusedVariables false
set_option linter.unusedSimpArgs false

theorem OwnK.drewN {α : Type} {k : Nat} {f : α → List Value} {w : World} {base n c : Nat} {e : TypeId} {A : Option Addr} {l : List α} (h : OwnK k f w base e A n c l) (q : Nat) : OwnK k f (w.drewN q) base e A n c l := h.below (below_drewN (Below.refl _ _) q)

set_option maxRecDepth 20000 in
set_option maxHeartbeats 4000000 in
theorem x9Pick_any (A B : Option Addr) (m c k d : Nat) (l : List Rg) (nums : List Int) (w : World) (hl : ColK 2 rgC w w.heap.size A m l) (hm : m ≤ 1000000) (hN : Col ints w w.heap.size B k nums) (hk : k ≤ 1000000) :
    Calls Tryd.prog 21 #[.slice A m c, .slice B k d] w (GiveI w (pickZ l nums)) := by
  have HL := Lib.hid hl
  have HN := Lib.hid hN
  clear hl hN
  go_enter Tryd.func21, Tryd.ntmps21
  go_wp2_with fail
  go_loopw [5, 6] (fun p i wx => ∃ (q n2 c2 : Nat) (A2 : Option Addr), q ≤ k ∧ i = .int .i64 (q : Int) ∧ p = .slice A2 n2 c2 ∧ n2 ≤ q ∧ OwnV wx w.heap.size 3 A2 n2 c2 ((pickU l (nums.getLastD 0) (nums.take q)).map ints) ∧ Below w.heap.size w wx) (fun _ i _ => k - (intOf i).toNat)
  case atStart => exact ⟨0, 0, 0, none, Nat.zero_le _, rfl, rfl, Nat.le_refl _, OwnV.nil, Below.refl _ _⟩
  case round =>
    obtain ⟨q, n2, c2, A2, hq, rfl, rfl, hn2, hown, hb⟩ := hrel
    have HO := Lib.hid hown
    have HB := Lib.hid hb
    have HC := Lib.hid (HN.out.below hb (Nat.le_refl _))
    clear hown hb
    by_cases hlt : q < k
    · obtain ⟨b, o, z, rfl, hbb, hz, htk, hcz⟩ := HC.out.at_ hlt
      obtain ⟨j, rfl⟩ : ∃ j, k = j + 1 := ⟨k - 1, by omega⟩
      obtain ⟨b', o', x, e, hbb', hx, _, hcx⟩ := HC.out.at_ (show j < j + 1 by omega)
      injection e with e
      injection e with e1 e2
      subst e1 e2
      have HLAST : Hid (nums.getLastD 0 = x) := Lib.hid (last_of HN.out.1 hx)
      unfold ints at hcz hcx
      have hq0 : (0 : Int) ≤ (q : Int) := by omega
      have hqk : (q : Int) < (j : Int) + 1 := by omega
      have hj0 : (0 : Int) ≤ (j : Int) := by omega
      have hjk : (j : Int) < (j : Int) + 1 := by omega
      have hwj : IntKind.i64.wrap (j : Int) = (j : Int) := IntWalk.i64_in _ (by omega)
      have HS : Hid (pickU l (nums.getLastD 0) (nums.take (q + 1)) = pickU l (nums.getLastD 0) (nums.take q) ++ (if hasZ l z x = true then [z] else [])) := Lib.hid (by rw [htk, pickU_snoc, HLAST.out])
      have CH : ∀ t, Calls Tryd.prog 17 #[.slice A m c, .int .i64 z, .int .i64 x] (wr.drewN t) fun e w'' => e = .returned (.bool (hasZ l z x)) ∧ ∃ q, w'' = wr.drewN q := fun t =>
        (x9Has_any A m c l z x (wr.drewN t) ((HL.out.later HB.out).keep fun _ _ => rfl) (by omega)).mono fun e w' h => by obtain ⟨h1, q, rfl⟩ := h; exact ⟨h1, _, drewN_twice _ _ _⟩
      clear hz htk hx
      cases hh : hasZ l z x
      · have HS2 : Hid (pickU l (nums.getLastD 0) (nums.take (q + 1)) = pickU l (nums.getLastD 0) (nums.take q)) := Lib.hid (by rw [HS.out, hh, if_neg Bool.false_ne_true, List.append_nil])
        rw [hh] at CH
        clear hh HS
        go_wp2_with fail
        go_quiet ((go_at_call 17; exact CH _))
        refine post_over (fun W => OwnV W w.heap.size 3 A2 n2 c2 ((pickU l (nums.getLastD 0) (nums.take q)).map ints) ∧ Below w.heap.size w W) ⟨OwnV.below HO.out (below_drewN (Below.refl _ _) _), below_drewN HB.out _⟩ ?_
        rintro W ⟨ho, hbW⟩
        have HO2 := Lib.hid ho
        have HB2 := Lib.hid hbW
        clear ho hbW CH hcz hcx
        go_wp2_with fail
        go_roundw
        case rel => exact ⟨q + 1, n2, c2, A2, by omega, by go_num, rfl, by omega, by rw [HS2.out]; exact HO2.out, HB2.out⟩
        case measure => simp [intOf]; omega
      · have HS2 : Hid (pickU l (nums.getLastD 0) (nums.take (q + 1)) = pickU l (nums.getLastD 0) (nums.take q) ++ [z]) := Lib.hid (by rw [HS.out, hh, if_pos rfl])
        rw [hh] at CH
        clear hh HS
        go_wp2_with fail
        go_quiet ((go_at_call 17; exact CH _))
        refine post_over (fun W => (OwnV W w.heap.size 3 A2 n2 c2 ((pickU l (nums.getLastD 0) (nums.take q)).map ints) ∧ Below w.heap.size w W) ∧ W.cell? ⟨b, o + q, none⟩ = some (.int .i64 z)) ⟨⟨OwnV.below HO.out (below_drewN (Below.refl _ _) _), below_drewN HB.out _⟩, hcz⟩ ?_
        rintro W ⟨⟨ho, hbW⟩, hcW⟩
        have HO2 := Lib.hid ho
        have HB2 := Lib.hid hbW
        clear ho hbW CH hcz hcx hwj
        go_wp2_with ((with_reducible show wpList _ _ _ (⟨some 31, _, _, _, _, _⟩ :: _) _ _); refine hold ?_)
        refine held (wpList_append_one rfl (.tmp 25) (.tmp 30) 32 rfl Tryd.underlying32 info_int rfl (by omega) w.heap.size A2 n2 c2 _ rfl (OwnV.alloc HO2.out _) W.heap.size 0 (.int .i64 z) rfl
          (by rw [cell_of_row _ W.heap.size 0 _ _ (0, 0) (heap_alloc_new W _)]; rfl) rfl (by omega) (by have := HB2.out.size; simp; omega) ?_)
        intro A4 c4 wx hown4 hb4
        have hown5 : OwnV wx w.heap.size 3 A4 (n2 + 1) c4 ((pickU l (nums.getLastD 0) (nums.take (q + 1))).map ints) := by
          rw [HS2.out, List.map_append]
          exact hown4
        have HO5 := Lib.hid hown5
        have HB5 := Lib.hid ((HB2.out.alloc HB2.out.size _).trans hb4)
        clear hown4 hb4 hown5
        go_wp2_with fail
        go_roundw
        case rel => exact ⟨q + 1, n2 + 1, c4, A4, by omega, by go_num, rfl, by omega, HO5.out, HB5.out⟩
        case measure => simp [intOf]; omega
    · have hqk : ¬ (q : Int) < (k : Int) := by omega
      have HALL : Hid (pickU l (nums.getLastD 0) (nums.take q) = pickZ l nums) := Lib.hid (by rw [List.take_of_length_le (by rw [HN.out.1]; omega)]; rfl)
      go_wp2_with fail
      go_ret
      exact ⟨A2, n2, c2, rfl, by rw [← HALL.out]; exact OwnV.colI HO.out, HB.out⟩

set_option maxRecDepth 20000 in
set_option maxHeartbeats 8000000 in
theorem x9Of_any (B : Option Addr) (m d : Nat) (nums : List Int) (w : World) (hN : Col ints w w.heap.size B m nums) (hm : m ≤ 1000000) (hz : ∀ z ∈ nums, 1 ≤ z ∧ z ≤ 4294967295) :
    Calls Tryd.prog 23 #[.slice B m d] w (GiveR w (ofZ nums)) := by
  obtain ⟨i0, hi0, hz0, hz1, hz2⟩ := info_parts info_rg
  have HN := Lib.hid hN
  have HZ := Lib.hid hz
  clear hN hz
  go_enter Tryd.func23, Tryd.ntmps23
  go_wp2_with fail
  go_loopw [3, 4] (fun p i wx => ∃ (q n2 c2 : Nat) (A2 : Option Addr), q ≤ m ∧ i = .int .i64 (q : Int) ∧ p = .slice A2 n2 c2 ∧ n2 ≤ q ∧ OwnK 2 rgC wx w.heap.size 43 A2 n2 c2 (ofZ (nums.take q)) ∧ Below w.heap.size w wx) (fun _ i _ => m - (intOf i).toNat)
  case atStart => exact ⟨0, 0, 0, none, Nat.zero_le _, rfl, rfl, Nat.le_refl _, OwnK.nil rgC_len, Below.refl _ _⟩
  case round =>
    obtain ⟨q, n2, c2, A2, hq, rfl, rfl, hn2, hown, hb⟩ := hrel
    have HO := Lib.hid hown
    have HB := Lib.hid hb
    have HC := Lib.hid (HN.out.below hb (Nat.le_refl _))
    clear hown hb
    by_cases hlt : q < m
    · obtain ⟨b, o, z, rfl, hbb, hzz, htk, hcz⟩ := HC.out.at_ hlt
      have hzb := HZ.out z (List.mem_of_getElem? hzz)
      unfold ints at hcz
      have hq0 : (0 : Int) ≤ (q : Int) := by omega
      have hqm : (q : Int) < (m : Int) := by omega
      have HS := Lib.hid (ofZ_take htk)
      have hwz : IntKind.i64.wrap (z - 1) = z - 1 := IntWalk.i64_in _ (by omega)
      rcases Nat.eq_zero_or_pos q with hqz | hqp
      · subst hqz
        have HS2 : Hid (ofZ (nums.take (0 + 1)) = ofZ (nums.take 0) ++ [(z, z)]) := Lib.hid (by rw [HS.out]; rfl)
        rw [Nat.add_zero] at hcz
        obtain rfl : n2 = 0 := by omega
        clear HS hzz htk
        go_wp2_with fail
        go_quiet (fail)
        refine post_over (fun W => (OwnK 2 rgC W w.heap.size 43 A2 0 c2 (ofZ (nums.take 0)) ∧ Below w.heap.size w W) ∧ W.cell? ⟨b, o, none⟩ = some (.int .i64 z)) ⟨⟨HO.out.drewN _, below_drewN HB.out _⟩, hcz⟩ ?_
        rintro W ⟨⟨ho, hbW⟩, hcW⟩
        have HB2 := Lib.hid hbW
        have hne : (Value.slice A2 0 c2).ownBlock ≠ some b := by
          intro e
          rcases ho.1.2 with ⟨h0, _⟩ | ⟨g9, cap9, cur9, hv9, hg9, _⟩
          · rw [h0] at e; cases e
          · rw [hv9] at e; simp [Value.ownBlock] at e; omega
        have hbl := World.block_lt_of_cell? _ _ hcW
        have hwS : w.heap.size ≤ W.heap.size := hbW.size
        clear hbW hwz
        clear hcz
        go_wp2_with fail
        go_region_held3 (fun w' => w'.cell? ⟨b, o, none⟩ = some (.int .i64 z))
          (first | go_keep | exact (hgrow.cell_far _ (by simp; omega) (Ne.symm hne)).trans (cell?_alloc_old _ hcW))
          ((refine step_append_lies _ (by rfl) _ _ _ (by rfl) w.heap.size 43 i0 _ 2 16 Tryd.underlying22 hi0 hz0 hz1 hz2 rfl (by omega) (.slice A2 0 c2) 0 ((ofZ (nums.take 0)).flatMap rgC) (by rfl) (((ho.alloc _).drewN 1).1) ⟨W.heap.size, 0, none⟩ 1 1 [.int .i64 z, .int .i64 z] (by rfl) (by rfl) (World.news_of_block (cs := #[.int .i64 z, .int .i64 z]) (t := 43) (fr := (0, 0)) (heap_alloc_new W _)) (rgC_one (z, z)) (by omega) (by unfold maxLen; omega) (by omega) (by simp; omega) (W.heap.size + 1) (by simp) ?_; intro gg cap w1 hown1 hgrow hat hlt9))
        have hown3 : OwnK 2 rgC w1 w.heap.size 43 (some ⟨gg, 0, none⟩) (0 + 1) cap ((ofZ (nums.take 0)) ++ [(z, z)]) := ⟨by rw [List.flatMap_append, List.flatMap_singleton]; exact hown1, by rw [List.length_append, ho.2.1]; rfl, rgC_len⟩
        rw [← HS2.out] at hown3
        have HO3 := Lib.hid hown3
        have HB3 : Hid (Below w.heap.size w w1) := Lib.hid (((HB2.out.alloc HB2.out.size _).drew).grown hgrow (by simp; omega) (fun k9 hk9 => (ho.1.lt k9 hk9).1))
        clear hown3 hown1 hgrow hat ho hne
        go_wp2_with fail
        go_roundw
        case rel => exact ⟨1, 0 + 1, cap, some ⟨gg, 0, none⟩, by omega, rfl, rfl, by omega, HO3.out, HB3.out⟩
        case measure => simp [intOf]; omega
      · obtain ⟨j, rfl⟩ : ∃ j, q = j + 1 := ⟨q - 1, by omega⟩
        obtain ⟨b', o', y, e, hbb', hyy, htk', hcy⟩ := HC.out.at_ (show j < m by omega)
        have hyb := HZ.out y (List.mem_of_getElem? hyy)
        obtain ⟨os, a, hos⟩ := ofZ_last (nums.take j) y
        rw [← htk'] at hos
        have hlen := HO.out.len
        rw [hos, List.length_append, List.length_singleton] at hlen
        have HOS := Lib.hid hos
        obtain ⟨p, rfl⟩ : ∃ p, n2 = p + 1 := ⟨n2 - 1, by omega⟩
        have hl : os.length = p := by omega
        have hown' := HO.out
        rw [HOS.out] at hown'
        obtain ⟨g, rfl, hg1, hg2, hfz, hcl, _⟩ := hown'.put (i := p) (j := 1) (a := (a, y)) (a' := (a, z)) (by rw [List.getElem?_append_right (by omega), hl, Nat.sub_self]; rfl) (by omega) (.int .i64 z) rfl
        have hcl' : wr.cell? ⟨g, p * 2 + 1, none⟩ = some (.int .i64 y) := hcl
        have hp0 : (0 : Int) ≤ (p : Int) := by omega
        have hpn : (p : Int) < (p : Int) + 1 := by omega
        have hwp : IntKind.i64.wrap (p : Int) = (p : Int) := IntWalk.i64_in _ (by omega)
        have hd3 : decide ((0 : Int) < (p : Int) + 1) = true := decide_eq_true (by omega)
        have hq0' : (0 : Int) ≤ (j : Int) + 1 := by omega
        have hqm' : (j : Int) + 1 < (m : Int) := by omega
        clear hyy htk' hos hcy e hzz htk hcl hown' hlen
        by_cases h1 : z - y = 1
        · have h1' : (y == z - 1) = true := by simp; omega
          have HS2 : Hid (ofZ (nums.take (j + 1 + 1)) = os ++ [(a, z)]) := Lib.hid (by rw [HS.out, HOS.out, ofStep_on h1])
          have HL := Lib.hid hl
          clear h1 hl hg1 hg2 hfz
          go_wp2_with fail
          go_quiet (fail)
          refine post_over (fun W => (OwnK 2 rgC W w.heap.size 43 (some ⟨g, 0, none⟩) (p + 1) c2 (os ++ [(a, y)]) ∧ Below w.heap.size w W) ∧ W.cell? ⟨b, o + (j + 1), none⟩ = some (.int .i64 z)) ⟨⟨by rw [← HOS.out]; exact HO.out.drewN _, below_drewN HB.out _⟩, hcz⟩ ?_
          rintro W ⟨⟨ho, hbW⟩, hcW⟩
          obtain ⟨g', e', hg1, hg2, hfz, hcl2, hput⟩ := ho.put (i := p) (j := 1) (a := (a, y)) (a' := (a, z)) (by rw [List.getElem?_append_right (by rw [HL.out]; omega), HL.out, Nat.sub_self]; rfl) (by omega) (.int .i64 z) rfl
          injection e' with e'
          injection e' with e'
          subst e'
          have hst : (os ++ [(a, y)]).set p (a, z) = os ++ [(a, z)] := by rw [List.set_append_right _ _ (by rw [HL.out]; omega), HL.out, Nat.sub_self]; rfl
          rw [hst, ← HS2.out] at hput
          have hclW : W.cell? ⟨g, p * 2 + 1, none⟩ = some (.int .i64 y) := hcl2
          have HPUT := Lib.hid hput
          have HG := Lib.hid hg1
          have HBW := Lib.hid hbW
          clear hput hst hcl2 hcl' hbW hg1 ho hcz h1' hd3
          go_wp2_with fail
          go_roundw
          case rel => exact ⟨j + 1 + 1, p + 1, c2, some ⟨g, 0, none⟩, by omega, by go_num, rfl, by omega, HPUT.out, HBW.out.setCell HG.out _⟩
          case measure => simp [intOf]; omega
        · have h1' : (y == z - 1) = false := by simp; omega
          have HS2 : Hid (ofZ (nums.take (j + 1 + 1)) = ofZ (nums.take (j + 1)) ++ [(z, z)]) := Lib.hid (by rw [HS.out, HOS.out, ofStep_new h1])
          clear h1 hl hg1 hg2 hfz
          go_wp2_with fail
          go_quiet (fail)
          refine post_over (fun W => (OwnK 2 rgC W w.heap.size 43 (some ⟨g, 0, none⟩) (p + 1) c2 (ofZ (nums.take (j + 1))) ∧ Below w.heap.size w W) ∧ W.cell? ⟨b, o + (j + 1), none⟩ = some (.int .i64 z)) ⟨⟨HO.out.drewN _, below_drewN HB.out _⟩, hcz⟩ ?_
          rintro W ⟨⟨ho, hbW⟩, hcW⟩
          have HB2 := Lib.hid hbW
          have hne : (Value.slice (some ⟨g, 0, none⟩) (p + 1) c2).ownBlock ≠ some b := by
            intro e
            rcases ho.1.2 with ⟨h0, _⟩ | ⟨g9, cap9, cur9, hv9, hg9, _⟩
            · rw [h0] at e; cases e
            · rw [hv9] at e; simp [Value.ownBlock] at e; omega
          have hbl := World.block_lt_of_cell? _ _ hcW
          have hwS : w.heap.size ≤ W.heap.size := hbW.size
          clear hbW hwz
          clear hcz hcl' hwp hd3 h1'
          go_wp2_with fail
          go_region_held3 (fun w' => w'.cell? ⟨b, o + (j + 1), none⟩ = some (.int .i64 z))
            (first | go_keep | exact (hgrow.cell_far _ (by simp; omega) (Ne.symm hne)).trans (cell?_alloc_old _ hcW))
            ((refine step_append_lies _ (by rfl) _ _ _ (by rfl) w.heap.size 43 i0 _ 2 16 Tryd.underlying22 hi0 hz0 hz1 hz2 rfl (by omega) (.slice (some ⟨g, 0, none⟩) (p + 1) c2) (p + 1) ((ofZ (nums.take (j + 1))).flatMap rgC) (by rfl) (((ho.alloc _).drewN 1).1) ⟨W.heap.size, 0, none⟩ 1 1 [.int .i64 z, .int .i64 z] (by rfl) (by rfl) (World.news_of_block (cs := #[.int .i64 z, .int .i64 z]) (t := 43) (fr := (0, 0)) (heap_alloc_new W _)) (rgC_one (z, z)) (by omega) (by unfold maxLen; omega) (by omega) (by simp; omega) (W.heap.size + 1) (by simp) ?_; intro gg cap w1 hown1 hgrow hat hlt9))
          have hown3 : OwnK 2 rgC w1 w.heap.size 43 (some ⟨gg, 0, none⟩) ((p + 1) + 1) cap ((ofZ (nums.take (j + 1))) ++ [(z, z)]) := ⟨by rw [List.flatMap_append, List.flatMap_singleton]; exact hown1, by rw [List.length_append, ho.2.1]; rfl, rgC_len⟩
          rw [← HS2.out] at hown3
          have HO3 := Lib.hid hown3
          have HB3 : Hid (Below w.heap.size w w1) := Lib.hid (((HB2.out.alloc HB2.out.size _).drew).grown hgrow (by simp; omega) (fun k9 hk9 => (ho.1.lt k9 hk9).1))
          clear hown3 hown1 hgrow hat ho hne
          go_wp2_with fail
          go_roundw
          case rel => exact ⟨j + 1 + 1, p + 1 + 1, cap, some ⟨gg, 0, none⟩, by omega, by go_num, rfl, by omega, HO3.out, HB3.out⟩
          case measure => simp [intOf]; omega
    · have hqm : ¬ (q : Int) < (m : Int) := by omega
      have HALL : Hid (ofZ (nums.take q) = ofZ nums) := Lib.hid (by rw [List.take_of_length_le (by rw [HN.out.1]; omega)])
      go_wp2_with fail
      go_ret
      exact ⟨A2, n2, c2, rfl, by rw [← HALL.out]; exact HO.out.col, HB.out⟩
end Go.Proofs.YtiophifilikajaaDoor
