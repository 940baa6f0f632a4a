/-
  Contracts over package date: a clock.
-/
import Derived.Test.YtnhafpgeinghnaaDoorDateDay
import Derived.Test.YtnhafpgeinghnaaDoorOwnV
namespace Go.Proofs.YtnhafpgeinghnaaDoor
open Go.RowKit
set_option linter.unusedVariables false
set_option linter.unusedSimpArgs false

def ClkIs (b : Bool) (l : List (List Nat)) (z : Int) : Prop := 0 ≤ z ∧ z ≤ 400000 ∧ ((b || !clkOk true l) = false → z = clkV l)
theorem clk_flags (b : Bool) (h m s : List Nat) :
    (b || !clkOk true [h, m, s]) = (((b || !twoOk h 24) || !twoOk m 60) || !twoOk s 60) ∧
    ((((b || !twoOk h 24) || !twoOk m 60) || !twoOk s 60) = false → readV b h 2 2 = valN h ∧ readV (b || !twoOk h 24) m 2 2 = valN m ∧ readV ((b || !twoOk h 24) || !twoOk m 60) s 2 2 = valN s) := by
  cases b
  · cases h1 : twoOk h 24
    · simp [clkOk, h1]
    · cases h2 : twoOk m 60
      · simp [clkOk, h1, h2]
      · cases h3 : twoOk s 60
        · simp [clkOk, h1, h2, h3]
        · have e1 := readV_ok (twoOk_iff.1 h1).1
          have e2 := readV_ok (twoOk_iff.1 h2).1
          have e3 := readV_ok (twoOk_iff.1 h3).1
          exact ⟨by simp [clkOk, h1, h2, h3], fun _ => ⟨e1, e2, e3⟩⟩
  · simp
theorem clk_two (h m : List Nat) : clkOk true [h, m] = clkOk true [h, m, [48, 48]] ∧ clkV [h, m] = clkV [h, m, [48, 48]] := by
  have e : twoOk [48, 48] 60 = true := by decide +kernel
  refine ⟨?_, by show valN h * 3600 + valN m * 60 = valN h * 3600 + valN m * 60 + valN [48, 48]; rw [show valN [48, 48] = 0 by decide +kernel, Nat.add_zero]⟩
  show (true && (twoOk h 24 && twoOk m 60)) = (twoOk h 24 && twoOk m 60 && twoOk [48, 48] 60)
  rw [e, Bool.true_and, Bool.and_true]
theorem info_str : (Tryd.prog.info? 9).map (fun i => (i.zero, i.size, i.bytes)) = some (some (.string ByteArray.empty), 1, 16) := by kernel_rfl
theorem two_cases {α : Type} (l : List α) : (∃ a b, l = [a, b]) ∨ (∃ a b c, l = [a, b, c]) ∨ (l.length ≠ 2 ∧ l.length ≠ 3) := by
  match l with
  | [] => exact .inr (.inr (by simp))
  | [_] => exact .inr (.inr (by simp))
  | [a, b] => exact .inl ⟨a, b, rfl⟩
  | [a, b, c] => exact .inr (.inl ⟨a, b, c, rfl⟩)
  | _ :: _ :: _ :: _ :: _ => exact .inr (.inr (by simp))
theorem strOf_00 : strOf [48, 48] = ⟨#[48, 48]⟩ := rfl
theorem size_small {l : List Nat} (h : l.length ≤ 4294967296) : (strOf l).size ≤ 4294967296 := by rw [strOf_size]; exact h
theorem le_sum {l : List Nat} {x : Nat} (h : x ∈ l) : x ≤ l.sum := by
  induction l with
  | nil => cases h
  | cons a l ih =>
    rw [List.sum_cons]
    rcases List.mem_cons.1 h with rfl | h
    · omega
    · have := ih h; omega
theorem splitL_len {c : Nat} {l : List Nat} : ∀ p ∈ splitL c l, p.length ≤ l.length := by
  intro p hp
  have h := splitL_sum c l
  have h1 : p.length ≤ ((splitL c l).map List.length).sum := by
    have hm : p.length ∈ (splitL c l).map List.length := List.mem_map.2 ⟨p, hp, rfl⟩
    exact le_sum hm
  have h2 : 0 < (splitL c l).length := List.length_pos_of_mem hp
  omega

set_option maxRecDepth 20000 in
set_option maxHeartbeats 4000000 in
theorem clock_any (g : Nat) (s : ByteArray) (b : Bool) (w : World) (h : Rd w g b) (hs : s.size < 4294967281) :
    Calls Tryd.prog 25 #[.pointer (some ⟨g, 0, none⟩), .string s] w (GaveP (ClkIs b (splitL 58 (nats s))) g (b || !clkOk true (splitL 58 (nats s))) w) := by
  obtain ⟨L, hL⟩ : ∃ L, splitL 58 (nats s) = L := ⟨_, rfl⟩
  have hsp := split_any s hs 58 w
  rw [show (58 : UInt8).toNat = 58 from rfl, hL] at hsp
  have hlt := splitL_lt (c := 58) (nats_lt s)
  have hln := splitL_len (c := 58) (l := nats s)
  have hnl : (splitL 58 (nats s)).length ≤ 4294967296 := by have := splitL_sum 58 (nats s); rw [nats_length] at this; omega
  rw [hL] at hlt hln hnl ⊢
  have hls : (nats s).length ≤ 4294967296 := by rw [nats_length]; omega
  have hgw := h.lt
  have hg0 := h.2
  have HH := Lib.hid h
  clear hL h
  rcases two_cases L with ⟨p0, p1, rfl⟩ | ⟨p0, p1, p2, rfl⟩ | ⟨h2, h3⟩
  · obtain ⟨p2, hp2⟩ : ∃ p2, p2 = ([48, 48] : List Nat) := ⟨_, rfl⟩
    have HP2 := Lib.hid hp2
    have HS2 : Hid ((⟨#[48, 48]⟩ : ByteArray) = strOf p2) := Lib.hid (by rw [hp2]; rfl)
    have HN0 := Lib.hid (nats_strOf p0 (hlt p0 (by simp)))
    have HN1 := Lib.hid (nats_strOf p1 (hlt p1 (by simp)))
    have HN2 := Lib.hid (nats_strOf p2 (by rw [hp2]; decide))
    have hz0 : (strOf p0).size ≤ 4294967296 := size_small (Nat.le_trans (hln p0 (by simp)) hls)
    have hz1 : (strOf p1).size ≤ 4294967296 := size_small (Nat.le_trans (hln p1 (by simp)) hls)
    have hz2 : (strOf p2).size ≤ 4294967296 := size_small (by rw [hp2]; simp)
    clear hp2 hlt hln
    go_enter Tryd.func25, Tryd.ntmps25
    go_wp2_with fail
    refine hsp.mono ?_
    rintro e w1 ⟨rfl, hb1, hst, hsz, L2, hw1, hL2⟩
    have hown : OwnV w1 w.heap.size 9 (some ⟨w.heap.size, 0, none⟩) 2 2 [.string (strOf p0), .string (strOf p1)] := by
      refine ⟨by simp, .inr ⟨w.heap.size, 2, _, rfl, Nat.le_refl _, by rw [hw1]; exact heap_alloc_new w _, Nat.le_refl _, by unfold maxLen; omega, by rw [hL2]; rfl, by rw [hL2]; rfl⟩⟩
    have hr1 := HH.out.below hb1 hgw
    have HOWN := Lib.hid hown
    have HB1 := Lib.hid hb1
    have HSZ := Lib.hid hsz
    clear hst hsz hw1 hown hr1 hb1 hL2 hsp
    go_wp2_with ((with_reducible show wpList _ _ _ (⟨some 13, _, _, _, _, _⟩ :: _) _ _); refine hold ?_)
    refine held (wpList_append_one rfl (.tmp 11) (.tmp 12) 44 rfl Tryd.underlying44 info_str rfl (by omega) w.heap.size (some ⟨w.heap.size, 0, none⟩) 2 2 _ rfl (HOWN.out.alloc _) w1.heap.size 0 (.string ⟨#[48, 48]⟩) rfl
      (by rw [cell_of_row _ w1.heap.size 0 _ _ (0, 0) (heap_alloc_new w1 _)]; rfl) rfl (by omega) (by have := HSZ.out; simp; omega) ?_)
    intro A2 cp wx hown2 hb2
    obtain ⟨bp, rfl, hbp, hbx, hcells⟩ := hown2.cells (by omega)
    have hne : bp ≠ g := by omega
    have hc0 := hcells 0 _ rfl
    have hc1 := hcells 1 _ rfl
    have hc2 := hcells 2 _ rfl
    rw [HS2.out] at hc2
    have hbel : Below w.heap.size w wx := (HB1.out.alloc (by have := HSZ.out; omega) _).trans hb2
    have HRX := Lib.hid (HH.out.below hbel hgw)
    have HGX := Lib.hid (hbw_grown hbel hgw)
    clear hown2 hb2 hcells hbel HOWN HB1 HSZ HH
    go_wp2_with fail
    have hm : Tryd.prog.follows .mixedOrders = true := by kernel_rfl
    refine wp_region_held_drew (S := fun W' => W'.cell? ⟨bp, 0, none⟩ = some (.string (strOf p0)) ∧ W'.cell? ⟨bp, 1, none⟩ = some (.string (strOf p1)) ∧ W'.cell? ⟨bp, 2, none⟩ = some (.string (strOf p2)) ∧ bp < W'.heap.size) hm ⟨hc0, hc1, hc2, hbx⟩ (fun hHeld => ?_)
    have HRW := Lib.hid (HRX.out.below ((Below.refl wx.heap.size wx).drew) HRX.out.lt)
    have HGW := Lib.hid (grown_trans HGX.out (hbw_grown ((Below.refl wx.heap.size wx).drew) HRX.out.lt))
    clear hc0 hc1 hc2 hbx HRX HGX
    generalize wx.drew = W at *
    simp only [List.size_toArray, List.length_cons, List.length_nil, Nat.reduceAdd]
    refine wpAnyH_take (i := 0) (v := .pointer (some ⟨g, 0, none⟩)) rfl (by kernel_rfl) (by kernel_rfl) (by kernel_rfl) (fun _ _ _ h => h) (Or.inl ⟨by rfl, fun w0 hC => by simp [execOp, Act.eval, Act.put, go_sem]⟩) hHeld ?_
    try simp only [Act.put, List.setIfInBounds_toArray, List.set_cons_zero, List.set_cons_succ, List.getElem_toArray, List.getElem_cons_zero, List.getElem_cons_succ]
    refine wpAnyH_take (i := 1) (v := .slice (some ⟨bp, 0, none⟩) 3 cp) rfl (by kernel_rfl) (by kernel_rfl) (by kernel_rfl) (fun _ _ _ h => h) (Or.inl ⟨by rfl, fun w0 hC => by simp [execOp, Act.eval, Act.put, go_sem]⟩) hHeld ?_
    try simp only [Act.put, List.setIfInBounds_toArray, List.set_cons_zero, List.set_cons_succ, List.getElem_toArray, List.getElem_cons_zero, List.getElem_cons_succ]
    refine wpAnyH_take (i := 2) (v := .pointer (some ⟨bp, 0, none⟩)) rfl (by kernel_rfl) (by kernel_rfl) (by kernel_rfl) (fun _ _ _ h => h) (Or.inl ⟨by rfl, fun w0 hC => by simp [execOp, Act.eval, Act.put, go_sem]⟩) hHeld ?_
    try simp only [Act.put, List.setIfInBounds_toArray, List.set_cons_zero, List.set_cons_succ, List.getElem_toArray, List.getElem_cons_zero, List.getElem_cons_succ]
    refine wpAnyH_take (i := 3) (v := .string (strOf p0)) rfl (by kernel_rfl) (by kernel_rfl) (by kernel_rfl) (fun _ _ _ h => h) (Or.inl ⟨by rfl, fun w0 hC => by simp [execOp, Act.eval, Act.put, go_sem, hC.1]⟩) hHeld ?_
    try simp only [Act.put, List.setIfInBounds_toArray, List.set_cons_zero, List.set_cons_succ, List.getElem_toArray, List.getElem_cons_zero, List.getElem_cons_succ]
    refine wpAnyH_take (i := 6) (v := .pointer (some ⟨g, 0, none⟩)) rfl (by kernel_rfl) (by kernel_rfl) (by kernel_rfl) (fun _ _ _ h => h) (Or.inl ⟨by rfl, fun w0 hC => by simp [execOp, Act.eval, Act.put, go_sem]⟩) hHeld ?_
    try simp only [Act.put, List.setIfInBounds_toArray, List.set_cons_zero, List.set_cons_succ, List.getElem_toArray, List.getElem_cons_zero, List.getElem_cons_succ]
    refine wpAnyH_take (i := 7) (v := .slice (some ⟨bp, 0, none⟩) 3 cp) rfl (by kernel_rfl) (by kernel_rfl) (by kernel_rfl) (fun _ _ _ h => h) (Or.inl ⟨by rfl, fun w0 hC => by simp [execOp, Act.eval, Act.put, go_sem]⟩) hHeld ?_
    try simp only [Act.put, List.setIfInBounds_toArray, List.set_cons_zero, List.set_cons_succ, List.getElem_toArray, List.getElem_cons_zero, List.getElem_cons_succ]
    refine wpAnyH_take (i := 8) (v := .pointer (some ⟨bp, 1, none⟩)) rfl (by kernel_rfl) (by kernel_rfl) (by kernel_rfl) (fun _ _ _ h => h) (Or.inl ⟨by rfl, fun w0 hC => by simp [execOp, Act.eval, Act.put, go_sem]⟩) hHeld ?_
    try simp only [Act.put, List.setIfInBounds_toArray, List.set_cons_zero, List.set_cons_succ, List.getElem_toArray, List.getElem_cons_zero, List.getElem_cons_succ]
    refine wpAnyH_take (i := 9) (v := .string (strOf p1)) rfl (by kernel_rfl) (by kernel_rfl) (by kernel_rfl) (fun _ _ _ h => h) (Or.inl ⟨by rfl, fun w0 hC => by simp [execOp, Act.eval, Act.put, go_sem, hC.2.1]⟩) hHeld ?_
    try simp only [Act.put, List.setIfInBounds_toArray, List.set_cons_zero, List.set_cons_succ, List.getElem_toArray, List.getElem_cons_zero, List.getElem_cons_succ]
    refine wpAnyH_take (i := 13) (v := .pointer (some ⟨g, 0, none⟩)) rfl (by kernel_rfl) (by kernel_rfl) (by kernel_rfl) (fun _ _ _ h => h) (Or.inl ⟨by rfl, fun w0 hC => by simp [execOp, Act.eval, Act.put, go_sem]⟩) hHeld ?_
    try simp only [Act.put, List.setIfInBounds_toArray, List.set_cons_zero, List.set_cons_succ, List.getElem_toArray, List.getElem_cons_zero, List.getElem_cons_succ]
    refine wpAnyH_take (i := 14) (v := .slice (some ⟨bp, 0, none⟩) 3 cp) rfl (by kernel_rfl) (by kernel_rfl) (by kernel_rfl) (fun _ _ _ h => h) (Or.inl ⟨by rfl, fun w0 hC => by simp [execOp, Act.eval, Act.put, go_sem]⟩) hHeld ?_
    try simp only [Act.put, List.setIfInBounds_toArray, List.set_cons_zero, List.set_cons_succ, List.getElem_toArray, List.getElem_cons_zero, List.getElem_cons_succ]
    refine wpAnyH_take (i := 15) (v := .pointer (some ⟨bp, 2, none⟩)) rfl (by kernel_rfl) (by kernel_rfl) (by kernel_rfl) (fun _ _ _ h => h) (Or.inl ⟨by rfl, fun w0 hC => by simp [execOp, Act.eval, Act.put, go_sem]⟩) hHeld ?_
    try simp only [Act.put, List.setIfInBounds_toArray, List.set_cons_zero, List.set_cons_succ, List.getElem_toArray, List.getElem_cons_zero, List.getElem_cons_succ]
    refine wpAnyH_take (i := 16) (v := .string (strOf p2)) rfl (by kernel_rfl) (by kernel_rfl) (by kernel_rfl) (fun _ _ _ h => h) (Or.inl ⟨by rfl, fun w0 hC => by simp [execOp, Act.eval, Act.put, go_sem, hC.2.2.1]⟩) hHeld ?_
    try simp only [Act.put, List.setIfInBounds_toArray, List.set_cons_zero, List.set_cons_succ, List.getElem_toArray, List.getElem_cons_zero, List.getElem_cons_succ]
    refine wpAnyH_ready (rs := [4]) (by kernel_rfl) (by simp) (AllReadyH.cons rfl (fun K hK => ?_) AllReadyH.nil)
    rw [if_pos (by rfl)]
    go_wp2_with fail
    refine (two_any g (strOf p0) 24 b W HRW.out hz0 (by omega)).mono ?_
    rintro e W2 ⟨rfl, hr2, hg2⟩
    rw [HN0.out] at hr2 ⊢
    obtain ⟨v1, hv1⟩ : ∃ v, readV b p0 2 2 = v := ⟨_, rfl⟩
    obtain ⟨b2, hb2⟩ : ∃ q, (b || !twoOk p0 24) = q := ⟨_, rfl⟩
    have hl1 := readV_bd b p0 2 2
    rw [hb2] at hr2
    rw [hv1] at hl1 ⊢
    have HV1 := Lib.hid hv1
    have HB2 := Lib.hid hb2
    have HR2 := Lib.hid hr2
    have HG2 := Lib.hid (grown_trans HGW.out hg2)
    have hw1 : IntKind.i64.wrap ((v1 : Int) * 3600) = (v1 : Int) * 3600 := IntWalk.i64_in _ (by omega)
    have hS : _ ∧ _ ∧ _ ∧ _ := And.intro ((grown_cell hg2 hHeld.2.2.2 hne 0).trans hHeld.1) (And.intro ((grown_cell hg2 hHeld.2.2.2 hne 1).trans hHeld.2.1) (And.intro ((grown_cell hg2 hHeld.2.2.2 hne 2).trans hHeld.2.2.1) (Nat.lt_of_lt_of_le hHeld.2.2.2 hg2.size)))
    clear hv1 hb2 hr2 hg2 HRW HGW hHeld
    refine hK.out _ _ hS (fun hHeld => ?_)
    clear hK K
    try simp only [Act.put, List.setIfInBounds_toArray, List.set_cons_zero, List.set_cons_succ, List.getElem_toArray, List.getElem_cons_zero, List.getElem_cons_succ]
    clear hS
    refine wpAnyH_take (i := 5) (v := .int .i64 ((v1 : Int) * 3600)) rfl (by kernel_rfl) (by kernel_rfl) (by kernel_rfl) (fun _ _ _ h => h) (Or.inl ⟨by rfl, fun w0 hC => by simp [execOp, Act.eval, Act.put, go_sem, hw1]⟩) hHeld ?_
    try simp only [Act.put, List.setIfInBounds_toArray, List.set_cons_zero, List.set_cons_succ, List.getElem_toArray, List.getElem_cons_zero, List.getElem_cons_succ]
    clear hw1
    refine wpAnyH_ready (rs := [10]) (by kernel_rfl) (by simp) (AllReadyH.cons rfl (fun K hK => ?_) AllReadyH.nil)
    rw [if_pos (by rfl)]
    go_wp2_with fail
    refine (two_any g (strOf p1) 60 b2 W2 HR2.out hz1 (by omega)).mono ?_
    rintro e W3 ⟨rfl, hr3, hg3⟩
    rw [HN1.out] at hr3 ⊢
    obtain ⟨v2, hv2⟩ : ∃ v, readV b2 p1 2 2 = v := ⟨_, rfl⟩
    obtain ⟨b3, hb3⟩ : ∃ q, (b2 || !twoOk p1 60) = q := ⟨_, rfl⟩
    have hl2 := readV_bd b2 p1 2 2
    rw [hb3] at hr3
    rw [hv2] at hl2 ⊢
    have HV2 := Lib.hid hv2
    have HB3 := Lib.hid hb3
    have HR3 := Lib.hid hr3
    have HG3 := Lib.hid (grown_trans HG2.out hg3)
    have hw2 : IntKind.i64.wrap ((v2 : Int) * 60) = (v2 : Int) * 60 := IntWalk.i64_in _ (by omega)
    have hw3 : IntKind.i64.wrap ((v1 : Int) * 3600 + v2 * 60) = (v1 : Int) * 3600 + v2 * 60 := IntWalk.i64_in _ (by omega)
    have hS : _ ∧ _ ∧ _ ∧ _ := And.intro ((grown_cell hg3 hHeld.2.2.2 hne 0).trans hHeld.1) (And.intro ((grown_cell hg3 hHeld.2.2.2 hne 1).trans hHeld.2.1) (And.intro ((grown_cell hg3 hHeld.2.2.2 hne 2).trans hHeld.2.2.1) (Nat.lt_of_lt_of_le hHeld.2.2.2 hg3.size)))
    clear hv2 hb3 hr3 hg3 HR2 HG2 hHeld
    refine hK.out _ _ hS (fun hHeld => ?_)
    clear hK K
    try simp only [Act.put, List.setIfInBounds_toArray, List.set_cons_zero, List.set_cons_succ, List.getElem_toArray, List.getElem_cons_zero, List.getElem_cons_succ]
    clear hS
    refine wpAnyH_take (i := 11) (v := .int .i64 ((v2 : Int) * 60)) rfl (by kernel_rfl) (by kernel_rfl) (by kernel_rfl) (fun _ _ _ h => h) (Or.inl ⟨by rfl, fun w0 hC => by simp [execOp, Act.eval, Act.put, go_sem, hw2]⟩) hHeld ?_
    try simp only [Act.put, List.setIfInBounds_toArray, List.set_cons_zero, List.set_cons_succ, List.getElem_toArray, List.getElem_cons_zero, List.getElem_cons_succ]
    refine wpAnyH_take (i := 12) (v := .int .i64 ((v1 : Int) * 3600 + v2 * 60)) rfl (by kernel_rfl) (by kernel_rfl) (by kernel_rfl) (fun _ _ _ h => h) (Or.inl ⟨by rfl, fun w0 hC => by simp [execOp, Act.eval, Act.put, go_sem, hw3]⟩) hHeld ?_
    try simp only [Act.put, List.setIfInBounds_toArray, List.set_cons_zero, List.set_cons_succ, List.getElem_toArray, List.getElem_cons_zero, List.getElem_cons_succ]
    clear hw2 hw3
    refine wpAnyH_ready (rs := [17]) (by kernel_rfl) (by simp) (AllReadyH.cons rfl (fun K hK => ?_) AllReadyH.nil)
    rw [if_pos (by rfl)]
    go_wp2_with fail
    refine (two_any g (strOf p2) 60 b3 W3 HR3.out hz2 (by omega)).mono ?_
    rintro e W4 ⟨rfl, hr4, hg4⟩
    rw [HN2.out] at hr4 ⊢
    obtain ⟨v3, hv3⟩ : ∃ v, readV b3 p2 2 2 = v := ⟨_, rfl⟩
    obtain ⟨b4, hb4⟩ : ∃ q, (b3 || !twoOk p2 60) = q := ⟨_, rfl⟩
    have hl3 := readV_bd b3 p2 2 2
    rw [hb4] at hr4
    rw [hv3] at hl3 ⊢
    have HV3 := Lib.hid hv3
    have HB4 := Lib.hid hb4
    have HR4 := Lib.hid hr4
    have HG4 := Lib.hid (grown_trans HG3.out hg4)
    have hw4 : IntKind.i64.wrap ((v1 : Int) * 3600 + v2 * 60 + v3) = (v1 : Int) * 3600 + v2 * 60 + v3 := IntWalk.i64_in _ (by omega)
    have hS : _ ∧ _ ∧ _ ∧ _ := And.intro ((grown_cell hg4 hHeld.2.2.2 hne 0).trans hHeld.1) (And.intro ((grown_cell hg4 hHeld.2.2.2 hne 1).trans hHeld.2.1) (And.intro ((grown_cell hg4 hHeld.2.2.2 hne 2).trans hHeld.2.2.1) (Nat.lt_of_lt_of_le hHeld.2.2.2 hg4.size)))
    clear hv3 hb4 hr4 hg4 HR3 HG3 hHeld
    refine hK.out _ _ hS (fun hHeld => ?_)
    clear hK K
    try simp only [Act.put, List.setIfInBounds_toArray, List.set_cons_zero, List.set_cons_succ, List.getElem_toArray, List.getElem_cons_zero, List.getElem_cons_succ]
    clear hS
    refine wpAnyH_take (i := 18) (v := .int .i64 ((v1 : Int) * 3600 + v2 * 60 + v3)) rfl (by kernel_rfl) (by kernel_rfl) (by kernel_rfl) (fun _ _ _ h => h) (Or.inl ⟨by rfl, fun w0 hC => by simp [execOp, Act.eval, Act.put, go_sem, hw4]⟩) hHeld ?_
    try simp only [Act.put, List.setIfInBounds_toArray, List.set_cons_zero, List.set_cons_succ, List.getElem_toArray, List.getElem_cons_zero, List.getElem_cons_succ]
    refine wpAnyH_take (i := 19) (v := .int .i64 ((v1 : Int) * 3600 + v2 * 60 + v3)) rfl (by kernel_rfl) (by kernel_rfl) (by kernel_rfl) (fun _ _ _ h => h) (Or.inl ⟨by rfl, fun w0 hC => by simp [execOp, Act.eval, Act.put, go_sem]⟩) hHeld ?_
    try simp only [Act.put, List.setIfInBounds_toArray, List.set_cons_zero, List.set_cons_succ, List.getElem_toArray, List.getElem_cons_zero, List.getElem_cons_succ]
    clear hw4
    refine wpAnyH_done (by kernel_rfl) ?_ _
    have hfl := clk_flags b p0 p1 p2
    rw [HB2.out, HB3.out, HB4.out, HV1.out, HV2.out, HV3.out] at hfl
    have HFL := Lib.hid hfl
    clear hfl
    go_wp2_with fail
    go_ret
    refine ⟨_, ⟨?_, ?_, fun hh => ?_⟩, rfl, by rw [(clk_two p0 p1).1, ← HP2.out]; rw [HFL.out.1]; exact HR4.out, HG4.out⟩
    · omega
    · omega
    · rw [(clk_two p0 p1).1, ← HP2.out] at hh; rw [HFL.out.1] at hh
      obtain ⟨e1, e2, e3⟩ := HFL.out.2 hh
      rw [(clk_two p0 p1).2, ← HP2.out]
      show _ = ((valN p0 * 3600 + valN p1 * 60 + valN p2 : Nat) : Int)
      rw [← e1, ← e2, ← e3]
      omega

  · have HN0 := Lib.hid (nats_strOf p0 (hlt p0 (by simp)))
    have HN1 := Lib.hid (nats_strOf p1 (hlt p1 (by simp)))
    have HN2 := Lib.hid (nats_strOf p2 (hlt p2 (by simp)))
    have hz0 : (strOf p0).size ≤ 4294967296 := size_small (Nat.le_trans (hln p0 (by simp)) hls)
    have hz1 : (strOf p1).size ≤ 4294967296 := size_small (Nat.le_trans (hln p1 (by simp)) hls)
    have hz2 : (strOf p2).size ≤ 4294967296 := size_small (Nat.le_trans (hln p2 (by simp)) hls)
    clear hlt hln
    go_enter Tryd.func25, Tryd.ntmps25
    go_wp2_with fail
    refine hsp.mono ?_
    rintro e wx ⟨rfl, hbel, hst, hsz, L2, hw1, hL2⟩
    obtain ⟨bp, hbp⟩ : ∃ bp, w.heap.size = bp := ⟨_, rfl⟩
    have hne : bp ≠ g := by omega
    have hbx : bp < wx.heap.size := by omega
    have hc0 := hst 0 p0 rfl
    have hc1 := hst 1 p1 rfl
    have hc2 := hst 2 p2 rfl
    rw [hbp] at hc0 hc1 hc2 ⊢
    simp only [Nat.zero_add] at hc0 hc1 hc2
    have HRX := Lib.hid (HH.out.below hbel hgw)
    have HGX := Lib.hid (hbw_grown hbel hgw)
    simp only [List.length_cons, List.length_nil, Nat.zero_add, Nat.reduceAdd]
    clear hsp hst hsz hw1 hL2 hbel HH
    go_wp2_with fail
    have hm : Tryd.prog.follows .mixedOrders = true := by kernel_rfl
    refine wp_region_held_drew (S := fun W' => W'.cell? ⟨bp, 0, none⟩ = some (.string (strOf p0)) ∧ W'.cell? ⟨bp, 1, none⟩ = some (.string (strOf p1)) ∧ W'.cell? ⟨bp, 2, none⟩ = some (.string (strOf p2)) ∧ bp < W'.heap.size) hm ⟨hc0, hc1, hc2, hbx⟩ (fun hHeld => ?_)
    have HRW := Lib.hid (HRX.out.below ((Below.refl wx.heap.size wx).drew) HRX.out.lt)
    have HGW := Lib.hid (grown_trans HGX.out (hbw_grown ((Below.refl wx.heap.size wx).drew) HRX.out.lt))
    clear hc0 hc1 hc2 hbx HRX HGX
    generalize wx.drew = W at *
    simp only [List.size_toArray, List.length_cons, List.length_nil, Nat.reduceAdd]
    refine wpAnyH_take (i := 0) (v := .pointer (some ⟨g, 0, none⟩)) rfl (by kernel_rfl) (by kernel_rfl) (by kernel_rfl) (fun _ _ _ h => h) (Or.inl ⟨by rfl, fun w0 hC => by simp [execOp, Act.eval, Act.put, go_sem]⟩) hHeld ?_
    try simp only [Act.put, List.setIfInBounds_toArray, List.set_cons_zero, List.set_cons_succ, List.getElem_toArray, List.getElem_cons_zero, List.getElem_cons_succ]
    refine wpAnyH_take (i := 1) (v := .slice (some ⟨bp, 0, none⟩) 3 3) rfl (by kernel_rfl) (by kernel_rfl) (by kernel_rfl) (fun _ _ _ h => h) (Or.inl ⟨by rfl, fun w0 hC => by simp [execOp, Act.eval, Act.put, go_sem]⟩) hHeld ?_
    try simp only [Act.put, List.setIfInBounds_toArray, List.set_cons_zero, List.set_cons_succ, List.getElem_toArray, List.getElem_cons_zero, List.getElem_cons_succ]
    refine wpAnyH_take (i := 2) (v := .pointer (some ⟨bp, 0, none⟩)) rfl (by kernel_rfl) (by kernel_rfl) (by kernel_rfl) (fun _ _ _ h => h) (Or.inl ⟨by rfl, fun w0 hC => by simp [execOp, Act.eval, Act.put, go_sem]⟩) hHeld ?_
    try simp only [Act.put, List.setIfInBounds_toArray, List.set_cons_zero, List.set_cons_succ, List.getElem_toArray, List.getElem_cons_zero, List.getElem_cons_succ]
    refine wpAnyH_take (i := 3) (v := .string (strOf p0)) rfl (by kernel_rfl) (by kernel_rfl) (by kernel_rfl) (fun _ _ _ h => h) (Or.inl ⟨by rfl, fun w0 hC => by simp [execOp, Act.eval, Act.put, go_sem, hC.1]⟩) hHeld ?_
    try simp only [Act.put, List.setIfInBounds_toArray, List.set_cons_zero, List.set_cons_succ, List.getElem_toArray, List.getElem_cons_zero, List.getElem_cons_succ]
    refine wpAnyH_take (i := 6) (v := .pointer (some ⟨g, 0, none⟩)) rfl (by kernel_rfl) (by kernel_rfl) (by kernel_rfl) (fun _ _ _ h => h) (Or.inl ⟨by rfl, fun w0 hC => by simp [execOp, Act.eval, Act.put, go_sem]⟩) hHeld ?_
    try simp only [Act.put, List.setIfInBounds_toArray, List.set_cons_zero, List.set_cons_succ, List.getElem_toArray, List.getElem_cons_zero, List.getElem_cons_succ]
    refine wpAnyH_take (i := 7) (v := .slice (some ⟨bp, 0, none⟩) 3 3) rfl (by kernel_rfl) (by kernel_rfl) (by kernel_rfl) (fun _ _ _ h => h) (Or.inl ⟨by rfl, fun w0 hC => by simp [execOp, Act.eval, Act.put, go_sem]⟩) hHeld ?_
    try simp only [Act.put, List.setIfInBounds_toArray, List.set_cons_zero, List.set_cons_succ, List.getElem_toArray, List.getElem_cons_zero, List.getElem_cons_succ]
    refine wpAnyH_take (i := 8) (v := .pointer (some ⟨bp, 1, none⟩)) rfl (by kernel_rfl) (by kernel_rfl) (by kernel_rfl) (fun _ _ _ h => h) (Or.inl ⟨by rfl, fun w0 hC => by simp [execOp, Act.eval, Act.put, go_sem]⟩) hHeld ?_
    try simp only [Act.put, List.setIfInBounds_toArray, List.set_cons_zero, List.set_cons_succ, List.getElem_toArray, List.getElem_cons_zero, List.getElem_cons_succ]
    refine wpAnyH_take (i := 9) (v := .string (strOf p1)) rfl (by kernel_rfl) (by kernel_rfl) (by kernel_rfl) (fun _ _ _ h => h) (Or.inl ⟨by rfl, fun w0 hC => by simp [execOp, Act.eval, Act.put, go_sem, hC.2.1]⟩) hHeld ?_
    try simp only [Act.put, List.setIfInBounds_toArray, List.set_cons_zero, List.set_cons_succ, List.getElem_toArray, List.getElem_cons_zero, List.getElem_cons_succ]
    refine wpAnyH_take (i := 13) (v := .pointer (some ⟨g, 0, none⟩)) rfl (by kernel_rfl) (by kernel_rfl) (by kernel_rfl) (fun _ _ _ h => h) (Or.inl ⟨by rfl, fun w0 hC => by simp [execOp, Act.eval, Act.put, go_sem]⟩) hHeld ?_
    try simp only [Act.put, List.setIfInBounds_toArray, List.set_cons_zero, List.set_cons_succ, List.getElem_toArray, List.getElem_cons_zero, List.getElem_cons_succ]
    refine wpAnyH_take (i := 14) (v := .slice (some ⟨bp, 0, none⟩) 3 3) rfl (by kernel_rfl) (by kernel_rfl) (by kernel_rfl) (fun _ _ _ h => h) (Or.inl ⟨by rfl, fun w0 hC => by simp [execOp, Act.eval, Act.put, go_sem]⟩) hHeld ?_
    try simp only [Act.put, List.setIfInBounds_toArray, List.set_cons_zero, List.set_cons_succ, List.getElem_toArray, List.getElem_cons_zero, List.getElem_cons_succ]
    refine wpAnyH_take (i := 15) (v := .pointer (some ⟨bp, 2, none⟩)) rfl (by kernel_rfl) (by kernel_rfl) (by kernel_rfl) (fun _ _ _ h => h) (Or.inl ⟨by rfl, fun w0 hC => by simp [execOp, Act.eval, Act.put, go_sem]⟩) hHeld ?_
    try simp only [Act.put, List.setIfInBounds_toArray, List.set_cons_zero, List.set_cons_succ, List.getElem_toArray, List.getElem_cons_zero, List.getElem_cons_succ]
    refine wpAnyH_take (i := 16) (v := .string (strOf p2)) rfl (by kernel_rfl) (by kernel_rfl) (by kernel_rfl) (fun _ _ _ h => h) (Or.inl ⟨by rfl, fun w0 hC => by simp [execOp, Act.eval, Act.put, go_sem, hC.2.2.1]⟩) hHeld ?_
    try simp only [Act.put, List.setIfInBounds_toArray, List.set_cons_zero, List.set_cons_succ, List.getElem_toArray, List.getElem_cons_zero, List.getElem_cons_succ]
    refine wpAnyH_ready (rs := [4]) (by kernel_rfl) (by simp) (AllReadyH.cons rfl (fun K hK => ?_) AllReadyH.nil)
    rw [if_pos (by rfl)]
    go_wp2_with fail
    refine (two_any g (strOf p0) 24 b W HRW.out hz0 (by omega)).mono ?_
    rintro e W2 ⟨rfl, hr2, hg2⟩
    rw [HN0.out] at hr2 ⊢
    obtain ⟨v1, hv1⟩ : ∃ v, readV b p0 2 2 = v := ⟨_, rfl⟩
    obtain ⟨b2, hb2⟩ : ∃ q, (b || !twoOk p0 24) = q := ⟨_, rfl⟩
    have hl1 := readV_bd b p0 2 2
    rw [hb2] at hr2
    rw [hv1] at hl1 ⊢
    have HV1 := Lib.hid hv1
    have HB2 := Lib.hid hb2
    have HR2 := Lib.hid hr2
    have HG2 := Lib.hid (grown_trans HGW.out hg2)
    have hw1 : IntKind.i64.wrap ((v1 : Int) * 3600) = (v1 : Int) * 3600 := IntWalk.i64_in _ (by omega)
    have hS : _ ∧ _ ∧ _ ∧ _ := And.intro ((grown_cell hg2 hHeld.2.2.2 hne 0).trans hHeld.1) (And.intro ((grown_cell hg2 hHeld.2.2.2 hne 1).trans hHeld.2.1) (And.intro ((grown_cell hg2 hHeld.2.2.2 hne 2).trans hHeld.2.2.1) (Nat.lt_of_lt_of_le hHeld.2.2.2 hg2.size)))
    clear hv1 hb2 hr2 hg2 HRW HGW hHeld
    refine hK.out _ _ hS (fun hHeld => ?_)
    clear hK K
    try simp only [Act.put, List.setIfInBounds_toArray, List.set_cons_zero, List.set_cons_succ, List.getElem_toArray, List.getElem_cons_zero, List.getElem_cons_succ]
    clear hS
    refine wpAnyH_take (i := 5) (v := .int .i64 ((v1 : Int) * 3600)) rfl (by kernel_rfl) (by kernel_rfl) (by kernel_rfl) (fun _ _ _ h => h) (Or.inl ⟨by rfl, fun w0 hC => by simp [execOp, Act.eval, Act.put, go_sem, hw1]⟩) hHeld ?_
    try simp only [Act.put, List.setIfInBounds_toArray, List.set_cons_zero, List.set_cons_succ, List.getElem_toArray, List.getElem_cons_zero, List.getElem_cons_succ]
    clear hw1
    refine wpAnyH_ready (rs := [10]) (by kernel_rfl) (by simp) (AllReadyH.cons rfl (fun K hK => ?_) AllReadyH.nil)
    rw [if_pos (by rfl)]
    go_wp2_with fail
    refine (two_any g (strOf p1) 60 b2 W2 HR2.out hz1 (by omega)).mono ?_
    rintro e W3 ⟨rfl, hr3, hg3⟩
    rw [HN1.out] at hr3 ⊢
    obtain ⟨v2, hv2⟩ : ∃ v, readV b2 p1 2 2 = v := ⟨_, rfl⟩
    obtain ⟨b3, hb3⟩ : ∃ q, (b2 || !twoOk p1 60) = q := ⟨_, rfl⟩
    have hl2 := readV_bd b2 p1 2 2
    rw [hb3] at hr3
    rw [hv2] at hl2 ⊢
    have HV2 := Lib.hid hv2
    have HB3 := Lib.hid hb3
    have HR3 := Lib.hid hr3
    have HG3 := Lib.hid (grown_trans HG2.out hg3)
    have hw2 : IntKind.i64.wrap ((v2 : Int) * 60) = (v2 : Int) * 60 := IntWalk.i64_in _ (by omega)
    have hw3 : IntKind.i64.wrap ((v1 : Int) * 3600 + v2 * 60) = (v1 : Int) * 3600 + v2 * 60 := IntWalk.i64_in _ (by omega)
    have hS : _ ∧ _ ∧ _ ∧ _ := And.intro ((grown_cell hg3 hHeld.2.2.2 hne 0).trans hHeld.1) (And.intro ((grown_cell hg3 hHeld.2.2.2 hne 1).trans hHeld.2.1) (And.intro ((grown_cell hg3 hHeld.2.2.2 hne 2).trans hHeld.2.2.1) (Nat.lt_of_lt_of_le hHeld.2.2.2 hg3.size)))
    clear hv2 hb3 hr3 hg3 HR2 HG2 hHeld
    refine hK.out _ _ hS (fun hHeld => ?_)
    clear hK K
    try simp only [Act.put, List.setIfInBounds_toArray, List.set_cons_zero, List.set_cons_succ, List.getElem_toArray, List.getElem_cons_zero, List.getElem_cons_succ]
    clear hS
    refine wpAnyH_take (i := 11) (v := .int .i64 ((v2 : Int) * 60)) rfl (by kernel_rfl) (by kernel_rfl) (by kernel_rfl) (fun _ _ _ h => h) (Or.inl ⟨by rfl, fun w0 hC => by simp [execOp, Act.eval, Act.put, go_sem, hw2]⟩) hHeld ?_
    try simp only [Act.put, List.setIfInBounds_toArray, List.set_cons_zero, List.set_cons_succ, List.getElem_toArray, List.getElem_cons_zero, List.getElem_cons_succ]
    refine wpAnyH_take (i := 12) (v := .int .i64 ((v1 : Int) * 3600 + v2 * 60)) rfl (by kernel_rfl) (by kernel_rfl) (by kernel_rfl) (fun _ _ _ h => h) (Or.inl ⟨by rfl, fun w0 hC => by simp [execOp, Act.eval, Act.put, go_sem, hw3]⟩) hHeld ?_
    try simp only [Act.put, List.setIfInBounds_toArray, List.set_cons_zero, List.set_cons_succ, List.getElem_toArray, List.getElem_cons_zero, List.getElem_cons_succ]
    clear hw2 hw3
    refine wpAnyH_ready (rs := [17]) (by kernel_rfl) (by simp) (AllReadyH.cons rfl (fun K hK => ?_) AllReadyH.nil)
    rw [if_pos (by rfl)]
    go_wp2_with fail
    refine (two_any g (strOf p2) 60 b3 W3 HR3.out hz2 (by omega)).mono ?_
    rintro e W4 ⟨rfl, hr4, hg4⟩
    rw [HN2.out] at hr4 ⊢
    obtain ⟨v3, hv3⟩ : ∃ v, readV b3 p2 2 2 = v := ⟨_, rfl⟩
    obtain ⟨b4, hb4⟩ : ∃ q, (b3 || !twoOk p2 60) = q := ⟨_, rfl⟩
    have hl3 := readV_bd b3 p2 2 2
    rw [hb4] at hr4
    rw [hv3] at hl3 ⊢
    have HV3 := Lib.hid hv3
    have HB4 := Lib.hid hb4
    have HR4 := Lib.hid hr4
    have HG4 := Lib.hid (grown_trans HG3.out hg4)
    have hw4 : IntKind.i64.wrap ((v1 : Int) * 3600 + v2 * 60 + v3) = (v1 : Int) * 3600 + v2 * 60 + v3 := IntWalk.i64_in _ (by omega)
    have hS : _ ∧ _ ∧ _ ∧ _ := And.intro ((grown_cell hg4 hHeld.2.2.2 hne 0).trans hHeld.1) (And.intro ((grown_cell hg4 hHeld.2.2.2 hne 1).trans hHeld.2.1) (And.intro ((grown_cell hg4 hHeld.2.2.2 hne 2).trans hHeld.2.2.1) (Nat.lt_of_lt_of_le hHeld.2.2.2 hg4.size)))
    clear hv3 hb4 hr4 hg4 HR3 HG3 hHeld
    refine hK.out _ _ hS (fun hHeld => ?_)
    clear hK K
    try simp only [Act.put, List.setIfInBounds_toArray, List.set_cons_zero, List.set_cons_succ, List.getElem_toArray, List.getElem_cons_zero, List.getElem_cons_succ]
    clear hS
    refine wpAnyH_take (i := 18) (v := .int .i64 ((v1 : Int) * 3600 + v2 * 60 + v3)) rfl (by kernel_rfl) (by kernel_rfl) (by kernel_rfl) (fun _ _ _ h => h) (Or.inl ⟨by rfl, fun w0 hC => by simp [execOp, Act.eval, Act.put, go_sem, hw4]⟩) hHeld ?_
    try simp only [Act.put, List.setIfInBounds_toArray, List.set_cons_zero, List.set_cons_succ, List.getElem_toArray, List.getElem_cons_zero, List.getElem_cons_succ]
    refine wpAnyH_take (i := 19) (v := .int .i64 ((v1 : Int) * 3600 + v2 * 60 + v3)) rfl (by kernel_rfl) (by kernel_rfl) (by kernel_rfl) (fun _ _ _ h => h) (Or.inl ⟨by rfl, fun w0 hC => by simp [execOp, Act.eval, Act.put, go_sem]⟩) hHeld ?_
    try simp only [Act.put, List.setIfInBounds_toArray, List.set_cons_zero, List.set_cons_succ, List.getElem_toArray, List.getElem_cons_zero, List.getElem_cons_succ]
    clear hw4
    refine wpAnyH_done (by kernel_rfl) ?_ _
    have hfl := clk_flags b p0 p1 p2
    rw [HB2.out, HB3.out, HB4.out, HV1.out, HV2.out, HV3.out] at hfl
    have HFL := Lib.hid hfl
    clear hfl
    go_wp2_with fail
    go_ret
    refine ⟨_, ⟨?_, ?_, fun hh => ?_⟩, rfl, by rw [HFL.out.1]; exact HR4.out, HG4.out⟩
    · omega
    · omega
    · rw [HFL.out.1] at hh
      obtain ⟨e1, e2, e3⟩ := HFL.out.2 hh
      show _ = ((valN p0 * 3600 + valN p1 * 60 + valN p2 : Nat) : Int)
      rw [← e1, ← e2, ← e3]
      omega

  · have HL : Hid (clkOk true L = false) := Lib.hid (by
      match L, h2, h3 with
      | [], _, _ => rfl
      | [_], _, _ => rfl
      | [_, _], h2, _ => exact absurd rfl h2
      | [_, _, _], _, h3 => exact absurd rfl h3
      | _ :: _ :: _ :: _ :: _, _, _ => rfl)
    obtain ⟨n, hn⟩ : ∃ n, L.length = n := ⟨_, rfl⟩
    rw [hn] at hsp
    have hnb : n ≤ 4294967296 := by rw [← hn]; exact hnl
    have f2 : ((n : Int) == 2) = false := by simp; omega
    have f3 : ((n : Int) != 3) = true := by simp; omega
    clear h2 h3 hn hlt hln
    go_enter Tryd.func25, Tryd.ntmps25
    go_wp2_with fail
    refine hsp.mono ?_
    rintro e wx ⟨rfl, hbel, hst, hsz, L2, hw1, hL2⟩
    have hr1 := HH.out.below hbel hgw
    have hcell := hr1.cell
    have hfrz := hr1.frz
    have HPUT := Lib.hid (hr1.put true)
    have HGX := Lib.hid (hbw_grown hbel hgw)
    clear hbel hst hsz hw1 hL2 hr1 hsp
    go_wp2_with fail
    go_ret
    refine ⟨0, ⟨by omega, by omega, fun hh => ?_⟩, rfl, ?_, grown_trans HGX.out (grownBy_setCell _ _ _ _)⟩
    · rw [HL.out] at hh; cases b <;> cases hh
    · rw [HL.out, show (b || !false) = true by cases b <;> rfl]; exact HPUT.out
end Go.Proofs.YtnhafpgeinghnaaDoor
