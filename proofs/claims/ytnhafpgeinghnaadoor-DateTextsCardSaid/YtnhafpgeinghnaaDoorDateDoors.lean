/-
  Contracts over package date: a short date's day, a mail date's day.
-/
import Derived.Test.YtnhafpgeinghnaaDoorDateRes
namespace Go.Proofs.YtnhafpgeinghnaaDoor
open Go.RowKit
set_option linter.unusedVariables false
set_option linter.unusedSimpArgs false

def threeR : List (List Nat) → Int × Int
  | [a, b, c] => if ymdOk a b c = true ∧ 0 ≤ ymdV a b c then (ymdV a b c, 0) else (0, 3)
  | _ => (0, 3)
def shortR (l : List Nat) : Int × Int := threeR (splitL 45 l)
theorem three_cases {α : Type} (l : List α) : (∃ a b c, l = [a, b, c]) ∨ l.length ≠ 3 := by
  match l with
  | [] => exact .inr (by simp)
  | [_] => exact .inr (by simp)
  | [_, _] => exact .inr (by simp)
  | [a, b, c] => exact .inl ⟨a, b, c, rfl⟩
  | _ :: _ :: _ :: _ :: _ => exact .inr (by simp)
theorem threeR_no {l : List (List Nat)} (h : l.length ≠ 3) : threeR l = (0, 3) := by
  match l, h with
  | [], _ => rfl
  | [_], _ => rfl
  | [_, _], _ => rfl
  | [_, _, _], h => exact absurd rfl h
  | _ :: _ :: _ :: _ :: _, _ => rfl

set_option maxRecDepth 20000 in
set_option maxHeartbeats 4000000 in
theorem short_any (s : ByteArray) (hs : s.size < 4294967281) (w : World) (hM : Mon w) :
    Calls Tryd.prog 10 #[.string s] w fun e w' => e = .returned (resP (shortR (nats s))) ∧ Below w.heap.size w w' := by
  have hsp := splitN4_any s hs 45 w
  rw [show (45 : UInt8).toNat = 45 from rfl] at hsp
  have hlt := splitL_lt (c := 45) (nats_lt s)
  have hln := splitL_len (c := 45) (l := nats s)
  rw [nats_length] at hln
  have HR : Hid (shortR (nats s) = threeR (splitL 45 (nats s))) := Lib.hid rfl
  obtain ⟨L, hL⟩ : ∃ L, splitL 45 (nats s) = L := ⟨_, rfl⟩
  rw [hL] at hsp hlt hln HR
  have HM := Lib.hid hM
  have hw0 := hM.lt
  clear hL hM
  rcases three_cases L with ⟨p0, p1, p2, rfl⟩ | h3
  · have HN0 := Lib.hid (nats_strOf p0 (hlt p0 (by simp)))
    have HN1 := Lib.hid (nats_strOf p1 (hlt p1 (by simp)))
    have HN2 := Lib.hid (nats_strOf p2 (hlt p2 (by simp)))
    have hz0 : (strOf p0).size ≤ 4294967296 := size_small (Nat.le_trans (hln p0 (by simp)) (by omega))
    have hz1 : (strOf p1).size ≤ 4294967296 := size_small (Nat.le_trans (hln p1 (by simp)) (by omega))
    have hz2 : (strOf p2).size ≤ 4294967296 := size_small (Nat.le_trans (hln p2 (by simp)) (by omega))
    clear hlt hln
    go_enter Tryd.func10, Tryd.ntmps10
    go_wp2_with fail
    refine hsp.mono ?_
    rintro e w1 ⟨n, k, rfl, hnk, hn, hb1, hsz, hst⟩
    obtain rfl : n = 3 := by rw [hn]; rfl
    have hst3 := hst (by omega)
    have hc0 := hst3 0 p0 rfl
    have hc1 := hst3 1 p1 rfl
    have hc2 := hst3 2 p2 rfl
    simp only [Nat.zero_add] at hc0 hc1 hc2
    obtain ⟨bp, hbp⟩ : ∃ bp, w.heap.size = bp := ⟨_, rfl⟩
    have hbx : bp < w1.heap.size := by omega
    rw [hbp] at hc0 hc1 hc2 ⊢
    have HB1 := Lib.hid hb1
    have HM1 := Lib.hid (HM.out.below hb1)
    have hw1 : 0 < w1.heap.size := by omega
    have HBP := Lib.hid hbp
    have hc0' : (w1.alloc (.cells #[.bool false] 39)).cell? ⟨bp, 0, none⟩ = some (.string (strOf p0)) := (World.cell?_alloc_old _ _ _ (by simp; omega)).trans hc0
    have hc1' : (w1.alloc (.cells #[.bool false] 39)).cell? ⟨bp, 1, none⟩ = some (.string (strOf p1)) := (World.cell?_alloc_old _ _ _ (by simp; omega)).trans hc1
    have hc2' : (w1.alloc (.cells #[.bool false] 39)).cell? ⟨bp, 2, none⟩ = some (.string (strOf p2)) := (World.cell?_alloc_old _ _ _ (by simp; omega)).trans hc2
    have HC := Lib.hid (And.intro hc0' (And.intro hc1' hc2'))
    clear hsp hn hb1 hsz hst hst3 hc0 hc1 hc2 hbp hc0' hc1' hc2'
    go_wp2_with fail
    have hm : Tryd.prog.follows .mixedOrders = true := by kernel_rfl
    have HR0 := Lib.hid (Rd.new w1 hw1)
    have hbel0 : Below w1.heap.size w1 (w1.alloc (.cells #[.bool false] 39)) := (Below.refl _ _).alloc (Nat.le_refl _) _
    have HM0 := Lib.hid (HM1.out.below hbel0)
    have HB0 := Lib.hid (HB1.out.trans (hbel0.mono (by have := HB1.out.size; omega)))
    obtain ⟨g, hg⟩ : ∃ g, w1.heap.size = g := ⟨_, rfl⟩
    rw [hg] at HR0 hbel0
    generalize hWW : w1.alloc (.cells #[.bool false] 39) = WA at *
    have hgbp : bp < g := by omega
    have hbg : bp ≠ g := by omega
    have hbA : bp < WA.heap.size := by have := hbel0.size; omega
    rw [hg]
    clear hbel0 hWW HM1 HB1 hbx hg
    refine wp_region_held_drew (S := fun W' => W'.cell? ⟨bp, 0, none⟩ = some (.string (strOf p0)) ∧ W'.cell? ⟨bp, 1, none⟩ = some (.string (strOf p1)) ∧ W'.cell? ⟨bp, 2, none⟩ = some (.string (strOf p2))) hm HC.out (fun hHeld => ?_)
    have HRW := Lib.hid (HR0.out.below ((Below.refl WA.heap.size WA).drew) HR0.out.lt)
    have HMW := Lib.hid (HM0.out.below ((Below.refl WA.heap.size WA).drew))
    have HBW := Lib.hid (HB0.out.trans (((Below.refl WA.heap.size WA).drew).mono HB0.out.size))
    clear HC HR0 HM0 HB0
    generalize WA.drew = W at *
    simp only [List.size_toArray, List.length_cons, List.length_nil, Nat.reduceAdd]
    refine wpAnyH_take (i := 0) (v := .slice (some ⟨bp, 0, none⟩) 3 k) rfl (by kernel_rfl) (by kernel_rfl) (by kernel_rfl) (fun _ _ _ h => h) (Or.inl ⟨by rfl, fun w0 hC => by simp [execOp, Act.eval, Act.put, go_sem]⟩) hHeld ?_
    try simp only [Act.put, List.setIfInBounds_toArray, List.set_cons_zero, List.set_cons_succ, List.getElem_toArray, List.getElem_cons_zero, List.getElem_cons_succ]
    refine wpAnyH_take (i := 1) (v := .pointer (some ⟨bp, 0, none⟩)) rfl (by kernel_rfl) (by kernel_rfl) (by kernel_rfl) (fun _ _ _ h => h) (Or.inl ⟨by rfl, fun w0 hC => by simp [execOp, Act.eval, Act.put, go_sem]⟩) hHeld ?_
    try simp only [Act.put, List.setIfInBounds_toArray, List.set_cons_zero, List.set_cons_succ, List.getElem_toArray, List.getElem_cons_zero, List.getElem_cons_succ]
    refine wpAnyH_take (i := 2) (v := .string (strOf p0)) rfl (by kernel_rfl) (by kernel_rfl) (by kernel_rfl) (fun _ _ _ h => h) (Or.inl ⟨by rfl, fun w0 hC => by simp [execOp, Act.eval, Act.put, go_sem, hC.1]⟩) hHeld ?_
    try simp only [Act.put, List.setIfInBounds_toArray, List.set_cons_zero, List.set_cons_succ, List.getElem_toArray, List.getElem_cons_zero, List.getElem_cons_succ]
    refine wpAnyH_take (i := 3) (v := .slice (some ⟨bp, 0, none⟩) 3 k) rfl (by kernel_rfl) (by kernel_rfl) (by kernel_rfl) (fun _ _ _ h => h) (Or.inl ⟨by rfl, fun w0 hC => by simp [execOp, Act.eval, Act.put, go_sem]⟩) hHeld ?_
    try simp only [Act.put, List.setIfInBounds_toArray, List.set_cons_zero, List.set_cons_succ, List.getElem_toArray, List.getElem_cons_zero, List.getElem_cons_succ]
    refine wpAnyH_take (i := 4) (v := .pointer (some ⟨bp, 1, none⟩)) rfl (by kernel_rfl) (by kernel_rfl) (by kernel_rfl) (fun _ _ _ h => h) (Or.inl ⟨by rfl, fun w0 hC => by simp [execOp, Act.eval, Act.put, go_sem]⟩) hHeld ?_
    try simp only [Act.put, List.setIfInBounds_toArray, List.set_cons_zero, List.set_cons_succ, List.getElem_toArray, List.getElem_cons_zero, List.getElem_cons_succ]
    refine wpAnyH_take (i := 5) (v := .string (strOf p1)) rfl (by kernel_rfl) (by kernel_rfl) (by kernel_rfl) (fun _ _ _ h => h) (Or.inl ⟨by rfl, fun w0 hC => by simp [execOp, Act.eval, Act.put, go_sem, hC.2.1]⟩) hHeld ?_
    try simp only [Act.put, List.setIfInBounds_toArray, List.set_cons_zero, List.set_cons_succ, List.getElem_toArray, List.getElem_cons_zero, List.getElem_cons_succ]
    refine wpAnyH_take (i := 6) (v := .slice (some ⟨bp, 0, none⟩) 3 k) rfl (by kernel_rfl) (by kernel_rfl) (by kernel_rfl) (fun _ _ _ h => h) (Or.inl ⟨by rfl, fun w0 hC => by simp [execOp, Act.eval, Act.put, go_sem]⟩) hHeld ?_
    try simp only [Act.put, List.setIfInBounds_toArray, List.set_cons_zero, List.set_cons_succ, List.getElem_toArray, List.getElem_cons_zero, List.getElem_cons_succ]
    refine wpAnyH_take (i := 7) (v := .pointer (some ⟨bp, 2, none⟩)) rfl (by kernel_rfl) (by kernel_rfl) (by kernel_rfl) (fun _ _ _ h => h) (Or.inl ⟨by rfl, fun w0 hC => by simp [execOp, Act.eval, Act.put, go_sem]⟩) hHeld ?_
    try simp only [Act.put, List.setIfInBounds_toArray, List.set_cons_zero, List.set_cons_succ, List.getElem_toArray, List.getElem_cons_zero, List.getElem_cons_succ]
    refine wpAnyH_take (i := 8) (v := .string (strOf p2)) rfl (by kernel_rfl) (by kernel_rfl) (by kernel_rfl) (fun _ _ _ h => h) (Or.inl ⟨by rfl, fun w0 hC => by simp [execOp, Act.eval, Act.put, go_sem, hC.2.2]⟩) hHeld ?_
    try simp only [Act.put, List.setIfInBounds_toArray, List.set_cons_zero, List.set_cons_succ, List.getElem_toArray, List.getElem_cons_zero, List.getElem_cons_succ]
    refine wpAnyH_ready (rs := [9]) (by kernel_rfl) (by simp) (AllReadyH.cons rfl (fun K hK => ?_) AllReadyH.nil)
    rw [if_pos (by rfl)]
    go_wp2_with fail
    refine (day_any3 g (strOf p0) (strOf p1) (strOf p2) false W HRW.out hz0 hz1 hz2 HMW.out).mono ?_
    rintro e W2 ⟨rfl, hr2, hg2⟩
    rw [HN0.out, HN1.out, HN2.out, Bool.false_or] at hr2
    rw [HN0.out, HN1.out, HN2.out]
    obtain ⟨z, hz⟩ : ∃ z, dayR false p0 p1 p2 = z := ⟨_, rfl⟩
    have hzb := dayR_bd false p0 p1 p2
    rw [hz] at hzb ⊢
    have HZ := Lib.hid hz
    have hbW : Below w.heap.size w W2 := ⟨hg2.os.trans HBW.out.os, hg2.tape.trans HBW.out.tape, hg2.output.trans HBW.out.output, Nat.le_trans HBW.out.size hg2.size, fun j hj =>
      (hg2.block j (Nat.lt_of_lt_of_le hj HBW.out.size) (fun e => by injection e with e; have := HBP.out; omega)).trans (HBW.out.block j hj)⟩
    have HB2 := Lib.hid hbW
    have hcell := hr2.cell
    have hS : _ ∧ _ ∧ _ := And.intro ((grown_cell hg2 (World.block_lt_of_cell? _ _ hHeld.1) hbg 0).trans hHeld.1) (And.intro ((grown_cell hg2 (World.block_lt_of_cell? _ _ hHeld.1) hbg 1).trans hHeld.2.1) ((grown_cell hg2 (World.block_lt_of_cell? _ _ hHeld.1) hbg 2).trans hHeld.2.2))
    clear hz hr2 hg2 hbW HRW HMW HBW hHeld
    refine hK.out _ _ hS (fun hHeld => ?_)
    clear hK K
    try simp only [Act.put, List.setIfInBounds_toArray, List.set_cons_zero, List.set_cons_succ, List.getElem_toArray, List.getElem_cons_zero, List.getElem_cons_succ]
    clear hS
    refine wpAnyH_take (i := 10) (v := .int .i64 z) rfl (by kernel_rfl) (by kernel_rfl) (by kernel_rfl) (fun _ _ _ h => h) (Or.inl ⟨by rfl, fun w0 hC => by simp [execOp, Act.eval, Act.put, go_sem]⟩) hHeld ?_
    try simp only [Act.put, List.setIfInBounds_toArray, List.set_cons_zero, List.set_cons_succ, List.getElem_toArray, List.getElem_cons_zero, List.getElem_cons_succ]
    refine wpAnyH_done (by kernel_rfl) ?_ _
    clear hHeld
    have HT : Hid (threeR [p0, p1, p2] = if ymdOk p0 p1 p2 = true ∧ 0 ≤ ymdV p0 p1 p2 then (ymdV p0 p1 p2, 0) else (0, 3)) := Lib.hid rfl
    cases hok : ymdOk p0 p1 p2
    · rw [hok] at hcell
      have HOK := Lib.hid hok
      clear hok
      go_wp2_with fail
      go_ret2
      exact ⟨by rw [HR.out, HT.out, if_neg (fun h => by rw [HOK.out] at h; exact Bool.false_ne_true h.1)] <;> rfl, HB2.out⟩
    · rw [hok] at hcell
      have hv : z = ymdV p0 p1 p2 := by
        rw [← HZ.out]
        unfold dayR
        rw [hok]; rfl
      have HOK := Lib.hid hok
      have HV := Lib.hid hv
      clear hok hv
      by_cases h0 : z < 0
      · go_wp2_with fail
        go_ret2
        exact ⟨by rw [HR.out, HT.out, ← HV.out, if_neg (fun h => by omega)] <;> rfl, HB2.out⟩
      · have h0' : 0 ≤ z := by omega
        go_wp2_with fail
        go_ret2
        exact ⟨by rw [HR.out, HT.out, ← HV.out, if_pos ⟨HOK.out, h0'⟩] <;> rfl, HB2.out⟩
  · have HT := Lib.hid (threeR_no h3)
    clear hlt hln
    go_enter Tryd.func10, Tryd.ntmps10
    go_wp2_with fail
    refine hsp.mono ?_
    rintro e w1 ⟨n, k, rfl, hnk, hn, hb1, hsz, hst⟩
    have f3 : ((n : Int) != 3) = true := by simp; omega
    have hn4 : n ≤ 4 := by omega
    have HB1 := Lib.hid hb1
    clear hsp hn hb1 hsz hst h3
    go_wp2_with fail
    go_ret2
    exact ⟨by rw [HR.out, HT.out] <;> rfl, HB1.out⟩

/-! a mail date -/
def mailR (l : List Nat) : Int × Int := if 200 < l.length then (0, 3) else if mailOk (wordsL l) = true then (if mailV (wordsL l) < 0 then (0, 15) else (mailV (wordsL l), 0)) else (0, 3)
theorem wordsGo_sum : ∀ (l cur : List Nat), ((wordsGo cur l).map List.length).sum + (wordsGo cur l).length ≤ cur.length + l.length + 1
  | [], cur => by
    unfold wordsGo
    split
    · simp
    · simp
  | x :: l, cur => by
    unfold wordsGo
    split
    · split
      · have := wordsGo_sum l []
        simp only [List.length_cons, List.length_nil] at this ⊢
        omega
      · have := wordsGo_sum l []
        simp only [List.map_cons, List.sum_cons, List.length_cons, List.length_nil] at this ⊢
        omega
    · have := wordsGo_sum l (cur ++ [x])
      simp only [List.length_append, List.length_cons, List.length_nil] at this ⊢
      omega
theorem wordsL_len {l : List Nat} : (∀ p ∈ wordsL l, p.length ≤ l.length + 1) ∧ (wordsL l).length ≤ l.length + 1 := by
  have h := wordsGo_sum l []
  simp only [List.length_nil] at h
  refine ⟨fun p hp => ?_, ?_⟩
  · have hm : p.length ∈ (wordsGo [] l).map List.length := List.mem_map.2 ⟨p, hp, rfl⟩
    have := le_sum hm
    omega
  · show (wordsGo [] l).length ≤ _
    omega

set_option maxRecDepth 20000 in
set_option maxHeartbeats 4000000 in
theorem dmail_any (s : ByteArray) (hs : s.size ≤ 4294967280) (w : World) (hM : Mon w) :
    Calls Tryd.prog 12 #[.string s] w fun e w' => e = .returned (resP (mailR (nats s))) ∧ Below w.heap.size w w' := by
  have h64 : s.size ≤ 9223372036854775807 := by omega
  by_cases h200 : 200 < s.size
  · have HR : Hid (mailR (nats s) = (0, 3)) := Lib.hid (by unfold mailR; rw [if_pos (by rw [nats_length]; exact h200)])
    have h2 : (200 : Int) < (s.size : Int) := by omega
    go_enter Tryd.func12, Tryd.ntmps12
    go_wp2_with fail
    go_ret2
    exact ⟨by rw [HR.out] <;> rfl, Below.refl _ _⟩
  · have HR : Hid (mailR (nats s) = if mailOk (wordsL (nats s)) = true then (if mailV (wordsL (nats s)) < 0 then (0, 15) else (mailV (wordsL (nats s)), 0)) else (0, 3)) := Lib.hid (by unfold mailR; rw [if_neg (by rw [nats_length]; exact h200)])
    have h2 : ¬ (200 : Int) < (s.size : Int) := by omega
    have hlt := wordsL_lt (nats_lt s)
    have hln := (wordsL_len (l := nats s)).1
    have hnn := (wordsL_len (l := nats s)).2
    rw [nats_length] at hln hnn
    have hf := fields_any s (by omega) (w.alloc (.cells #[.bool false] 39))
    have hw0 := hM.lt
    have hr0 := Rd.new w hw0
    have hb0 : Below w.heap.size w (w.alloc (.cells #[.bool false] 39)) := (Below.refl _ _).alloc (Nat.le_refl _) _
    have hM0 := hM.below hb0
    have hsz0 : (w.alloc (.cells #[.bool false] 39)).heap.size = w.heap.size + 1 := by simp
    obtain ⟨ws, hws⟩ : ∃ ws, wordsL (nats s) = ws := ⟨_, rfl⟩
    rw [hws] at HR hlt hln hnn hf
    have HLT := Lib.hid (And.intro hlt hln)
    have HM0 := Lib.hid hM0
    have HR0 := Lib.hid hr0
    have HB0 := Lib.hid hb0
    have HSZ := Lib.hid hsz0
    clear hws hlt hln hM0 hr0 hM hb0 hsz0
    go_enter Tryd.func12, Tryd.ntmps12
    go_wp2_with fail
    refine hf.mono ?_
    rintro e w1 ⟨A, rfl, hA, hA1, hb1, hst⟩
    have HSZ' := HSZ.out
    have hbB := HB0.out.trans (hb1.mono (by omega))
    have hM1 := HM0.out.below hb1
    have hr1 := HR0.out.below hb1 (by omega)
    obtain ⟨g, hg⟩ : ∃ g, w.heap.size = g := ⟨_, rfl⟩
    rw [hg] at hr1
    rw [hg]
    have hne : A ≠ g := by omega
    have HB1 := Lib.hid hbB
    have HG := Lib.hid hg
    have cm := mail_any g A ws false w1 hr1 hst hA1 hne HLT.out.1 (fun p hp => by have := HLT.out.2 p hp; omega) hM1 (by omega)
    clear hf hb1 hst hM1 hr1 HSZ' hbB hg
    go_wp2_with fail
    refine cm.mono ?_
    rintro e w2 ⟨z, hz, rfl, hr2, hg2⟩
    rw [Bool.false_or] at hr2
    have hcell := hr2.cell
    have hb2 : Below w.heap.size w w2 := ⟨hg2.os.trans HB1.out.os, hg2.tape.trans HB1.out.tape, hg2.output.trans HB1.out.output, Nat.le_trans HB1.out.size hg2.size, fun j hj =>
      (hg2.block j (Nat.lt_of_lt_of_le hj HB1.out.size) (fun e => by injection e with e; have := HG.out; omega)).trans (HB1.out.block j hj)⟩
    have HB2 := Lib.hid hb2
    have hz0 := hz.1
    have hz1 := hz.2.1
    have HZ := Lib.hid hz.2.2
    clear cm hz hr2 hg2 hb2 HB1
    cases hok : mailOk ws
    · rw [hok] at hcell
      have HOK := Lib.hid hok
      clear hok
      go_wp2_with fail
      go_ret2
      exact ⟨by rw [HR.out, HOK.out] <;> rfl, HB2.out⟩
    · rw [hok] at hcell
      have hv : z = mailV ws := HZ.out (by rw [hok]; rfl)
      have HOK := Lib.hid hok
      have HV := Lib.hid hv
      clear hok hv
      by_cases h0 : z < 0
      · go_wp2_with fail
        go_ret2
        exact ⟨by rw [HR.out, HOK.out, if_pos rfl, ← HV.out, if_pos h0] <;> rfl, HB2.out⟩
      · have h0' : 0 ≤ z := by omega
        go_wp2_with fail
        go_ret2
        exact ⟨by rw [HR.out, HOK.out, if_pos rfl, ← HV.out, if_neg (by omega)] <;> rfl, HB2.out⟩
end Go.Proofs.YtnhafpgeinghnaaDoor
