/-
  Contracts over the document's own dates: a mail date.
-/
import Derived.Test.YtnhafpgeinghnaaDoorDateRefK
import Derived.Test.YtnhafpgeinghnaaDoorDateRefE
import Derived.Test.YtnhafpgeinghnaaDoorDateRefD
namespace Go.Proofs.YtnhafpgeinghnaaDoor
open Go.RowKit
set_option linter.unusedVariables false
set_option linter.unusedSimpArgs false

theorem OwnS.cap {w : World} {base : Nat} {A : Option Addr} {n c : Nat} {l : List (List Nat)} (h : OwnS w base A n c l) (hn : 0 < n) : n ≤ c := by
  rcases h.2 with ⟨_, h0⟩ | ⟨g, cap, cur, hv, hg, hh, hnc, hcm, hcs, htk⟩
  · omega
  · injection hv with hA _ hc
    subst hc
    exact hnc
def fiveX (a b c d e : List Nat) : Int × Int :=
  if ymdOk a b c = true ∧ clkOk true (splitL 58 d) = true ∧ zoneOk e = true then (if ymdV a b c < 0 then (0, 15) else (ymdV a b c, 0)) else (0, 3)
def restX : List (List Nat) → Int × Int
  | [a, b, c, d, e] => fiveX a b c d e
  | [a, b, c, d, e, f] => if encB' f = true then fiveX a b c d e else (0, 3)
  | _ => (0, 3)
def mailY : List (List Nat) → Int × Int
  | [] => (0, 3)
  | h :: t => if weekB h = true then restX t else restX (h :: t)
def mailX (l : List Nat) : Int × Int := if 200 < l.length then (0, 3) else mailY (wordsL l)
theorem fiveX_three {a b c d e : List Nat} {yz cz : Int} {yb zb : Bool} (hy : ymdOk a b c = yb) (hy' : yb = true → ymdV a b c = yz)
    (hc : clkOk true (splitL 58 d) = true ↔ 0 ≤ cz) (hz : zoneOk e = zb) :
    fiveX a b c d e = if yb = true ∧ 0 ≤ cz ∧ zb = true then (if yz < 0 then (0, 15) else (yz, 0)) else (0, 3) := by
  unfold fiveX
  rw [hy, hz]
  by_cases h : yb = true ∧ 0 ≤ cz ∧ zb = true
  · rw [if_pos h, if_pos ⟨h.1, hc.2 h.2.1, h.2.2⟩, hy' h.1]
  · rw [if_neg h, if_neg (fun h' => h ⟨h'.1, hc.1 h'.2.1, h'.2.2⟩)]
theorem restX_no {l : List (List Nat)} (h5 : l.length ≠ 5) (h6 : l.length ≠ 6) : restX l = (0, 3) := by
  match l, h5, h6 with
  | [], _, _ => rfl
  | [_], _, _ => rfl
  | [_, _], _, _ => rfl
  | [_, _, _], _, _ => rfl
  | [_, _, _, _], _, _ => rfl
  | [_, _, _, _, _], h5, _ => exact absurd rfl h5
  | [_, _, _, _, _, _], _, h6 => exact absurd rfl h6
  | _ :: _ :: _ :: _ :: _ :: _ :: _ :: _, _, _ => rfl
theorem encB_cases (f : List Nat) : (encB' f = true ∧ 2 ≤ f.length ∧ f.getD 0 0 = 40 ∧ f.getD (f.length - 1) 0 = 41) ∨ (encB' f = false ∧ (f.length < 2 ∨ (2 ≤ f.length ∧ f.getD 0 0 ≠ 40) ∨ (2 ≤ f.length ∧ f.getD 0 0 = 40 ∧ f.getD (f.length - 1) 0 ≠ 41))) := by
  unfold encB'
  match f with
  | [] => exact .inr ⟨rfl, .inl (by simp)⟩
  | [x] =>
    refine .inr ⟨?_, .inl (by simp)⟩
    simp only [List.head?_cons, List.getLast?_singleton, Option.some.injEq]
    by_cases h : x = 40
    · subst h; rfl
    · rw [decide_eq_false h]; rfl
  | x :: y :: r =>
    have hl : (x :: y :: r).getLast? = some ((x :: y :: r).getD ((x :: y :: r).length - 1) 0) := by
      rw [List.getLast?_eq_getElem?, List.getD_eq_getElem?_getD]
      rw [List.getElem?_eq_getElem (by simp)]
      rfl
    rw [hl]
    simp only [List.head?_cons, Option.some.injEq]
    generalize (x :: y :: r).getD ((x :: y :: r).length - 1) 0 = z
    have h2 : 2 ≤ (x :: y :: r).length := by simp
    have hx : (x :: y :: r).getD 0 0 = x := rfl
    rw [hx]
    by_cases h : x = 40
    · by_cases h' : z = 41
      · exact .inl ⟨by rw [decide_eq_true h, decide_eq_true h']; rfl, h2, h, h'⟩
      · exact .inr ⟨by rw [decide_eq_false h', Bool.and_false], .inr (.inr ⟨h2, h, h'⟩)⟩
    · exact .inr ⟨by rw [decide_eq_false h, Bool.false_and], .inr (.inl ⟨h2, h⟩)⟩

set_option maxRecDepth 20000 in
set_option maxHeartbeats 16000000 in
theorem x7mail_N5 (s : ByteArray) (p0 p1 p2 p3 p4 : List Nat) (hs : s.size ≤ 200) (w : World) (hws : wordsL (nats s) = [p0, p1, p2, p3, p4]) (hwk : weekB p0 = false) : Calls Tryd.prog 13 #[.string s] w fun e w' => e = .returned (resP (fiveX p0 p1 p2 p3 p4)) ∧ Below w.heap.size w w' := by
  have h2' : ¬ (200 : Int) < (s.size : Int) := by omega
  have csp := x7words_any s (by omega) w
  have hlt := wordsL_lt (nats_lt s)
  have hln := (wordsL_len (l := nats s)).1
  rw [nats_length] at hln
  rw [hws] at csp hlt hln
  clear hws
  have hz_p0 : (strOf p0).size ≤ 1000 := by rw [strOf_size]; have := hln p0 (by simp); omega
  have HN_p0 := Lib.hid (nats_strOf p0 (hlt p0 (by simp)))
  have hz_p1 : (strOf p1).size ≤ 1000 := by rw [strOf_size]; have := hln p1 (by simp); omega
  have HN_p1 := Lib.hid (nats_strOf p1 (hlt p1 (by simp)))
  have hz_p2 : (strOf p2).size ≤ 1000 := by rw [strOf_size]; have := hln p2 (by simp); omega
  have HN_p2 := Lib.hid (nats_strOf p2 (hlt p2 (by simp)))
  have hz_p3 : (strOf p3).size ≤ 1000 := by rw [strOf_size]; have := hln p3 (by simp); omega
  have HN_p3 := Lib.hid (nats_strOf p3 (hlt p3 (by simp)))
  have hz_p4 : (strOf p4).size ≤ 1000 := by rw [strOf_size]; have := hln p4 (by simp); omega
  have HN_p4 := Lib.hid (nats_strOf p4 (hlt p4 (by simp)))
  have cw := fun W => x7week_any (strOf p0) (by omega) W
  rw [HN_p0.out, hwk] at cw
  have cy := fun W => x7ymd_any (strOf p0) (strOf p1) (strOf p2) (by omega) (by omega) (by omega) W
  rw [HN_p0.out, HN_p1.out, HN_p2.out] at cy
  have cc := fun W => x7clock_any (strOf p3) true (by omega) W
  rw [HN_p3.out] at cc
  have cz := fun W => x7zone_any (strOf p4) (by omega) W
  rw [HN_p4.out] at cz
  obtain ⟨yz, yb, cy0, hyb, hy1, hy2, hyv⟩ := ymdR_three p0 p1 p2
  obtain ⟨zz, zb, cz0, hzb, hz1', hz2', hzv⟩ := zoneT_three p4
  obtain ⟨c, cc0, hc1', hc2', hcb, hcv⟩ := clkI_three true (splitL 58 p3)
  have HT : Hid (fiveX p0 p1 p2 p3 p4 = _) := Lib.hid (fiveX_three hyb hyv hcb hzb)
  rw [cy0] at cy
  rw [cz0] at cz
  rw [cc0] at cc
  have hm : Tryd.prog.follows .mixedOrders = true := by kernel_rfl
  clear hyb hzb hcb hcv hyv hzv cy0 cz0 cc0 hlt hln
  go_enter Tryd.func13, Tryd.ntmps13
  go_wp2_with fail
  refine csp.mono ?_
  rintro e w1 ⟨A, n, k, rfl, hown, hb⟩
  obtain rfl : n = 5 := by have := hown.len; simpa using this.symm
  obtain ⟨g, rfl, hg1, hg2, hst, hfz, hput⟩ := hown.at_ (by omega)
  have HB := Lib.hid hb
  have hcap : 5 ≤ k := hown.cap (by omega)
  have hc0 := hst 0 p0 rfl
  have hc1 := hst 1 p1 rfl
  have hc2 := hst 2 p2 rfl
  have hc3 := hst 3 p3 rfl
  have hc4 := hst 4 p4 rfl
  simp only [Nat.zero_add] at hc0 hc1 hc2 hc3 hc4
  clear hown hb csp hst hfz hput
  go_wp2_with (go_at_call 36; with_reducible refine (cw _).mono ?_; rintro e w2 ⟨rfl, rfl⟩)
  go_quiet (fail)
  go_wp2_with fail
  have hgx : g < (w1.drewN nq).heap.size := hg2
  have HBX : Hid (Below w.heap.size w (w1.drewN nq)) := Lib.hid (below_drewN HB.out nq)
  have HD : Hid ((w1.drewN nq).cell? ⟨g, 0, none⟩ = some (.string (strOf p0)) ∧ (w1.drewN nq).cell? ⟨g, 1, none⟩ = some (.string (strOf p1)) ∧ (w1.drewN nq).cell? ⟨g, 2, none⟩ = some (.string (strOf p2)) ∧ (w1.drewN nq).cell? ⟨g, 3, none⟩ = some (.string (strOf p3)) ∧ (w1.drewN nq).cell? ⟨g, 4, none⟩ = some (.string (strOf p4))) := Lib.hid ⟨hc0, hc1, hc2, hc3, hc4⟩
  clear HB hc0 hc1 hc2 hc3 hc4 hg2
  obtain ⟨wx, hwx⟩ : ∃ wx, w1.drewN nq = wx := ⟨_, rfl⟩
  rw [hwx] at HBX hgx ⊢
  rw [hwx] at HD
  clear hwx
  refine wp_region_held_drew (S := fun W' => W'.cell? ⟨g, 0, none⟩ = some (.string (strOf p0)) ∧ W'.cell? ⟨g, 1, none⟩ = some (.string (strOf p1)) ∧ W'.cell? ⟨g, 2, none⟩ = some (.string (strOf p2)) ∧ W'.cell? ⟨g, 3, none⟩ = some (.string (strOf p3)) ∧ W'.cell? ⟨g, 4, none⟩ = some (.string (strOf p4))) hm HD.out (fun hHeld => ?_)
  have hgw : g < wx.drew.heap.size := hgx
  have HBW := Lib.hid (HBX.out.trans ((Below.refl wx.heap.size wx).drew.mono HBX.out.size))
  clear HBX HD hgx
  generalize wx.drew = W at *
  simp only [List.size_toArray, List.length_cons, List.length_nil, Nat.reduceAdd]
  refine wpAnyH_take (i := 0) (v := .slice (some ⟨g, 0, none⟩) 5 k) rfl (by kernel_rfl) (by kernel_rfl) (by kernel_rfl) (fun _ _ _ h => h) (Or.inl ⟨by rfl, fun w0 hC => by simp [execOp, Act.eval, Act.put, go_sem]⟩) hHeld ?_
  try simp only [Act.put, List.setIfInBounds_toArray, List.set_cons_zero, List.set_cons_succ, List.getElem_toArray, List.getElem_cons_zero, List.getElem_cons_succ]
  refine wpAnyH_take (i := 1) (v := .pointer (some ⟨g, 0, none⟩)) rfl (by kernel_rfl) (by kernel_rfl) (by kernel_rfl) (fun _ _ _ h => h) (Or.inl ⟨by rfl, fun w0 hC => by simp [execOp, Act.eval, Act.put, go_sem]⟩) hHeld ?_
  try simp only [Act.put, List.setIfInBounds_toArray, List.set_cons_zero, List.set_cons_succ, List.getElem_toArray, List.getElem_cons_zero, List.getElem_cons_succ]
  refine wpAnyH_take (i := 2) (v := .string (strOf p0)) rfl (by kernel_rfl) (by kernel_rfl) (by kernel_rfl) (fun _ _ _ h => h) (Or.inl ⟨by rfl, fun w0 hC => by simp [execOp, Act.eval, Act.put, go_sem, hC.1]⟩) hHeld ?_
  try simp only [Act.put, List.setIfInBounds_toArray, List.set_cons_zero, List.set_cons_succ, List.getElem_toArray, List.getElem_cons_zero, List.getElem_cons_succ]
  refine wpAnyH_take (i := 3) (v := .slice (some ⟨g, 0, none⟩) 5 k) rfl (by kernel_rfl) (by kernel_rfl) (by kernel_rfl) (fun _ _ _ h => h) (Or.inl ⟨by rfl, fun w0 hC => by simp [execOp, Act.eval, Act.put, go_sem]⟩) hHeld ?_
  try simp only [Act.put, List.setIfInBounds_toArray, List.set_cons_zero, List.set_cons_succ, List.getElem_toArray, List.getElem_cons_zero, List.getElem_cons_succ]
  refine wpAnyH_take (i := 4) (v := .pointer (some ⟨g, 1, none⟩)) rfl (by kernel_rfl) (by kernel_rfl) (by kernel_rfl) (fun _ _ _ h => h) (Or.inl ⟨by rfl, fun w0 hC => by simp [execOp, Act.eval, Act.put, go_sem]⟩) hHeld ?_
  try simp only [Act.put, List.setIfInBounds_toArray, List.set_cons_zero, List.set_cons_succ, List.getElem_toArray, List.getElem_cons_zero, List.getElem_cons_succ]
  refine wpAnyH_take (i := 5) (v := .string (strOf p1)) rfl (by kernel_rfl) (by kernel_rfl) (by kernel_rfl) (fun _ _ _ h => h) (Or.inl ⟨by rfl, fun w0 hC => by simp [execOp, Act.eval, Act.put, go_sem, hC.2.1]⟩) hHeld ?_
  try simp only [Act.put, List.setIfInBounds_toArray, List.set_cons_zero, List.set_cons_succ, List.getElem_toArray, List.getElem_cons_zero, List.getElem_cons_succ]
  refine wpAnyH_take (i := 6) (v := .slice (some ⟨g, 0, none⟩) 5 k) rfl (by kernel_rfl) (by kernel_rfl) (by kernel_rfl) (fun _ _ _ h => h) (Or.inl ⟨by rfl, fun w0 hC => by simp [execOp, Act.eval, Act.put, go_sem]⟩) hHeld ?_
  try simp only [Act.put, List.setIfInBounds_toArray, List.set_cons_zero, List.set_cons_succ, List.getElem_toArray, List.getElem_cons_zero, List.getElem_cons_succ]
  refine wpAnyH_take (i := 7) (v := .pointer (some ⟨g, 2, none⟩)) rfl (by kernel_rfl) (by kernel_rfl) (by kernel_rfl) (fun _ _ _ h => h) (Or.inl ⟨by rfl, fun w0 hC => by simp [execOp, Act.eval, Act.put, go_sem]⟩) hHeld ?_
  try simp only [Act.put, List.setIfInBounds_toArray, List.set_cons_zero, List.set_cons_succ, List.getElem_toArray, List.getElem_cons_zero, List.getElem_cons_succ]
  refine wpAnyH_take (i := 8) (v := .string (strOf p2)) rfl (by kernel_rfl) (by kernel_rfl) (by kernel_rfl) (fun _ _ _ h => h) (Or.inl ⟨by rfl, fun w0 hC => by simp [execOp, Act.eval, Act.put, go_sem, hC.2.2.1]⟩) hHeld ?_
  try simp only [Act.put, List.setIfInBounds_toArray, List.set_cons_zero, List.set_cons_succ, List.getElem_toArray, List.getElem_cons_zero, List.getElem_cons_succ]
  refine wpAnyH_ready (rs := [9]) (by kernel_rfl) (by simp) (AllReadyH.cons rfl (fun K hK => ?_) AllReadyH.nil)
  rw [if_pos (by rfl)]
  go_wp2_with fail
  refine (cy W).mono ?_
  rintro e W2 ⟨rfl, hb2⟩
  have hS : _ ∧ _ ∧ _ ∧ _ ∧ _ := And.intro ((hb2.cell (p := ⟨g, 0, none⟩) hgw).trans hHeld.1) (And.intro ((hb2.cell (p := ⟨g, 1, none⟩) hgw).trans hHeld.2.1) (And.intro ((hb2.cell (p := ⟨g, 2, none⟩) hgw).trans hHeld.2.2.1) (And.intro ((hb2.cell (p := ⟨g, 3, none⟩) hgw).trans hHeld.2.2.2.1) ((hb2.cell (p := ⟨g, 4, none⟩) hgw).trans hHeld.2.2.2.2))))
  have HB2 := Lib.hid (HBW.out.trans (hb2.mono HBW.out.size))
  have hgW : g < W2.heap.size := Nat.lt_of_lt_of_le hgw hb2.size
  have hq3 := hS.2.2.2.1
  have hq4 := hS.2.2.2.2
  clear hb2 HBW hHeld cy hgw
  refine hK.out _ _ hS (fun hHeld => ?_)
  clear hK K
  try simp only [Act.put, List.setIfInBounds_toArray, List.set_cons_zero, List.set_cons_succ, List.getElem_toArray, List.getElem_cons_zero, List.getElem_cons_succ]
  clear hS
  refine wpAnyH_take (i := 10) (v := .tuple #[.int .i64 yz, .bool yb]) rfl (by kernel_rfl) (by kernel_rfl) (by kernel_rfl) (fun _ _ _ h => h) (Or.inl ⟨by rfl, fun w0 hC => by simp [execOp, Act.eval, Act.put, go_sem]⟩) hHeld ?_
  try simp only [Act.put, List.setIfInBounds_toArray, List.set_cons_zero, List.set_cons_succ, List.getElem_toArray, List.getElem_cons_zero, List.getElem_cons_succ]
  refine wpAnyH_take (i := 11) (v := .int .i64 yz) rfl (by kernel_rfl) (by kernel_rfl) (by kernel_rfl) (fun _ _ _ h => h) (Or.inl ⟨by rfl, fun w0 hC => by simp [execOp, Act.eval, Act.put, go_sem]⟩) hHeld ?_
  try simp only [Act.put, List.setIfInBounds_toArray, List.set_cons_zero, List.set_cons_succ, List.getElem_toArray, List.getElem_cons_zero, List.getElem_cons_succ]
  refine wpAnyH_take (i := 12) (v := .bool yb) rfl (by kernel_rfl) (by kernel_rfl) (by kernel_rfl) (fun _ _ _ h => h) (Or.inl ⟨by rfl, fun w0 hC => by simp [execOp, Act.eval, Act.put, go_sem]⟩) hHeld ?_
  try simp only [Act.put, List.setIfInBounds_toArray, List.set_cons_zero, List.set_cons_succ, List.getElem_toArray, List.getElem_cons_zero, List.getElem_cons_succ]
  refine wpAnyH_take (i := 13) (v := .int .i64 yz) rfl (by kernel_rfl) (by kernel_rfl) (by kernel_rfl) (fun _ _ _ h => h) (Or.inl ⟨by rfl, fun w0 hC => by simp [execOp, Act.eval, Act.put, go_sem]⟩) hHeld ?_
  try simp only [Act.put, List.setIfInBounds_toArray, List.set_cons_zero, List.set_cons_succ, List.getElem_toArray, List.getElem_cons_zero, List.getElem_cons_succ]
  refine wpAnyH_take (i := 14) (v := .bool yb) rfl (by kernel_rfl) (by kernel_rfl) (by kernel_rfl) (fun _ _ _ h => h) (Or.inl ⟨by rfl, fun w0 hC => by simp [execOp, Act.eval, Act.put, go_sem]⟩) hHeld ?_
  try simp only [Act.put, List.setIfInBounds_toArray, List.set_cons_zero, List.set_cons_succ, List.getElem_toArray, List.getElem_cons_zero, List.getElem_cons_succ]
  refine wpAnyH_done (by kernel_rfl) ?_ _
  clear hHeld
  cases yb
  · go_wp2_with (first
      | (go_at_call 30; with_reducible refine (cz _).mono ?_; rintro e w3 ⟨rfl, hb3⟩; have hq3' := (hb3.cell (p := ⟨g, 3, none⟩) hgW).trans hq3)
      | (go_at_call 29; with_reducible refine (cc _).mono ?_; rintro e w4 ⟨rfl, hb4⟩))
    go_ret2
    exact ⟨by rw [HT.out, if_neg (fun h => Bool.false_ne_true h.1)] <;> rfl, HB2.out.trans (hb3.mono HB2.out.size)⟩
  · rcases (Decidable.em (c < 0)) with hcn | hcn
    · go_wp2_with (first
        | (go_at_call 30; with_reducible refine (cz _).mono ?_; rintro e w3 ⟨rfl, hb3⟩; have hq3' := (hb3.cell (p := ⟨g, 3, none⟩) hgW).trans hq3)
        | (go_at_call 29; with_reducible refine (cc _).mono ?_; rintro e w4 ⟨rfl, hb4⟩))
      go_ret2
      exact ⟨by rw [HT.out, if_neg (fun h => absurd h.2.1 (by omega))] <;> rfl, below3 HB2.out hb3 hb4⟩
    · have hcp : 0 ≤ c := by omega
      cases zb
      · go_wp2_with (first
          | (go_at_call 30; with_reducible refine (cz _).mono ?_; rintro e w3 ⟨rfl, hb3⟩; have hq3' := (hb3.cell (p := ⟨g, 3, none⟩) hgW).trans hq3)
          | (go_at_call 29; with_reducible refine (cc _).mono ?_; rintro e w4 ⟨rfl, hb4⟩))
        go_ret2
        exact ⟨by rw [HT.out, if_neg (fun h => Bool.false_ne_true h.2.2)] <;> rfl, below3 HB2.out hb3 hb4⟩
      · have HT2 : Hid (fiveX p0 p1 p2 p3 p4 = if yz < 0 then (0, 15) else (yz, 0)) := Lib.hid (by rw [HT.out, if_pos ⟨rfl, hcp, rfl⟩])
        clear HT
        rcases (Decidable.em (yz < 0)) with hyn | hyn
        · have HT3 : Hid (fiveX p0 p1 p2 p3 p4 = (0, 15)) := Lib.hid (by rw [HT2.out, if_pos hyn])
          go_wp2_with (first
            | (go_at_call 30; with_reducible refine (cz _).mono ?_; rintro e w3 ⟨rfl, hb3⟩; have hq3' := (hb3.cell (p := ⟨g, 3, none⟩) hgW).trans hq3)
            | (go_at_call 29; with_reducible refine (cc _).mono ?_; rintro e w4 ⟨rfl, hb4⟩))
          go_ret2
          exact ⟨by rw [HT3.out] <;> rfl, below3 HB2.out hb3 hb4⟩
        · have HT3 : Hid (fiveX p0 p1 p2 p3 p4 = (yz, 0)) := Lib.hid (by rw [HT2.out, if_neg hyn])
          go_wp2_with (first
            | (go_at_call 30; with_reducible refine (cz _).mono ?_; rintro e w3 ⟨rfl, hb3⟩; have hq3' := (hb3.cell (p := ⟨g, 3, none⟩) hgW).trans hq3)
            | (go_at_call 29; with_reducible refine (cc _).mono ?_; rintro e w4 ⟨rfl, hb4⟩))
          go_ret2
          exact ⟨by rw [HT3.out] <;> rfl, below3 HB2.out hb3 hb4⟩

set_option maxRecDepth 20000 in
set_option maxHeartbeats 16000000 in
theorem x7mail_N6 (s : ByteArray) (p0 p1 p2 p3 p4 pf : List Nat) (hs : s.size ≤ 200) (w : World) (hws : wordsL (nats s) = [p0, p1, p2, p3, p4, pf]) (hwk : weekB p0 = false) (henc : 2 ≤ pf.length ∧ pf.getD 0 0 = 40 ∧ pf.getD (pf.length - 1) 0 = 41) : Calls Tryd.prog 13 #[.string s] w fun e w' => e = .returned (resP (fiveX p0 p1 p2 p3 p4)) ∧ Below w.heap.size w w' := by
  have h2' : ¬ (200 : Int) < (s.size : Int) := by omega
  have csp := x7words_any s (by omega) w
  have hlt := wordsL_lt (nats_lt s)
  have hln := (wordsL_len (l := nats s)).1
  rw [nats_length] at hln
  rw [hws] at csp hlt hln
  clear hws
  have hz_p0 : (strOf p0).size ≤ 1000 := by rw [strOf_size]; have := hln p0 (by simp); omega
  have HN_p0 := Lib.hid (nats_strOf p0 (hlt p0 (by simp)))
  have hz_p1 : (strOf p1).size ≤ 1000 := by rw [strOf_size]; have := hln p1 (by simp); omega
  have HN_p1 := Lib.hid (nats_strOf p1 (hlt p1 (by simp)))
  have hz_p2 : (strOf p2).size ≤ 1000 := by rw [strOf_size]; have := hln p2 (by simp); omega
  have HN_p2 := Lib.hid (nats_strOf p2 (hlt p2 (by simp)))
  have hz_p3 : (strOf p3).size ≤ 1000 := by rw [strOf_size]; have := hln p3 (by simp); omega
  have HN_p3 := Lib.hid (nats_strOf p3 (hlt p3 (by simp)))
  have hz_p4 : (strOf p4).size ≤ 1000 := by rw [strOf_size]; have := hln p4 (by simp); omega
  have HN_p4 := Lib.hid (nats_strOf p4 (hlt p4 (by simp)))
  have hz_pf : (strOf pf).size ≤ 1000 := by rw [strOf_size]; have := hln pf (by simp); omega
  have HN_pf := Lib.hid (nats_strOf pf (hlt pf (by simp)))
  have cw := fun W => x7week_any (strOf p0) (by omega) W
  rw [HN_p0.out, hwk] at cw
  have cy := fun W => x7ymd_any (strOf p0) (strOf p1) (strOf p2) (by omega) (by omega) (by omega) W
  rw [HN_p0.out, HN_p1.out, HN_p2.out] at cy
  have cc := fun W => x7clock_any (strOf p3) true (by omega) W
  rw [HN_p3.out] at cc
  have cz := fun W => x7zone_any (strOf p4) (by omega) W
  rw [HN_p4.out] at cz
  obtain ⟨yz, yb, cy0, hyb, hy1, hy2, hyv⟩ := ymdR_three p0 p1 p2
  obtain ⟨zz, zb, cz0, hzb, hz1', hz2', hzv⟩ := zoneT_three p4
  obtain ⟨c, cc0, hc1', hc2', hcb, hcv⟩ := clkI_three true (splitL 58 p3)
  have HT : Hid (fiveX p0 p1 p2 p3 p4 = _) := Lib.hid (fiveX_three hyb hyv hcb hzb)
  rw [cy0] at cy
  rw [cz0] at cz
  rw [cc0] at cc
  obtain ⟨he2, he0, heL⟩ := henc
  have hf2 : (2 : Int) ≤ ((strOf pf).size : Int) := by rw [strOf_size]; omega
  have i0 : 0 < (strOf pf).size := by rw [strOf_size]; omega
  have iL : (strOf pf).size - 1 < (strOf pf).size := by omega
  have hb0 : (strOf pf)[0].toNat = 40 := by
    have := nats_byte (strOf pf) 0 i0
    rw [HN_pf.out] at this
    rw [List.getD_eq_getElem?_getD, this] at he0
    exact he0
  have hbL : (strOf pf)[(strOf pf).size - 1].toNat = 41 := by
    have := nats_byte (strOf pf) _ iL
    rw [HN_pf.out] at this
    rw [List.getD_eq_getElem?_getD, ← strOf_size pf, this] at heL
    exact heL
  obtain ⟨qf, hqf⟩ : ∃ q, strOf pf = q := ⟨_, rfl⟩
  rw [hqf] at hz_pf
  simp only [hqf] at hf2 i0 iL hb0 hbL
  have hj1 : IntKind.i64.wrap ((qf.size : Int) - 1) = (qf.size : Int) - 1 := IntWalk.i64_in _ (by omega)
  have hj2 : ((qf.size : Int) - 1).toNat = qf.size - 1 := by omega
  have hj3 : (qf.size : Int) - 1 < (qf.size : Int) := by omega
  have hj4 : 0 ≤ (qf.size : Int) - 1 := by omega
  have hbi0 : ((qf[0].toNat : Nat) : Int) = 40 := by omega
  have hbiL : ((qf[qf.size - 1].toNat : Nat) : Int) = 41 := by omega
  have hm : Tryd.prog.follows .mixedOrders = true := by kernel_rfl
  clear hyb hzb hcb hcv hyv hzv cy0 cz0 cc0 hlt hln
  go_enter Tryd.func13, Tryd.ntmps13
  go_wp2_with fail
  refine csp.mono ?_
  rintro e w1 ⟨A, n, k, rfl, hown, hb⟩
  obtain rfl : n = 6 := by have := hown.len; simpa using this.symm
  obtain ⟨g, rfl, hg1, hg2, hst, hfz, hput⟩ := hown.at_ (by omega)
  have HB := Lib.hid hb
  have hcap : 6 ≤ k := hown.cap (by omega)
  have hc0 := hst 0 p0 rfl
  have hc1 := hst 1 p1 rfl
  have hc2 := hst 2 p2 rfl
  have hc3 := hst 3 p3 rfl
  have hc4 := hst 4 p4 rfl
  have hc5 := hst 5 pf rfl
  simp only [Nat.zero_add] at hc0 hc1 hc2 hc3 hc4 hc5
  rw [hqf] at hc5
  clear hown hb csp hst hfz hput
  go_wp2_with (go_at_call 36; with_reducible refine (cw _).mono ?_; rintro e w2 ⟨rfl, rfl⟩)
  go_quiet (fail)
  go_wp2_with fail
  have hgx : g < (w1.drewN nq).heap.size := hg2
  have HBX : Hid (Below w.heap.size w (w1.drewN nq)) := Lib.hid (below_drewN HB.out nq)
  have HD : Hid ((w1.drewN nq).cell? ⟨g, 0, none⟩ = some (.string (strOf p0)) ∧ (w1.drewN nq).cell? ⟨g, 1, none⟩ = some (.string (strOf p1)) ∧ (w1.drewN nq).cell? ⟨g, 2, none⟩ = some (.string (strOf p2)) ∧ (w1.drewN nq).cell? ⟨g, 3, none⟩ = some (.string (strOf p3)) ∧ (w1.drewN nq).cell? ⟨g, 4, none⟩ = some (.string (strOf p4))) := Lib.hid ⟨hc0, hc1, hc2, hc3, hc4⟩
  clear HB hc0 hc1 hc2 hc3 hc4 hc5 hg2 hbi0 hbiL hb0 hbL hf2 i0 iL hj1 hj2 hj3 hj4 hqf
  obtain ⟨wx, hwx⟩ : ∃ wx, w1.drewN nq = wx := ⟨_, rfl⟩
  rw [hwx] at HBX hgx ⊢
  rw [hwx] at HD
  clear hwx
  refine wp_region_held_drew (S := fun W' => W'.cell? ⟨g, 0, none⟩ = some (.string (strOf p0)) ∧ W'.cell? ⟨g, 1, none⟩ = some (.string (strOf p1)) ∧ W'.cell? ⟨g, 2, none⟩ = some (.string (strOf p2)) ∧ W'.cell? ⟨g, 3, none⟩ = some (.string (strOf p3)) ∧ W'.cell? ⟨g, 4, none⟩ = some (.string (strOf p4))) hm HD.out (fun hHeld => ?_)
  have hgw : g < wx.drew.heap.size := hgx
  have HBW := Lib.hid (HBX.out.trans ((Below.refl wx.heap.size wx).drew.mono HBX.out.size))
  clear HBX HD hgx
  generalize wx.drew = W at *
  simp only [List.size_toArray, List.length_cons, List.length_nil, Nat.reduceAdd]
  refine wpAnyH_take (i := 0) (v := .slice (some ⟨g, 0, none⟩) 5 k) rfl (by kernel_rfl) (by kernel_rfl) (by kernel_rfl) (fun _ _ _ h => h) (Or.inl ⟨by rfl, fun w0 hC => by simp [execOp, Act.eval, Act.put, go_sem]⟩) hHeld ?_
  try simp only [Act.put, List.setIfInBounds_toArray, List.set_cons_zero, List.set_cons_succ, List.getElem_toArray, List.getElem_cons_zero, List.getElem_cons_succ]
  refine wpAnyH_take (i := 1) (v := .pointer (some ⟨g, 0, none⟩)) rfl (by kernel_rfl) (by kernel_rfl) (by kernel_rfl) (fun _ _ _ h => h) (Or.inl ⟨by rfl, fun w0 hC => by simp [execOp, Act.eval, Act.put, go_sem]⟩) hHeld ?_
  try simp only [Act.put, List.setIfInBounds_toArray, List.set_cons_zero, List.set_cons_succ, List.getElem_toArray, List.getElem_cons_zero, List.getElem_cons_succ]
  refine wpAnyH_take (i := 2) (v := .string (strOf p0)) rfl (by kernel_rfl) (by kernel_rfl) (by kernel_rfl) (fun _ _ _ h => h) (Or.inl ⟨by rfl, fun w0 hC => by simp [execOp, Act.eval, Act.put, go_sem, hC.1]⟩) hHeld ?_
  try simp only [Act.put, List.setIfInBounds_toArray, List.set_cons_zero, List.set_cons_succ, List.getElem_toArray, List.getElem_cons_zero, List.getElem_cons_succ]
  refine wpAnyH_take (i := 3) (v := .slice (some ⟨g, 0, none⟩) 5 k) rfl (by kernel_rfl) (by kernel_rfl) (by kernel_rfl) (fun _ _ _ h => h) (Or.inl ⟨by rfl, fun w0 hC => by simp [execOp, Act.eval, Act.put, go_sem]⟩) hHeld ?_
  try simp only [Act.put, List.setIfInBounds_toArray, List.set_cons_zero, List.set_cons_succ, List.getElem_toArray, List.getElem_cons_zero, List.getElem_cons_succ]
  refine wpAnyH_take (i := 4) (v := .pointer (some ⟨g, 1, none⟩)) rfl (by kernel_rfl) (by kernel_rfl) (by kernel_rfl) (fun _ _ _ h => h) (Or.inl ⟨by rfl, fun w0 hC => by simp [execOp, Act.eval, Act.put, go_sem]⟩) hHeld ?_
  try simp only [Act.put, List.setIfInBounds_toArray, List.set_cons_zero, List.set_cons_succ, List.getElem_toArray, List.getElem_cons_zero, List.getElem_cons_succ]
  refine wpAnyH_take (i := 5) (v := .string (strOf p1)) rfl (by kernel_rfl) (by kernel_rfl) (by kernel_rfl) (fun _ _ _ h => h) (Or.inl ⟨by rfl, fun w0 hC => by simp [execOp, Act.eval, Act.put, go_sem, hC.2.1]⟩) hHeld ?_
  try simp only [Act.put, List.setIfInBounds_toArray, List.set_cons_zero, List.set_cons_succ, List.getElem_toArray, List.getElem_cons_zero, List.getElem_cons_succ]
  refine wpAnyH_take (i := 6) (v := .slice (some ⟨g, 0, none⟩) 5 k) rfl (by kernel_rfl) (by kernel_rfl) (by kernel_rfl) (fun _ _ _ h => h) (Or.inl ⟨by rfl, fun w0 hC => by simp [execOp, Act.eval, Act.put, go_sem]⟩) hHeld ?_
  try simp only [Act.put, List.setIfInBounds_toArray, List.set_cons_zero, List.set_cons_succ, List.getElem_toArray, List.getElem_cons_zero, List.getElem_cons_succ]
  refine wpAnyH_take (i := 7) (v := .pointer (some ⟨g, 2, none⟩)) rfl (by kernel_rfl) (by kernel_rfl) (by kernel_rfl) (fun _ _ _ h => h) (Or.inl ⟨by rfl, fun w0 hC => by simp [execOp, Act.eval, Act.put, go_sem]⟩) hHeld ?_
  try simp only [Act.put, List.setIfInBounds_toArray, List.set_cons_zero, List.set_cons_succ, List.getElem_toArray, List.getElem_cons_zero, List.getElem_cons_succ]
  refine wpAnyH_take (i := 8) (v := .string (strOf p2)) rfl (by kernel_rfl) (by kernel_rfl) (by kernel_rfl) (fun _ _ _ h => h) (Or.inl ⟨by rfl, fun w0 hC => by simp [execOp, Act.eval, Act.put, go_sem, hC.2.2.1]⟩) hHeld ?_
  try simp only [Act.put, List.setIfInBounds_toArray, List.set_cons_zero, List.set_cons_succ, List.getElem_toArray, List.getElem_cons_zero, List.getElem_cons_succ]
  refine wpAnyH_ready (rs := [9]) (by kernel_rfl) (by simp) (AllReadyH.cons rfl (fun K hK => ?_) AllReadyH.nil)
  rw [if_pos (by rfl)]
  go_wp2_with fail
  refine (cy W).mono ?_
  rintro e W2 ⟨rfl, hb2⟩
  have hS : _ ∧ _ ∧ _ ∧ _ ∧ _ := And.intro ((hb2.cell (p := ⟨g, 0, none⟩) hgw).trans hHeld.1) (And.intro ((hb2.cell (p := ⟨g, 1, none⟩) hgw).trans hHeld.2.1) (And.intro ((hb2.cell (p := ⟨g, 2, none⟩) hgw).trans hHeld.2.2.1) (And.intro ((hb2.cell (p := ⟨g, 3, none⟩) hgw).trans hHeld.2.2.2.1) ((hb2.cell (p := ⟨g, 4, none⟩) hgw).trans hHeld.2.2.2.2))))
  have HB2 := Lib.hid (HBW.out.trans (hb2.mono HBW.out.size))
  have hgW : g < W2.heap.size := Nat.lt_of_lt_of_le hgw hb2.size
  have hq3 := hS.2.2.2.1
  have hq4 := hS.2.2.2.2
  clear hb2 HBW hHeld cy hgw
  refine hK.out _ _ hS (fun hHeld => ?_)
  clear hK K
  try simp only [Act.put, List.setIfInBounds_toArray, List.set_cons_zero, List.set_cons_succ, List.getElem_toArray, List.getElem_cons_zero, List.getElem_cons_succ]
  clear hS
  refine wpAnyH_take (i := 10) (v := .tuple #[.int .i64 yz, .bool yb]) rfl (by kernel_rfl) (by kernel_rfl) (by kernel_rfl) (fun _ _ _ h => h) (Or.inl ⟨by rfl, fun w0 hC => by simp [execOp, Act.eval, Act.put, go_sem]⟩) hHeld ?_
  try simp only [Act.put, List.setIfInBounds_toArray, List.set_cons_zero, List.set_cons_succ, List.getElem_toArray, List.getElem_cons_zero, List.getElem_cons_succ]
  refine wpAnyH_take (i := 11) (v := .int .i64 yz) rfl (by kernel_rfl) (by kernel_rfl) (by kernel_rfl) (fun _ _ _ h => h) (Or.inl ⟨by rfl, fun w0 hC => by simp [execOp, Act.eval, Act.put, go_sem]⟩) hHeld ?_
  try simp only [Act.put, List.setIfInBounds_toArray, List.set_cons_zero, List.set_cons_succ, List.getElem_toArray, List.getElem_cons_zero, List.getElem_cons_succ]
  refine wpAnyH_take (i := 12) (v := .bool yb) rfl (by kernel_rfl) (by kernel_rfl) (by kernel_rfl) (fun _ _ _ h => h) (Or.inl ⟨by rfl, fun w0 hC => by simp [execOp, Act.eval, Act.put, go_sem]⟩) hHeld ?_
  try simp only [Act.put, List.setIfInBounds_toArray, List.set_cons_zero, List.set_cons_succ, List.getElem_toArray, List.getElem_cons_zero, List.getElem_cons_succ]
  refine wpAnyH_take (i := 13) (v := .int .i64 yz) rfl (by kernel_rfl) (by kernel_rfl) (by kernel_rfl) (fun _ _ _ h => h) (Or.inl ⟨by rfl, fun w0 hC => by simp [execOp, Act.eval, Act.put, go_sem]⟩) hHeld ?_
  try simp only [Act.put, List.setIfInBounds_toArray, List.set_cons_zero, List.set_cons_succ, List.getElem_toArray, List.getElem_cons_zero, List.getElem_cons_succ]
  refine wpAnyH_take (i := 14) (v := .bool yb) rfl (by kernel_rfl) (by kernel_rfl) (by kernel_rfl) (fun _ _ _ h => h) (Or.inl ⟨by rfl, fun w0 hC => by simp [execOp, Act.eval, Act.put, go_sem]⟩) hHeld ?_
  try simp only [Act.put, List.setIfInBounds_toArray, List.set_cons_zero, List.set_cons_succ, List.getElem_toArray, List.getElem_cons_zero, List.getElem_cons_succ]
  refine wpAnyH_done (by kernel_rfl) ?_ _
  clear hHeld
  cases yb
  · go_wp2_with (first
      | (go_at_call 30; with_reducible refine (cz _).mono ?_; rintro e w3 ⟨rfl, hb3⟩; have hq3' := (hb3.cell (p := ⟨g, 3, none⟩) hgW).trans hq3)
      | (go_at_call 29; with_reducible refine (cc _).mono ?_; rintro e w4 ⟨rfl, hb4⟩))
    go_ret2
    exact ⟨by rw [HT.out, if_neg (fun h => Bool.false_ne_true h.1)] <;> rfl, HB2.out.trans (hb3.mono HB2.out.size)⟩
  · rcases (Decidable.em (c < 0)) with hcn | hcn
    · go_wp2_with (first
        | (go_at_call 30; with_reducible refine (cz _).mono ?_; rintro e w3 ⟨rfl, hb3⟩; have hq3' := (hb3.cell (p := ⟨g, 3, none⟩) hgW).trans hq3)
        | (go_at_call 29; with_reducible refine (cc _).mono ?_; rintro e w4 ⟨rfl, hb4⟩))
      go_ret2
      exact ⟨by rw [HT.out, if_neg (fun h => absurd h.2.1 (by omega))] <;> rfl, below3 HB2.out hb3 hb4⟩
    · have hcp : 0 ≤ c := by omega
      cases zb
      · go_wp2_with (first
          | (go_at_call 30; with_reducible refine (cz _).mono ?_; rintro e w3 ⟨rfl, hb3⟩; have hq3' := (hb3.cell (p := ⟨g, 3, none⟩) hgW).trans hq3)
          | (go_at_call 29; with_reducible refine (cc _).mono ?_; rintro e w4 ⟨rfl, hb4⟩))
        go_ret2
        exact ⟨by rw [HT.out, if_neg (fun h => Bool.false_ne_true h.2.2)] <;> rfl, below3 HB2.out hb3 hb4⟩
      · have HT2 : Hid (fiveX p0 p1 p2 p3 p4 = if yz < 0 then (0, 15) else (yz, 0)) := Lib.hid (by rw [HT.out, if_pos ⟨rfl, hcp, rfl⟩])
        clear HT
        rcases (Decidable.em (yz < 0)) with hyn | hyn
        · have HT3 : Hid (fiveX p0 p1 p2 p3 p4 = (0, 15)) := Lib.hid (by rw [HT2.out, if_pos hyn])
          go_wp2_with (first
            | (go_at_call 30; with_reducible refine (cz _).mono ?_; rintro e w3 ⟨rfl, hb3⟩; have hq3' := (hb3.cell (p := ⟨g, 3, none⟩) hgW).trans hq3)
            | (go_at_call 29; with_reducible refine (cc _).mono ?_; rintro e w4 ⟨rfl, hb4⟩))
          go_ret2
          exact ⟨by rw [HT3.out] <;> rfl, below3 HB2.out hb3 hb4⟩
        · have HT3 : Hid (fiveX p0 p1 p2 p3 p4 = (yz, 0)) := Lib.hid (by rw [HT2.out, if_neg hyn])
          go_wp2_with (first
            | (go_at_call 30; with_reducible refine (cz _).mono ?_; rintro e w3 ⟨rfl, hb3⟩; have hq3' := (hb3.cell (p := ⟨g, 3, none⟩) hgW).trans hq3)
            | (go_at_call 29; with_reducible refine (cc _).mono ?_; rintro e w4 ⟨rfl, hb4⟩))
          go_ret2
          exact ⟨by rw [HT3.out] <;> rfl, below3 HB2.out hb3 hb4⟩

set_option maxRecDepth 20000 in
set_option maxHeartbeats 16000000 in
theorem x7mail_W5 (s : ByteArray) (h p0 p1 p2 p3 p4 : List Nat) (hs : s.size ≤ 200) (w : World) (hws : wordsL (nats s) = [h, p0, p1, p2, p3, p4]) (hwk : weekB h = true) : Calls Tryd.prog 13 #[.string s] w fun e w' => e = .returned (resP (fiveX p0 p1 p2 p3 p4)) ∧ Below w.heap.size w w' := by
  have h2' : ¬ (200 : Int) < (s.size : Int) := by omega
  have csp := x7words_any s (by omega) w
  have hlt := wordsL_lt (nats_lt s)
  have hln := (wordsL_len (l := nats s)).1
  rw [nats_length] at hln
  rw [hws] at csp hlt hln
  clear hws
  have hz_h : (strOf h).size ≤ 1000 := by rw [strOf_size]; have := hln h (by simp); omega
  have HN_h := Lib.hid (nats_strOf h (hlt h (by simp)))
  have hz_p0 : (strOf p0).size ≤ 1000 := by rw [strOf_size]; have := hln p0 (by simp); omega
  have HN_p0 := Lib.hid (nats_strOf p0 (hlt p0 (by simp)))
  have hz_p1 : (strOf p1).size ≤ 1000 := by rw [strOf_size]; have := hln p1 (by simp); omega
  have HN_p1 := Lib.hid (nats_strOf p1 (hlt p1 (by simp)))
  have hz_p2 : (strOf p2).size ≤ 1000 := by rw [strOf_size]; have := hln p2 (by simp); omega
  have HN_p2 := Lib.hid (nats_strOf p2 (hlt p2 (by simp)))
  have hz_p3 : (strOf p3).size ≤ 1000 := by rw [strOf_size]; have := hln p3 (by simp); omega
  have HN_p3 := Lib.hid (nats_strOf p3 (hlt p3 (by simp)))
  have hz_p4 : (strOf p4).size ≤ 1000 := by rw [strOf_size]; have := hln p4 (by simp); omega
  have HN_p4 := Lib.hid (nats_strOf p4 (hlt p4 (by simp)))
  have cw := fun W => x7week_any (strOf h) (by omega) W
  rw [HN_h.out, hwk] at cw
  have cy := fun W => x7ymd_any (strOf p0) (strOf p1) (strOf p2) (by omega) (by omega) (by omega) W
  rw [HN_p0.out, HN_p1.out, HN_p2.out] at cy
  have cc := fun W => x7clock_any (strOf p3) true (by omega) W
  rw [HN_p3.out] at cc
  have cz := fun W => x7zone_any (strOf p4) (by omega) W
  rw [HN_p4.out] at cz
  obtain ⟨yz, yb, cy0, hyb, hy1, hy2, hyv⟩ := ymdR_three p0 p1 p2
  obtain ⟨zz, zb, cz0, hzb, hz1', hz2', hzv⟩ := zoneT_three p4
  obtain ⟨c, cc0, hc1', hc2', hcb, hcv⟩ := clkI_three true (splitL 58 p3)
  have HT : Hid (fiveX p0 p1 p2 p3 p4 = _) := Lib.hid (fiveX_three hyb hyv hcb hzb)
  rw [cy0] at cy
  rw [cz0] at cz
  rw [cc0] at cc
  have hm : Tryd.prog.follows .mixedOrders = true := by kernel_rfl
  clear hyb hzb hcb hcv hyv hzv cy0 cz0 cc0 hlt hln
  go_enter Tryd.func13, Tryd.ntmps13
  go_wp2_with fail
  refine csp.mono ?_
  rintro e w1 ⟨A, n, k, rfl, hown, hb⟩
  obtain rfl : n = 6 := by have := hown.len; simpa using this.symm
  obtain ⟨g, rfl, hg1, hg2, hst, hfz, hput⟩ := hown.at_ (by omega)
  have HB := Lib.hid hb
  have hcap : 6 ≤ k := hown.cap (by omega)
  have hc0 := hst 0 h rfl
  have hc1 := hst 1 p0 rfl
  have hc2 := hst 2 p1 rfl
  have hc3 := hst 3 p2 rfl
  have hc4 := hst 4 p3 rfl
  have hc5 := hst 5 p4 rfl
  simp only [Nat.zero_add] at hc0 hc1 hc2 hc3 hc4 hc5
  clear hown hb csp hst hfz hput
  go_wp2_with (go_at_call 36; with_reducible refine (cw _).mono ?_; rintro e w2 ⟨rfl, rfl⟩)
  go_quiet (fail)
  go_wp2_with fail
  have hgx : g < (w1.drewN nq).heap.size := hg2
  have HBX : Hid (Below w.heap.size w (w1.drewN nq)) := Lib.hid (below_drewN HB.out nq)
  have HD : Hid ((w1.drewN nq).cell? ⟨g, 1, none⟩ = some (.string (strOf p0)) ∧ (w1.drewN nq).cell? ⟨g, 2, none⟩ = some (.string (strOf p1)) ∧ (w1.drewN nq).cell? ⟨g, 3, none⟩ = some (.string (strOf p2)) ∧ (w1.drewN nq).cell? ⟨g, 4, none⟩ = some (.string (strOf p3)) ∧ (w1.drewN nq).cell? ⟨g, 5, none⟩ = some (.string (strOf p4))) := Lib.hid ⟨hc1, hc2, hc3, hc4, hc5⟩
  clear HB hc0 hc1 hc2 hc3 hc4 hc5 hg2
  obtain ⟨wx, hwx⟩ : ∃ wx, w1.drewN nq = wx := ⟨_, rfl⟩
  rw [hwx] at HBX hgx ⊢
  rw [hwx] at HD
  clear hwx
  refine wp_region_held_drew (S := fun W' => W'.cell? ⟨g, 1, none⟩ = some (.string (strOf p0)) ∧ W'.cell? ⟨g, 2, none⟩ = some (.string (strOf p1)) ∧ W'.cell? ⟨g, 3, none⟩ = some (.string (strOf p2)) ∧ W'.cell? ⟨g, 4, none⟩ = some (.string (strOf p3)) ∧ W'.cell? ⟨g, 5, none⟩ = some (.string (strOf p4))) hm HD.out (fun hHeld => ?_)
  have hgw : g < wx.drew.heap.size := hgx
  have HBW := Lib.hid (HBX.out.trans ((Below.refl wx.heap.size wx).drew.mono HBX.out.size))
  clear HBX HD hgx
  generalize wx.drew = W at *
  simp only [List.size_toArray, List.length_cons, List.length_nil, Nat.reduceAdd]
  refine wpAnyH_take (i := 0) (v := .slice (some ⟨g, 1, none⟩) 5 (k - 1)) rfl (by kernel_rfl) (by kernel_rfl) (by kernel_rfl) (fun _ _ _ h => h) (Or.inl ⟨by rfl, fun w0 hC => by simp [execOp, Act.eval, Act.put, go_sem]⟩) hHeld ?_
  try simp only [Act.put, List.setIfInBounds_toArray, List.set_cons_zero, List.set_cons_succ, List.getElem_toArray, List.getElem_cons_zero, List.getElem_cons_succ]
  refine wpAnyH_take (i := 1) (v := .pointer (some ⟨g, 1, none⟩)) rfl (by kernel_rfl) (by kernel_rfl) (by kernel_rfl) (fun _ _ _ h => h) (Or.inl ⟨by rfl, fun w0 hC => by simp [execOp, Act.eval, Act.put, go_sem]⟩) hHeld ?_
  try simp only [Act.put, List.setIfInBounds_toArray, List.set_cons_zero, List.set_cons_succ, List.getElem_toArray, List.getElem_cons_zero, List.getElem_cons_succ]
  refine wpAnyH_take (i := 2) (v := .string (strOf p0)) rfl (by kernel_rfl) (by kernel_rfl) (by kernel_rfl) (fun _ _ _ h => h) (Or.inl ⟨by rfl, fun w0 hC => by simp [execOp, Act.eval, Act.put, go_sem, hC.1]⟩) hHeld ?_
  try simp only [Act.put, List.setIfInBounds_toArray, List.set_cons_zero, List.set_cons_succ, List.getElem_toArray, List.getElem_cons_zero, List.getElem_cons_succ]
  refine wpAnyH_take (i := 3) (v := .slice (some ⟨g, 1, none⟩) 5 (k - 1)) rfl (by kernel_rfl) (by kernel_rfl) (by kernel_rfl) (fun _ _ _ h => h) (Or.inl ⟨by rfl, fun w0 hC => by simp [execOp, Act.eval, Act.put, go_sem]⟩) hHeld ?_
  try simp only [Act.put, List.setIfInBounds_toArray, List.set_cons_zero, List.set_cons_succ, List.getElem_toArray, List.getElem_cons_zero, List.getElem_cons_succ]
  refine wpAnyH_take (i := 4) (v := .pointer (some ⟨g, 2, none⟩)) rfl (by kernel_rfl) (by kernel_rfl) (by kernel_rfl) (fun _ _ _ h => h) (Or.inl ⟨by rfl, fun w0 hC => by simp [execOp, Act.eval, Act.put, go_sem]⟩) hHeld ?_
  try simp only [Act.put, List.setIfInBounds_toArray, List.set_cons_zero, List.set_cons_succ, List.getElem_toArray, List.getElem_cons_zero, List.getElem_cons_succ]
  refine wpAnyH_take (i := 5) (v := .string (strOf p1)) rfl (by kernel_rfl) (by kernel_rfl) (by kernel_rfl) (fun _ _ _ h => h) (Or.inl ⟨by rfl, fun w0 hC => by simp [execOp, Act.eval, Act.put, go_sem, hC.2.1]⟩) hHeld ?_
  try simp only [Act.put, List.setIfInBounds_toArray, List.set_cons_zero, List.set_cons_succ, List.getElem_toArray, List.getElem_cons_zero, List.getElem_cons_succ]
  refine wpAnyH_take (i := 6) (v := .slice (some ⟨g, 1, none⟩) 5 (k - 1)) rfl (by kernel_rfl) (by kernel_rfl) (by kernel_rfl) (fun _ _ _ h => h) (Or.inl ⟨by rfl, fun w0 hC => by simp [execOp, Act.eval, Act.put, go_sem]⟩) hHeld ?_
  try simp only [Act.put, List.setIfInBounds_toArray, List.set_cons_zero, List.set_cons_succ, List.getElem_toArray, List.getElem_cons_zero, List.getElem_cons_succ]
  refine wpAnyH_take (i := 7) (v := .pointer (some ⟨g, 3, none⟩)) rfl (by kernel_rfl) (by kernel_rfl) (by kernel_rfl) (fun _ _ _ h => h) (Or.inl ⟨by rfl, fun w0 hC => by simp [execOp, Act.eval, Act.put, go_sem]⟩) hHeld ?_
  try simp only [Act.put, List.setIfInBounds_toArray, List.set_cons_zero, List.set_cons_succ, List.getElem_toArray, List.getElem_cons_zero, List.getElem_cons_succ]
  refine wpAnyH_take (i := 8) (v := .string (strOf p2)) rfl (by kernel_rfl) (by kernel_rfl) (by kernel_rfl) (fun _ _ _ h => h) (Or.inl ⟨by rfl, fun w0 hC => by simp [execOp, Act.eval, Act.put, go_sem, hC.2.2.1]⟩) hHeld ?_
  try simp only [Act.put, List.setIfInBounds_toArray, List.set_cons_zero, List.set_cons_succ, List.getElem_toArray, List.getElem_cons_zero, List.getElem_cons_succ]
  refine wpAnyH_ready (rs := [9]) (by kernel_rfl) (by simp) (AllReadyH.cons rfl (fun K hK => ?_) AllReadyH.nil)
  rw [if_pos (by rfl)]
  go_wp2_with fail
  refine (cy W).mono ?_
  rintro e W2 ⟨rfl, hb2⟩
  have hS : _ ∧ _ ∧ _ ∧ _ ∧ _ := And.intro ((hb2.cell (p := ⟨g, 1, none⟩) hgw).trans hHeld.1) (And.intro ((hb2.cell (p := ⟨g, 2, none⟩) hgw).trans hHeld.2.1) (And.intro ((hb2.cell (p := ⟨g, 3, none⟩) hgw).trans hHeld.2.2.1) (And.intro ((hb2.cell (p := ⟨g, 4, none⟩) hgw).trans hHeld.2.2.2.1) ((hb2.cell (p := ⟨g, 5, none⟩) hgw).trans hHeld.2.2.2.2))))
  have HB2 := Lib.hid (HBW.out.trans (hb2.mono HBW.out.size))
  have hgW : g < W2.heap.size := Nat.lt_of_lt_of_le hgw hb2.size
  have hq3 := hS.2.2.2.1
  have hq4 := hS.2.2.2.2
  clear hb2 HBW hHeld cy hgw
  refine hK.out _ _ hS (fun hHeld => ?_)
  clear hK K
  try simp only [Act.put, List.setIfInBounds_toArray, List.set_cons_zero, List.set_cons_succ, List.getElem_toArray, List.getElem_cons_zero, List.getElem_cons_succ]
  clear hS
  refine wpAnyH_take (i := 10) (v := .tuple #[.int .i64 yz, .bool yb]) rfl (by kernel_rfl) (by kernel_rfl) (by kernel_rfl) (fun _ _ _ h => h) (Or.inl ⟨by rfl, fun w0 hC => by simp [execOp, Act.eval, Act.put, go_sem]⟩) hHeld ?_
  try simp only [Act.put, List.setIfInBounds_toArray, List.set_cons_zero, List.set_cons_succ, List.getElem_toArray, List.getElem_cons_zero, List.getElem_cons_succ]
  refine wpAnyH_take (i := 11) (v := .int .i64 yz) rfl (by kernel_rfl) (by kernel_rfl) (by kernel_rfl) (fun _ _ _ h => h) (Or.inl ⟨by rfl, fun w0 hC => by simp [execOp, Act.eval, Act.put, go_sem]⟩) hHeld ?_
  try simp only [Act.put, List.setIfInBounds_toArray, List.set_cons_zero, List.set_cons_succ, List.getElem_toArray, List.getElem_cons_zero, List.getElem_cons_succ]
  refine wpAnyH_take (i := 12) (v := .bool yb) rfl (by kernel_rfl) (by kernel_rfl) (by kernel_rfl) (fun _ _ _ h => h) (Or.inl ⟨by rfl, fun w0 hC => by simp [execOp, Act.eval, Act.put, go_sem]⟩) hHeld ?_
  try simp only [Act.put, List.setIfInBounds_toArray, List.set_cons_zero, List.set_cons_succ, List.getElem_toArray, List.getElem_cons_zero, List.getElem_cons_succ]
  refine wpAnyH_take (i := 13) (v := .int .i64 yz) rfl (by kernel_rfl) (by kernel_rfl) (by kernel_rfl) (fun _ _ _ h => h) (Or.inl ⟨by rfl, fun w0 hC => by simp [execOp, Act.eval, Act.put, go_sem]⟩) hHeld ?_
  try simp only [Act.put, List.setIfInBounds_toArray, List.set_cons_zero, List.set_cons_succ, List.getElem_toArray, List.getElem_cons_zero, List.getElem_cons_succ]
  refine wpAnyH_take (i := 14) (v := .bool yb) rfl (by kernel_rfl) (by kernel_rfl) (by kernel_rfl) (fun _ _ _ h => h) (Or.inl ⟨by rfl, fun w0 hC => by simp [execOp, Act.eval, Act.put, go_sem]⟩) hHeld ?_
  try simp only [Act.put, List.setIfInBounds_toArray, List.set_cons_zero, List.set_cons_succ, List.getElem_toArray, List.getElem_cons_zero, List.getElem_cons_succ]
  refine wpAnyH_done (by kernel_rfl) ?_ _
  clear hHeld
  cases yb
  · go_wp2_with (first
      | (go_at_call 30; with_reducible refine (cz _).mono ?_; rintro e w3 ⟨rfl, hb3⟩; have hq3' := (hb3.cell (p := ⟨g, 4, none⟩) hgW).trans hq3)
      | (go_at_call 29; with_reducible refine (cc _).mono ?_; rintro e w4 ⟨rfl, hb4⟩))
    go_ret2
    exact ⟨by rw [HT.out, if_neg (fun h => Bool.false_ne_true h.1)] <;> rfl, HB2.out.trans (hb3.mono HB2.out.size)⟩
  · rcases (Decidable.em (c < 0)) with hcn | hcn
    · go_wp2_with (first
        | (go_at_call 30; with_reducible refine (cz _).mono ?_; rintro e w3 ⟨rfl, hb3⟩; have hq3' := (hb3.cell (p := ⟨g, 4, none⟩) hgW).trans hq3)
        | (go_at_call 29; with_reducible refine (cc _).mono ?_; rintro e w4 ⟨rfl, hb4⟩))
      go_ret2
      exact ⟨by rw [HT.out, if_neg (fun h => absurd h.2.1 (by omega))] <;> rfl, below3 HB2.out hb3 hb4⟩
    · have hcp : 0 ≤ c := by omega
      cases zb
      · go_wp2_with (first
          | (go_at_call 30; with_reducible refine (cz _).mono ?_; rintro e w3 ⟨rfl, hb3⟩; have hq3' := (hb3.cell (p := ⟨g, 4, none⟩) hgW).trans hq3)
          | (go_at_call 29; with_reducible refine (cc _).mono ?_; rintro e w4 ⟨rfl, hb4⟩))
        go_ret2
        exact ⟨by rw [HT.out, if_neg (fun h => Bool.false_ne_true h.2.2)] <;> rfl, below3 HB2.out hb3 hb4⟩
      · have HT2 : Hid (fiveX p0 p1 p2 p3 p4 = if yz < 0 then (0, 15) else (yz, 0)) := Lib.hid (by rw [HT.out, if_pos ⟨rfl, hcp, rfl⟩])
        clear HT
        rcases (Decidable.em (yz < 0)) with hyn | hyn
        · have HT3 : Hid (fiveX p0 p1 p2 p3 p4 = (0, 15)) := Lib.hid (by rw [HT2.out, if_pos hyn])
          go_wp2_with (first
            | (go_at_call 30; with_reducible refine (cz _).mono ?_; rintro e w3 ⟨rfl, hb3⟩; have hq3' := (hb3.cell (p := ⟨g, 4, none⟩) hgW).trans hq3)
            | (go_at_call 29; with_reducible refine (cc _).mono ?_; rintro e w4 ⟨rfl, hb4⟩))
          go_ret2
          exact ⟨by rw [HT3.out] <;> rfl, below3 HB2.out hb3 hb4⟩
        · have HT3 : Hid (fiveX p0 p1 p2 p3 p4 = (yz, 0)) := Lib.hid (by rw [HT2.out, if_neg hyn])
          go_wp2_with (first
            | (go_at_call 30; with_reducible refine (cz _).mono ?_; rintro e w3 ⟨rfl, hb3⟩; have hq3' := (hb3.cell (p := ⟨g, 4, none⟩) hgW).trans hq3)
            | (go_at_call 29; with_reducible refine (cc _).mono ?_; rintro e w4 ⟨rfl, hb4⟩))
          go_ret2
          exact ⟨by rw [HT3.out] <;> rfl, below3 HB2.out hb3 hb4⟩

set_option maxRecDepth 20000 in
set_option maxHeartbeats 16000000 in
theorem x7mail_W6 (s : ByteArray) (h p0 p1 p2 p3 p4 pf : List Nat) (hs : s.size ≤ 200) (w : World) (hws : wordsL (nats s) = [h, p0, p1, p2, p3, p4, pf]) (hwk : weekB h = true) (henc : 2 ≤ pf.length ∧ pf.getD 0 0 = 40 ∧ pf.getD (pf.length - 1) 0 = 41) : Calls Tryd.prog 13 #[.string s] w fun e w' => e = .returned (resP (fiveX p0 p1 p2 p3 p4)) ∧ Below w.heap.size w w' := by
  have h2' : ¬ (200 : Int) < (s.size : Int) := by omega
  have csp := x7words_any s (by omega) w
  have hlt := wordsL_lt (nats_lt s)
  have hln := (wordsL_len (l := nats s)).1
  rw [nats_length] at hln
  rw [hws] at csp hlt hln
  clear hws
  have hz_h : (strOf h).size ≤ 1000 := by rw [strOf_size]; have := hln h (by simp); omega
  have HN_h := Lib.hid (nats_strOf h (hlt h (by simp)))
  have hz_p0 : (strOf p0).size ≤ 1000 := by rw [strOf_size]; have := hln p0 (by simp); omega
  have HN_p0 := Lib.hid (nats_strOf p0 (hlt p0 (by simp)))
  have hz_p1 : (strOf p1).size ≤ 1000 := by rw [strOf_size]; have := hln p1 (by simp); omega
  have HN_p1 := Lib.hid (nats_strOf p1 (hlt p1 (by simp)))
  have hz_p2 : (strOf p2).size ≤ 1000 := by rw [strOf_size]; have := hln p2 (by simp); omega
  have HN_p2 := Lib.hid (nats_strOf p2 (hlt p2 (by simp)))
  have hz_p3 : (strOf p3).size ≤ 1000 := by rw [strOf_size]; have := hln p3 (by simp); omega
  have HN_p3 := Lib.hid (nats_strOf p3 (hlt p3 (by simp)))
  have hz_p4 : (strOf p4).size ≤ 1000 := by rw [strOf_size]; have := hln p4 (by simp); omega
  have HN_p4 := Lib.hid (nats_strOf p4 (hlt p4 (by simp)))
  have hz_pf : (strOf pf).size ≤ 1000 := by rw [strOf_size]; have := hln pf (by simp); omega
  have HN_pf := Lib.hid (nats_strOf pf (hlt pf (by simp)))
  have cw := fun W => x7week_any (strOf h) (by omega) W
  rw [HN_h.out, hwk] at cw
  have cy := fun W => x7ymd_any (strOf p0) (strOf p1) (strOf p2) (by omega) (by omega) (by omega) W
  rw [HN_p0.out, HN_p1.out, HN_p2.out] at cy
  have cc := fun W => x7clock_any (strOf p3) true (by omega) W
  rw [HN_p3.out] at cc
  have cz := fun W => x7zone_any (strOf p4) (by omega) W
  rw [HN_p4.out] at cz
  obtain ⟨yz, yb, cy0, hyb, hy1, hy2, hyv⟩ := ymdR_three p0 p1 p2
  obtain ⟨zz, zb, cz0, hzb, hz1', hz2', hzv⟩ := zoneT_three p4
  obtain ⟨c, cc0, hc1', hc2', hcb, hcv⟩ := clkI_three true (splitL 58 p3)
  have HT : Hid (fiveX p0 p1 p2 p3 p4 = _) := Lib.hid (fiveX_three hyb hyv hcb hzb)
  rw [cy0] at cy
  rw [cz0] at cz
  rw [cc0] at cc
  obtain ⟨he2, he0, heL⟩ := henc
  have hf2 : (2 : Int) ≤ ((strOf pf).size : Int) := by rw [strOf_size]; omega
  have i0 : 0 < (strOf pf).size := by rw [strOf_size]; omega
  have iL : (strOf pf).size - 1 < (strOf pf).size := by omega
  have hb0 : (strOf pf)[0].toNat = 40 := by
    have := nats_byte (strOf pf) 0 i0
    rw [HN_pf.out] at this
    rw [List.getD_eq_getElem?_getD, this] at he0
    exact he0
  have hbL : (strOf pf)[(strOf pf).size - 1].toNat = 41 := by
    have := nats_byte (strOf pf) _ iL
    rw [HN_pf.out] at this
    rw [List.getD_eq_getElem?_getD, ← strOf_size pf, this] at heL
    exact heL
  obtain ⟨qf, hqf⟩ : ∃ q, strOf pf = q := ⟨_, rfl⟩
  rw [hqf] at hz_pf
  simp only [hqf] at hf2 i0 iL hb0 hbL
  have hj1 : IntKind.i64.wrap ((qf.size : Int) - 1) = (qf.size : Int) - 1 := IntWalk.i64_in _ (by omega)
  have hj2 : ((qf.size : Int) - 1).toNat = qf.size - 1 := by omega
  have hj3 : (qf.size : Int) - 1 < (qf.size : Int) := by omega
  have hj4 : 0 ≤ (qf.size : Int) - 1 := by omega
  have hbi0 : ((qf[0].toNat : Nat) : Int) = 40 := by omega
  have hbiL : ((qf[qf.size - 1].toNat : Nat) : Int) = 41 := by omega
  have hm : Tryd.prog.follows .mixedOrders = true := by kernel_rfl
  clear hyb hzb hcb hcv hyv hzv cy0 cz0 cc0 hlt hln
  go_enter Tryd.func13, Tryd.ntmps13
  go_wp2_with fail
  refine csp.mono ?_
  rintro e w1 ⟨A, n, k, rfl, hown, hb⟩
  obtain rfl : n = 7 := by have := hown.len; simpa using this.symm
  obtain ⟨g, rfl, hg1, hg2, hst, hfz, hput⟩ := hown.at_ (by omega)
  have HB := Lib.hid hb
  have hcap : 7 ≤ k := hown.cap (by omega)
  have hc0 := hst 0 h rfl
  have hc1 := hst 1 p0 rfl
  have hc2 := hst 2 p1 rfl
  have hc3 := hst 3 p2 rfl
  have hc4 := hst 4 p3 rfl
  have hc5 := hst 5 p4 rfl
  have hc6 := hst 6 pf rfl
  simp only [Nat.zero_add] at hc0 hc1 hc2 hc3 hc4 hc5 hc6
  rw [hqf] at hc6
  clear hown hb csp hst hfz hput
  go_wp2_with (go_at_call 36; with_reducible refine (cw _).mono ?_; rintro e w2 ⟨rfl, rfl⟩)
  go_quiet (fail)
  go_wp2_with fail
  have hgx : g < (w1.drewN nq).heap.size := hg2
  have HBX : Hid (Below w.heap.size w (w1.drewN nq)) := Lib.hid (below_drewN HB.out nq)
  have HD : Hid ((w1.drewN nq).cell? ⟨g, 1, none⟩ = some (.string (strOf p0)) ∧ (w1.drewN nq).cell? ⟨g, 2, none⟩ = some (.string (strOf p1)) ∧ (w1.drewN nq).cell? ⟨g, 3, none⟩ = some (.string (strOf p2)) ∧ (w1.drewN nq).cell? ⟨g, 4, none⟩ = some (.string (strOf p3)) ∧ (w1.drewN nq).cell? ⟨g, 5, none⟩ = some (.string (strOf p4))) := Lib.hid ⟨hc1, hc2, hc3, hc4, hc5⟩
  clear HB hc0 hc1 hc2 hc3 hc4 hc5 hc6 hg2 hbi0 hbiL hb0 hbL hf2 i0 iL hj1 hj2 hj3 hj4 hqf
  obtain ⟨wx, hwx⟩ : ∃ wx, w1.drewN nq = wx := ⟨_, rfl⟩
  rw [hwx] at HBX hgx ⊢
  rw [hwx] at HD
  clear hwx
  refine wp_region_held_drew (S := fun W' => W'.cell? ⟨g, 1, none⟩ = some (.string (strOf p0)) ∧ W'.cell? ⟨g, 2, none⟩ = some (.string (strOf p1)) ∧ W'.cell? ⟨g, 3, none⟩ = some (.string (strOf p2)) ∧ W'.cell? ⟨g, 4, none⟩ = some (.string (strOf p3)) ∧ W'.cell? ⟨g, 5, none⟩ = some (.string (strOf p4))) hm HD.out (fun hHeld => ?_)
  have hgw : g < wx.drew.heap.size := hgx
  have HBW := Lib.hid (HBX.out.trans ((Below.refl wx.heap.size wx).drew.mono HBX.out.size))
  clear HBX HD hgx
  generalize wx.drew = W at *
  simp only [List.size_toArray, List.length_cons, List.length_nil, Nat.reduceAdd]
  refine wpAnyH_take (i := 0) (v := .slice (some ⟨g, 1, none⟩) 5 (k - 1)) rfl (by kernel_rfl) (by kernel_rfl) (by kernel_rfl) (fun _ _ _ h => h) (Or.inl ⟨by rfl, fun w0 hC => by simp [execOp, Act.eval, Act.put, go_sem]⟩) hHeld ?_
  try simp only [Act.put, List.setIfInBounds_toArray, List.set_cons_zero, List.set_cons_succ, List.getElem_toArray, List.getElem_cons_zero, List.getElem_cons_succ]
  refine wpAnyH_take (i := 1) (v := .pointer (some ⟨g, 1, none⟩)) rfl (by kernel_rfl) (by kernel_rfl) (by kernel_rfl) (fun _ _ _ h => h) (Or.inl ⟨by rfl, fun w0 hC => by simp [execOp, Act.eval, Act.put, go_sem]⟩) hHeld ?_
  try simp only [Act.put, List.setIfInBounds_toArray, List.set_cons_zero, List.set_cons_succ, List.getElem_toArray, List.getElem_cons_zero, List.getElem_cons_succ]
  refine wpAnyH_take (i := 2) (v := .string (strOf p0)) rfl (by kernel_rfl) (by kernel_rfl) (by kernel_rfl) (fun _ _ _ h => h) (Or.inl ⟨by rfl, fun w0 hC => by simp [execOp, Act.eval, Act.put, go_sem, hC.1]⟩) hHeld ?_
  try simp only [Act.put, List.setIfInBounds_toArray, List.set_cons_zero, List.set_cons_succ, List.getElem_toArray, List.getElem_cons_zero, List.getElem_cons_succ]
  refine wpAnyH_take (i := 3) (v := .slice (some ⟨g, 1, none⟩) 5 (k - 1)) rfl (by kernel_rfl) (by kernel_rfl) (by kernel_rfl) (fun _ _ _ h => h) (Or.inl ⟨by rfl, fun w0 hC => by simp [execOp, Act.eval, Act.put, go_sem]⟩) hHeld ?_
  try simp only [Act.put, List.setIfInBounds_toArray, List.set_cons_zero, List.set_cons_succ, List.getElem_toArray, List.getElem_cons_zero, List.getElem_cons_succ]
  refine wpAnyH_take (i := 4) (v := .pointer (some ⟨g, 2, none⟩)) rfl (by kernel_rfl) (by kernel_rfl) (by kernel_rfl) (fun _ _ _ h => h) (Or.inl ⟨by rfl, fun w0 hC => by simp [execOp, Act.eval, Act.put, go_sem]⟩) hHeld ?_
  try simp only [Act.put, List.setIfInBounds_toArray, List.set_cons_zero, List.set_cons_succ, List.getElem_toArray, List.getElem_cons_zero, List.getElem_cons_succ]
  refine wpAnyH_take (i := 5) (v := .string (strOf p1)) rfl (by kernel_rfl) (by kernel_rfl) (by kernel_rfl) (fun _ _ _ h => h) (Or.inl ⟨by rfl, fun w0 hC => by simp [execOp, Act.eval, Act.put, go_sem, hC.2.1]⟩) hHeld ?_
  try simp only [Act.put, List.setIfInBounds_toArray, List.set_cons_zero, List.set_cons_succ, List.getElem_toArray, List.getElem_cons_zero, List.getElem_cons_succ]
  refine wpAnyH_take (i := 6) (v := .slice (some ⟨g, 1, none⟩) 5 (k - 1)) rfl (by kernel_rfl) (by kernel_rfl) (by kernel_rfl) (fun _ _ _ h => h) (Or.inl ⟨by rfl, fun w0 hC => by simp [execOp, Act.eval, Act.put, go_sem]⟩) hHeld ?_
  try simp only [Act.put, List.setIfInBounds_toArray, List.set_cons_zero, List.set_cons_succ, List.getElem_toArray, List.getElem_cons_zero, List.getElem_cons_succ]
  refine wpAnyH_take (i := 7) (v := .pointer (some ⟨g, 3, none⟩)) rfl (by kernel_rfl) (by kernel_rfl) (by kernel_rfl) (fun _ _ _ h => h) (Or.inl ⟨by rfl, fun w0 hC => by simp [execOp, Act.eval, Act.put, go_sem]⟩) hHeld ?_
  try simp only [Act.put, List.setIfInBounds_toArray, List.set_cons_zero, List.set_cons_succ, List.getElem_toArray, List.getElem_cons_zero, List.getElem_cons_succ]
  refine wpAnyH_take (i := 8) (v := .string (strOf p2)) rfl (by kernel_rfl) (by kernel_rfl) (by kernel_rfl) (fun _ _ _ h => h) (Or.inl ⟨by rfl, fun w0 hC => by simp [execOp, Act.eval, Act.put, go_sem, hC.2.2.1]⟩) hHeld ?_
  try simp only [Act.put, List.setIfInBounds_toArray, List.set_cons_zero, List.set_cons_succ, List.getElem_toArray, List.getElem_cons_zero, List.getElem_cons_succ]
  refine wpAnyH_ready (rs := [9]) (by kernel_rfl) (by simp) (AllReadyH.cons rfl (fun K hK => ?_) AllReadyH.nil)
  rw [if_pos (by rfl)]
  go_wp2_with fail
  refine (cy W).mono ?_
  rintro e W2 ⟨rfl, hb2⟩
  have hS : _ ∧ _ ∧ _ ∧ _ ∧ _ := And.intro ((hb2.cell (p := ⟨g, 1, none⟩) hgw).trans hHeld.1) (And.intro ((hb2.cell (p := ⟨g, 2, none⟩) hgw).trans hHeld.2.1) (And.intro ((hb2.cell (p := ⟨g, 3, none⟩) hgw).trans hHeld.2.2.1) (And.intro ((hb2.cell (p := ⟨g, 4, none⟩) hgw).trans hHeld.2.2.2.1) ((hb2.cell (p := ⟨g, 5, none⟩) hgw).trans hHeld.2.2.2.2))))
  have HB2 := Lib.hid (HBW.out.trans (hb2.mono HBW.out.size))
  have hgW : g < W2.heap.size := Nat.lt_of_lt_of_le hgw hb2.size
  have hq3 := hS.2.2.2.1
  have hq4 := hS.2.2.2.2
  clear hb2 HBW hHeld cy hgw
  refine hK.out _ _ hS (fun hHeld => ?_)
  clear hK K
  try simp only [Act.put, List.setIfInBounds_toArray, List.set_cons_zero, List.set_cons_succ, List.getElem_toArray, List.getElem_cons_zero, List.getElem_cons_succ]
  clear hS
  refine wpAnyH_take (i := 10) (v := .tuple #[.int .i64 yz, .bool yb]) rfl (by kernel_rfl) (by kernel_rfl) (by kernel_rfl) (fun _ _ _ h => h) (Or.inl ⟨by rfl, fun w0 hC => by simp [execOp, Act.eval, Act.put, go_sem]⟩) hHeld ?_
  try simp only [Act.put, List.setIfInBounds_toArray, List.set_cons_zero, List.set_cons_succ, List.getElem_toArray, List.getElem_cons_zero, List.getElem_cons_succ]
  refine wpAnyH_take (i := 11) (v := .int .i64 yz) rfl (by kernel_rfl) (by kernel_rfl) (by kernel_rfl) (fun _ _ _ h => h) (Or.inl ⟨by rfl, fun w0 hC => by simp [execOp, Act.eval, Act.put, go_sem]⟩) hHeld ?_
  try simp only [Act.put, List.setIfInBounds_toArray, List.set_cons_zero, List.set_cons_succ, List.getElem_toArray, List.getElem_cons_zero, List.getElem_cons_succ]
  refine wpAnyH_take (i := 12) (v := .bool yb) rfl (by kernel_rfl) (by kernel_rfl) (by kernel_rfl) (fun _ _ _ h => h) (Or.inl ⟨by rfl, fun w0 hC => by simp [execOp, Act.eval, Act.put, go_sem]⟩) hHeld ?_
  try simp only [Act.put, List.setIfInBounds_toArray, List.set_cons_zero, List.set_cons_succ, List.getElem_toArray, List.getElem_cons_zero, List.getElem_cons_succ]
  refine wpAnyH_take (i := 13) (v := .int .i64 yz) rfl (by kernel_rfl) (by kernel_rfl) (by kernel_rfl) (fun _ _ _ h => h) (Or.inl ⟨by rfl, fun w0 hC => by simp [execOp, Act.eval, Act.put, go_sem]⟩) hHeld ?_
  try simp only [Act.put, List.setIfInBounds_toArray, List.set_cons_zero, List.set_cons_succ, List.getElem_toArray, List.getElem_cons_zero, List.getElem_cons_succ]
  refine wpAnyH_take (i := 14) (v := .bool yb) rfl (by kernel_rfl) (by kernel_rfl) (by kernel_rfl) (fun _ _ _ h => h) (Or.inl ⟨by rfl, fun w0 hC => by simp [execOp, Act.eval, Act.put, go_sem]⟩) hHeld ?_
  try simp only [Act.put, List.setIfInBounds_toArray, List.set_cons_zero, List.set_cons_succ, List.getElem_toArray, List.getElem_cons_zero, List.getElem_cons_succ]
  refine wpAnyH_done (by kernel_rfl) ?_ _
  clear hHeld
  cases yb
  · go_wp2_with (first
      | (go_at_call 30; with_reducible refine (cz _).mono ?_; rintro e w3 ⟨rfl, hb3⟩; have hq3' := (hb3.cell (p := ⟨g, 4, none⟩) hgW).trans hq3)
      | (go_at_call 29; with_reducible refine (cc _).mono ?_; rintro e w4 ⟨rfl, hb4⟩))
    go_ret2
    exact ⟨by rw [HT.out, if_neg (fun h => Bool.false_ne_true h.1)] <;> rfl, HB2.out.trans (hb3.mono HB2.out.size)⟩
  · rcases (Decidable.em (c < 0)) with hcn | hcn
    · go_wp2_with (first
        | (go_at_call 30; with_reducible refine (cz _).mono ?_; rintro e w3 ⟨rfl, hb3⟩; have hq3' := (hb3.cell (p := ⟨g, 4, none⟩) hgW).trans hq3)
        | (go_at_call 29; with_reducible refine (cc _).mono ?_; rintro e w4 ⟨rfl, hb4⟩))
      go_ret2
      exact ⟨by rw [HT.out, if_neg (fun h => absurd h.2.1 (by omega))] <;> rfl, below3 HB2.out hb3 hb4⟩
    · have hcp : 0 ≤ c := by omega
      cases zb
      · go_wp2_with (first
          | (go_at_call 30; with_reducible refine (cz _).mono ?_; rintro e w3 ⟨rfl, hb3⟩; have hq3' := (hb3.cell (p := ⟨g, 4, none⟩) hgW).trans hq3)
          | (go_at_call 29; with_reducible refine (cc _).mono ?_; rintro e w4 ⟨rfl, hb4⟩))
        go_ret2
        exact ⟨by rw [HT.out, if_neg (fun h => Bool.false_ne_true h.2.2)] <;> rfl, below3 HB2.out hb3 hb4⟩
      · have HT2 : Hid (fiveX p0 p1 p2 p3 p4 = if yz < 0 then (0, 15) else (yz, 0)) := Lib.hid (by rw [HT.out, if_pos ⟨rfl, hcp, rfl⟩])
        clear HT
        rcases (Decidable.em (yz < 0)) with hyn | hyn
        · have HT3 : Hid (fiveX p0 p1 p2 p3 p4 = (0, 15)) := Lib.hid (by rw [HT2.out, if_pos hyn])
          go_wp2_with (first
            | (go_at_call 30; with_reducible refine (cz _).mono ?_; rintro e w3 ⟨rfl, hb3⟩; have hq3' := (hb3.cell (p := ⟨g, 4, none⟩) hgW).trans hq3)
            | (go_at_call 29; with_reducible refine (cc _).mono ?_; rintro e w4 ⟨rfl, hb4⟩))
          go_ret2
          exact ⟨by rw [HT3.out] <;> rfl, below3 HB2.out hb3 hb4⟩
        · have HT3 : Hid (fiveX p0 p1 p2 p3 p4 = (yz, 0)) := Lib.hid (by rw [HT2.out, if_neg hyn])
          go_wp2_with (first
            | (go_at_call 30; with_reducible refine (cz _).mono ?_; rintro e w3 ⟨rfl, hb3⟩; have hq3' := (hb3.cell (p := ⟨g, 4, none⟩) hgW).trans hq3)
            | (go_at_call 29; with_reducible refine (cc _).mono ?_; rintro e w4 ⟨rfl, hb4⟩))
          go_ret2
          exact ⟨by rw [HT3.out] <;> rfl, below3 HB2.out hb3 hb4⟩

set_option maxRecDepth 20000 in
set_option maxHeartbeats 16000000 in
theorem x7mail_Nno6 (s : ByteArray) (p0 p1 p2 p3 p4 pf : List Nat) (hs : s.size ≤ 200) (w : World) (hws : wordsL (nats s) = [p0, p1, p2, p3, p4, pf]) (hwk : weekB p0 = false) (henc : pf.length < 2 ∨ (2 ≤ pf.length ∧ pf.getD 0 0 ≠ 40) ∨ (2 ≤ pf.length ∧ pf.getD 0 0 = 40 ∧ pf.getD (pf.length - 1) 0 ≠ 41)) : Calls Tryd.prog 13 #[.string s] w fun e w' => e = .returned (resP (0, 3)) ∧ Below w.heap.size w w' := by
  have h2' : ¬ (200 : Int) < (s.size : Int) := by omega
  have csp := x7words_any s (by omega) w
  have hlt := wordsL_lt (nats_lt s)
  have hln := (wordsL_len (l := nats s)).1
  rw [nats_length] at hln
  rw [hws] at csp hlt hln
  have hz_pf : (strOf pf).size ≤ 1000 := by rw [strOf_size]; have := hln pf (by simp); omega
  have hz_h : (strOf p0).size ≤ 1000 := by rw [strOf_size]; have := hln p0 (by simp); omega
  have HN_pf := Lib.hid (nats_strOf pf (hlt pf (by simp)))
  have HN_h := Lib.hid (nats_strOf p0 (hlt p0 (by simp)))
  have cw := fun W => x7week_any (strOf p0) (by omega) W
  rw [HN_h.out, hwk] at cw
  have hsz := strOf_size pf
  rw [← hsz] at henc
  have hget : ∀ i (hi : i < (strOf pf).size), pf.getD i 0 = (strOf pf)[i].toNat := fun i hi => by
    have := nats_byte (strOf pf) i hi
    rw [HN_pf.out] at this
    rw [List.getD_eq_getElem?_getD, this]; rfl
  obtain ⟨qf, hqf⟩ : ∃ q, strOf pf = q := ⟨_, rfl⟩
  rw [hqf] at henc hz_pf
  simp only [hqf] at hget
  clear hsz hws hlt hln hz_h HN_h HN_pf
  rcases henc with he | ⟨he, h0⟩ | ⟨he, h0, hL⟩
  · have hf2 : decide ((2 : Int) ≤ (qf.size : Int)) = false := decide_eq_false (by omega)
    clear hget he
    go_enter Tryd.func13, Tryd.ntmps13
    go_wp2_with fail
    refine csp.mono ?_
    rintro e w1 ⟨A, n, k, rfl, hown, hb⟩
    obtain rfl : n = 6 := by have := hown.len; simpa using this.symm
    obtain ⟨g, rfl, hg1, hg2, hst, hfz, hput⟩ := hown.at_ (by omega)
    have HB := Lib.hid hb
    have hcap : 6 ≤ k := hown.cap (by omega)
    have hc0 := hst 0 p0 rfl
    have hcf := hst 5 pf rfl
    simp only [Nat.zero_add, hqf] at hc0 hcf
    clear hown hb csp hst hfz hput
    go_wp2_with (go_at_call 36; with_reducible refine (cw _).mono ?_; rintro e w2 ⟨rfl, rfl⟩)
    go_quiet (fail)
    go_wp2_with fail
    go_ret2
    exact ⟨rfl, below_drewN HB.out nq⟩
  · have hf2 : (2 : Int) ≤ (qf.size : Int) := by omega
    have i0 : 0 < qf.size := by omega
    rw [hget 0 i0] at h0
    have hbi0 : ¬ ((qf[0].toNat : Nat) : Int) = 40 := by omega
    clear hget h0
    go_enter Tryd.func13, Tryd.ntmps13
    go_wp2_with fail
    refine csp.mono ?_
    rintro e w1 ⟨A, n, k, rfl, hown, hb⟩
    obtain rfl : n = 6 := by have := hown.len; simpa using this.symm
    obtain ⟨g, rfl, hg1, hg2, hst, hfz, hput⟩ := hown.at_ (by omega)
    have HB := Lib.hid hb
    have hcap : 6 ≤ k := hown.cap (by omega)
    have hc0 := hst 0 p0 rfl
    have hcf := hst 5 pf rfl
    simp only [Nat.zero_add, hqf] at hc0 hcf
    clear hown hb csp hst hfz hput
    go_wp2_with (go_at_call 36; with_reducible refine (cw _).mono ?_; rintro e w2 ⟨rfl, rfl⟩)
    go_quiet (fail)
    go_wp2_with fail
    go_ret2
    exact ⟨rfl, below_drewN HB.out nq⟩
  · have hf2 : (2 : Int) ≤ (qf.size : Int) := by omega
    have i0 : 0 < qf.size := by omega
    have iL : qf.size - 1 < qf.size := by omega
    rw [hget 0 i0] at h0
    rw [hget _ iL] at hL
    have hj1 : IntKind.i64.wrap ((qf.size : Int) - 1) = (qf.size : Int) - 1 := IntWalk.i64_in _ (by omega)
    have hj2 : ((qf.size : Int) - 1).toNat = qf.size - 1 := by omega
    have hj3 : (qf.size : Int) - 1 < (qf.size : Int) := by omega
    have hj4 : 0 ≤ (qf.size : Int) - 1 := by omega
    have hbi0 : ((qf[0].toNat : Nat) : Int) = 40 := by omega
    obtain ⟨c, hcL⟩ : ∃ c : Nat, qf[qf.size - 1].toNat = c := ⟨_, rfl⟩
    rw [hcL] at hL
    have hb0 : qf[0].toNat = 40 := h0
    have hcn : ((c : Int) == 41) = false := by simp; omega
    clear hget h0 hL he
    go_enter Tryd.func13, Tryd.ntmps13
    go_wp2_with fail
    refine csp.mono ?_
    rintro e w1 ⟨A, n, k, rfl, hown, hb⟩
    obtain rfl : n = 6 := by have := hown.len; simpa using this.symm
    obtain ⟨g, rfl, hg1, hg2, hst, hfz, hput⟩ := hown.at_ (by omega)
    have HB := Lib.hid hb
    have hcap : 6 ≤ k := hown.cap (by omega)
    have hc0 := hst 0 p0 rfl
    have hcf := hst 5 pf rfl
    simp only [Nat.zero_add, hqf] at hc0 hcf
    clear hown hb csp hst hfz hput
    go_wp2_with (go_at_call 36; with_reducible refine (cw _).mono ?_; rintro e w2 ⟨rfl, rfl⟩)
    go_quiet (fail)
    go_wp2_with fail
    go_ret2
    exact ⟨rfl, below_drewN HB.out nq⟩

set_option maxRecDepth 20000 in
set_option maxHeartbeats 16000000 in
theorem x7mail_Wno6 (s : ByteArray) (h p0 p1 p2 p3 p4 pf : List Nat) (hs : s.size ≤ 200) (w : World) (hws : wordsL (nats s) = [h, p0, p1, p2, p3, p4, pf]) (hwk : weekB h = true) (henc : pf.length < 2 ∨ (2 ≤ pf.length ∧ pf.getD 0 0 ≠ 40) ∨ (2 ≤ pf.length ∧ pf.getD 0 0 = 40 ∧ pf.getD (pf.length - 1) 0 ≠ 41)) : Calls Tryd.prog 13 #[.string s] w fun e w' => e = .returned (resP (0, 3)) ∧ Below w.heap.size w w' := by
  have h2' : ¬ (200 : Int) < (s.size : Int) := by omega
  have csp := x7words_any s (by omega) w
  have hlt := wordsL_lt (nats_lt s)
  have hln := (wordsL_len (l := nats s)).1
  rw [nats_length] at hln
  rw [hws] at csp hlt hln
  have hz_pf : (strOf pf).size ≤ 1000 := by rw [strOf_size]; have := hln pf (by simp); omega
  have hz_h : (strOf h).size ≤ 1000 := by rw [strOf_size]; have := hln h (by simp); omega
  have HN_pf := Lib.hid (nats_strOf pf (hlt pf (by simp)))
  have HN_h := Lib.hid (nats_strOf h (hlt h (by simp)))
  have cw := fun W => x7week_any (strOf h) (by omega) W
  rw [HN_h.out, hwk] at cw
  have hsz := strOf_size pf
  rw [← hsz] at henc
  have hget : ∀ i (hi : i < (strOf pf).size), pf.getD i 0 = (strOf pf)[i].toNat := fun i hi => by
    have := nats_byte (strOf pf) i hi
    rw [HN_pf.out] at this
    rw [List.getD_eq_getElem?_getD, this]; rfl
  obtain ⟨qf, hqf⟩ : ∃ q, strOf pf = q := ⟨_, rfl⟩
  rw [hqf] at henc hz_pf
  simp only [hqf] at hget
  clear hsz hws hlt hln hz_h HN_h HN_pf
  rcases henc with he | ⟨he, h0⟩ | ⟨he, h0, hL⟩
  · have hf2 : decide ((2 : Int) ≤ (qf.size : Int)) = false := decide_eq_false (by omega)
    clear hget he
    go_enter Tryd.func13, Tryd.ntmps13
    go_wp2_with fail
    refine csp.mono ?_
    rintro e w1 ⟨A, n, k, rfl, hown, hb⟩
    obtain rfl : n = 7 := by have := hown.len; simpa using this.symm
    obtain ⟨g, rfl, hg1, hg2, hst, hfz, hput⟩ := hown.at_ (by omega)
    have HB := Lib.hid hb
    have hcap : 7 ≤ k := hown.cap (by omega)
    have hc0 := hst 0 h rfl
    have hcf := hst 6 pf rfl
    simp only [Nat.zero_add, hqf] at hc0 hcf
    clear hown hb csp hst hfz hput
    go_wp2_with (go_at_call 36; with_reducible refine (cw _).mono ?_; rintro e w2 ⟨rfl, rfl⟩)
    go_quiet (fail)
    go_wp2_with fail
    go_ret2
    exact ⟨rfl, below_drewN HB.out nq⟩
  · have hf2 : (2 : Int) ≤ (qf.size : Int) := by omega
    have i0 : 0 < qf.size := by omega
    rw [hget 0 i0] at h0
    have hbi0 : ¬ ((qf[0].toNat : Nat) : Int) = 40 := by omega
    clear hget h0
    go_enter Tryd.func13, Tryd.ntmps13
    go_wp2_with fail
    refine csp.mono ?_
    rintro e w1 ⟨A, n, k, rfl, hown, hb⟩
    obtain rfl : n = 7 := by have := hown.len; simpa using this.symm
    obtain ⟨g, rfl, hg1, hg2, hst, hfz, hput⟩ := hown.at_ (by omega)
    have HB := Lib.hid hb
    have hcap : 7 ≤ k := hown.cap (by omega)
    have hc0 := hst 0 h rfl
    have hcf := hst 6 pf rfl
    simp only [Nat.zero_add, hqf] at hc0 hcf
    clear hown hb csp hst hfz hput
    go_wp2_with (go_at_call 36; with_reducible refine (cw _).mono ?_; rintro e w2 ⟨rfl, rfl⟩)
    go_quiet (fail)
    go_wp2_with fail
    go_ret2
    exact ⟨rfl, below_drewN HB.out nq⟩
  · have hf2 : (2 : Int) ≤ (qf.size : Int) := by omega
    have i0 : 0 < qf.size := by omega
    have iL : qf.size - 1 < qf.size := by omega
    rw [hget 0 i0] at h0
    rw [hget _ iL] at hL
    have hj1 : IntKind.i64.wrap ((qf.size : Int) - 1) = (qf.size : Int) - 1 := IntWalk.i64_in _ (by omega)
    have hj2 : ((qf.size : Int) - 1).toNat = qf.size - 1 := by omega
    have hj3 : (qf.size : Int) - 1 < (qf.size : Int) := by omega
    have hj4 : 0 ≤ (qf.size : Int) - 1 := by omega
    have hbi0 : ((qf[0].toNat : Nat) : Int) = 40 := by omega
    obtain ⟨c, hcL⟩ : ∃ c : Nat, qf[qf.size - 1].toNat = c := ⟨_, rfl⟩
    rw [hcL] at hL
    have hb0 : qf[0].toNat = 40 := h0
    have hcn : ((c : Int) == 41) = false := by simp; omega
    clear hget h0 hL he
    go_enter Tryd.func13, Tryd.ntmps13
    go_wp2_with fail
    refine csp.mono ?_
    rintro e w1 ⟨A, n, k, rfl, hown, hb⟩
    obtain rfl : n = 7 := by have := hown.len; simpa using this.symm
    obtain ⟨g, rfl, hg1, hg2, hst, hfz, hput⟩ := hown.at_ (by omega)
    have HB := Lib.hid hb
    have hcap : 7 ≤ k := hown.cap (by omega)
    have hc0 := hst 0 h rfl
    have hcf := hst 6 pf rfl
    simp only [Nat.zero_add, hqf] at hc0 hcf
    clear hown hb csp hst hfz hput
    go_wp2_with (go_at_call 36; with_reducible refine (cw _).mono ?_; rintro e w2 ⟨rfl, rfl⟩)
    go_quiet (fail)
    go_wp2_with fail
    go_ret2
    exact ⟨rfl, below_drewN HB.out nq⟩

set_option maxRecDepth 20000 in
set_option maxHeartbeats 16000000 in
theorem x7mail_none (s : ByteArray) (hs : s.size ≤ 200) (w : World) (hws : wordsL (nats s) = []) : Calls Tryd.prog 13 #[.string s] w fun e w' => e = .returned (resP (0, 3)) ∧ Below w.heap.size w w' := by
  have h2' : ¬ (200 : Int) < (s.size : Int) := by omega
  have csp := x7words_any s (by omega) w
  rw [hws] at csp
  go_enter Tryd.func13, Tryd.ntmps13
  go_wp2_with fail
  refine csp.mono ?_
  rintro e w1 ⟨A, n, k, rfl, hown, hb⟩
  obtain rfl : n = 0 := by have := hown.len; simpa using this.symm
  have HB := Lib.hid hb
  clear hown hb csp
  go_wp2_with fail
  go_quiet (fail)
  go_wp2_with fail
  go_ret2
  exact ⟨rfl, below_drewN HB.out nq⟩
set_option maxRecDepth 20000 in
set_option maxHeartbeats 16000000 in
theorem x7mail_no (b : Bool) (s : ByteArray) (h : List Nat) (t : List (List Nat)) (hs : s.size ≤ 200) (w : World) (hws : wordsL (nats s) = h :: t) (hwk : weekB h = b) (h5 : (if b then t else h :: t).length ≠ 5) (h6 : (if b then t else h :: t).length ≠ 6) : Calls Tryd.prog 13 #[.string s] w fun e w' => e = .returned (resP (0, 3)) ∧ Below w.heap.size w w' := by
  have h2' : ¬ (200 : Int) < (s.size : Int) := by omega
  have csp := x7words_any s (by omega) w
  have hlt := wordsL_lt (nats_lt s)
  have hln := (wordsL_len (l := nats s)).1
  have hln2 := (wordsL_len (l := nats s)).2
  rw [nats_length] at hln hln2
  rw [hws] at csp hlt hln hln2
  have hz_h : (strOf h).size ≤ 1000 := by rw [strOf_size]; have := hln h (by simp); omega
  have HN_h := Lib.hid (nats_strOf h (hlt h (by simp)))
  have cw := fun W => x7week_any (strOf h) (by omega) W
  rw [HN_h.out, hwk] at cw
  rw [List.length_cons] at hln2
  clear hlt hln hws HN_h hwk
  cases b
  · have e5 : t.length ≠ 4 := by simpa using h5
    have e6 : t.length ≠ 5 := by simpa using h6
    clear h5 h6
    go_enter Tryd.func13, Tryd.ntmps13
    go_wp2_with fail
    refine csp.mono ?_
    rintro e w1 ⟨A, n, k, rfl, hown, hb⟩
    have hn : n = t.length + 1 := by have := hown.len; simpa using this.symm
    obtain ⟨g, rfl, hg1, hg2, hst, hfz, hput⟩ := hown.at_ (by omega)
    have HB := Lib.hid hb
    have hcap : n ≤ k := hown.cap (by omega)
    have hc0 := hst 0 h rfl
    simp only [Nat.zero_add] at hc0
    have n0 : decide ((0 : Int) < (n : Int)) = true := decide_eq_true (by omega)
    have n0' : (0 : Int) < (n : Int) := by omega
    have n5 : ((n : Int) != 5) = true := by simp; omega
    have n6 : ((n : Int) == 6) = false := by simp; omega
    clear hown hb csp hst hfz hput hln2 e5 e6 hn
    go_wp2_with (go_at_call 36; with_reducible refine (cw _).mono ?_; rintro e w2 ⟨rfl, rfl⟩)
    clear hcap hc0 hg1 n0 n0' cw
    go_quiet (fail)
    go_wp2_with fail
    go_ret2
    exact ⟨rfl, below_drewN HB.out nq⟩
  · have e5 : t.length ≠ 5 := h5
    have e6 : t.length ≠ 6 := h6
    clear h5 h6
    go_enter Tryd.func13, Tryd.ntmps13
    go_wp2_with fail
    refine csp.mono ?_
    rintro e w1 ⟨A, n, k, rfl, hown, hb⟩
    obtain rfl : n = t.length + 1 := by have := hown.len; simpa using this.symm
    obtain ⟨g, rfl, hg1, hg2, hst, hfz, hput⟩ := hown.at_ (by omega)
    have HB := Lib.hid hb
    have hcap : t.length + 1 ≤ k := hown.cap (by omega)
    have hc0 := hst 0 h rfl
    simp only [Nat.zero_add] at hc0
    obtain ⟨m, hm⟩ : ∃ m, t.length = m := ⟨_, rfl⟩
    rw [hm] at hcap e5 e6 hln2 ⊢
    have n5 : ((m : Int) != 5) = true := by simp; omega
    have n6 : ((m : Int) == 6) = false := by simp; omega
    clear hown hb csp hst hfz hput e5 e6 hm
    go_wp2_with (go_at_call 36; with_reducible refine (cw _).mono ?_; rintro e w2 ⟨rfl, rfl⟩)
    all_goals
      try clear hcap
      try clear hc0
      try clear hg1
      try clear cw
      go_quiet (fail)
      go_wp2_with fail
      go_ret2
      exact ⟨rfl, below_drewN HB.out nq⟩

theorem x7mail_any (s : ByteArray) (hs : s.size ≤ 100000) (w : World) : Calls Tryd.prog 13 #[.string s] w fun e w' => e = .returned (resP (mailX (nats s))) ∧ Below w.heap.size w w' := by
  by_cases h2 : 200 < s.size
  · have HR : Hid (mailX (nats s) = (0, 3)) := Lib.hid (by unfold mailX; rw [nats_length, if_pos h2])
    have h2' : (200 : Int) < (s.size : Int) := by omega
    go_enter Tryd.func13, Tryd.ntmps13
    go_wp2_with fail
    go_ret2
    exact ⟨by rw [HR.out] <;> rfl, Below.refl _ _⟩
  · have hs' : s.size ≤ 200 := by omega
    have e : mailX (nats s) = mailY (wordsL (nats s)) := by unfold mailX; rw [nats_length, if_neg h2]
    rw [e]
    cases hw : wordsL (nats s) with
    | nil => exact x7mail_none s hs' w hw
    | cons h t =>
      cases hk : weekB h
      · have ey : mailY (h :: t) = restX (h :: t) := if_neg (by rw [hk]; exact Bool.false_ne_true)
        rw [ey]
        rcases six_cases (h :: t) with ⟨a, b, c, d, e, hl⟩ | ⟨a, b, c, d, e, f, hl⟩ | ⟨h5, h6⟩
        · rw [hl] at hw ⊢
          injection hl with hl1 hl2
          exact x7mail_N5 s a b c d e hs' w hw (by rw [← hl1]; exact hk)
        · rw [hl] at hw ⊢
          injection hl with hl1 hl2
          rcases encB_cases f with ⟨he, hf⟩ | ⟨he, hf⟩
          · rw [show restX [a, b, c, d, e, f] = fiveX a b c d e from if_pos he]
            exact x7mail_N6 s a b c d e f hs' w hw (by rw [← hl1]; exact hk) hf
          · rw [show restX [a, b, c, d, e, f] = (0, 3) from if_neg (by rw [he]; exact Bool.false_ne_true)]
            exact x7mail_Nno6 s a b c d e f hs' w hw (by rw [← hl1]; exact hk) hf
        · rw [restX_no h5 h6]
          exact x7mail_no false s h t hs' w hw hk h5 h6
      · have ey : mailY (h :: t) = restX t := if_pos hk
        rw [ey]
        rcases six_cases t with ⟨a, b, c, d, e, rfl⟩ | ⟨a, b, c, d, e, f, rfl⟩ | ⟨h5, h6⟩
        · exact x7mail_W5 s h a b c d e hs' w hw hk
        · rcases encB_cases f with ⟨he, hf⟩ | ⟨he, hf⟩
          · rw [show restX [a, b, c, d, e, f] = fiveX a b c d e from if_pos he]
            exact x7mail_W6 s h a b c d e f hs' w hw hk hf
          · rw [show restX [a, b, c, d, e, f] = (0, 3) from if_neg (by rw [he]; exact Bool.false_ne_true)]
            exact x7mail_Wno6 s h a b c d e f hs' w hw hk hf
        · rw [restX_no h5 h6]
          exact x7mail_no true s h t hs' w hw hk h5 h6
end Go.Proofs.YtnhafpgeinghnaaDoor
