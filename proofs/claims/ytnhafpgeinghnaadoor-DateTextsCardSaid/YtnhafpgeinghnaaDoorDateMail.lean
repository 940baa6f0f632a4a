/-
  Contracts over package date: letters, parentheses, the words of a mail date.
-/
import Derived.Test.YtnhafpgeinghnaaDoorDateClock
namespace Go.Proofs.YtnhafpgeinghnaaDoor
open Go.RowKit
set_option linter.unusedVariables false
set_option linter.unusedSimpArgs false

def letB (x : Nat) : Bool := decide (97 ≤ smallN x) && decide (smallN x ≤ 122)
def lettersB (l : List Nat) : Bool := decide (l ≠ []) && l.all letB
def encB' (l : List Nat) : Bool := decide (l.head? = some 40) && decide (l.getLast? = some 41)
def restOk : List (List Nat) → Bool
  | [a, b, c, d, e] => ymdOk a b c && clkOk true (splitL 58 d) && zoneOk e
  | [a, b, c, d, e, f] => encB' f && (ymdOk a b c && clkOk true (splitL 58 d) && zoneOk e)
  | _ => false
def restV : List (List Nat) → Int
  | a :: b :: c :: _ => ymdV a b c
  | _ => 0
def wkB (l : List Nat) : Bool := decide (l.getLast? = some 44)
def mailOk : List (List Nat) → Bool
  | [] => false
  | h :: t => if wkB h = true then lettersB h.dropLast && restOk t else restOk (h :: t)
def mailV : List (List Nat) → Int
  | [] => 0
  | h :: t => if wkB h = true then restV t else restV (h :: t)
def MailIs (b : Bool) (ws : List (List Nat)) (z : Int) : Prop := -719528 ≤ z ∧ z ≤ 2932896 ∧ ((b || !mailOk ws) = false → z = mailV ws)

set_option maxRecDepth 20000 in
set_option maxHeartbeats 800000 in
theorem letters_any (s : ByteArray) (hs : s.size ≤ 4294967296) (w : World) : Calls Tryd.prog 56 #[.string s] w fun e w' => e = .returned (.bool (lettersB (nats s))) ∧ w = w' := by
  have h64 : s.size ≤ 9223372036854775807 := by omega
  have HN := Lib.hid (nats_length s)
  go_enter Tryd.func56, Tryd.ntmps56
  go_wp2_with fail
  go_loop [7] (fun i => ∃ k : Nat, k ≤ s.size ∧ i = .int .i64 (k : Int) ∧ ((nats s).take k).all letB = true) (fun i => s.size - (intOf i).toNat)
  case atStart => exact ⟨0, Nat.zero_le _, rfl, by simp⟩
  case round =>
    obtain ⟨k, hk, rfl, ha⟩ := hrel
    have HA := Lib.hid ha
    clear ha
    by_cases hlt : k < s.size
    · have hx := nats_byte s k hlt
      have hxb : s[k].toNat < 256 := s[k].toNat_lt
      have HT := Lib.hid (all_take_snoc (p := letB) (nats s) k _ hx)
      have HF : Hid (letB s[k].toNat = false → lettersB (nats s) = false) := Lib.hid (fun hf => by unfold lettersB; rw [all_false_of hx hf, Bool.and_false])
      clear hx
      by_cases h1 : 97 ≤ smallN s[k].toNat
      · by_cases h2 : smallN s[k].toNat ≤ 122
        · have HL : Hid (letB s[k].toNat = true) := Lib.hid (by unfold letB; simp [h1, h2])
          go_wp2_with fail
          refine (dsmall_any s[k].toNat hxb w).mono ?_
          rintro e w' ⟨rfl, rfl⟩
          go_wp2_with fail
          go_round
          case rel => exact ⟨k + 1, by omega, by go_num, by rw [HT.out, HA.out, HL.out]; rfl⟩
          case measure => simp [intOf]; omega
        · have HL : Hid (letB s[k].toNat = false) := Lib.hid (by unfold letB; simp; omega)
          go_wp2_with fail
          refine (dsmall_any s[k].toNat hxb w).mono ?_
          rintro e w' ⟨rfl, rfl⟩
          go_wp2_with fail
          go_ret
          exact ⟨by rw [HF.out HL.out] <;> rfl, rfl⟩
      · have HL : Hid (letB s[k].toNat = false) := Lib.hid (by unfold letB; simp; omega)
        go_wp2_with fail
        refine (dsmall_any s[k].toNat hxb w).mono ?_
        rintro e w' ⟨rfl, rfl⟩
        go_wp2_with fail
        go_ret
        exact ⟨by rw [HF.out HL.out] <;> rfl, rfl⟩
    · have hr : lettersB (nats s) = decide (0 < s.size) := by
        have := HA.out
        rw [List.take_of_length_le (by rw [HN.out]; omega)] at this
        unfold lettersB
        rw [this, Bool.and_true]
        rw [Bool.eq_iff_iff, decide_eq_true_iff, decide_eq_true_iff, ← HN.out, List.length_pos_iff]
      have HR := Lib.hid hr
      clear hr
      by_cases h0 : s.size = 0
      · obtain rfl : s = ⟨#[]⟩ := by
          apply data_inj
          have : s.data.toList.length = 0 := by rw [Array.length_toList]; exact h0
          rw [List.length_eq_zero_iff.1 this]
        go_wp2_with fail
        go_ret
        exact ⟨by rw [HR.out] <;> rfl, rfl⟩
      · have hne : (s.toList != []) = true := by
          have : s.toList ≠ [] := by
            rw [ByteArray.toList_eq]
            intro e
            have := congrArg List.length e
            rw [Array.length_toList] at this
            exact h0 this
          simp [this]
        have hne2 : (!s.toList.isEmpty) = true := by
          cases h : s.toList.isEmpty
          · rfl
          · rw [List.isEmpty_iff.1 h] at hne; cases hne
        go_wp2_with fail
        go_ret
        refine ⟨?_, rfl⟩
        rw [HR.out, decide_eq_true (by omega)]
        rfl

set_option maxHeartbeats 400000 in
theorem enclosed_any (s : ByteArray) (hs : s.size ≤ 4294967296) (w : World) : Calls Tryd.prog 58 #[.string s] w fun e w' => e = .returned (.bool (encB' (nats s))) ∧ w = w' := by
  have c1 := hasPrefix_any s 40 w
  have c2 := hasSuffix_any s hs 41 w
  have HE : Hid (encB' (nats s) = (decide ((nats s).head? = some 40) && decide ((nats s).getLast? = some 41))) := Lib.hid rfl
  rw [show (40 : UInt8).toNat = 40 from rfl] at c1
  rw [show (41 : UInt8).toNat = 41 from rfl] at c2
  obtain ⟨q1, hq1⟩ : ∃ q, decide ((nats s).head? = some 40) = q := ⟨_, rfl⟩
  obtain ⟨q2, hq2⟩ : ∃ q, decide ((nats s).getLast? = some 41) = q := ⟨_, rfl⟩
  rw [hq1] at c1
  rw [hq2] at c2
  have HQ1 := Lib.hid hq1
  have HQ2 := Lib.hid hq2
  clear hq1 hq2
  cases q1 <;> cases q2
  all_goals
    go_enter Tryd.func58, Tryd.ntmps58
    go_wp2_with (first
      | (go_at_call 72; refine c1.mono ?_; rintro e w' ⟨rfl, rfl⟩)
      | (go_at_call 55; refine c2.mono ?_; rintro e w' ⟨rfl, rfl⟩))
    go_ret
    exact ⟨by rw [HE.out, HQ1.out, HQ2.out] <;> rfl, rfl⟩

theorem six_cases {α : Type} (l : List α) : (∃ a b c d e, l = [a, b, c, d, e]) ∨ (∃ a b c d e f, l = [a, b, c, d, e, f]) ∨ (l.length ≠ 5 ∧ l.length ≠ 6) := by
  match l with
  | [] => exact .inr (.inr (by simp))
  | [_] => exact .inr (.inr (by simp))
  | [_, _] => exact .inr (.inr (by simp))
  | [_, _, _] => exact .inr (.inr (by simp))
  | [_, _, _, _] => exact .inr (.inr (by simp))
  | [a, b, c, d, e] => exact .inl ⟨a, b, c, d, e, rfl⟩
  | [a, b, c, d, e, f] => exact .inr (.inl ⟨a, b, c, d, e, f, rfl⟩)
  | _ :: _ :: _ :: _ :: _ :: _ :: _ :: _ => exact .inr (.inr (by simp))
theorem restOk_no {l : List (List Nat)} (h5 : l.length ≠ 5) (h6 : l.length ≠ 6) : restOk l = false := by
  match l, h5, h6 with
  | [], _, _ => rfl
  | [_], _, _ => rfl
  | [_, _], _, _ => rfl
  | [_, _, _], _, _ => rfl
  | [_, _, _, _], _, _ => rfl
  | [_, _, _, _, _], h5, _ => exact absurd rfl h5
  | [_, _, _, _, _, _], _, h6 => exact absurd rfl h6
  | _ :: _ :: _ :: _ :: _ :: _ :: _ :: _, _, _ => rfl
theorem mail_flags (q : Bool) (a b c d e : List Nat) :
    (q || !(ymdOk a b c && clkOk true (splitL 58 d) && zoneOk e)) = (((q || !ymdOk a b c) || !clkOk true (splitL 58 d)) || !zoneOk e) ∧
    ((((q || !ymdOk a b c) || !clkOk true (splitL 58 d)) || !zoneOk e) = false → dayR q a b c = ymdV a b c) := by
  cases q <;> cases h : ymdOk a b c <;> simp [dayR, h] <;> (cases clkOk true (splitL 58 d) <;> simp)
theorem or_and (b p q : Bool) : (b || !(p && q)) = ((b || !p) || !q) := by cases b <;> cases p <;> cases q <;> rfl
theorem mail_wk {h : List Nat} {t : List (List Nat)} (hw : wkB h = true) : mailOk (h :: t) = (lettersB h.dropLast && restOk t) ∧ mailV (h :: t) = restV t := ⟨if_pos hw, if_pos hw⟩
theorem mail_nw {h : List Nat} {t : List (List Nat)} (hw : wkB h = false) : mailOk (h :: t) = restOk (h :: t) ∧ mailV (h :: t) = restV (h :: t) :=
  ⟨if_neg (by rw [hw]; exact Bool.false_ne_true), if_neg (by rw [hw]; exact Bool.false_ne_true)⟩

set_option maxRecDepth 20000 in
set_option maxHeartbeats 8000000 in
theorem mail_A (g A : Nat) (h : List Nat) (p0 p1 p2 p3 p4 : List Nat) (b : Bool) (w : World) (hr : Rd w g b) (hst : Strs w A 0 [h, p0, p1, p2, p3, p4]) (hA : A < w.heap.size) (hne : A ≠ g) (hlt : ∀ p ∈ [h, p0, p1, p2, p3, p4], ∀ x ∈ p, x < 256) (hln : ∀ p ∈ [h, p0, p1, p2, p3, p4], p.length ≤ 300) (hM : Mon w) (hw : wkB h = true) :
    Calls Tryd.prog 32 #[.pointer (some ⟨g, 0, none⟩), .slice (some ⟨A, 0, none⟩) 6 6] w (GaveP (MailIs b [h, p0, p1, p2, p3, p4]) g (b || !mailOk [h, p0, p1, p2, p3, p4]) w) := by
  have hg0 := hr.2
  have HN0 := Lib.hid (nats_strOf p0 (hlt p0 (by simp)))
  have hz0 : (strOf p0).size ≤ 4294967280 := by rw [strOf_size]; have := hln p0 (by simp); omega
  have HN1 := Lib.hid (nats_strOf p1 (hlt p1 (by simp)))
  have hz1 : (strOf p1).size ≤ 4294967280 := by rw [strOf_size]; have := hln p1 (by simp); omega
  have HN2 := Lib.hid (nats_strOf p2 (hlt p2 (by simp)))
  have hz2 : (strOf p2).size ≤ 4294967280 := by rw [strOf_size]; have := hln p2 (by simp); omega
  have HN3 := Lib.hid (nats_strOf p3 (hlt p3 (by simp)))
  have hz3 : (strOf p3).size ≤ 4294967280 := by rw [strOf_size]; have := hln p3 (by simp); omega
  have HN4 := Lib.hid (nats_strOf p4 (hlt p4 (by simp)))
  have hz4 : (strOf p4).size ≤ 4294967280 := by rw [strOf_size]; have := hln p4 (by simp); omega
  have HC0 := Lib.hid (show w.cell? ⟨A, 1, none⟩ = some (.string (strOf p0)) from by have := hst 1 p0 rfl; simpa only [Nat.zero_add] using this)
  have HC1 := Lib.hid (show w.cell? ⟨A, 2, none⟩ = some (.string (strOf p1)) from by have := hst 2 p1 rfl; simpa only [Nat.zero_add] using this)
  have HC2 := Lib.hid (show w.cell? ⟨A, 3, none⟩ = some (.string (strOf p2)) from by have := hst 3 p2 rfl; simpa only [Nat.zero_add] using this)
  have HC3 := Lib.hid (show w.cell? ⟨A, 4, none⟩ = some (.string (strOf p3)) from by have := hst 4 p3 rfl; simpa only [Nat.zero_add] using this)
  have HC4 := Lib.hid (show w.cell? ⟨A, 5, none⟩ = some (.string (strOf p4)) from by have := hst 5 p4 rfl; simpa only [Nat.zero_add] using this)
  have hch := hst 0 h rfl
  simp only [Nat.zero_add] at hch
  have hzh : (strOf h).size ≤ 4294967296 := size_small (Nat.le_trans (hln h (by simp)) (by omega))
  have HNH := Lib.hid (nats_strOf h (hlt h (by simp)))
  have hzd : (strOf h.dropLast).size ≤ 4294967296 := size_small (by have := hln h (by simp); rw [List.length_dropLast]; omega)
  have HND := Lib.hid (nats_strOf h.dropLast (fun x hx => hlt h (by simp) x ((List.dropLast_sublist h).subset hx)))
  have hwk : (nats (strOf h)).getLast? = some (44 : UInt8).toNat := by rw [HNH.out]; exact of_decide_eq_true hw
  have cs := hasSuffix_any (strOf h) hzh 44 w
  have ct := trimSuffix_any (strOf h) hzh 44 hwk w
  rw [decide_eq_true hwk] at cs
  rw [HNH.out] at ct
  have cl := letters_any (strOf h.dropLast) hzd w
  rw [HND.out] at cl
  have HOK := Lib.hid (mail_wk (t := [p0, p1, p2, p3, p4]) hw)
  obtain ⟨lt, hlt0⟩ : ∃ q, lettersB h.dropLast = q := ⟨_, rfl⟩
  rw [hlt0] at cl
  have HLT := Lib.hid hlt0
  clear hlt0 hwk hw
  clear hst hlt hln
  go_enter Tryd.func32, Tryd.ntmps32
  go_wp2_with (first
    | (go_at_call 55; refine cs.mono ?_; rintro e w' ⟨rfl, rfl⟩)
    | (go_at_call 57; refine ct.mono ?_; rintro e w' ⟨rfl, rfl⟩)
    | (go_at_call 56; refine cl.mono ?_; rintro e w' ⟨rfl, rfl⟩))
  refine (need_any g b lt w hr).mono ?_
  rintro e wx ⟨rfl, hrx, hgx⟩
  obtain ⟨b1, hb1⟩ : ∃ q, (b || !lt) = q := ⟨_, rfl⟩
  rw [hb1] at hrx
  have HB1 := Lib.hid hb1
  clear hb1 cs ct cl
  have hm : Tryd.prog.follows .mixedOrders = true := by kernel_rfl
  have HM := Lib.hid (hM.grown hgx hg0)
  have hgw := hrx.lt
  have hbx : A < (wx).heap.size := Nat.lt_of_lt_of_le hA (hgx).size
  have hS0 : (wx).cell? ⟨A, 1, none⟩ = some (.string (strOf p0)) ∧ (wx).cell? ⟨A, 2, none⟩ = some (.string (strOf p1)) ∧ (wx).cell? ⟨A, 3, none⟩ = some (.string (strOf p2)) ∧ (wx).cell? ⟨A, 4, none⟩ = some (.string (strOf p3)) ∧ (wx).cell? ⟨A, 5, none⟩ = some (.string (strOf p4)) ∧ A < (wx).heap.size :=
    ⟨(grown_cell hgx hA hne _).trans HC0.out, (grown_cell hgx hA hne _).trans HC1.out, (grown_cell hgx hA hne _).trans HC2.out, (grown_cell hgx hA hne _).trans HC3.out, (grown_cell hgx hA hne _).trans HC4.out, hbx⟩
  have HRX := Lib.hid hrx
  have HGX := Lib.hid hgx
  clear hM
  go_wp2_with fail
  refine wp_region_held_drew (S := fun W' => W'.cell? ⟨A, 1, none⟩ = some (.string (strOf p0)) ∧ W'.cell? ⟨A, 2, none⟩ = some (.string (strOf p1)) ∧ W'.cell? ⟨A, 3, none⟩ = some (.string (strOf p2)) ∧ W'.cell? ⟨A, 4, none⟩ = some (.string (strOf p3)) ∧ W'.cell? ⟨A, 5, none⟩ = some (.string (strOf p4)) ∧ A < W'.heap.size) hm hS0 (fun hHeld => ?_)
  have HRW := Lib.hid (HRX.out.below ((Below.refl (wx).heap.size (wx)).drew) HRX.out.lt)
  have HGW := Lib.hid (grown_trans HGX.out (hbw_grown ((Below.refl (wx).heap.size (wx)).drew) HRX.out.lt))
  have HMW := Lib.hid (HM.out.below ((Below.refl (wx).heap.size (wx)).drew))
  clear hS0 HRX HGX HM hbx hgw HC0 HC1 HC2 HC3 HC4
  generalize (wx).drew = W at *
  simp only [List.size_toArray, List.length_cons, List.length_nil, Nat.reduceAdd]
  refine wpAnyH_take (i := 0) (v := .pointer (some ⟨g, 0, none⟩)) rfl (by kernel_rfl) (by kernel_rfl) (by kernel_rfl) (fun _ _ _ h => h) (Or.inl ⟨by rfl, fun w0 hC => by simp [execOp, Act.eval, Act.put, go_sem]⟩) hHeld ?_
  try simp only [Act.put, List.setIfInBounds_toArray, List.set_cons_zero, List.set_cons_succ, List.getElem_toArray, List.getElem_cons_zero, List.getElem_cons_succ]
  refine wpAnyH_take (i := 1) (v := .slice (some ⟨A, 1, none⟩) 5 5) rfl (by kernel_rfl) (by kernel_rfl) (by kernel_rfl) (fun _ _ _ h => h) (Or.inl ⟨by rfl, fun w0 hC => by simp [execOp, Act.eval, Act.put, go_sem]⟩) hHeld ?_
  try simp only [Act.put, List.setIfInBounds_toArray, List.set_cons_zero, List.set_cons_succ, List.getElem_toArray, List.getElem_cons_zero, List.getElem_cons_succ]
  refine wpAnyH_take (i := 2) (v := .pointer (some ⟨A, 1, none⟩)) rfl (by kernel_rfl) (by kernel_rfl) (by kernel_rfl) (fun _ _ _ h => h) (Or.inl ⟨by rfl, fun w0 hC => by simp [execOp, Act.eval, Act.put, go_sem]⟩) hHeld ?_
  try simp only [Act.put, List.setIfInBounds_toArray, List.set_cons_zero, List.set_cons_succ, List.getElem_toArray, List.getElem_cons_zero, List.getElem_cons_succ]
  refine wpAnyH_take (i := 3) (v := .string (strOf p0)) rfl (by kernel_rfl) (by kernel_rfl) (by kernel_rfl) (fun _ _ _ h => h) (Or.inl ⟨by rfl, fun w0 hC => by simp [execOp, Act.eval, Act.put, go_sem, hC.1]⟩) hHeld ?_
  try simp only [Act.put, List.setIfInBounds_toArray, List.set_cons_zero, List.set_cons_succ, List.getElem_toArray, List.getElem_cons_zero, List.getElem_cons_succ]
  refine wpAnyH_take (i := 4) (v := .slice (some ⟨A, 1, none⟩) 5 5) rfl (by kernel_rfl) (by kernel_rfl) (by kernel_rfl) (fun _ _ _ h => h) (Or.inl ⟨by rfl, fun w0 hC => by simp [execOp, Act.eval, Act.put, go_sem]⟩) hHeld ?_
  try simp only [Act.put, List.setIfInBounds_toArray, List.set_cons_zero, List.set_cons_succ, List.getElem_toArray, List.getElem_cons_zero, List.getElem_cons_succ]
  refine wpAnyH_take (i := 5) (v := .pointer (some ⟨A, 2, none⟩)) rfl (by kernel_rfl) (by kernel_rfl) (by kernel_rfl) (fun _ _ _ h => h) (Or.inl ⟨by rfl, fun w0 hC => by simp [execOp, Act.eval, Act.put, go_sem]⟩) hHeld ?_
  try simp only [Act.put, List.setIfInBounds_toArray, List.set_cons_zero, List.set_cons_succ, List.getElem_toArray, List.getElem_cons_zero, List.getElem_cons_succ]
  refine wpAnyH_take (i := 6) (v := .string (strOf p1)) rfl (by kernel_rfl) (by kernel_rfl) (by kernel_rfl) (fun _ _ _ h => h) (Or.inl ⟨by rfl, fun w0 hC => by simp [execOp, Act.eval, Act.put, go_sem, hC.2.1]⟩) hHeld ?_
  try simp only [Act.put, List.setIfInBounds_toArray, List.set_cons_zero, List.set_cons_succ, List.getElem_toArray, List.getElem_cons_zero, List.getElem_cons_succ]
  refine wpAnyH_take (i := 7) (v := .slice (some ⟨A, 1, none⟩) 5 5) rfl (by kernel_rfl) (by kernel_rfl) (by kernel_rfl) (fun _ _ _ h => h) (Or.inl ⟨by rfl, fun w0 hC => by simp [execOp, Act.eval, Act.put, go_sem]⟩) hHeld ?_
  try simp only [Act.put, List.setIfInBounds_toArray, List.set_cons_zero, List.set_cons_succ, List.getElem_toArray, List.getElem_cons_zero, List.getElem_cons_succ]
  refine wpAnyH_take (i := 8) (v := .pointer (some ⟨A, 3, none⟩)) rfl (by kernel_rfl) (by kernel_rfl) (by kernel_rfl) (fun _ _ _ h => h) (Or.inl ⟨by rfl, fun w0 hC => by simp [execOp, Act.eval, Act.put, go_sem]⟩) hHeld ?_
  try simp only [Act.put, List.setIfInBounds_toArray, List.set_cons_zero, List.set_cons_succ, List.getElem_toArray, List.getElem_cons_zero, List.getElem_cons_succ]
  refine wpAnyH_take (i := 9) (v := .string (strOf p2)) rfl (by kernel_rfl) (by kernel_rfl) (by kernel_rfl) (fun _ _ _ h => h) (Or.inl ⟨by rfl, fun w0 hC => by simp [execOp, Act.eval, Act.put, go_sem, hC.2.2.1]⟩) hHeld ?_
  try simp only [Act.put, List.setIfInBounds_toArray, List.set_cons_zero, List.set_cons_succ, List.getElem_toArray, List.getElem_cons_zero, List.getElem_cons_succ]
  refine wpAnyH_ready (rs := [10]) (by kernel_rfl) (by simp) (AllReadyH.cons rfl (fun K hK => ?_) AllReadyH.nil)
  rw [if_pos (by rfl)]
  go_wp2_with fail
  refine (day_any3 g (strOf p0) (strOf p1) (strOf p2) b1 W HRW.out (by omega) (by omega) (by omega) HMW.out).mono ?_
  rintro e W2 ⟨rfl, hr2, hg2⟩
  rw [HN0.out, HN1.out, HN2.out] at hr2 ⊢
  obtain ⟨z, hz⟩ : ∃ z, dayR b1 p0 p1 p2 = z := ⟨_, rfl⟩
  obtain ⟨b2, hb2⟩ : ∃ q, (b1 || !ymdOk p0 p1 p2) = q := ⟨_, rfl⟩
  have hzb := dayR_bd b1 p0 p1 p2
  rw [hb2] at hr2
  rw [hz] at hzb ⊢
  have HZ := Lib.hid hz
  have HB2 := Lib.hid hb2
  have HR2 := Lib.hid hr2
  have HG2 := Lib.hid (grown_trans HGW.out hg2)
  have hS : _ ∧ _ ∧ _ ∧ _ ∧ _ ∧ _ := And.intro ((grown_cell hg2 hHeld.2.2.2.2.2 hne _).trans hHeld.1) (And.intro ((grown_cell hg2 hHeld.2.2.2.2.2 hne _).trans hHeld.2.1) (And.intro ((grown_cell hg2 hHeld.2.2.2.2.2 hne _).trans hHeld.2.2.1)
    (And.intro ((grown_cell hg2 hHeld.2.2.2.2.2 hne _).trans hHeld.2.2.2.1) (And.intro ((grown_cell hg2 hHeld.2.2.2.2.2 hne _).trans hHeld.2.2.2.2.1) (Nat.lt_of_lt_of_le hHeld.2.2.2.2.2 hg2.size)))))
  clear hz hb2 hr2 hg2 HRW HGW HMW hHeld
  refine hK.out _ _ hS (fun hHeld => ?_)
  clear hK K
  try simp only [Act.put, List.setIfInBounds_toArray, List.set_cons_zero, List.set_cons_succ, List.getElem_toArray, List.getElem_cons_zero, List.getElem_cons_succ]
  clear hS
  refine wpAnyH_take (i := 11) (v := .int .i64 z) rfl (by kernel_rfl) (by kernel_rfl) (by kernel_rfl) (fun _ _ _ h => h) (Or.inl ⟨by rfl, fun w0 hC => by simp [execOp, Act.eval, Act.put, go_sem]⟩) hHeld ?_
  try simp only [Act.put, List.setIfInBounds_toArray, List.set_cons_zero, List.set_cons_succ, List.getElem_toArray, List.getElem_cons_zero, List.getElem_cons_succ]
  refine wpAnyH_done (by kernel_rfl) ?_ _
  have hc3 := hHeld.2.2.2.1
  have HC4 := Lib.hid hHeld.2.2.2.2.1
  have HA := Lib.hid hHeld.2.2.2.2.2
  clear hHeld
  go_wp2_with fail
  refine (clock_any g (strOf p3) b2 W2 HR2.out (by omega)).mono ?_
  rintro e W3 ⟨y, hy, rfl, hr3, hg3⟩
  rw [HN3.out] at hr3
  obtain ⟨b3, hb3⟩ : ∃ q, (b2 || !clkOk true (splitL 58 p3)) = q := ⟨_, rfl⟩
  rw [hb3] at hr3
  have HB3 := Lib.hid hb3
  have hc4 := (grown_cell hg3 HA.out hne 5).trans HC4.out
  have HR3 := Lib.hid hr3
  have HG3 := Lib.hid (grown_trans HG2.out hg3)
  clear hb3 hy hr3 hg3 hc3 HC4 HR2 HG2
  go_wp2_with fail
  refine (zone_any g (strOf p4) b3 W3 HR3.out (by omega)).mono ?_
  rintro e W4 ⟨y2, hy2, rfl, hr4, hg4⟩
  rw [HN4.out] at hr4
  obtain ⟨b4, hb4⟩ : ∃ q, (b3 || !zoneOk p4) = q := ⟨_, rfl⟩
  rw [hb4] at hr4
  have hfl := mail_flags b1 p0 p1 p2 p3 p4
  rw [HB2.out, HB3.out, hb4, HZ.out] at hfl
  have HFL := Lib.hid hfl
  have HR4 := Lib.hid hr4
  have HG4 := Lib.hid (grown_trans HG3.out hg4)
  clear hb4 hy2 hr4 hg4 hc4 HR3 HG3 hfl
  go_wp2_with fail
  go_ret
  have hall : (b || !mailOk [h, p0, p1, p2, p3, p4]) = b4 := by
    rw [HOK.out.1]
    show (b || !(lettersB h.dropLast && (ymdOk p0 p1 p2 && clkOk true (splitL 58 p3) && zoneOk p4))) = b4
    rw [or_and, HLT.out, HB1.out, HFL.out.1]
  refine ⟨z, ⟨hzb.1, hzb.2, fun hh => ?_⟩, rfl, by rw [hall]; exact HR4.out, HG4.out⟩
  rw [hall] at hh
  rw [HOK.out.2]
  exact HFL.out.2 hh

set_option maxRecDepth 20000 in
set_option maxHeartbeats 8000000 in
theorem mail_B (g A : Nat) (h : List Nat) (p0 p1 p2 p3 p4 p5 : List Nat) (b : Bool) (w : World) (hr : Rd w g b) (hst : Strs w A 0 [h, p0, p1, p2, p3, p4, p5]) (hA : A < w.heap.size) (hne : A ≠ g) (hlt : ∀ p ∈ [h, p0, p1, p2, p3, p4, p5], ∀ x ∈ p, x < 256) (hln : ∀ p ∈ [h, p0, p1, p2, p3, p4, p5], p.length ≤ 300) (hM : Mon w) (hw : wkB h = true) :
    Calls Tryd.prog 32 #[.pointer (some ⟨g, 0, none⟩), .slice (some ⟨A, 0, none⟩) 7 7] w (GaveP (MailIs b [h, p0, p1, p2, p3, p4, p5]) g (b || !mailOk [h, p0, p1, p2, p3, p4, p5]) w) := by
  have hg0 := hr.2
  have HN0 := Lib.hid (nats_strOf p0 (hlt p0 (by simp)))
  have hz0 : (strOf p0).size ≤ 4294967280 := by rw [strOf_size]; have := hln p0 (by simp); omega
  have HN1 := Lib.hid (nats_strOf p1 (hlt p1 (by simp)))
  have hz1 : (strOf p1).size ≤ 4294967280 := by rw [strOf_size]; have := hln p1 (by simp); omega
  have HN2 := Lib.hid (nats_strOf p2 (hlt p2 (by simp)))
  have hz2 : (strOf p2).size ≤ 4294967280 := by rw [strOf_size]; have := hln p2 (by simp); omega
  have HN3 := Lib.hid (nats_strOf p3 (hlt p3 (by simp)))
  have hz3 : (strOf p3).size ≤ 4294967280 := by rw [strOf_size]; have := hln p3 (by simp); omega
  have HN4 := Lib.hid (nats_strOf p4 (hlt p4 (by simp)))
  have hz4 : (strOf p4).size ≤ 4294967280 := by rw [strOf_size]; have := hln p4 (by simp); omega
  have HN5 := Lib.hid (nats_strOf p5 (hlt p5 (by simp)))
  have hz5 : (strOf p5).size ≤ 4294967296 := size_small (Nat.le_trans (hln p5 (by simp)) (by omega))
  have HC0 := Lib.hid (show w.cell? ⟨A, 1, none⟩ = some (.string (strOf p0)) from by have := hst 1 p0 rfl; simpa only [Nat.zero_add] using this)
  have HC1 := Lib.hid (show w.cell? ⟨A, 2, none⟩ = some (.string (strOf p1)) from by have := hst 2 p1 rfl; simpa only [Nat.zero_add] using this)
  have HC2 := Lib.hid (show w.cell? ⟨A, 3, none⟩ = some (.string (strOf p2)) from by have := hst 3 p2 rfl; simpa only [Nat.zero_add] using this)
  have HC3 := Lib.hid (show w.cell? ⟨A, 4, none⟩ = some (.string (strOf p3)) from by have := hst 4 p3 rfl; simpa only [Nat.zero_add] using this)
  have HC4 := Lib.hid (show w.cell? ⟨A, 5, none⟩ = some (.string (strOf p4)) from by have := hst 5 p4 rfl; simpa only [Nat.zero_add] using this)
  have HC5 := Lib.hid (show w.cell? ⟨A, 6, none⟩ = some (.string (strOf p5)) from by have := hst 6 p5 rfl; simpa only [Nat.zero_add] using this)
  have hch := hst 0 h rfl
  simp only [Nat.zero_add] at hch
  have hzh : (strOf h).size ≤ 4294967296 := size_small (Nat.le_trans (hln h (by simp)) (by omega))
  have HNH := Lib.hid (nats_strOf h (hlt h (by simp)))
  have hzd : (strOf h.dropLast).size ≤ 4294967296 := size_small (by have := hln h (by simp); rw [List.length_dropLast]; omega)
  have HND := Lib.hid (nats_strOf h.dropLast (fun x hx => hlt h (by simp) x ((List.dropLast_sublist h).subset hx)))
  have hwk : (nats (strOf h)).getLast? = some (44 : UInt8).toNat := by rw [HNH.out]; exact of_decide_eq_true hw
  have cs := hasSuffix_any (strOf h) hzh 44 w
  have ct := trimSuffix_any (strOf h) hzh 44 hwk w
  rw [decide_eq_true hwk] at cs
  rw [HNH.out] at ct
  have cl := letters_any (strOf h.dropLast) hzd w
  rw [HND.out] at cl
  have HOK := Lib.hid (mail_wk (t := [p0, p1, p2, p3, p4, p5]) hw)
  obtain ⟨lt, hlt0⟩ : ∃ q, lettersB h.dropLast = q := ⟨_, rfl⟩
  rw [hlt0] at cl
  have HLT := Lib.hid hlt0
  clear hlt0 hwk hw
  clear hst hlt hln
  go_enter Tryd.func32, Tryd.ntmps32
  go_wp2_with (first
    | (go_at_call 55; refine cs.mono ?_; rintro e w' ⟨rfl, rfl⟩)
    | (go_at_call 57; refine ct.mono ?_; rintro e w' ⟨rfl, rfl⟩)
    | (go_at_call 56; refine cl.mono ?_; rintro e w' ⟨rfl, rfl⟩))
  refine (need_any g b lt w hr).mono ?_
  rintro e wx ⟨rfl, hrx, hgx⟩
  obtain ⟨b1, hb1⟩ : ∃ q, (b || !lt) = q := ⟨_, rfl⟩
  rw [hb1] at hrx
  have HB1 := Lib.hid hb1
  clear hb1 cs ct cl
  have ce := enclosed_any (strOf p5) hz5 wx
  rw [HN5.out] at ce
  obtain ⟨en, hen⟩ : ∃ q, encB' p5 = q := ⟨_, rfl⟩
  rw [hen] at ce
  have HEN := Lib.hid hen
  clear hen
  have hc5 : (wx).cell? ⟨A, 6, none⟩ = some (.string (strOf p5)) := (grown_cell hgx hA hne _).trans HC5.out
  go_wp2_with ((go_at_call 58; refine ce.mono ?_; rintro e w' ⟨rfl, rfl⟩))
  refine (need_any g b1 en wx hrx).mono ?_
  rintro e wy ⟨rfl, hry, hgy⟩
  obtain ⟨b6, hb6⟩ : ∃ q, (b1 || !en) = q := ⟨_, rfl⟩
  rw [hb6] at hry
  have HB6 := Lib.hid hb6
  clear hb6 ce hc5
  have hm : Tryd.prog.follows .mixedOrders = true := by kernel_rfl
  have HM := Lib.hid (hM.grown (grown_trans hgx hgy) hg0)
  have hgw := hry.lt
  have hbx : A < (wy).heap.size := Nat.lt_of_lt_of_le hA ((grown_trans hgx hgy)).size
  have hS0 : (wy).cell? ⟨A, 1, none⟩ = some (.string (strOf p0)) ∧ (wy).cell? ⟨A, 2, none⟩ = some (.string (strOf p1)) ∧ (wy).cell? ⟨A, 3, none⟩ = some (.string (strOf p2)) ∧ (wy).cell? ⟨A, 4, none⟩ = some (.string (strOf p3)) ∧ (wy).cell? ⟨A, 5, none⟩ = some (.string (strOf p4)) ∧ A < (wy).heap.size :=
    ⟨(grown_cell (grown_trans hgx hgy) hA hne _).trans HC0.out, (grown_cell (grown_trans hgx hgy) hA hne _).trans HC1.out, (grown_cell (grown_trans hgx hgy) hA hne _).trans HC2.out, (grown_cell (grown_trans hgx hgy) hA hne _).trans HC3.out, (grown_cell (grown_trans hgx hgy) hA hne _).trans HC4.out, hbx⟩
  have HRX := Lib.hid hry
  have HGX := Lib.hid (grown_trans hgx hgy)
  clear hM
  go_wp2_with fail
  refine wp_region_held_drew (S := fun W' => W'.cell? ⟨A, 1, none⟩ = some (.string (strOf p0)) ∧ W'.cell? ⟨A, 2, none⟩ = some (.string (strOf p1)) ∧ W'.cell? ⟨A, 3, none⟩ = some (.string (strOf p2)) ∧ W'.cell? ⟨A, 4, none⟩ = some (.string (strOf p3)) ∧ W'.cell? ⟨A, 5, none⟩ = some (.string (strOf p4)) ∧ A < W'.heap.size) hm hS0 (fun hHeld => ?_)
  have HRW := Lib.hid (HRX.out.below ((Below.refl (wy).heap.size (wy)).drew) HRX.out.lt)
  have HGW := Lib.hid (grown_trans HGX.out (hbw_grown ((Below.refl (wy).heap.size (wy)).drew) HRX.out.lt))
  have HMW := Lib.hid (HM.out.below ((Below.refl (wy).heap.size (wy)).drew))
  clear hS0 HRX HGX HM hbx hgw HC0 HC1 HC2 HC3 HC4
  generalize (wy).drew = W at *
  simp only [List.size_toArray, List.length_cons, List.length_nil, Nat.reduceAdd]
  refine wpAnyH_take (i := 0) (v := .pointer (some ⟨g, 0, none⟩)) rfl (by kernel_rfl) (by kernel_rfl) (by kernel_rfl) (fun _ _ _ h => h) (Or.inl ⟨by rfl, fun w0 hC => by simp [execOp, Act.eval, Act.put, go_sem]⟩) hHeld ?_
  try simp only [Act.put, List.setIfInBounds_toArray, List.set_cons_zero, List.set_cons_succ, List.getElem_toArray, List.getElem_cons_zero, List.getElem_cons_succ]
  refine wpAnyH_take (i := 1) (v := .slice (some ⟨A, 1, none⟩) 5 6) rfl (by kernel_rfl) (by kernel_rfl) (by kernel_rfl) (fun _ _ _ h => h) (Or.inl ⟨by rfl, fun w0 hC => by simp [execOp, Act.eval, Act.put, go_sem]⟩) hHeld ?_
  try simp only [Act.put, List.setIfInBounds_toArray, List.set_cons_zero, List.set_cons_succ, List.getElem_toArray, List.getElem_cons_zero, List.getElem_cons_succ]
  refine wpAnyH_take (i := 2) (v := .pointer (some ⟨A, 1, none⟩)) rfl (by kernel_rfl) (by kernel_rfl) (by kernel_rfl) (fun _ _ _ h => h) (Or.inl ⟨by rfl, fun w0 hC => by simp [execOp, Act.eval, Act.put, go_sem]⟩) hHeld ?_
  try simp only [Act.put, List.setIfInBounds_toArray, List.set_cons_zero, List.set_cons_succ, List.getElem_toArray, List.getElem_cons_zero, List.getElem_cons_succ]
  refine wpAnyH_take (i := 3) (v := .string (strOf p0)) rfl (by kernel_rfl) (by kernel_rfl) (by kernel_rfl) (fun _ _ _ h => h) (Or.inl ⟨by rfl, fun w0 hC => by simp [execOp, Act.eval, Act.put, go_sem, hC.1]⟩) hHeld ?_
  try simp only [Act.put, List.setIfInBounds_toArray, List.set_cons_zero, List.set_cons_succ, List.getElem_toArray, List.getElem_cons_zero, List.getElem_cons_succ]
  refine wpAnyH_take (i := 4) (v := .slice (some ⟨A, 1, none⟩) 5 6) rfl (by kernel_rfl) (by kernel_rfl) (by kernel_rfl) (fun _ _ _ h => h) (Or.inl ⟨by rfl, fun w0 hC => by simp [execOp, Act.eval, Act.put, go_sem]⟩) hHeld ?_
  try simp only [Act.put, List.setIfInBounds_toArray, List.set_cons_zero, List.set_cons_succ, List.getElem_toArray, List.getElem_cons_zero, List.getElem_cons_succ]
  refine wpAnyH_take (i := 5) (v := .pointer (some ⟨A, 2, none⟩)) rfl (by kernel_rfl) (by kernel_rfl) (by kernel_rfl) (fun _ _ _ h => h) (Or.inl ⟨by rfl, fun w0 hC => by simp [execOp, Act.eval, Act.put, go_sem]⟩) hHeld ?_
  try simp only [Act.put, List.setIfInBounds_toArray, List.set_cons_zero, List.set_cons_succ, List.getElem_toArray, List.getElem_cons_zero, List.getElem_cons_succ]
  refine wpAnyH_take (i := 6) (v := .string (strOf p1)) rfl (by kernel_rfl) (by kernel_rfl) (by kernel_rfl) (fun _ _ _ h => h) (Or.inl ⟨by rfl, fun w0 hC => by simp [execOp, Act.eval, Act.put, go_sem, hC.2.1]⟩) hHeld ?_
  try simp only [Act.put, List.setIfInBounds_toArray, List.set_cons_zero, List.set_cons_succ, List.getElem_toArray, List.getElem_cons_zero, List.getElem_cons_succ]
  refine wpAnyH_take (i := 7) (v := .slice (some ⟨A, 1, none⟩) 5 6) rfl (by kernel_rfl) (by kernel_rfl) (by kernel_rfl) (fun _ _ _ h => h) (Or.inl ⟨by rfl, fun w0 hC => by simp [execOp, Act.eval, Act.put, go_sem]⟩) hHeld ?_
  try simp only [Act.put, List.setIfInBounds_toArray, List.set_cons_zero, List.set_cons_succ, List.getElem_toArray, List.getElem_cons_zero, List.getElem_cons_succ]
  refine wpAnyH_take (i := 8) (v := .pointer (some ⟨A, 3, none⟩)) rfl (by kernel_rfl) (by kernel_rfl) (by kernel_rfl) (fun _ _ _ h => h) (Or.inl ⟨by rfl, fun w0 hC => by simp [execOp, Act.eval, Act.put, go_sem]⟩) hHeld ?_
  try simp only [Act.put, List.setIfInBounds_toArray, List.set_cons_zero, List.set_cons_succ, List.getElem_toArray, List.getElem_cons_zero, List.getElem_cons_succ]
  refine wpAnyH_take (i := 9) (v := .string (strOf p2)) rfl (by kernel_rfl) (by kernel_rfl) (by kernel_rfl) (fun _ _ _ h => h) (Or.inl ⟨by rfl, fun w0 hC => by simp [execOp, Act.eval, Act.put, go_sem, hC.2.2.1]⟩) hHeld ?_
  try simp only [Act.put, List.setIfInBounds_toArray, List.set_cons_zero, List.set_cons_succ, List.getElem_toArray, List.getElem_cons_zero, List.getElem_cons_succ]
  refine wpAnyH_ready (rs := [10]) (by kernel_rfl) (by simp) (AllReadyH.cons rfl (fun K hK => ?_) AllReadyH.nil)
  rw [if_pos (by rfl)]
  go_wp2_with fail
  refine (day_any3 g (strOf p0) (strOf p1) (strOf p2) b6 W HRW.out (by omega) (by omega) (by omega) HMW.out).mono ?_
  rintro e W2 ⟨rfl, hr2, hg2⟩
  rw [HN0.out, HN1.out, HN2.out] at hr2 ⊢
  obtain ⟨z, hz⟩ : ∃ z, dayR b6 p0 p1 p2 = z := ⟨_, rfl⟩
  obtain ⟨b2, hb2⟩ : ∃ q, (b6 || !ymdOk p0 p1 p2) = q := ⟨_, rfl⟩
  have hzb := dayR_bd b6 p0 p1 p2
  rw [hb2] at hr2
  rw [hz] at hzb ⊢
  have HZ := Lib.hid hz
  have HB2 := Lib.hid hb2
  have HR2 := Lib.hid hr2
  have HG2 := Lib.hid (grown_trans HGW.out hg2)
  have hS : _ ∧ _ ∧ _ ∧ _ ∧ _ ∧ _ := And.intro ((grown_cell hg2 hHeld.2.2.2.2.2 hne _).trans hHeld.1) (And.intro ((grown_cell hg2 hHeld.2.2.2.2.2 hne _).trans hHeld.2.1) (And.intro ((grown_cell hg2 hHeld.2.2.2.2.2 hne _).trans hHeld.2.2.1)
    (And.intro ((grown_cell hg2 hHeld.2.2.2.2.2 hne _).trans hHeld.2.2.2.1) (And.intro ((grown_cell hg2 hHeld.2.2.2.2.2 hne _).trans hHeld.2.2.2.2.1) (Nat.lt_of_lt_of_le hHeld.2.2.2.2.2 hg2.size)))))
  clear hz hb2 hr2 hg2 HRW HGW HMW hHeld
  refine hK.out _ _ hS (fun hHeld => ?_)
  clear hK K
  try simp only [Act.put, List.setIfInBounds_toArray, List.set_cons_zero, List.set_cons_succ, List.getElem_toArray, List.getElem_cons_zero, List.getElem_cons_succ]
  clear hS
  refine wpAnyH_take (i := 11) (v := .int .i64 z) rfl (by kernel_rfl) (by kernel_rfl) (by kernel_rfl) (fun _ _ _ h => h) (Or.inl ⟨by rfl, fun w0 hC => by simp [execOp, Act.eval, Act.put, go_sem]⟩) hHeld ?_
  try simp only [Act.put, List.setIfInBounds_toArray, List.set_cons_zero, List.set_cons_succ, List.getElem_toArray, List.getElem_cons_zero, List.getElem_cons_succ]
  refine wpAnyH_done (by kernel_rfl) ?_ _
  have hc3 := hHeld.2.2.2.1
  have HC4 := Lib.hid hHeld.2.2.2.2.1
  have HA := Lib.hid hHeld.2.2.2.2.2
  clear hHeld
  go_wp2_with fail
  refine (clock_any g (strOf p3) b2 W2 HR2.out (by omega)).mono ?_
  rintro e W3 ⟨y, hy, rfl, hr3, hg3⟩
  rw [HN3.out] at hr3
  obtain ⟨b3, hb3⟩ : ∃ q, (b2 || !clkOk true (splitL 58 p3)) = q := ⟨_, rfl⟩
  rw [hb3] at hr3
  have HB3 := Lib.hid hb3
  have hc4 := (grown_cell hg3 HA.out hne 5).trans HC4.out
  have HR3 := Lib.hid hr3
  have HG3 := Lib.hid (grown_trans HG2.out hg3)
  clear hb3 hy hr3 hg3 hc3 HC4 HR2 HG2
  go_wp2_with fail
  refine (zone_any g (strOf p4) b3 W3 HR3.out (by omega)).mono ?_
  rintro e W4 ⟨y2, hy2, rfl, hr4, hg4⟩
  rw [HN4.out] at hr4
  obtain ⟨b4, hb4⟩ : ∃ q, (b3 || !zoneOk p4) = q := ⟨_, rfl⟩
  rw [hb4] at hr4
  have hfl := mail_flags b6 p0 p1 p2 p3 p4
  rw [HB2.out, HB3.out, hb4, HZ.out] at hfl
  have HFL := Lib.hid hfl
  have HR4 := Lib.hid hr4
  have HG4 := Lib.hid (grown_trans HG3.out hg4)
  clear hb4 hy2 hr4 hg4 hc4 HR3 HG3 hfl
  go_wp2_with fail
  go_ret
  have hall : (b || !mailOk [h, p0, p1, p2, p3, p4, p5]) = b4 := by
    rw [HOK.out.1]
    show (b || !(lettersB h.dropLast && (encB' p5 && (ymdOk p0 p1 p2 && clkOk true (splitL 58 p3) && zoneOk p4)))) = b4
    rw [or_and, HLT.out, HB1.out, or_and, HEN.out, HB6.out, HFL.out.1]
  refine ⟨z, ⟨hzb.1, hzb.2, fun hh => ?_⟩, rfl, by rw [hall]; exact HR4.out, HG4.out⟩
  rw [hall] at hh
  rw [HOK.out.2]
  exact HFL.out.2 hh

set_option maxRecDepth 20000 in
set_option maxHeartbeats 8000000 in
theorem mail_D (g A : Nat) (p0 p1 p2 p3 p4 : List Nat) (b : Bool) (w : World) (hr : Rd w g b) (hst : Strs w A 0 [p0, p1, p2, p3, p4]) (hA : A < w.heap.size) (hne : A ≠ g) (hlt : ∀ p ∈ [p0, p1, p2, p3, p4], ∀ x ∈ p, x < 256) (hln : ∀ p ∈ [p0, p1, p2, p3, p4], p.length ≤ 300) (hM : Mon w) (hw : wkB p0 = false) :
    Calls Tryd.prog 32 #[.pointer (some ⟨g, 0, none⟩), .slice (some ⟨A, 0, none⟩) 5 5] w (GaveP (MailIs b [p0, p1, p2, p3, p4]) g (b || !mailOk [p0, p1, p2, p3, p4]) w) := by
  have hg0 := hr.2
  have HN0 := Lib.hid (nats_strOf p0 (hlt p0 (by simp)))
  have hz0 : (strOf p0).size ≤ 4294967280 := by rw [strOf_size]; have := hln p0 (by simp); omega
  have HN1 := Lib.hid (nats_strOf p1 (hlt p1 (by simp)))
  have hz1 : (strOf p1).size ≤ 4294967280 := by rw [strOf_size]; have := hln p1 (by simp); omega
  have HN2 := Lib.hid (nats_strOf p2 (hlt p2 (by simp)))
  have hz2 : (strOf p2).size ≤ 4294967280 := by rw [strOf_size]; have := hln p2 (by simp); omega
  have HN3 := Lib.hid (nats_strOf p3 (hlt p3 (by simp)))
  have hz3 : (strOf p3).size ≤ 4294967280 := by rw [strOf_size]; have := hln p3 (by simp); omega
  have HN4 := Lib.hid (nats_strOf p4 (hlt p4 (by simp)))
  have hz4 : (strOf p4).size ≤ 4294967280 := by rw [strOf_size]; have := hln p4 (by simp); omega
  have HC0 := Lib.hid (show w.cell? ⟨A, 0, none⟩ = some (.string (strOf p0)) from by have := hst 0 p0 rfl; simpa only [Nat.zero_add] using this)
  have HC1 := Lib.hid (show w.cell? ⟨A, 1, none⟩ = some (.string (strOf p1)) from by have := hst 1 p1 rfl; simpa only [Nat.zero_add] using this)
  have HC2 := Lib.hid (show w.cell? ⟨A, 2, none⟩ = some (.string (strOf p2)) from by have := hst 2 p2 rfl; simpa only [Nat.zero_add] using this)
  have HC3 := Lib.hid (show w.cell? ⟨A, 3, none⟩ = some (.string (strOf p3)) from by have := hst 3 p3 rfl; simpa only [Nat.zero_add] using this)
  have HC4 := Lib.hid (show w.cell? ⟨A, 4, none⟩ = some (.string (strOf p4)) from by have := hst 4 p4 rfl; simpa only [Nat.zero_add] using this)
  have hch := hst 0 p0 rfl
  simp only [Nat.zero_add] at hch
  have hzh : (strOf p0).size ≤ 4294967296 := size_small (Nat.le_trans (hln p0 (by simp)) (by omega))
  have HNH := Lib.hid (nats_strOf p0 (hlt p0 (by simp)))
  have hwk : decide ((nats (strOf p0)).getLast? = some (44 : UInt8).toNat) = false := by rw [HNH.out]; exact hw
  have cs := hasSuffix_any (strOf p0) hzh 44 w
  rw [hwk] at cs
  have HOK := Lib.hid (mail_nw (t := [p1, p2, p3, p4]) hw)
  clear hwk hw
  clear hst hlt hln
  go_enter Tryd.func32, Tryd.ntmps32
  go_wp2_with ((go_at_call 55; refine cs.mono ?_; rintro e w' ⟨rfl, rfl⟩))
  have hm : Tryd.prog.follows .mixedOrders = true := by kernel_rfl
  have HM := Lib.hid (hM.grown (World.grownBy.refl w (some g)) hg0)
  have hgw := hr.lt
  have hbx : A < (w).heap.size := Nat.lt_of_lt_of_le hA ((World.grownBy.refl w (some g))).size
  have hS0 : (w).cell? ⟨A, 0, none⟩ = some (.string (strOf p0)) ∧ (w).cell? ⟨A, 1, none⟩ = some (.string (strOf p1)) ∧ (w).cell? ⟨A, 2, none⟩ = some (.string (strOf p2)) ∧ (w).cell? ⟨A, 3, none⟩ = some (.string (strOf p3)) ∧ (w).cell? ⟨A, 4, none⟩ = some (.string (strOf p4)) ∧ A < (w).heap.size :=
    ⟨(grown_cell (World.grownBy.refl w (some g)) hA hne _).trans HC0.out, (grown_cell (World.grownBy.refl w (some g)) hA hne _).trans HC1.out, (grown_cell (World.grownBy.refl w (some g)) hA hne _).trans HC2.out, (grown_cell (World.grownBy.refl w (some g)) hA hne _).trans HC3.out, (grown_cell (World.grownBy.refl w (some g)) hA hne _).trans HC4.out, hbx⟩
  have HRX := Lib.hid hr
  have HGX := Lib.hid (World.grownBy.refl w (some g))
  clear hM
  go_wp2_with fail
  refine wp_region_held_drew (S := fun W' => W'.cell? ⟨A, 0, none⟩ = some (.string (strOf p0)) ∧ W'.cell? ⟨A, 1, none⟩ = some (.string (strOf p1)) ∧ W'.cell? ⟨A, 2, none⟩ = some (.string (strOf p2)) ∧ W'.cell? ⟨A, 3, none⟩ = some (.string (strOf p3)) ∧ W'.cell? ⟨A, 4, none⟩ = some (.string (strOf p4)) ∧ A < W'.heap.size) hm hS0 (fun hHeld => ?_)
  have HRW := Lib.hid (HRX.out.below ((Below.refl (w).heap.size (w)).drew) HRX.out.lt)
  have HGW := Lib.hid (grown_trans HGX.out (hbw_grown ((Below.refl (w).heap.size (w)).drew) HRX.out.lt))
  have HMW := Lib.hid (HM.out.below ((Below.refl (w).heap.size (w)).drew))
  clear hS0 HRX HGX HM hbx hgw HC0 HC1 HC2 HC3 HC4
  generalize (w).drew = W at *
  simp only [List.size_toArray, List.length_cons, List.length_nil, Nat.reduceAdd]
  refine wpAnyH_take (i := 0) (v := .pointer (some ⟨g, 0, none⟩)) rfl (by kernel_rfl) (by kernel_rfl) (by kernel_rfl) (fun _ _ _ h => h) (Or.inl ⟨by rfl, fun w0 hC => by simp [execOp, Act.eval, Act.put, go_sem]⟩) hHeld ?_
  try simp only [Act.put, List.setIfInBounds_toArray, List.set_cons_zero, List.set_cons_succ, List.getElem_toArray, List.getElem_cons_zero, List.getElem_cons_succ]
  refine wpAnyH_take (i := 1) (v := .slice (some ⟨A, 0, none⟩) 5 5) rfl (by kernel_rfl) (by kernel_rfl) (by kernel_rfl) (fun _ _ _ h => h) (Or.inl ⟨by rfl, fun w0 hC => by simp [execOp, Act.eval, Act.put, go_sem]⟩) hHeld ?_
  try simp only [Act.put, List.setIfInBounds_toArray, List.set_cons_zero, List.set_cons_succ, List.getElem_toArray, List.getElem_cons_zero, List.getElem_cons_succ]
  refine wpAnyH_take (i := 2) (v := .pointer (some ⟨A, 0, none⟩)) rfl (by kernel_rfl) (by kernel_rfl) (by kernel_rfl) (fun _ _ _ h => h) (Or.inl ⟨by rfl, fun w0 hC => by simp [execOp, Act.eval, Act.put, go_sem]⟩) hHeld ?_
  try simp only [Act.put, List.setIfInBounds_toArray, List.set_cons_zero, List.set_cons_succ, List.getElem_toArray, List.getElem_cons_zero, List.getElem_cons_succ]
  refine wpAnyH_take (i := 3) (v := .string (strOf p0)) rfl (by kernel_rfl) (by kernel_rfl) (by kernel_rfl) (fun _ _ _ h => h) (Or.inl ⟨by rfl, fun w0 hC => by simp [execOp, Act.eval, Act.put, go_sem, hC.1]⟩) hHeld ?_
  try simp only [Act.put, List.setIfInBounds_toArray, List.set_cons_zero, List.set_cons_succ, List.getElem_toArray, List.getElem_cons_zero, List.getElem_cons_succ]
  refine wpAnyH_take (i := 4) (v := .slice (some ⟨A, 0, none⟩) 5 5) rfl (by kernel_rfl) (by kernel_rfl) (by kernel_rfl) (fun _ _ _ h => h) (Or.inl ⟨by rfl, fun w0 hC => by simp [execOp, Act.eval, Act.put, go_sem]⟩) hHeld ?_
  try simp only [Act.put, List.setIfInBounds_toArray, List.set_cons_zero, List.set_cons_succ, List.getElem_toArray, List.getElem_cons_zero, List.getElem_cons_succ]
  refine wpAnyH_take (i := 5) (v := .pointer (some ⟨A, 1, none⟩)) rfl (by kernel_rfl) (by kernel_rfl) (by kernel_rfl) (fun _ _ _ h => h) (Or.inl ⟨by rfl, fun w0 hC => by simp [execOp, Act.eval, Act.put, go_sem]⟩) hHeld ?_
  try simp only [Act.put, List.setIfInBounds_toArray, List.set_cons_zero, List.set_cons_succ, List.getElem_toArray, List.getElem_cons_zero, List.getElem_cons_succ]
  refine wpAnyH_take (i := 6) (v := .string (strOf p1)) rfl (by kernel_rfl) (by kernel_rfl) (by kernel_rfl) (fun _ _ _ h => h) (Or.inl ⟨by rfl, fun w0 hC => by simp [execOp, Act.eval, Act.put, go_sem, hC.2.1]⟩) hHeld ?_
  try simp only [Act.put, List.setIfInBounds_toArray, List.set_cons_zero, List.set_cons_succ, List.getElem_toArray, List.getElem_cons_zero, List.getElem_cons_succ]
  refine wpAnyH_take (i := 7) (v := .slice (some ⟨A, 0, none⟩) 5 5) rfl (by kernel_rfl) (by kernel_rfl) (by kernel_rfl) (fun _ _ _ h => h) (Or.inl ⟨by rfl, fun w0 hC => by simp [execOp, Act.eval, Act.put, go_sem]⟩) hHeld ?_
  try simp only [Act.put, List.setIfInBounds_toArray, List.set_cons_zero, List.set_cons_succ, List.getElem_toArray, List.getElem_cons_zero, List.getElem_cons_succ]
  refine wpAnyH_take (i := 8) (v := .pointer (some ⟨A, 2, none⟩)) rfl (by kernel_rfl) (by kernel_rfl) (by kernel_rfl) (fun _ _ _ h => h) (Or.inl ⟨by rfl, fun w0 hC => by simp [execOp, Act.eval, Act.put, go_sem]⟩) hHeld ?_
  try simp only [Act.put, List.setIfInBounds_toArray, List.set_cons_zero, List.set_cons_succ, List.getElem_toArray, List.getElem_cons_zero, List.getElem_cons_succ]
  refine wpAnyH_take (i := 9) (v := .string (strOf p2)) rfl (by kernel_rfl) (by kernel_rfl) (by kernel_rfl) (fun _ _ _ h => h) (Or.inl ⟨by rfl, fun w0 hC => by simp [execOp, Act.eval, Act.put, go_sem, hC.2.2.1]⟩) hHeld ?_
  try simp only [Act.put, List.setIfInBounds_toArray, List.set_cons_zero, List.set_cons_succ, List.getElem_toArray, List.getElem_cons_zero, List.getElem_cons_succ]
  refine wpAnyH_ready (rs := [10]) (by kernel_rfl) (by simp) (AllReadyH.cons rfl (fun K hK => ?_) AllReadyH.nil)
  rw [if_pos (by rfl)]
  go_wp2_with fail
  refine (day_any3 g (strOf p0) (strOf p1) (strOf p2) b W HRW.out (by omega) (by omega) (by omega) HMW.out).mono ?_
  rintro e W2 ⟨rfl, hr2, hg2⟩
  rw [HN0.out, HN1.out, HN2.out] at hr2 ⊢
  obtain ⟨z, hz⟩ : ∃ z, dayR b p0 p1 p2 = z := ⟨_, rfl⟩
  obtain ⟨b2, hb2⟩ : ∃ q, (b || !ymdOk p0 p1 p2) = q := ⟨_, rfl⟩
  have hzb := dayR_bd b p0 p1 p2
  rw [hb2] at hr2
  rw [hz] at hzb ⊢
  have HZ := Lib.hid hz
  have HB2 := Lib.hid hb2
  have HR2 := Lib.hid hr2
  have HG2 := Lib.hid (grown_trans HGW.out hg2)
  have hS : _ ∧ _ ∧ _ ∧ _ ∧ _ ∧ _ := And.intro ((grown_cell hg2 hHeld.2.2.2.2.2 hne _).trans hHeld.1) (And.intro ((grown_cell hg2 hHeld.2.2.2.2.2 hne _).trans hHeld.2.1) (And.intro ((grown_cell hg2 hHeld.2.2.2.2.2 hne _).trans hHeld.2.2.1)
    (And.intro ((grown_cell hg2 hHeld.2.2.2.2.2 hne _).trans hHeld.2.2.2.1) (And.intro ((grown_cell hg2 hHeld.2.2.2.2.2 hne _).trans hHeld.2.2.2.2.1) (Nat.lt_of_lt_of_le hHeld.2.2.2.2.2 hg2.size)))))
  clear hz hb2 hr2 hg2 HRW HGW HMW hHeld
  refine hK.out _ _ hS (fun hHeld => ?_)
  clear hK K
  try simp only [Act.put, List.setIfInBounds_toArray, List.set_cons_zero, List.set_cons_succ, List.getElem_toArray, List.getElem_cons_zero, List.getElem_cons_succ]
  clear hS
  refine wpAnyH_take (i := 11) (v := .int .i64 z) rfl (by kernel_rfl) (by kernel_rfl) (by kernel_rfl) (fun _ _ _ h => h) (Or.inl ⟨by rfl, fun w0 hC => by simp [execOp, Act.eval, Act.put, go_sem]⟩) hHeld ?_
  try simp only [Act.put, List.setIfInBounds_toArray, List.set_cons_zero, List.set_cons_succ, List.getElem_toArray, List.getElem_cons_zero, List.getElem_cons_succ]
  refine wpAnyH_done (by kernel_rfl) ?_ _
  have hc3 := hHeld.2.2.2.1
  have HC4 := Lib.hid hHeld.2.2.2.2.1
  have HA := Lib.hid hHeld.2.2.2.2.2
  clear hHeld
  go_wp2_with fail
  refine (clock_any g (strOf p3) b2 W2 HR2.out (by omega)).mono ?_
  rintro e W3 ⟨y, hy, rfl, hr3, hg3⟩
  rw [HN3.out] at hr3
  obtain ⟨b3, hb3⟩ : ∃ q, (b2 || !clkOk true (splitL 58 p3)) = q := ⟨_, rfl⟩
  rw [hb3] at hr3
  have HB3 := Lib.hid hb3
  have hc4 := (grown_cell hg3 HA.out hne 4).trans HC4.out
  have HR3 := Lib.hid hr3
  have HG3 := Lib.hid (grown_trans HG2.out hg3)
  clear hb3 hy hr3 hg3 hc3 HC4 HR2 HG2
  go_wp2_with fail
  refine (zone_any g (strOf p4) b3 W3 HR3.out (by omega)).mono ?_
  rintro e W4 ⟨y2, hy2, rfl, hr4, hg4⟩
  rw [HN4.out] at hr4
  obtain ⟨b4, hb4⟩ : ∃ q, (b3 || !zoneOk p4) = q := ⟨_, rfl⟩
  rw [hb4] at hr4
  have hfl := mail_flags b p0 p1 p2 p3 p4
  rw [HB2.out, HB3.out, hb4, HZ.out] at hfl
  have HFL := Lib.hid hfl
  have HR4 := Lib.hid hr4
  have HG4 := Lib.hid (grown_trans HG3.out hg4)
  clear hb4 hy2 hr4 hg4 hc4 HR3 HG3 hfl
  go_wp2_with fail
  go_ret
  have hall : (b || !mailOk [p0, p1, p2, p3, p4]) = b4 := by
    rw [HOK.out.1]
    show (b || !(ymdOk p0 p1 p2 && clkOk true (splitL 58 p3) && zoneOk p4)) = b4
    rw [HFL.out.1]
  refine ⟨z, ⟨hzb.1, hzb.2, fun hh => ?_⟩, rfl, by rw [hall]; exact HR4.out, HG4.out⟩
  rw [hall] at hh
  rw [HOK.out.2]
  exact HFL.out.2 hh

set_option maxRecDepth 20000 in
set_option maxHeartbeats 8000000 in
theorem mail_E (g A : Nat) (p0 p1 p2 p3 p4 p5 : List Nat) (b : Bool) (w : World) (hr : Rd w g b) (hst : Strs w A 0 [p0, p1, p2, p3, p4, p5]) (hA : A < w.heap.size) (hne : A ≠ g) (hlt : ∀ p ∈ [p0, p1, p2, p3, p4, p5], ∀ x ∈ p, x < 256) (hln : ∀ p ∈ [p0, p1, p2, p3, p4, p5], p.length ≤ 300) (hM : Mon w) (hw : wkB p0 = false) :
    Calls Tryd.prog 32 #[.pointer (some ⟨g, 0, none⟩), .slice (some ⟨A, 0, none⟩) 6 6] w (GaveP (MailIs b [p0, p1, p2, p3, p4, p5]) g (b || !mailOk [p0, p1, p2, p3, p4, p5]) w) := by
  have hg0 := hr.2
  have HN0 := Lib.hid (nats_strOf p0 (hlt p0 (by simp)))
  have hz0 : (strOf p0).size ≤ 4294967280 := by rw [strOf_size]; have := hln p0 (by simp); omega
  have HN1 := Lib.hid (nats_strOf p1 (hlt p1 (by simp)))
  have hz1 : (strOf p1).size ≤ 4294967280 := by rw [strOf_size]; have := hln p1 (by simp); omega
  have HN2 := Lib.hid (nats_strOf p2 (hlt p2 (by simp)))
  have hz2 : (strOf p2).size ≤ 4294967280 := by rw [strOf_size]; have := hln p2 (by simp); omega
  have HN3 := Lib.hid (nats_strOf p3 (hlt p3 (by simp)))
  have hz3 : (strOf p3).size ≤ 4294967280 := by rw [strOf_size]; have := hln p3 (by simp); omega
  have HN4 := Lib.hid (nats_strOf p4 (hlt p4 (by simp)))
  have hz4 : (strOf p4).size ≤ 4294967280 := by rw [strOf_size]; have := hln p4 (by simp); omega
  have HN5 := Lib.hid (nats_strOf p5 (hlt p5 (by simp)))
  have hz5 : (strOf p5).size ≤ 4294967296 := size_small (Nat.le_trans (hln p5 (by simp)) (by omega))
  have HC0 := Lib.hid (show w.cell? ⟨A, 0, none⟩ = some (.string (strOf p0)) from by have := hst 0 p0 rfl; simpa only [Nat.zero_add] using this)
  have HC1 := Lib.hid (show w.cell? ⟨A, 1, none⟩ = some (.string (strOf p1)) from by have := hst 1 p1 rfl; simpa only [Nat.zero_add] using this)
  have HC2 := Lib.hid (show w.cell? ⟨A, 2, none⟩ = some (.string (strOf p2)) from by have := hst 2 p2 rfl; simpa only [Nat.zero_add] using this)
  have HC3 := Lib.hid (show w.cell? ⟨A, 3, none⟩ = some (.string (strOf p3)) from by have := hst 3 p3 rfl; simpa only [Nat.zero_add] using this)
  have HC4 := Lib.hid (show w.cell? ⟨A, 4, none⟩ = some (.string (strOf p4)) from by have := hst 4 p4 rfl; simpa only [Nat.zero_add] using this)
  have HC5 := Lib.hid (show w.cell? ⟨A, 5, none⟩ = some (.string (strOf p5)) from by have := hst 5 p5 rfl; simpa only [Nat.zero_add] using this)
  have hch := hst 0 p0 rfl
  simp only [Nat.zero_add] at hch
  have hzh : (strOf p0).size ≤ 4294967296 := size_small (Nat.le_trans (hln p0 (by simp)) (by omega))
  have HNH := Lib.hid (nats_strOf p0 (hlt p0 (by simp)))
  have hwk : decide ((nats (strOf p0)).getLast? = some (44 : UInt8).toNat) = false := by rw [HNH.out]; exact hw
  have cs := hasSuffix_any (strOf p0) hzh 44 w
  rw [hwk] at cs
  have HOK := Lib.hid (mail_nw (t := [p1, p2, p3, p4, p5]) hw)
  clear hwk hw
  clear hst hlt hln
  have ce := enclosed_any (strOf p5) hz5 w
  rw [HN5.out] at ce
  obtain ⟨en, hen⟩ : ∃ q, encB' p5 = q := ⟨_, rfl⟩
  rw [hen] at ce
  have HEN := Lib.hid hen
  clear hen
  have hc5 : (w).cell? ⟨A, 5, none⟩ = some (.string (strOf p5)) := HC5.out
  go_enter Tryd.func32, Tryd.ntmps32
  go_wp2_with (first
    | (go_at_call 55; refine cs.mono ?_; rintro e w' ⟨rfl, rfl⟩)
    | (go_at_call 58; refine ce.mono ?_; rintro e w' ⟨rfl, rfl⟩))
  refine (need_any g b en w hr).mono ?_
  rintro e wy ⟨rfl, hry, hgy⟩
  obtain ⟨b6, hb6⟩ : ∃ q, (b || !en) = q := ⟨_, rfl⟩
  rw [hb6] at hry
  have HB6 := Lib.hid hb6
  clear hb6 ce hc5
  have hm : Tryd.prog.follows .mixedOrders = true := by kernel_rfl
  have HM := Lib.hid (hM.grown (grown_trans (World.grownBy.refl w (some g)) hgy) hg0)
  have hgw := hry.lt
  have hbx : A < (wy).heap.size := Nat.lt_of_lt_of_le hA ((grown_trans (World.grownBy.refl w (some g)) hgy)).size
  have hS0 : (wy).cell? ⟨A, 0, none⟩ = some (.string (strOf p0)) ∧ (wy).cell? ⟨A, 1, none⟩ = some (.string (strOf p1)) ∧ (wy).cell? ⟨A, 2, none⟩ = some (.string (strOf p2)) ∧ (wy).cell? ⟨A, 3, none⟩ = some (.string (strOf p3)) ∧ (wy).cell? ⟨A, 4, none⟩ = some (.string (strOf p4)) ∧ A < (wy).heap.size :=
    ⟨(grown_cell (grown_trans (World.grownBy.refl w (some g)) hgy) hA hne _).trans HC0.out, (grown_cell (grown_trans (World.grownBy.refl w (some g)) hgy) hA hne _).trans HC1.out, (grown_cell (grown_trans (World.grownBy.refl w (some g)) hgy) hA hne _).trans HC2.out, (grown_cell (grown_trans (World.grownBy.refl w (some g)) hgy) hA hne _).trans HC3.out, (grown_cell (grown_trans (World.grownBy.refl w (some g)) hgy) hA hne _).trans HC4.out, hbx⟩
  have HRX := Lib.hid hry
  have HGX := Lib.hid (grown_trans (World.grownBy.refl w (some g)) hgy)
  clear hM
  go_wp2_with fail
  refine wp_region_held_drew (S := fun W' => W'.cell? ⟨A, 0, none⟩ = some (.string (strOf p0)) ∧ W'.cell? ⟨A, 1, none⟩ = some (.string (strOf p1)) ∧ W'.cell? ⟨A, 2, none⟩ = some (.string (strOf p2)) ∧ W'.cell? ⟨A, 3, none⟩ = some (.string (strOf p3)) ∧ W'.cell? ⟨A, 4, none⟩ = some (.string (strOf p4)) ∧ A < W'.heap.size) hm hS0 (fun hHeld => ?_)
  have HRW := Lib.hid (HRX.out.below ((Below.refl (wy).heap.size (wy)).drew) HRX.out.lt)
  have HGW := Lib.hid (grown_trans HGX.out (hbw_grown ((Below.refl (wy).heap.size (wy)).drew) HRX.out.lt))
  have HMW := Lib.hid (HM.out.below ((Below.refl (wy).heap.size (wy)).drew))
  clear hS0 HRX HGX HM hbx hgw HC0 HC1 HC2 HC3 HC4
  generalize (wy).drew = W at *
  simp only [List.size_toArray, List.length_cons, List.length_nil, Nat.reduceAdd]
  refine wpAnyH_take (i := 0) (v := .pointer (some ⟨g, 0, none⟩)) rfl (by kernel_rfl) (by kernel_rfl) (by kernel_rfl) (fun _ _ _ h => h) (Or.inl ⟨by rfl, fun w0 hC => by simp [execOp, Act.eval, Act.put, go_sem]⟩) hHeld ?_
  try simp only [Act.put, List.setIfInBounds_toArray, List.set_cons_zero, List.set_cons_succ, List.getElem_toArray, List.getElem_cons_zero, List.getElem_cons_succ]
  refine wpAnyH_take (i := 1) (v := .slice (some ⟨A, 0, none⟩) 5 6) rfl (by kernel_rfl) (by kernel_rfl) (by kernel_rfl) (fun _ _ _ h => h) (Or.inl ⟨by rfl, fun w0 hC => by simp [execOp, Act.eval, Act.put, go_sem]⟩) hHeld ?_
  try simp only [Act.put, List.setIfInBounds_toArray, List.set_cons_zero, List.set_cons_succ, List.getElem_toArray, List.getElem_cons_zero, List.getElem_cons_succ]
  refine wpAnyH_take (i := 2) (v := .pointer (some ⟨A, 0, none⟩)) rfl (by kernel_rfl) (by kernel_rfl) (by kernel_rfl) (fun _ _ _ h => h) (Or.inl ⟨by rfl, fun w0 hC => by simp [execOp, Act.eval, Act.put, go_sem]⟩) hHeld ?_
  try simp only [Act.put, List.setIfInBounds_toArray, List.set_cons_zero, List.set_cons_succ, List.getElem_toArray, List.getElem_cons_zero, List.getElem_cons_succ]
  refine wpAnyH_take (i := 3) (v := .string (strOf p0)) rfl (by kernel_rfl) (by kernel_rfl) (by kernel_rfl) (fun _ _ _ h => h) (Or.inl ⟨by rfl, fun w0 hC => by simp [execOp, Act.eval, Act.put, go_sem, hC.1]⟩) hHeld ?_
  try simp only [Act.put, List.setIfInBounds_toArray, List.set_cons_zero, List.set_cons_succ, List.getElem_toArray, List.getElem_cons_zero, List.getElem_cons_succ]
  refine wpAnyH_take (i := 4) (v := .slice (some ⟨A, 0, none⟩) 5 6) rfl (by kernel_rfl) (by kernel_rfl) (by kernel_rfl) (fun _ _ _ h => h) (Or.inl ⟨by rfl, fun w0 hC => by simp [execOp, Act.eval, Act.put, go_sem]⟩) hHeld ?_
  try simp only [Act.put, List.setIfInBounds_toArray, List.set_cons_zero, List.set_cons_succ, List.getElem_toArray, List.getElem_cons_zero, List.getElem_cons_succ]
  refine wpAnyH_take (i := 5) (v := .pointer (some ⟨A, 1, none⟩)) rfl (by kernel_rfl) (by kernel_rfl) (by kernel_rfl) (fun _ _ _ h => h) (Or.inl ⟨by rfl, fun w0 hC => by simp [execOp, Act.eval, Act.put, go_sem]⟩) hHeld ?_
  try simp only [Act.put, List.setIfInBounds_toArray, List.set_cons_zero, List.set_cons_succ, List.getElem_toArray, List.getElem_cons_zero, List.getElem_cons_succ]
  refine wpAnyH_take (i := 6) (v := .string (strOf p1)) rfl (by kernel_rfl) (by kernel_rfl) (by kernel_rfl) (fun _ _ _ h => h) (Or.inl ⟨by rfl, fun w0 hC => by simp [execOp, Act.eval, Act.put, go_sem, hC.2.1]⟩) hHeld ?_
  try simp only [Act.put, List.setIfInBounds_toArray, List.set_cons_zero, List.set_cons_succ, List.getElem_toArray, List.getElem_cons_zero, List.getElem_cons_succ]
  refine wpAnyH_take (i := 7) (v := .slice (some ⟨A, 0, none⟩) 5 6) rfl (by kernel_rfl) (by kernel_rfl) (by kernel_rfl) (fun _ _ _ h => h) (Or.inl ⟨by rfl, fun w0 hC => by simp [execOp, Act.eval, Act.put, go_sem]⟩) hHeld ?_
  try simp only [Act.put, List.setIfInBounds_toArray, List.set_cons_zero, List.set_cons_succ, List.getElem_toArray, List.getElem_cons_zero, List.getElem_cons_succ]
  refine wpAnyH_take (i := 8) (v := .pointer (some ⟨A, 2, none⟩)) rfl (by kernel_rfl) (by kernel_rfl) (by kernel_rfl) (fun _ _ _ h => h) (Or.inl ⟨by rfl, fun w0 hC => by simp [execOp, Act.eval, Act.put, go_sem]⟩) hHeld ?_
  try simp only [Act.put, List.setIfInBounds_toArray, List.set_cons_zero, List.set_cons_succ, List.getElem_toArray, List.getElem_cons_zero, List.getElem_cons_succ]
  refine wpAnyH_take (i := 9) (v := .string (strOf p2)) rfl (by kernel_rfl) (by kernel_rfl) (by kernel_rfl) (fun _ _ _ h => h) (Or.inl ⟨by rfl, fun w0 hC => by simp [execOp, Act.eval, Act.put, go_sem, hC.2.2.1]⟩) hHeld ?_
  try simp only [Act.put, List.setIfInBounds_toArray, List.set_cons_zero, List.set_cons_succ, List.getElem_toArray, List.getElem_cons_zero, List.getElem_cons_succ]
  refine wpAnyH_ready (rs := [10]) (by kernel_rfl) (by simp) (AllReadyH.cons rfl (fun K hK => ?_) AllReadyH.nil)
  rw [if_pos (by rfl)]
  go_wp2_with fail
  refine (day_any3 g (strOf p0) (strOf p1) (strOf p2) b6 W HRW.out (by omega) (by omega) (by omega) HMW.out).mono ?_
  rintro e W2 ⟨rfl, hr2, hg2⟩
  rw [HN0.out, HN1.out, HN2.out] at hr2 ⊢
  obtain ⟨z, hz⟩ : ∃ z, dayR b6 p0 p1 p2 = z := ⟨_, rfl⟩
  obtain ⟨b2, hb2⟩ : ∃ q, (b6 || !ymdOk p0 p1 p2) = q := ⟨_, rfl⟩
  have hzb := dayR_bd b6 p0 p1 p2
  rw [hb2] at hr2
  rw [hz] at hzb ⊢
  have HZ := Lib.hid hz
  have HB2 := Lib.hid hb2
  have HR2 := Lib.hid hr2
  have HG2 := Lib.hid (grown_trans HGW.out hg2)
  have hS : _ ∧ _ ∧ _ ∧ _ ∧ _ ∧ _ := And.intro ((grown_cell hg2 hHeld.2.2.2.2.2 hne _).trans hHeld.1) (And.intro ((grown_cell hg2 hHeld.2.2.2.2.2 hne _).trans hHeld.2.1) (And.intro ((grown_cell hg2 hHeld.2.2.2.2.2 hne _).trans hHeld.2.2.1)
    (And.intro ((grown_cell hg2 hHeld.2.2.2.2.2 hne _).trans hHeld.2.2.2.1) (And.intro ((grown_cell hg2 hHeld.2.2.2.2.2 hne _).trans hHeld.2.2.2.2.1) (Nat.lt_of_lt_of_le hHeld.2.2.2.2.2 hg2.size)))))
  clear hz hb2 hr2 hg2 HRW HGW HMW hHeld
  refine hK.out _ _ hS (fun hHeld => ?_)
  clear hK K
  try simp only [Act.put, List.setIfInBounds_toArray, List.set_cons_zero, List.set_cons_succ, List.getElem_toArray, List.getElem_cons_zero, List.getElem_cons_succ]
  clear hS
  refine wpAnyH_take (i := 11) (v := .int .i64 z) rfl (by kernel_rfl) (by kernel_rfl) (by kernel_rfl) (fun _ _ _ h => h) (Or.inl ⟨by rfl, fun w0 hC => by simp [execOp, Act.eval, Act.put, go_sem]⟩) hHeld ?_
  try simp only [Act.put, List.setIfInBounds_toArray, List.set_cons_zero, List.set_cons_succ, List.getElem_toArray, List.getElem_cons_zero, List.getElem_cons_succ]
  refine wpAnyH_done (by kernel_rfl) ?_ _
  have hc3 := hHeld.2.2.2.1
  have HC4 := Lib.hid hHeld.2.2.2.2.1
  have HA := Lib.hid hHeld.2.2.2.2.2
  clear hHeld
  go_wp2_with fail
  refine (clock_any g (strOf p3) b2 W2 HR2.out (by omega)).mono ?_
  rintro e W3 ⟨y, hy, rfl, hr3, hg3⟩
  rw [HN3.out] at hr3
  obtain ⟨b3, hb3⟩ : ∃ q, (b2 || !clkOk true (splitL 58 p3)) = q := ⟨_, rfl⟩
  rw [hb3] at hr3
  have HB3 := Lib.hid hb3
  have hc4 := (grown_cell hg3 HA.out hne 4).trans HC4.out
  have HR3 := Lib.hid hr3
  have HG3 := Lib.hid (grown_trans HG2.out hg3)
  clear hb3 hy hr3 hg3 hc3 HC4 HR2 HG2
  go_wp2_with fail
  refine (zone_any g (strOf p4) b3 W3 HR3.out (by omega)).mono ?_
  rintro e W4 ⟨y2, hy2, rfl, hr4, hg4⟩
  rw [HN4.out] at hr4
  obtain ⟨b4, hb4⟩ : ∃ q, (b3 || !zoneOk p4) = q := ⟨_, rfl⟩
  rw [hb4] at hr4
  have hfl := mail_flags b6 p0 p1 p2 p3 p4
  rw [HB2.out, HB3.out, hb4, HZ.out] at hfl
  have HFL := Lib.hid hfl
  have HR4 := Lib.hid hr4
  have HG4 := Lib.hid (grown_trans HG3.out hg4)
  clear hb4 hy2 hr4 hg4 hc4 HR3 HG3 hfl
  go_wp2_with fail
  go_ret
  have hall : (b || !mailOk [p0, p1, p2, p3, p4, p5]) = b4 := by
    rw [HOK.out.1]
    show (b || !(encB' p5 && (ymdOk p0 p1 p2 && clkOk true (splitL 58 p3) && zoneOk p4))) = b4
    rw [or_and, HEN.out, HB6.out, HFL.out.1]
  refine ⟨z, ⟨hzb.1, hzb.2, fun hh => ?_⟩, rfl, by rw [hall]; exact HR4.out, HG4.out⟩
  rw [hall] at hh
  rw [HOK.out.2]
  exact HFL.out.2 hh

set_option maxRecDepth 20000 in
set_option maxHeartbeats 8000000 in
theorem mail_C0 (g A : Nat) (h : List Nat) (b : Bool) (w : World) (hr : Rd w g b) (hst : Strs w A 0 [h]) (hA : A < w.heap.size) (hne : A ≠ g) (hlt : ∀ p ∈ [h], ∀ x ∈ p, x < 256) (hln : ∀ p ∈ [h], p.length ≤ 300) (hM : Mon w) (hw : wkB h = true) :
    Calls Tryd.prog 32 #[.pointer (some ⟨g, 0, none⟩), .slice (some ⟨A, 0, none⟩) 1 1] w (GaveP (MailIs b [h]) g (b || !mailOk [h]) w) := by
  have hg0 := hr.2
  have hch := hst 0 h rfl
  simp only [Nat.zero_add] at hch
  have hzh : (strOf h).size ≤ 4294967296 := size_small (Nat.le_trans (hln h (by simp)) (by omega))
  have HNH := Lib.hid (nats_strOf h (hlt h (by simp)))
  have hzd : (strOf h.dropLast).size ≤ 4294967296 := size_small (by have := hln h (by simp); rw [List.length_dropLast]; omega)
  have HND := Lib.hid (nats_strOf h.dropLast (fun x hx => hlt h (by simp) x ((List.dropLast_sublist h).subset hx)))
  have hwk : (nats (strOf h)).getLast? = some (44 : UInt8).toNat := by rw [HNH.out]; exact of_decide_eq_true hw
  have cs := hasSuffix_any (strOf h) hzh 44 w
  have ct := trimSuffix_any (strOf h) hzh 44 hwk w
  rw [decide_eq_true hwk] at cs
  rw [HNH.out] at ct
  have cl := letters_any (strOf h.dropLast) hzd w
  rw [HND.out] at cl
  have HOK := Lib.hid (mail_wk (t := []) hw)
  obtain ⟨lt, hlt0⟩ : ∃ q, lettersB h.dropLast = q := ⟨_, rfl⟩
  rw [hlt0] at cl
  have HLT := Lib.hid hlt0
  clear hlt0 hwk hw
  have HNO : Hid (mailOk [h] = false) := Lib.hid (by rw [HOK.out.1, restOk_no (by simp) (by simp), Bool.and_false])
  clear hst hlt hln
  go_enter Tryd.func32, Tryd.ntmps32
  go_wp2_with (first
    | (go_at_call 55; refine cs.mono ?_; rintro e w' ⟨rfl, rfl⟩)
    | (go_at_call 57; refine ct.mono ?_; rintro e w' ⟨rfl, rfl⟩)
    | (go_at_call 56; refine cl.mono ?_; rintro e w' ⟨rfl, rfl⟩))
  refine (need_any g b lt w hr).mono ?_
  rintro e wx ⟨rfl, hrx, hgx⟩
  obtain ⟨b1, hb1⟩ : ∃ q, (b || !lt) = q := ⟨_, rfl⟩
  rw [hb1] at hrx
  have HB1 := Lib.hid hb1
  clear hb1 cs ct cl
  have hcell := hrx.cell
  have hfrz := hrx.frz
  have HPUT := Lib.hid (hrx.put true)
  have HGX := Lib.hid hgx
  clear hrx hgx
  go_wp2_with fail
  go_ret
  refine ⟨0, ⟨by omega, by omega, fun hh => ?_⟩, rfl, ?_, grown_trans HGX.out (grownBy_setCell _ _ _ _)⟩
  · rw [HNO.out] at hh; cases b <;> cases hh
  · rw [HNO.out, show (b || !false) = true by cases b <;> rfl]; exact HPUT.out

set_option maxRecDepth 20000 in
set_option maxHeartbeats 8000000 in
theorem mail_C1 (g A : Nat) (h q : List Nat) (r : List (List Nat)) (n : Nat) (b : Bool) (w : World) (hr : Rd w g b) (hst : Strs w A 0 (h :: q :: r)) (hA : A < w.heap.size) (hne : A ≠ g) (hlt : ∀ p ∈ (h :: q :: r), ∀ x ∈ p, x < 256) (hln : ∀ p ∈ (h :: q :: r), p.length ≤ 300) (hM : Mon w) (hw : wkB h = true) (hn : (h :: q :: r).length = n) (h5 : (q :: r).length ≠ 5) (h6 : (q :: r).length ≠ 6) (hn3 : n ≤ 300) :
    Calls Tryd.prog 32 #[.pointer (some ⟨g, 0, none⟩), .slice (some ⟨A, 0, none⟩) n n] w (GaveP (MailIs b (h :: q :: r)) g (b || !mailOk (h :: q :: r)) w) := by
  have hg0 := hr.2
  have f5 : (((n : Int) - 1) == 5) = false := by simp only [List.length_cons] at h5 hn; simp; omega
  have f6 : (((n : Int) - 1) == 6) = false := by simp only [List.length_cons] at h6 hn; simp; omega
  have f5' : (((n : Int) - 1) != 5) = true := by simp only [List.length_cons] at h5 hn; simp; omega
  have hn2 : 2 ≤ n := by simp only [List.length_cons] at hn; omega
  have hch := hst 0 h rfl
  simp only [Nat.zero_add] at hch
  have hzh : (strOf h).size ≤ 4294967296 := size_small (Nat.le_trans (hln h (by simp)) (by omega))
  have HNH := Lib.hid (nats_strOf h (hlt h (by simp)))
  have hzd : (strOf h.dropLast).size ≤ 4294967296 := size_small (by have := hln h (by simp); rw [List.length_dropLast]; omega)
  have HND := Lib.hid (nats_strOf h.dropLast (fun x hx => hlt h (by simp) x ((List.dropLast_sublist h).subset hx)))
  have hwk : (nats (strOf h)).getLast? = some (44 : UInt8).toNat := by rw [HNH.out]; exact of_decide_eq_true hw
  have cs := hasSuffix_any (strOf h) hzh 44 w
  have ct := trimSuffix_any (strOf h) hzh 44 hwk w
  rw [decide_eq_true hwk] at cs
  rw [HNH.out] at ct
  have cl := letters_any (strOf h.dropLast) hzd w
  rw [HND.out] at cl
  have HOK := Lib.hid (mail_wk (t := q :: r) hw)
  obtain ⟨lt, hlt0⟩ : ∃ q, lettersB h.dropLast = q := ⟨_, rfl⟩
  rw [hlt0] at cl
  have HLT := Lib.hid hlt0
  clear hlt0 hwk hw
  have HNO : Hid (mailOk (h :: q :: r) = false) := Lib.hid (by rw [HOK.out.1, restOk_no h5 h6, Bool.and_false])
  clear hst hlt hln h5 h6 hn
  go_enter Tryd.func32, Tryd.ntmps32
  go_wp2_with (first
    | (go_at_call 55; refine cs.mono ?_; rintro e w' ⟨rfl, rfl⟩)
    | (go_at_call 57; refine ct.mono ?_; rintro e w' ⟨rfl, rfl⟩)
    | (go_at_call 56; refine cl.mono ?_; rintro e w' ⟨rfl, rfl⟩))
  refine (need_any g b lt w hr).mono ?_
  rintro e wx ⟨rfl, hrx, hgx⟩
  obtain ⟨b1, hb1⟩ : ∃ q, (b || !lt) = q := ⟨_, rfl⟩
  rw [hb1] at hrx
  have HB1 := Lib.hid hb1
  clear hb1 cs ct cl
  have hcell := hrx.cell
  have hfrz := hrx.frz
  have HPUT := Lib.hid (hrx.put true)
  have HGX := Lib.hid hgx
  clear hrx hgx
  go_wp2_with fail
  go_ret
  refine ⟨0, ⟨by omega, by omega, fun hh => ?_⟩, rfl, ?_, grown_trans HGX.out (grownBy_setCell _ _ _ _)⟩
  · rw [HNO.out] at hh; cases b <;> cases hh
  · rw [HNO.out, show (b || !false) = true by cases b <;> rfl]; exact HPUT.out

set_option maxRecDepth 20000 in
set_option maxHeartbeats 8000000 in
theorem mail_F0 (g A : Nat)  (b : Bool) (w : World) (hr : Rd w g b) (hst : Strs w A 0 ([] : List (List Nat))) (hA : A < w.heap.size) (hne : A ≠ g) (hlt : ∀ p ∈ ([] : List (List Nat)), ∀ x ∈ p, x < 256) (hln : ∀ p ∈ ([] : List (List Nat)), p.length ≤ 300) (hM : Mon w)  :
    Calls Tryd.prog 32 #[.pointer (some ⟨g, 0, none⟩), .slice (some ⟨A, 0, none⟩) 0 0] w (GaveP (MailIs b ([] : List (List Nat))) g (b || !mailOk ([] : List (List Nat))) w) := by
  have hg0 := hr.2
  have HNO : Hid (mailOk ([] : List (List Nat)) = false) := Lib.hid rfl
  clear hst hlt hln
  have hcell := hr.cell
  have hfrz := hr.frz
  have HPUT := Lib.hid (hr.put true)
  have HGX := Lib.hid (World.grownBy.refl w (some g))
  clear hr
  go_enter Tryd.func32, Tryd.ntmps32
  go_wp2_with fail
  go_ret
  refine ⟨0, ⟨by omega, by omega, fun hh => ?_⟩, rfl, ?_, grown_trans HGX.out (grownBy_setCell _ _ _ _)⟩
  · rw [HNO.out] at hh; cases b <;> cases hh
  · rw [HNO.out, show (b || !false) = true by cases b <;> rfl]; exact HPUT.out

set_option maxRecDepth 20000 in
set_option maxHeartbeats 8000000 in
theorem mail_F1 (g A : Nat) (p0 : List Nat) (r : List (List Nat)) (n : Nat) (b : Bool) (w : World) (hr : Rd w g b) (hst : Strs w A 0 (p0 :: r)) (hA : A < w.heap.size) (hne : A ≠ g) (hlt : ∀ p ∈ (p0 :: r), ∀ x ∈ p, x < 256) (hln : ∀ p ∈ (p0 :: r), p.length ≤ 300) (hM : Mon w) (hw : wkB p0 = false) (hn : (p0 :: r).length = n) (h5 : (p0 :: r).length ≠ 5) (h6 : (p0 :: r).length ≠ 6) (hn3 : n ≤ 300) :
    Calls Tryd.prog 32 #[.pointer (some ⟨g, 0, none⟩), .slice (some ⟨A, 0, none⟩) n n] w (GaveP (MailIs b (p0 :: r)) g (b || !mailOk (p0 :: r)) w) := by
  have hg0 := hr.2
  have f6 : ((n : Int) == 6) = false := by rw [hn] at h6; simp; omega
  have f5' : ((n : Int) != 5) = true := by rw [hn] at h5; simp; omega
  have hn2 : 1 ≤ n := by simp only [List.length_cons] at hn; omega
  have hch := hst 0 p0 rfl
  simp only [Nat.zero_add] at hch
  have hzh : (strOf p0).size ≤ 4294967296 := size_small (Nat.le_trans (hln p0 (by simp)) (by omega))
  have HNH := Lib.hid (nats_strOf p0 (hlt p0 (by simp)))
  have hwk : decide ((nats (strOf p0)).getLast? = some (44 : UInt8).toNat) = false := by rw [HNH.out]; exact hw
  have cs := hasSuffix_any (strOf p0) hzh 44 w
  rw [hwk] at cs
  have HOK := Lib.hid (mail_nw (t := r) hw)
  clear hwk hw
  have HNO : Hid (mailOk (p0 :: r) = false) := Lib.hid (by rw [HOK.out.1, restOk_no h5 h6])
  clear hst hlt hln h5 h6 hn
  have hcell := hr.cell
  have hfrz := hr.frz
  have HPUT := Lib.hid (hr.put true)
  have HGX := Lib.hid (World.grownBy.refl w (some g))
  clear hr
  go_enter Tryd.func32, Tryd.ntmps32
  go_wp2_with ((go_at_call 55; refine cs.mono ?_; rintro e w' ⟨rfl, rfl⟩))
  go_ret
  refine ⟨0, ⟨by omega, by omega, fun hh => ?_⟩, rfl, ?_, grown_trans HGX.out (grownBy_setCell _ _ _ _)⟩
  · rw [HNO.out] at hh; cases b <;> cases hh
  · rw [HNO.out, show (b || !false) = true by cases b <;> rfl]; exact HPUT.out

theorem mail_any (g A : Nat) (ws : List (List Nat)) (b : Bool) (w : World) (hr : Rd w g b) (hst : Strs w A 0 ws) (hA : A < w.heap.size) (hne : A ≠ g) (hlt : ∀ p ∈ ws, ∀ x ∈ p, x < 256) (hln : ∀ p ∈ ws, p.length ≤ 300) (hM : Mon w) (hn : ws.length ≤ 300) :
    Calls Tryd.prog 32 #[.pointer (some ⟨g, 0, none⟩), .slice (some ⟨A, 0, none⟩) ws.length ws.length] w (GaveP (MailIs b ws) g (b || !mailOk ws) w) := by
  match ws, hst, hlt, hln, hn with
  | [], hst, hlt, hln, _ => exact mail_F0 g A b w hr hst hA hne hlt hln hM
  | h :: t, hst, hlt, hln, hn =>
    cases hw : wkB h
    · rcases six_cases (h :: t) with ⟨p0, p1, p2, p3, p4, e⟩ | ⟨p0, p1, p2, p3, p4, p5, e⟩ | ⟨h5, h6⟩
      · injection e with e1 e2
        subst e1 e2
        exact mail_D g A h p1 p2 p3 p4 b w hr hst hA hne hlt hln hM hw
      · injection e with e1 e2
        subst e1 e2
        exact mail_E g A h p1 p2 p3 p4 p5 b w hr hst hA hne hlt hln hM hw
      · exact mail_F1 g A h t _ b w hr hst hA hne hlt hln hM hw rfl h5 h6 hn
    · match t, hst, hlt, hln, hn with
      | [], hst, hlt, hln, _ => exact mail_C0 g A h b w hr hst hA hne hlt hln hM hw
      | q :: r, hst, hlt, hln, hn =>
        rcases six_cases (q :: r) with ⟨p0, p1, p2, p3, p4, e⟩ | ⟨p0, p1, p2, p3, p4, p5, e⟩ | ⟨h5, h6⟩
        · injection e with e1 e2
          subst e1 e2
          exact mail_A g A h q p1 p2 p3 p4 b w hr hst hA hne hlt hln hM hw
        · injection e with e1 e2
          subst e1 e2
          exact mail_B g A h q p1 p2 p3 p4 p5 b w hr hst hA hne hlt hln hM hw
        · exact mail_C1 g A h q r _ b w hr hst hA hne hlt hln hM hw rfl h5 h6 hn
end Go.Proofs.YtnhafpgeinghnaaDoor
