/-
  The law NameMore of package name, as a walk.
-/
import Derived.Test.YtbegklhbhafmeaaDoorQNameLawA
namespace Go.Proofs.YtbegklhbhafmeaaDoor
set_option linter.unusedVariables false
set_option linter.unusedSimpArgs false
open Go.RowKit
set_option linter.unusedVariables false
set_option linter.unusedSimpArgs false

theorem lk_mk {p s : List Nat} (h1 : patB p = true) (h2 : rightN s = true) (h3 : Lk p s) : lkB p s = true := by
  unfold lkB
  rw [h1, h2, (like_iff p s).2 h3]; rfl
theorem lk_of {p s : List Nat} (h : lkB p s = true) : patB p = true ∧ rightN s = true ∧ Lk p s := by
  unfold lkB at h
  simp only [Bool.and_eq_true] at h
  exact ⟨h.1, h.2.1, (like_iff p s).1 h.2.2⟩
theorem pat_more {p q : List Nat} (h : patB p = true) (hl : p.length + q.length ≤ 80) (hq : ∀ c ∈ q, plainB c = true ∨ c = 42 ∨ c = 37) : patB (p ++ q) = true ∧ patB (q ++ p) = true := by
  have h2 := (of_decide_eq_true h).2
  constructor
  · refine decide_eq_true ⟨by rw [List.length_append]; omega, fun c hc => ?_⟩
    rcases List.mem_append.1 hc with hc | hc
    · exact h2 c hc
    · exact hq c hc
  · refine decide_eq_true ⟨by rw [List.length_append]; omega, fun c hc => ?_⟩
    rcases List.mem_append.1 hc with hc | hc
    · exact hq c hc
    · exact h2 c hc
theorem lk_behind {p s : List Nat} (h : lkB p s = true) (hp : p.length ≤ 70) : lkB (p ++ [42]) s = true := by
  obtain ⟨h1, h2, h3⟩ := lk_of h
  exact lk_mk (pat_more h1 (by simp; omega) (fun c hc => by simp at hc; exact .inr (.inl hc))).1 h2 (like_behind h3)
theorem lk_ahead {p s : List Nat} (h : lkB p s = true) (hp : p.length ≤ 70) : lkB ([42] ++ p) s = true := by
  obtain ⟨h1, h2, h3⟩ := lk_of h
  exact lk_mk (pat_more h1 (by simp; omega) (fun c hc => by simp at hc; exact .inr (.inl hc))).2 h2 (like_ahead h3)
theorem right_len {l : List Nat} (h : rightN l = true) : l.length ≤ 40 := (of_decide_eq_true (of_decide_eq_true h).1).2.1
theorem lk_below {s more : List Nat} (hs : rightN s = true) (hl : rightN (s ++ 47 :: more) = true) : lkB (s ++ [47, 42]) (s ++ 47 :: more) = true := by
  refine lk_mk (pat_more (right_pat hs) (by have := right_len hs; simp; omega) (fun c hc => ?_)).1 hl (like_below (right_plain hs) more)
  simp at hc
  rcases hc with rfl | rfl
  · left; decide
  · right; left; rfl

set_option maxRecDepth 20000 in
set_option maxHeartbeats 8000000 in
theorem nameMore_walk (p s more : ByteArray) (hp : p.size ≤ 140737488355328) (hs : s.size ≤ 140737488355328) (hm : more.size ≤ 140737488355328) (w : World) :
    Calls Tryd.prog 6 #[.string p, .string s, .string more] w fun e w' => e = .returned (.bool true) ∧ Below w.heap.size w w' := by
  by_cases h1 : 70 < p.size
  · have a1 : (70 : Int) < (p.size : Int) := by omega
    go_enter Tryd.func6, Tryd.ntmps6
    go_wp2_with fail
    refine (alive10_any w).mono ?_
    rintro e w1 ⟨rfl, hb1⟩
    have H1 := Lib.hid hb1
    clear hb1
    go_wp2_with fail
    go_ret
    exact ⟨rfl, H1.out⟩
  have a1 : ¬ (70 : Int) < (p.size : Int) := by omega
  by_cases h2 : 300 < s.size
  · have a2 : (300 : Int) < (s.size : Int) := by omega
    go_enter Tryd.func6, Tryd.ntmps6
    go_wp2_with fail
    refine (alive10_any w).mono ?_
    rintro e w1 ⟨rfl, hb1⟩
    have H1 := Lib.hid hb1
    clear hb1
    go_wp2_with fail
    go_ret
    exact ⟨rfl, H1.out⟩
  have a2 : ¬ (300 : Int) < (s.size : Int) := by omega
  by_cases h3 : 300 < more.size
  · have a3 : (300 : Int) < (more.size : Int) := by omega
    go_enter Tryd.func6, Tryd.ntmps6
    go_wp2_with fail
    refine (alive10_any w).mono ?_
    rintro e w1 ⟨rfl, hb1⟩
    have H1 := Lib.hid hb1
    clear hb1
    go_wp2_with fail
    go_ret
    exact ⟨rfl, H1.out⟩
  have a3 : ¬ (300 : Int) < (more.size : Int) := by omega
  have LP := Lib.hid (nats_length p)
  have LS := Lib.hid (nats_length s)
  have LM := Lib.hid (nats_length more)
  have k1 : ∀ W, (Op.stringOp .add p ⟨#[42]⟩).run Tryd.prog W = .ok (.string (strOf (nats p ++ [42]))) W := fun W => add_str p _ (nats p) [42] (strOf_nats p).symm rfl (by rw [LP.out]; simp; omega) W
  have k2 : ∀ W, (Op.stringOp .add ⟨#[42]⟩ p).run Tryd.prog W = .ok (.string (strOf ([42] ++ nats p))) W := fun W => add_str _ p [42] (nats p) rfl (strOf_nats p).symm (by rw [LP.out]; simp; omega) W
  have k3 : ∀ W, (Op.stringOp .add s ⟨#[47]⟩).run Tryd.prog W = .ok (.string (strOf (nats s ++ [47]))) W := fun W => add_str s _ (nats s) [47] (strOf_nats s).symm rfl (by rw [LS.out]; simp; omega) W
  have k4 : ∀ W, (Op.stringOp .add (strOf (nats s ++ [47])) more).run Tryd.prog W = .ok (.string (strOf (nats s ++ 47 :: nats more))) W := fun W => by have := add_str _ more (nats s ++ [47]) (nats more) rfl (strOf_nats more).symm (by rw [List.length_append, LS.out, LM.out]; simp; omega) W; rwa [List.append_assoc] at this
  have k5 : ∀ W, (Op.stringOp .add s ⟨#[47, 42]⟩).run Tryd.prog W = .ok (.string (strOf (nats s ++ [47, 42]))) W := fun W => add_str s _ (nats s) [47, 42] (strOf_nats s).symm rfl (by rw [LS.out]; simp; omega) W
  have lt1 : ∀ x ∈ nats p ++ [42], x < 256 := fun x hx => by rcases List.mem_append.1 hx with h | h; exact nats_lt p x h; simp at h; omega
  have lt2 : ∀ x ∈ [42] ++ nats p, x < 256 := fun x hx => by rcases List.mem_append.1 hx with h | h; (simp at h; omega); exact nats_lt p x h
  have lt3 : ∀ x ∈ nats s ++ 47 :: nats more, x < 256 := fun x hx => by rcases List.mem_append.1 hx with h | h; exact nats_lt s x h; rcases List.mem_cons.1 h with h | h; omega; exact nats_lt more x h
  have lt4 : ∀ x ∈ nats s ++ [47, 42], x < 256 := fun x hx => by rcases List.mem_append.1 hx with h | h; exact nats_lt s x h; (simp at h; omega)
  have z1 : (strOf (nats p ++ [42])).size ≤ 140737488355328 := by rw [strOf_size, List.length_append, LP.out]; simp; omega
  have z2 : (strOf ([42] ++ nats p)).size ≤ 140737488355328 := by rw [strOf_size, List.length_append, LP.out]; simp; omega
  have z3 : (strOf (nats s ++ 47 :: nats more)).size ≤ 140737488355328 := by rw [strOf_size, List.length_append, List.length_cons, LS.out, LM.out]; omega
  have z4 : (strOf (nats s ++ [47, 42])).size ≤ 140737488355328 := by rw [strOf_size, List.length_append, LS.out]; simp; omega
  have C1 := Lib.hid fun W => nmLike_any p s hp hs W
  have C2 := Lib.hid fun W => nmLike_any _ s z1 hs W
  have C3 := Lib.hid fun W => nmLike_any _ s z2 hs W
  have C4 := Lib.hid fun W => nmRight_any _ z3 W
  have C5 := Lib.hid fun W => nmRight_any s hs W
  have C6 := Lib.hid fun W => nmBelow_any _ s z3 W
  have C7 := Lib.hid fun W => nmBelow_any s (strOf (nats s ++ 47 :: nats more)) hs W
  have C8 := Lib.hid fun W => nmLike_any _ _ z4 z3 W
  rw [nats_strOf _ lt1] at C2
  rw [nats_strOf _ lt2] at C3
  rw [nats_strOf _ lt3] at C4 C6 C7 C8
  rw [nats_strOf _ lt4] at C8
  have hb1 : lkB (nats p) (nats s) = true → lkB (nats p ++ [42]) (nats s) = true := fun h => lk_behind h (by rw [LP.out]; omega)
  have hb2 : lkB (nats p) (nats s) = true → lkB ([42] ++ nats p) (nats s) = true := fun h => lk_ahead h (by rw [LP.out]; omega)
  have hb3 : rightN (nats s ++ 47 :: nats more) = true → belowN (nats s ++ 47 :: nats more) (nats s) = true := below_more
  have hb4 : belowN (nats s) (nats s ++ 47 :: nats more) = false := below_not
  have hb5 : rightN (nats s) = true → rightN (nats s ++ 47 :: nats more) = true → lkB (nats s ++ [47, 42]) (nats s ++ 47 :: nats more) = true := lk_below
  rw [hb4] at C7
  clear h1 h2 h3 hb4 lt1 lt2 lt3 lt4 z1 z2 z3 z4
  cases r1 : lkB (nats p) (nats s) <;> cases r2 : rightN (nats s ++ 47 :: nats more) <;> cases r3 : rightN (nats s)
  · rw [r1] at C1
    rw [r2] at C4
    rw [r3] at C5
    clear hb1 hb2 hb3 hb5 r1 r2 r3
    go_enter Tryd.func6, Tryd.ntmps6
    go_wp2_with fail
    refine (alive10_any w).mono ?_
    rintro e w1 ⟨rfl, hb1⟩
    have H1 := Lib.hid hb1
    clear hb1
    go_wp2_with fail
    refine (C1.out _).mono ?_
    rintro e w2 ⟨rfl, hb⟩
    have H2 := Lib.hid (H1.out.trans (hb.mono H1.out.size))
    clear hb H1
    go_wp2_with fail
    refine (C4.out _).mono ?_
    rintro e w3 ⟨rfl, hb⟩
    have H3 := Lib.hid (H2.out.trans (hb.mono H2.out.size))
    clear hb H2
    go_wp2_with fail
    go_ret
    exact ⟨rfl, H3.out⟩
  · rw [r1] at C1
    rw [r2] at C4
    rw [r3] at C5
    clear hb1 hb2 hb3 hb5 r1 r2 r3
    go_enter Tryd.func6, Tryd.ntmps6
    go_wp2_with fail
    refine (alive10_any w).mono ?_
    rintro e w1 ⟨rfl, hb1⟩
    have H1 := Lib.hid hb1
    clear hb1
    go_wp2_with fail
    refine (C1.out _).mono ?_
    rintro e w2 ⟨rfl, hb⟩
    have H2 := Lib.hid (H1.out.trans (hb.mono H1.out.size))
    clear hb H1
    go_wp2_with fail
    refine (C4.out _).mono ?_
    rintro e w3 ⟨rfl, hb⟩
    have H3 := Lib.hid (H2.out.trans (hb.mono H2.out.size))
    clear hb H2
    go_wp2_with fail
    go_ret
    exact ⟨rfl, H3.out⟩
  · rw [r1] at C1
    rw [r2] at C4
    rw [r3] at C5
    rw [hb3 r2] at C6
    clear hb1 hb2 hb3 hb5 r1 r2 r3
    go_enter Tryd.func6, Tryd.ntmps6
    go_wp2_with fail
    refine (alive10_any w).mono ?_
    rintro e w1 ⟨rfl, hb1⟩
    have H1 := Lib.hid hb1
    clear hb1
    go_wp2_with fail
    refine (C1.out _).mono ?_
    rintro e w2 ⟨rfl, hb⟩
    have H2 := Lib.hid (H1.out.trans (hb.mono H1.out.size))
    clear hb H1
    go_wp2_with fail
    refine (C4.out _).mono ?_
    rintro e w3 ⟨rfl, hb⟩
    have H3 := Lib.hid (H2.out.trans (hb.mono H2.out.size))
    clear hb H2
    go_wp2_with fail
    refine (C5.out _).mono ?_
    rintro e w4 ⟨rfl, hb⟩
    have H4 := Lib.hid (H3.out.trans (hb.mono H3.out.size))
    clear hb H3
    go_wp2_with fail
    go_ret
    exact ⟨rfl, H4.out⟩
  · rw [r1] at C1
    rw [r2] at C4
    rw [r3] at C5
    rw [hb3 r2] at C6
    rw [hb5 r3 r2] at C8
    clear hb1 hb2 hb3 hb5 r1 r2 r3
    go_enter Tryd.func6, Tryd.ntmps6
    go_wp2_with fail
    refine (alive10_any w).mono ?_
    rintro e w1 ⟨rfl, hb1⟩
    have H1 := Lib.hid hb1
    clear hb1
    go_wp2_with fail
    refine (C1.out _).mono ?_
    rintro e w2 ⟨rfl, hb⟩
    have H2 := Lib.hid (H1.out.trans (hb.mono H1.out.size))
    clear hb H1
    go_wp2_with fail
    refine (C4.out _).mono ?_
    rintro e w3 ⟨rfl, hb⟩
    have H3 := Lib.hid (H2.out.trans (hb.mono H2.out.size))
    clear hb H2
    go_wp2_with fail
    refine (C5.out _).mono ?_
    rintro e w4 ⟨rfl, hb⟩
    have H4 := Lib.hid (H3.out.trans (hb.mono H3.out.size))
    clear hb H3
    go_wp2_with fail
    refine (C6.out _).mono ?_
    rintro e w5 ⟨rfl, hb⟩
    have H5 := Lib.hid (H4.out.trans (hb.mono H4.out.size))
    clear hb H4
    go_wp2_with fail
    refine (C7.out _).mono ?_
    rintro e w6 ⟨rfl, hb⟩
    have H6 := Lib.hid (H5.out.trans (hb.mono H5.out.size))
    clear hb H5
    go_wp2_with fail
    refine (C8.out _).mono ?_
    rintro e w7 ⟨rfl, hb⟩
    have H7 := Lib.hid (H6.out.trans (hb.mono H6.out.size))
    clear hb H6
    go_wp2_with fail
    go_ret
    exact ⟨rfl, H7.out⟩
  · rw [r1] at C1
    rw [r2] at C4
    rw [r3] at C5
    rw [hb1 r1] at C2
    rw [hb2 r1] at C3
    clear hb1 hb2 hb3 hb5 r1 r2 r3
    go_enter Tryd.func6, Tryd.ntmps6
    go_wp2_with fail
    refine (alive10_any w).mono ?_
    rintro e w1 ⟨rfl, hb1⟩
    have H1 := Lib.hid hb1
    clear hb1
    go_wp2_with fail
    refine (C1.out _).mono ?_
    rintro e w2 ⟨rfl, hb⟩
    have H2 := Lib.hid (H1.out.trans (hb.mono H1.out.size))
    clear hb H1
    go_wp2_with fail
    refine (C2.out _).mono ?_
    rintro e w3 ⟨rfl, hb⟩
    have H3 := Lib.hid (H2.out.trans (hb.mono H2.out.size))
    clear hb H2
    go_wp2_with fail
    refine (C3.out _).mono ?_
    rintro e w4 ⟨rfl, hb⟩
    have H4 := Lib.hid (H3.out.trans (hb.mono H3.out.size))
    clear hb H3
    go_wp2_with fail
    refine (C4.out _).mono ?_
    rintro e w5 ⟨rfl, hb⟩
    have H5 := Lib.hid (H4.out.trans (hb.mono H4.out.size))
    clear hb H4
    go_wp2_with fail
    go_ret
    exact ⟨rfl, H5.out⟩
  · rw [r1] at C1
    rw [r2] at C4
    rw [r3] at C5
    rw [hb1 r1] at C2
    rw [hb2 r1] at C3
    clear hb1 hb2 hb3 hb5 r1 r2 r3
    go_enter Tryd.func6, Tryd.ntmps6
    go_wp2_with fail
    refine (alive10_any w).mono ?_
    rintro e w1 ⟨rfl, hb1⟩
    have H1 := Lib.hid hb1
    clear hb1
    go_wp2_with fail
    refine (C1.out _).mono ?_
    rintro e w2 ⟨rfl, hb⟩
    have H2 := Lib.hid (H1.out.trans (hb.mono H1.out.size))
    clear hb H1
    go_wp2_with fail
    refine (C2.out _).mono ?_
    rintro e w3 ⟨rfl, hb⟩
    have H3 := Lib.hid (H2.out.trans (hb.mono H2.out.size))
    clear hb H2
    go_wp2_with fail
    refine (C3.out _).mono ?_
    rintro e w4 ⟨rfl, hb⟩
    have H4 := Lib.hid (H3.out.trans (hb.mono H3.out.size))
    clear hb H3
    go_wp2_with fail
    refine (C4.out _).mono ?_
    rintro e w5 ⟨rfl, hb⟩
    have H5 := Lib.hid (H4.out.trans (hb.mono H4.out.size))
    clear hb H4
    go_wp2_with fail
    go_ret
    exact ⟨rfl, H5.out⟩
  · rw [r1] at C1
    rw [r2] at C4
    rw [r3] at C5
    rw [hb1 r1] at C2
    rw [hb2 r1] at C3
    rw [hb3 r2] at C6
    clear hb1 hb2 hb3 hb5 r1 r2 r3
    go_enter Tryd.func6, Tryd.ntmps6
    go_wp2_with fail
    refine (alive10_any w).mono ?_
    rintro e w1 ⟨rfl, hb1⟩
    have H1 := Lib.hid hb1
    clear hb1
    go_wp2_with fail
    refine (C1.out _).mono ?_
    rintro e w2 ⟨rfl, hb⟩
    have H2 := Lib.hid (H1.out.trans (hb.mono H1.out.size))
    clear hb H1
    go_wp2_with fail
    refine (C2.out _).mono ?_
    rintro e w3 ⟨rfl, hb⟩
    have H3 := Lib.hid (H2.out.trans (hb.mono H2.out.size))
    clear hb H2
    go_wp2_with fail
    refine (C3.out _).mono ?_
    rintro e w4 ⟨rfl, hb⟩
    have H4 := Lib.hid (H3.out.trans (hb.mono H3.out.size))
    clear hb H3
    go_wp2_with fail
    refine (C4.out _).mono ?_
    rintro e w5 ⟨rfl, hb⟩
    have H5 := Lib.hid (H4.out.trans (hb.mono H4.out.size))
    clear hb H4
    go_wp2_with fail
    refine (C5.out _).mono ?_
    rintro e w6 ⟨rfl, hb⟩
    have H6 := Lib.hid (H5.out.trans (hb.mono H5.out.size))
    clear hb H5
    go_wp2_with fail
    go_ret
    exact ⟨rfl, H6.out⟩
  · rw [r1] at C1
    rw [r2] at C4
    rw [r3] at C5
    rw [hb1 r1] at C2
    rw [hb2 r1] at C3
    rw [hb3 r2] at C6
    rw [hb5 r3 r2] at C8
    clear hb1 hb2 hb3 hb5 r1 r2 r3
    go_enter Tryd.func6, Tryd.ntmps6
    go_wp2_with fail
    refine (alive10_any w).mono ?_
    rintro e w1 ⟨rfl, hb1⟩
    have H1 := Lib.hid hb1
    clear hb1
    go_wp2_with fail
    refine (C1.out _).mono ?_
    rintro e w2 ⟨rfl, hb⟩
    have H2 := Lib.hid (H1.out.trans (hb.mono H1.out.size))
    clear hb H1
    go_wp2_with fail
    refine (C2.out _).mono ?_
    rintro e w3 ⟨rfl, hb⟩
    have H3 := Lib.hid (H2.out.trans (hb.mono H2.out.size))
    clear hb H2
    go_wp2_with fail
    refine (C3.out _).mono ?_
    rintro e w4 ⟨rfl, hb⟩
    have H4 := Lib.hid (H3.out.trans (hb.mono H3.out.size))
    clear hb H3
    go_wp2_with fail
    refine (C4.out _).mono ?_
    rintro e w5 ⟨rfl, hb⟩
    have H5 := Lib.hid (H4.out.trans (hb.mono H4.out.size))
    clear hb H4
    go_wp2_with fail
    refine (C5.out _).mono ?_
    rintro e w6 ⟨rfl, hb⟩
    have H6 := Lib.hid (H5.out.trans (hb.mono H5.out.size))
    clear hb H5
    go_wp2_with fail
    refine (C6.out _).mono ?_
    rintro e w7 ⟨rfl, hb⟩
    have H7 := Lib.hid (H6.out.trans (hb.mono H6.out.size))
    clear hb H6
    go_wp2_with fail
    refine (C7.out _).mono ?_
    rintro e w8 ⟨rfl, hb⟩
    have H8 := Lib.hid (H7.out.trans (hb.mono H7.out.size))
    clear hb H7
    go_wp2_with fail
    refine (C8.out _).mono ?_
    rintro e w9 ⟨rfl, hb⟩
    have H9 := Lib.hid (H8.out.trans (hb.mono H8.out.size))
    clear hb H8
    go_wp2_with fail
    go_ret
    exact ⟨rfl, H9.out⟩
end Go.Proofs.YtbegklhbhafmeaaDoor
