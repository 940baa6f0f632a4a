/-
  Plain mathematics of package date: the document's answers are the program's.
-/
import Derived.Test.YtnhafpgeinghnaaDoorDateRefK
namespace Go.Proofs.YtnhafpgeinghnaaDoor
open Go.RowKit
set_option linter.unusedVariables false
set_option linter.unusedSimpArgs false

theorem splitGo_glue {c : Nat} : ∀ (l cur : List Nat), (∀ p, splitGo c cur l = [p] → cur ++ l = p) ∧ (∀ p q, splitGo c cur l = [p, q] → cur ++ l = p ++ c :: q) ∧ (∀ p q r, splitGo c cur l = [p, q, r] → cur ++ l = p ++ c :: (q ++ c :: r))
  | [], cur => by
    refine ⟨fun p h => ?_, fun p q h => ?_, fun p q r h => ?_⟩
    · injection h with h; rw [List.append_nil, h]
    · injection h with _ h; cases h
    · injection h with _ h; cases h
  | x :: l, cur => by
    have ih := splitGo_glue (c := c) l []
    have ih2 := splitGo_glue (c := c) l (cur ++ [x])
    unfold splitGo
    by_cases h : x = c
    · simp only [if_pos h]
      subst h
      refine ⟨fun p e => ?_, fun p q e => ?_, fun p q r e => ?_⟩
      · injection e with _ e; exact absurd e (splitGo_ne _ _ _)
      · injection e with e1 e2
        rw [← ih.1 q e2, e1]; rfl
      · injection e with e1 e2
        rw [← ih.2.1 q r e2, e1]; rfl
    · simp only [if_neg h]
      rw [show cur ++ x :: l = (cur ++ [x]) ++ l by simp]
      exact ih2
theorem splitL_glue {c : Nat} {l p q r : List Nat} (h : splitL c l = [p, q, r]) : l = p ++ c :: (q ++ c :: r) := (splitGo_glue l []).2.2 p q r h
theorem splitL_three {c : Nat} {p q r : List Nat} (hp : ∀ x ∈ p, x ≠ c) (hq : ∀ x ∈ q, x ≠ c) (hr : ∀ x ∈ r, x ≠ c) : splitL c (p ++ c :: (q ++ c :: r)) = [p, q, r] := by
  rw [splitL_hit _ hp, splitL_hit _ hq, splitL_none hr]
theorem dig_ne {l : List Nat} {a b : Nat} (h : numOk l a b = true) : ∀ x ∈ l, x ≠ 45 := by
  intro x hx
  have := digB_iff.1 (List.all_eq_true.1 (numOk_iff.1 h).2.2 x hx)
  omega
theorem small_ne {x : Nat} (h : x = 45) : smallN x = 45 := by subst h; rfl
theorem monS_great (m : Nat) : ∀ x ∈ (monS m).map smallN, x ≠ 45 := by
  by_cases h : 1 ≤ m ∧ m ≤ 12
  · obtain ⟨h1, h2⟩ := h
    rcases (by omega : m = 1 ∨ m = 2 ∨ m = 3 ∨ m = 4 ∨ m = 5 ∨ m = 6 ∨ m = 7 ∨ m = 8 ∨ m = 9 ∨ m = 10 ∨ m = 11 ∨ m = 12) with rfl | rfl | rfl | rfl | rfl | rfl | rfl | rfl | rfl | rfl | rfl | rfl <;> decide +kernel
  · have : monS m = [] := by
      unfold monS
      split <;> first | (exfalso; omega) | rfl
    rw [this]; intro x hx; cases hx
theorem mon_ne {l : List Nat} (h : monN l ≠ 0) : ∀ x ∈ l, x ≠ 45 := by
  obtain ⟨m, _, _, _, hs⟩ := monN_some h
  intro x hx e
  have hm : smallN x ∈ l.map smallN := List.mem_map_of_mem hx
  rw [of_decide_eq_true hs] at hm
  exact monS_great m _ hm (small_ne e)
theorem trim_ne {p : List Nat} (h : ∀ x ∈ trimB p, x ≠ 45) : ∀ x ∈ p, x ≠ 45 := by
  unfold trimB at h
  split at h
  · rename_i e
    match p, e with
    | y :: p, e =>
      injection e with e
      intro x hx
      rcases List.mem_cons.1 hx with rfl | hx
      · omega
      · exact h x hx
  · exact h

theorem short_eq (l : List Nat) : shortX l = shortR l := by
  unfold shortX
  split
  · rename_i h
    unfold shortR
    have hs := splitL_sum 45 l
    rcases three_cases (splitL 45 l) with ⟨p, q, r, e⟩ | e
    · rw [e] at hs ⊢
      simp only [List.map_cons, List.sum_cons, List.length_cons, List.map_nil, List.sum_nil, List.length_nil] at hs
      show _ = (if _ then _ else _)
      rw [if_neg]
      rintro ⟨ho, _⟩
      obtain ⟨h1, h2, h3, _⟩ := ymdOk_iff.1 ho
      have a := (numOk_iff.1 h1).2.1
      have b := monN_len h2
      have c := (numOk_iff.1 h3).2.1
      omega
    · rw [threeR_no e]
  · rfl

/-- 26 bytes by their places -/
theorem cut11 {l : List Nat} (h : l.length = 26) (h2 : l.getD 2 0 = 45) (h6 : l.getD 6 0 = 45) : l.take 11 = l.take 2 ++ 45 :: (((l.take 6).drop 3) ++ 45 :: ((l.take 11).drop 7)) := by
  match l, h with
  | [a0, a1, a2, a3, a4, a5, a6, a7, a8, a9, a10, a11, a12, a13, a14, a15, a16, a17, a18, a19, a20, a21, a22, a23, a24, a25], _ =>
    have e2 : a2 = 45 := h2
    have e6 : a6 = 45 := h6
    subst e2 e6
    rfl
theorem glue11 {l p q r : List Nat} (h : l.length = 26) (e : l.take 11 = p ++ 45 :: (q ++ 45 :: r)) (hp : p.length = 2) (hq : q.length = 3) (hr : r.length = 4) :
    l.getD 2 0 = 45 ∧ l.getD 6 0 = 45 ∧ l.take 2 = p ∧ (l.take 6).drop 3 = q ∧ (l.take 11).drop 7 = r := by
  match l, h with
  | [a0, a1, a2, a3, a4, a5, a6, a7, a8, a9, a10, a11, a12, a13, a14, a15, a16, a17, a18, a19, a20, a21, a22, a23, a24, a25], _ =>
    match p, hp with
    | [p0, p1], _ =>
      match q, hq with
      | [q0, q1, q2], _ =>
        match r, hr with
        | [r0, r1, r2, r3], _ =>
          have e' : [a0, a1, a2, a3, a4, a5, a6, a7, a8, a9, a10] = [p0, p1, 45, q0, q1, q2, 45, r0, r1, r2, r3] := e
          injection e' with e0 e'
          injection e' with e1 e'
          injection e' with e2 e'
          injection e' with e3 e'
          injection e' with e4 e'
          injection e' with e5 e'
          injection e' with e6 e'
          injection e' with e7 e'
          injection e' with e8 e'
          injection e' with e9 e'
          injection e' with e10 e'
          subst e0 e1 e2 e3 e4 e5 e6 e7 e8 e9 e10
          exact ⟨rfl, rfl, rfl, rfl, rfl⟩
theorem clk_eight {t : List Nat} (h : t.length = 8) : clkOk true (splitL 58 t) = clkOk false (splitL 58 t) := by
  have hs := splitL_sum 58 t
  rcases two_cases (splitL 58 t) with ⟨p, q, e⟩ | ⟨p, q, r, e⟩ | ⟨h2, h3⟩
  · rw [e] at hs ⊢
    simp only [List.map_cons, List.sum_cons, List.length_cons, List.map_nil, List.sum_nil, List.length_nil] at hs
    show (true && (twoOk p 24 && twoOk q 60)) = false
    cases hp : twoOk p 24
    · rfl
    · cases hq : twoOk q 60
      · rfl
      · have a := (numOk_iff.1 (twoOk_iff.1 hp).1).2.1
        have b := (numOk_iff.1 (twoOk_iff.1 hq).1).2.1
        omega
  · rw [e]; rfl
  · have no : ∀ (b : Bool) (L : List (List Nat)), L.length ≠ 2 → L.length ≠ 3 → clkOk b L = false := by
      intro b L a c
      match L, a, c with
      | [], _, _ => rfl
      | [_], _, _ => rfl
      | [_, _], a, _ => exact absurd rfl a
      | [_, _, _], _, c => exact absurd rfl c
      | _ :: _ :: _ :: _ :: _, _, _ => rfl
    rw [no _ _ h2 h3, no _ _ h2 h3]

theorem parse_eq (l : List Nat) : parseX l = parseR l := by
  unfold parseX parseR
  by_cases h : l.length = 26
  · rw [if_pos h]
    by_cases h1 : l.getD 11 0 = 32
    · by_cases h2 : l.getD 20 0 = 32
      · rw [if_pos ⟨h, h1, h2⟩]
        have ec : clkOk true (clsL l) = clkOk false (clsL l) := clk_eight (by simp; omega)
        by_cases ho : parseOk l = true
        · rw [if_pos ho]
          unfold parseOk posB at ho
          simp only [Bool.and_eq_true, decide_eq_true_iff] at ho
          obtain ⟨⟨g2, g6, _, _⟩, od, oc, oz⟩ := ho
          obtain ⟨n1, n2, n3, n4⟩ := ymdOk_iff.1 od
          rw [cut11 h g2 g6, splitL_three (trim_ne (dig_ne n1)) (mon_ne n2) (dig_ne n3)]
          show (if _ then _ else _) = _
          rw [if_pos ⟨by simp; omega, od, by rw [← ec]; exact oc, oz⟩]
          rfl
        · rw [if_neg ho]
          rcases three_cases (splitL 45 (l.take 11)) with ⟨p, q, r, e⟩ | e
          · rw [e]
            show (if _ then _ else _) = _
            rw [if_neg]
            rintro ⟨hp, od, oc, oz⟩
            refine ho ?_
            obtain ⟨n1, n2, n3, n4⟩ := ymdOk_iff.1 od
            have hr : r.length = 4 := by have := numOk_iff.1 n3; omega
            obtain ⟨g2, g6, k0, k1, k2⟩ := glue11 h (splitL_glue e) hp (monN_len n2) hr
            unfold parseOk posB dtsOk
            rw [g2, g6, h1, h2, k0, k1, k2, od, ec, oc, oz]
            rfl
          · rw [parseY_no e]
      · rw [if_neg (fun x => h2 x.2.2), if_neg]
        intro ho
        unfold parseOk posB at ho
        simp only [Bool.and_eq_true, decide_eq_true_iff] at ho
        exact h2 ho.1.2.2.2
    · rw [if_neg (fun x => h1 x.2.1), if_neg]
      intro ho
      unfold parseOk posB at ho
      simp only [Bool.and_eq_true, decide_eq_true_iff] at ho
      exact h1 ho.1.2.2.1
  · rw [if_neg h, if_neg (fun x => h x.1)]
end Go.Proofs.YtnhafpgeinghnaaDoor
