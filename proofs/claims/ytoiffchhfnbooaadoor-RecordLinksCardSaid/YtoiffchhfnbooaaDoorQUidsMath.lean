/-
  Plain mathematics of package uids: numerals, ends, ranges and sets as texts; what is in a set; numbers made a set. Nothing here speaks of a program.
-/
import Derived.Test.YtoiffchhfnbooaaDoorQDateText
import Derived.Lib.ParseIntBCases
namespace Go.Proofs.YtoiffchhfnbooaaDoor
set_option linter.unusedVariables false
set_option linter.unusedSimpArgs false
set_option linter.unusedVariables false
set_option linter.unusedSimpArgs false
open Go.Lib

/-! ### Numerals -/
def digN (u : Nat) : List Nat := (decDigits u).map (·.toNat)
theorem digN_one {u : Nat} (h : u < 10) : digN u = [48 + u] := by
  unfold digN
  rw [decDigits_one h, List.map_singleton, ofNat_small h]
theorem digN_more {u : Nat} (h : ¬ u < 10) : digN u = digN (u / 10) ++ [48 + u % 10] := by
  unfold digN
  rw [decDigits, dif_neg h, List.map_append, List.map_singleton, ofNat_small (Nat.mod_lt _ (by omega))]
theorem digN_str (u : Nat) : (⟨(decDigits u).toArray⟩ : ByteArray) = strOf (digN u) := strOf_bytes _
def valF (a : Nat) (l : List Nat) : Nat := l.foldl (fun a c => a * 10 + (c - 48)) a
def uVal (l : List Nat) : Nat := valF 0 l
theorem valF_snoc (a : Nat) (l : List Nat) (c : Nat) : valF a (l ++ [c]) = valF a l * 10 + (c - 48) := by unfold valF; rw [List.foldl_append]; rfl
theorem uVal_snoc (l : List Nat) (c : Nat) : uVal (l ++ [c]) = uVal l * 10 + (c - 48) := valF_snoc 0 l c
theorem valF_cons (a : Nat) (l : List Nat) (c : Nat) : valF a (c :: l) = valF (a * 10 + (c - 48)) l := by unfold valF; rw [List.foldl_cons]
theorem valF_le : ∀ (l : List Nat) (a : Nat), a ≤ valF a l
  | [], a => Nat.le_refl _
  | c :: l, a => by
    have := valF_le l (a * 10 + (c - 48))
    rw [valF_cons]
    omega
theorem digN_ind {p : Nat → List Nat → Prop} (h0 : ∀ u, u < 10 → p u [48 + u]) (h1 : ∀ u, ¬ u < 10 → p (u / 10) (digN (u / 10)) → p u (digN (u / 10) ++ [48 + u % 10])) (u : Nat) : p u (digN u) := by
  induction u using Nat.strongRecOn with
  | _ u ih =>
    by_cases h : u < 10
    · rw [digN_one h]; exact h0 u h
    · rw [digN_more h]; exact h1 u h (ih (u / 10) (by omega))
theorem digN_dig (u : Nat) : ∀ c ∈ digN u, 48 ≤ c ∧ c ≤ 57 := by
  refine digN_ind (p := fun u l => ∀ c ∈ l, 48 ≤ c ∧ c ≤ 57) (fun u h c hc => ?_) (fun u h ih c hc => ?_) u
  · rw [List.mem_singleton.1 hc]; omega
  · rcases List.mem_append.1 hc with h1 | h1
    · exact ih c h1
    · rw [List.mem_singleton.1 h1]; omega
theorem digN_val (u : Nat) : uVal (digN u) = u := by
  refine digN_ind (p := fun u l => uVal l = u) (fun u h => ?_) (fun u h ih => ?_) u
  · show 0 * 10 + (48 + u - 48) = u; omega
  · rw [uVal_snoc, ih]; omega
theorem digN_head (u : Nat) : ∃ c r, digN u = c :: r ∧ (1 ≤ u → c ≠ 48) := by
  refine digN_ind (p := fun u l => ∃ c r, l = c :: r ∧ (1 ≤ u → c ≠ 48)) (fun u h => ⟨_, _, rfl, fun h1 => by omega⟩) (fun u h ih => ?_) u
  obtain ⟨c, r, e, hc⟩ := ih
  exact ⟨c, r ++ [48 + u % 10], by rw [e]; rfl, fun _ => hc (by omega)⟩
theorem digN_len : ∀ (k u : Nat), u < 10 ^ (k + 1) → (digN u).length ≤ k + 1
  | 0, u, h => by rw [digN_one (by simpa using h)]; exact Nat.le_refl _
  | k + 1, u, h => by
    by_cases hu : u < 10
    · rw [digN_one hu]; simp
    · rw [digN_more hu, List.length_append, List.length_singleton]
      have := digN_len k (u / 10) (by rw [Nat.pow_succ] at h; omega)
      omega
theorem digN_valN (l : List Nat) : l ≠ [] → l.head? ≠ some 48 → (∀ c ∈ l, 48 ≤ c ∧ c ≤ 57) → 1 ≤ uVal l ∧ digN (uVal l) = l := by
  induction l using snoc_ind with
  | h0 => intro h; exact absurd rfl h
  | h1 l c ih =>
    intro _ hh hd
    have hc := hd c (List.mem_append_right _ (List.mem_singleton_self c))
    by_cases hl : l = []
    · subst hl
      have hne : c ≠ 48 := fun e => hh (by rw [e]; rfl)
      have hv : uVal ([] ++ [c]) = c - 48 := by rw [uVal_snoc]; show 0 * 10 + (c - 48) = _; omega
      rw [hv, digN_one (by omega), List.nil_append, show 48 + (c - 48) = c by omega]
      exact ⟨by omega, rfl⟩
    · obtain ⟨h1, h2⟩ := ih hl (by obtain ⟨y, r, rfl⟩ := List.exists_cons_of_ne_nil hl; exact hh) (fun x hx => hd x (List.mem_append_left _ hx))
      rw [uVal_snoc]
      refine ⟨by omega, ?_⟩
      rw [digN_more (by omega), show (uVal l * 10 + (c - 48)) / 10 = uVal l by omega, h2, show 48 + (uVal l * 10 + (c - 48)) % 10 = c by omega]

/-! ### Ends -/
def numOkB (l : List Nat) : Bool := decide (l ≠ [] ∧ l.head? ≠ some 48 ∧ (∀ c ∈ l, 48 ≤ c ∧ c ≤ 57) ∧ uVal l ≤ 4294967295)
/-- an end's number: 0 of the star -/
def numberN (l : List Nat) : Option Int := if l = [42] then some 0 else if numOkB l = true then some ((uVal l : Nat) : Int) else none
def endN (z : Int) : List Nat := if z = 0 then [42] else digN z.toNat
def okE (z : Int) : Prop := 0 ≤ z ∧ z ≤ 4294967295
theorem numberN_end {z : Int} (h : okE z) : numberN (endN z) = some z := by
  unfold endN
  by_cases h0 : z = 0
  · rw [if_pos h0, h0]; rfl
  · rw [if_neg h0]
    obtain ⟨h1, h2⟩ := h
    obtain ⟨u, rfl⟩ := Int.eq_ofNat_of_zero_le h1
    rw [Int.toNat_natCast]
    obtain ⟨c, r, e, hc⟩ := digN_head u
    have hd := digN_dig u
    have hv := digN_val u
    unfold numberN
    rw [if_neg (fun e => by have := hd 42 (by rw [e]; exact List.mem_singleton_self _); omega), if_pos, hv]
    unfold numOkB
    exact decide_eq_true ⟨by rw [e]; simp, by rw [e]; simp; omega, hd, by rw [hv]; omega⟩
theorem numberN_back {l : List Nat} {z : Int} (h : numberN l = some z) : endN z = l ∧ okE z := by
  unfold numberN at h
  by_cases hs : l = [42]
  · rw [if_pos hs] at h
    injection h with h
    subst h hs
    exact ⟨rfl, by unfold okE; omega⟩
  · rw [if_neg hs] at h
    by_cases hn : numOkB l = true
    · rw [if_pos hn] at h
      injection h with h
      obtain ⟨h1, h2, h3, h4⟩ := of_decide_eq_true hn
      obtain ⟨h5, h6⟩ := digN_valN l h1 h2 h3
      subst h
      unfold endN okE
      rw [if_neg (by omega), Int.toNat_natCast, h6]
      exact ⟨rfl, by omega, by omega⟩
    · rw [if_neg hn] at h; cases h
theorem endN_dig (z : Int) : ∀ c ∈ endN z, c = 42 ∨ (48 ≤ c ∧ c ≤ 57) := by
  unfold endN
  split
  · intro c hc; exact .inl (List.mem_singleton.1 hc)
  · intro c hc; exact .inr (digN_dig _ c hc)
theorem endN_len {z : Int} (h : okE z) : (endN z).length ≤ 10 := by
  unfold endN
  split
  · decide
  · exact digN_len 9 _ (by have := h.2; show _ < 10000000000; omega)
theorem numberN_none {l : List Nat} (c : Nat) (hc : c ∈ l) (h1 : c ≠ 42) (h2 : c < 48 ∨ 57 < c) : numberN l = none := by
  unfold numberN
  rw [if_neg (fun e => h1 (List.mem_singleton.1 (by rw [← e]; exact hc))), if_neg]
  intro h
  have := (of_decide_eq_true h).2.2.1 c hc
  omega

/-! what the library reads -/
theorem parseM_ok (M : Nat) (hM : M < 1844674407370955162) : ∀ (l : List UInt8) (a : Nat), a ≤ M → (∀ c ∈ l.map (·.toNat), 48 ≤ c ∧ c ≤ 57) → valF a (l.map (·.toNat)) ≤ M → parseUintM M a l = .ok (valF a (l.map (·.toNat)))
  | [], a, _, _, _ => rfl
  | c :: l, a, ha, hd, hv => by
    have hc := hd c.toNat (by simp)
    rw [List.map_cons, valF_cons] at hv ⊢
    have h1 := valF_le (l.map (·.toNat)) (a * 10 + (c.toNat - 48))
    unfold parseUintM
    rw [if_pos hc, if_neg (by omega), if_neg (by omega)]
    exact parseM_ok M hM l _ (by omega) (fun x hx => hd x (by simp only [List.map_cons]; exact List.mem_cons_of_mem _ hx)) hv
theorem parseM_inv (M : Nat) : ∀ (l : List UInt8) (a u : Nat), a ≤ M → parseUintM M a l = .ok u → (∀ c ∈ l.map (·.toNat), 48 ≤ c ∧ c ≤ 57) ∧ u = valF a (l.map (·.toNat)) ∧ u ≤ M
  | [], a, u, ha, h => by
    injection h with h
    exact ⟨(fun c hc => by cases hc), h.symm, by omega⟩
  | c :: l, a, u, ha, h => by
    unfold parseUintM at h
    by_cases hc : 48 ≤ c.toNat ∧ c.toNat ≤ 57
    · rw [if_pos hc] at h
      split at h
      · cases h
      · split at h
        · cases h
        · obtain ⟨h1, h2, h3⟩ := parseM_inv M l _ u (by omega) h
          refine ⟨fun x hx => ?_, h2, h3⟩
          rw [List.map_cons] at hx
          rcases List.mem_cons.1 hx with rfl | hx
          · exact hc
          · exact h1 x hx
    · rw [if_neg hc] at h; cases h
/-- the library's number: of digits alone, one at least -/
def dgsB (l : List Nat) : Bool := decide (l ≠ [] ∧ (∀ c ∈ l, 48 ≤ c ∧ c ≤ 57) ∧ uVal l ≤ 4294967295)
theorem parseU_yes {s : ByteArray} (h : dgsB (nats s) = true) : parseUintB 32 s.data.toList = .ok (uVal (nats s)) := by
  obtain ⟨h1, h2, h3⟩ := of_decide_eq_true h
  unfold parseUintB
  rw [if_neg (fun e => h1 (by unfold nats; rw [e]; rfl))]
  exact parseM_ok 4294967295 (by omega) _ 0 (by omega) h2 h3
/-- what the library says of a text that is no number at all -/
def noNum : NumEnd Nat := parseUintB 32 []
theorem parseU_no {s : ByteArray} (h : dgsB (nats s) = false) : parseUintB 32 s.data.toList = noNum ∨ parseUintB 32 s.data.toList = .range := by
  cases hp : parseUintB 32 s.data.toList
  case range => exact .inr rfl
  case ok u =>
    exfalso
    unfold parseUintB at hp
    by_cases he : s.data.toList = []
    · rw [if_pos he] at hp; cases hp
    · rw [if_neg he] at hp
      obtain ⟨h1, h2, h3⟩ := parseM_inv (2 ^ 32 - 1) _ 0 u (by omega) hp
      have : dgsB (nats s) = true := decide_eq_true ⟨fun e => he (List.map_eq_nil_iff.1 e), h1, by
        have e : uVal (nats s) = u := h2.symm
        rw [e]; exact h3⟩
      rw [this] at h; cases h
  exact .inl rfl
theorem numOkB_eq (l : List Nat) : numOkB l = (dgsB l && decide (l.head? ≠ some 48)) := by
  unfold numOkB dgsB
  rw [Bool.eq_iff_iff, Bool.and_eq_true, decide_eq_true_iff, decide_eq_true_iff, decide_eq_true_iff]
  constructor
  · rintro ⟨a, b, c, d⟩; exact ⟨⟨a, c, d⟩, b⟩
  · rintro ⟨⟨a, c, d⟩, b⟩; exact ⟨a, b, c, d⟩

/-! ### Joining -/
def joinL (c : Nat) : List (List Nat) → List Nat
  | [] => []
  | [x] => x
  | x :: y :: r => x ++ c :: joinL c (y :: r)
theorem joinL_cons {c : Nat} (x : List Nat) {r : List (List Nat)} (h : r ≠ []) : joinL c (x :: r) = x ++ c :: joinL c r := by
  cases r with
  | nil => exact absurd rfl h
  | cons y r => rfl
theorem join_splitGo (c : Nat) : ∀ (l cur : List Nat), joinL c (splitGo c cur l) = cur ++ l
  | [], cur => by simp [splitGo, joinL]
  | x :: l, cur => by
    unfold splitGo
    by_cases h : x = c
    · rw [if_pos h, joinL_cons _ (splitGo_ne c [] l), join_splitGo c l [], h, List.nil_append]
    · rw [if_neg h, join_splitGo c l (cur ++ [x]), List.append_assoc]; rfl
theorem join_split (c : Nat) (l : List Nat) : joinL c (splitL c l) = l := join_splitGo c l []
theorem split_join {c : Nat} : ∀ (L : List (List Nat)), L ≠ [] → (∀ p ∈ L, ∀ x ∈ p, x ≠ c) → splitL c (joinL c L) = L
  | [], h, _ => absurd rfl h
  | [x], _, h => splitL_none (h x (List.mem_singleton_self x))
  | x :: y :: r, _, h => by
    rw [joinL_cons _ (by simp), splitL_hit _ (h x (List.mem_cons_self ..)), split_join (y :: r) (by simp) fun p hp => h p (List.mem_cons_of_mem _ hp)]
theorem joinL_snoc {c : Nat} : ∀ (l : List (List Nat)) (x : List Nat), l ≠ [] → joinL c (l ++ [x]) = joinL c l ++ c :: x
  | [], x, h => absurd rfl h
  | [y], x, _ => rfl
  | y :: z :: r, x, _ => by
    have := joinL_snoc (c := c) (z :: r) x (List.cons_ne_nil _ _)
    show y ++ c :: joinL c (z :: r ++ [x]) = (y ++ c :: joinL c (z :: r)) ++ c :: x
    rw [this, List.append_assoc]; rfl
theorem joinL_len {c m : Nat} : ∀ (l : List (List Nat)), (∀ p ∈ l, p.length ≤ m) → (joinL c l).length ≤ (m + 1) * l.length
  | [], _ => Nat.zero_le _
  | [x], h => by
    have := h x (List.mem_singleton_self x)
    show x.length ≤ (m + 1) * 1
    omega
  | x :: y :: r, h => by
    have h1 := h x (List.mem_cons_self ..)
    have h2 := joinL_len (c := c) (y :: r) fun p hp => h p (List.mem_cons_of_mem _ hp)
    rw [joinL_cons _ (by simp), List.length_append, List.length_cons, List.length_cons, Nat.mul_succ]
    omega
theorem joinL_lt {c : Nat} (hc : c < 256) : ∀ (l : List (List Nat)), (∀ p ∈ l, ∀ x ∈ p, x < 256) → ∀ x ∈ joinL c l, x < 256
  | [], _, x, hx => by cases hx
  | [y], h, x, hx => h y (List.mem_singleton_self y) x hx
  | y :: z :: r, h, x, hx => by
    rw [joinL_cons _ (by simp)] at hx
    rcases List.mem_append.1 hx with h1 | h1
    · exact h y (List.mem_cons_self ..) x h1
    · rcases List.mem_cons.1 h1 with rfl | h2
      · exact hc
      · exact joinL_lt hc (z :: r) (fun p hp => h p (List.mem_cons_of_mem _ hp)) x h2

/-! ### Ranges -/
abbrev Rg := Int × Int
def rangeO (l : List Nat) : Option Rg :=
  match splitL 58 l with
  | [p] => (numberN p).map fun v => (v, v)
  | [p, q] => match numberN p, numberN q with
    | some a, some b => if a = b then none else some (a, b)
    | _, _ => none
  | _ => none
def rangeN (r : Rg) : List Nat := if r.1 = r.2 then endN r.1 else endN r.1 ++ 58 :: endN r.2
def okR (r : Rg) : Prop := okE r.1 ∧ okE r.2
instance (z : Int) : Decidable (okE z) := by unfold okE; infer_instance
instance (r : Rg) : Decidable (okR r) := by unfold okR; infer_instance
theorem endN_58 (z : Int) : ∀ c ∈ endN z, c ≠ 58 := fun c hc => by have := endN_dig z c hc; omega
theorem rangeO_one {l : List Nat} (h : ∀ x ∈ l, x ≠ 58) : rangeO l = (numberN l).map fun v => (v, v) := by unfold rangeO; rw [splitL_none h]
theorem rangeO_two {p q : List Nat} (h : ∀ x ∈ p, x ≠ 58) (h2 : ∀ x ∈ q, x ≠ 58) : rangeO (p ++ 58 :: q) = match numberN p, numberN q with
    | some a, some b => if a = b then none else some (a, b)
    | _, _ => none := by
  unfold rangeO; rw [splitL_hit _ h, splitL_none h2]
/-- both ends are read, whatever colons there are more -/
theorem rangeO_cut {p q : List Nat} (h : ∀ x ∈ p, x ≠ 58) : rangeO (p ++ 58 :: q) = match numberN p, numberN q with
    | some a, some b => if a = b then none else some (a, b)
    | _, _ => none := by
  by_cases hq : ∀ x ∈ q, x ≠ 58
  · exact rangeO_two h hq
  · obtain ⟨x, hx⟩ := Classical.not_forall.1 hq
    obtain ⟨hx, he⟩ := Classical.not_imp.1 hx
    have he : x = 58 := Classical.not_not.1 he
    rw [he] at hx
    rw [numberN_none 58 hx (by omega) (.inr (by omega))]
    obtain ⟨q1, q2, e, hq1⟩ : ∃ a b, q = a ++ 58 :: b ∧ ∀ x ∈ a, x ≠ 58 := by
      have : ∀ l : List Nat, 58 ∈ l → ∃ a b, l = a ++ 58 :: b ∧ ∀ x ∈ a, x ≠ 58 := by
        intro l
        induction l with
        | nil => intro h; cases h
        | cons y l ih =>
          intro h
          by_cases hy : y = 58
          · exact ⟨[], l, by rw [hy]; rfl, fun x hx => by cases hx⟩
          · obtain ⟨a, b, e, ha⟩ := ih (by rcases List.mem_cons.1 h with h | h; exact absurd h.symm hy; exact h)
            refine ⟨y :: a, b, by rw [e]; rfl, fun x hx => ?_⟩
            rcases List.mem_cons.1 hx with rfl | hx
            · exact hy
            · exact ha x hx
      exact this q hx
    unfold rangeO
    rw [splitL_hit _ h, e, splitL_hit _ hq1]
    have hne := splitGo_ne 58 [] q2
    obtain ⟨z, zs, hz⟩ : ∃ z zs, splitL 58 q2 = z :: zs := List.exists_cons_of_ne_nil hne
    rw [hz]
    cases numberN p <;> rfl
theorem rangeO_rangeN {r : Rg} (h : okR r) : rangeO (rangeN r) = some r := by
  unfold rangeN
  by_cases he : r.1 = r.2
  · rw [if_pos he, rangeO_one (endN_58 _), numberN_end h.1]
    show some (r.1, r.1) = some r
    conv => lhs; rw [show (r.1, r.1) = (r.1, r.2) by rw [← he]]
  · rw [if_neg he, rangeO_two (endN_58 _) (endN_58 _), numberN_end h.1, numberN_end h.2]
    show (if r.1 = r.2 then none else some (r.1, r.2)) = some r
    rw [if_neg he]
theorem splitL_mem {c : Nat} {l : List Nat} : ∀ p ∈ splitL c l, ∀ x ∈ p, x ≠ c := by
  have : ∀ (l cur : List Nat), (∀ x ∈ cur, x ≠ c) → ∀ p ∈ splitGo c cur l, ∀ x ∈ p, x ≠ c := by
    intro l
    induction l with
    | nil => intro cur hc p hp; rw [splitGo, List.mem_singleton] at hp; rw [hp]; exact hc
    | cons y l ih =>
      intro cur hc p hp
      unfold splitGo at hp
      by_cases hy : y = c
      · rw [if_pos hy] at hp
        rcases List.mem_cons.1 hp with rfl | hp
        · exact hc
        · exact ih [] (fun x hx => by cases hx) p hp
      · rw [if_neg hy] at hp
        refine ih (cur ++ [y]) (fun x hx => ?_) p hp
        rcases List.mem_append.1 hx with h | h
        · exact hc x h
        · rw [List.mem_singleton.1 h]; exact hy
  exact this l [] (fun x hx => by cases hx)
theorem rangeO_back {l : List Nat} {r : Rg} (h : rangeO l = some r) : rangeN r = l ∧ okR r := by
  have hj := join_split 58 l
  unfold rangeO at h
  match hs : splitL 58 l, h with
  | [], h => cases h
  | [p], h =>
    rw [hs] at hj
    obtain ⟨v, hv, rfl⟩ := Option.map_eq_some_iff.1 h
    obtain ⟨h1, h2⟩ := numberN_back hv
    unfold rangeN
    rw [if_pos rfl]
    exact ⟨h1.trans hj, h2, h2⟩
  | [p, q], h =>
    rw [hs] at hj
    cases hp : numberN p with
    | none => simp only [hp] at h; cases h
    | some a =>
      cases hq : numberN q with
      | none => simp only [hp, hq] at h; cases h
      | some b =>
        simp only [hp, hq] at h
        by_cases hab : a = b
        · rw [if_pos hab] at h; cases h
        · rw [if_neg hab] at h
          injection h with h
          subst h
          obtain ⟨h1, h2⟩ := numberN_back hp
          obtain ⟨h3, h4⟩ := numberN_back hq
          unfold rangeN
          rw [if_neg hab, h1, h3]
          exact ⟨hj, h2, h4⟩
  | _ :: _ :: _ :: _, h => cases h
theorem rangeN_len {r : Rg} (h : okR r) : (rangeN r).length ≤ 21 := by
  have := endN_len h.1
  have := endN_len h.2
  unfold rangeN
  split
  · omega
  · rw [List.length_append, List.length_cons]; omega
theorem rangeN_44 (r : Rg) : ∀ c ∈ rangeN r, c ≠ 44 ∧ c < 256 := by
  unfold rangeN
  split
  · intro c hc; have := endN_dig _ c hc; omega
  · intro c hc
    rcases List.mem_append.1 hc with h | h
    · have := endN_dig _ c h; omega
    · rcases List.mem_cons.1 h with rfl | h
      · omega
      · have := endN_dig _ c h; omega

/-! ### Sets -/
def rgB (p : List Nat) : Bool := (rangeO p).isSome
def rgsB (ps : List (List Nat)) : Bool := ps.all rgB
def rgsV (ps : List (List Nat)) : List Rg := ps.filterMap rangeO
theorem rgsV_len : ∀ {ps : List (List Nat)}, rgsB ps = true → (rgsV ps).length = ps.length
  | [], _ => rfl
  | p :: ps, h => by
    unfold rgsB at h
    rw [List.all_cons, Bool.and_eq_true] at h
    obtain ⟨r, hr⟩ := Option.isSome_iff_exists.1 h.1
    unfold rgsV
    rw [List.filterMap_cons_some hr, List.length_cons, List.length_cons]
    exact congrArg (· + 1) (rgsV_len h.2)
theorem rgsB_snoc (ps : List (List Nat)) (p : List Nat) : rgsB (ps ++ [p]) = (rgsB ps && rgB p) := by unfold rgsB; rw [List.all_append]; simp
theorem rgsV_snoc (ps : List (List Nat)) {p : List Nat} {r : Rg} (h : rangeO p = some r) : rgsV (ps ++ [p]) = rgsV ps ++ [r] := by
  unfold rgsV; rw [List.filterMap_append]; simp [h]
theorem rgsB_stop {ps : List (List Nat)} {k : Nat} {p : List Nat} (hp : ps[k]? = some p) (h : rangeO p = none) : rgsB ps = false := by
  unfold rgsB
  rw [List.all_eq_false]
  exact ⟨p, List.mem_of_getElem? hp, by unfold rgB; rw [h]; exact Bool.false_ne_true⟩
def parsE (l : List Nat) : Int := if 2000 < l.length then 4 else if rgsB (splitL 44 l) = true then (if 60 < (splitL 44 l).length then 4 else 0) else 3
def parsV (l : List Nat) : List Rg := if parsE l = 0 then rgsV (splitL 44 l) else []
def rightU (l : List Rg) : Bool := decide (1 ≤ l.length ∧ l.length ≤ 60 ∧ ∀ r ∈ l, okR r)
def setN (l : List Rg) : List Nat := joinL 44 (l.map rangeN)
def printE (l : List Rg) : Int := if rightU l = true then 0 else 1
def printV (l : List Rg) : List Nat := if rightU l = true then setN l else []
theorem setN_lt (l : List Rg) : ∀ x ∈ setN l, x < 256 := joinL_lt (by omega) _ fun p hp x hx => by
  obtain ⟨r, _, rfl⟩ := List.mem_map.1 hp
  exact (rangeN_44 r x hx).2
theorem setN_len {l : List Rg} (h : rightU l = true) : (setN l).length ≤ 1320 := by
  obtain ⟨h1, h2, h3⟩ := of_decide_eq_true h
  have := joinL_len (c := 44) (m := 21) (l.map rangeN) fun p hp => by
    obtain ⟨r, hr, rfl⟩ := List.mem_map.1 hp
    exact rangeN_len (h3 r hr)
  rw [List.length_map] at this
  unfold setN
  omega
theorem printV_lt (l : List Rg) : ∀ x ∈ printV l, x < 256 := by
  unfold printV
  split
  · exact setN_lt l
  · intro x hx; cases hx
theorem filterMap_rangeN : ∀ (l : List Rg), (∀ r ∈ l, okR r) → (l.map rangeN).filterMap rangeO = l
  | [], _ => rfl
  | r :: l, h => by
    rw [List.map_cons, List.filterMap_cons_some (rangeO_rangeN (h r (List.mem_cons_self ..))), filterMap_rangeN l fun x hx => h x (List.mem_cons_of_mem _ hx)]
theorem pars_print {l : List Rg} (h : rightU l = true) : parsE (setN l) = 0 ∧ parsV (setN l) = l := by
  have hlen := setN_len h
  obtain ⟨h1, h2, h3⟩ := of_decide_eq_true h
  have hs : splitL 44 (setN l) = l.map rangeN := split_join _ (fun e => by rw [List.map_eq_nil_iff] at e; rw [e] at h1; exact absurd h1 (by decide)) fun p hp x hx => by
    obtain ⟨r, _, rfl⟩ := List.mem_map.1 hp
    exact (rangeN_44 r x hx).1
  have hB : rgsB (l.map rangeN) = true := by
    unfold rgsB
    rw [List.all_eq_true]
    intro p hp
    obtain ⟨r, hr, rfl⟩ := List.mem_map.1 hp
    unfold rgB
    rw [rangeO_rangeN (h3 r hr)]; rfl
  have hE : parsE (setN l) = 0 := by
    unfold parsE
    rw [if_neg (by omega), hs, if_pos hB, List.length_map, if_neg (by omega)]
  refine ⟨hE, ?_⟩
  unfold parsV
  rw [if_pos hE, hs]
  exact filterMap_rangeN l h3
theorem parsE_zero {l : List Nat} (h : parsE l = 0) : rgsB (splitL 44 l) = true ∧ (splitL 44 l).length ≤ 60 ∧ l.length ≤ 2000 := by
  unfold parsE at h
  split at h
  · omega
  · split at h
    · rename_i h2
      split at h
      · omega
      · exact ⟨h2, by omega, by omega⟩
    · omega
theorem rgsV_back : ∀ {ps : List (List Nat)}, rgsB ps = true → (rgsV ps).map rangeN = ps ∧ ∀ r ∈ rgsV ps, okR r
  | [], _ => ⟨rfl, fun r hr => by cases hr⟩
  | p :: ps, h => by
    unfold rgsB at h
    rw [List.all_cons, Bool.and_eq_true] at h
    obtain ⟨r, hr⟩ := Option.isSome_iff_exists.1 h.1
    obtain ⟨h1, h2⟩ := rangeO_back hr
    obtain ⟨h3, h4⟩ := rgsV_back h.2
    unfold rgsV at h3 h4 ⊢
    rw [List.filterMap_cons_some hr]
    refine ⟨by rw [List.map_cons, h1, h3], fun x hx => ?_⟩
    rcases List.mem_cons.1 hx with rfl | hx
    · exact h2
    · exact h4 x hx
theorem print_pars {l : List Nat} (h : parsE l = 0) : rightU (parsV l) = true ∧ setN (parsV l) = l := by
  obtain ⟨h1, h2, h3⟩ := parsE_zero h
  obtain ⟨h4, h5⟩ := rgsV_back h1
  have hl := rgsV_len h1
  have hn : 1 ≤ (splitL 44 l).length := List.length_pos_iff.2 (splitGo_ne 44 [] l)
  unfold parsV
  rw [if_pos h]
  refine ⟨decide_eq_true ⟨by omega, by omega, h5⟩, ?_⟩
  unfold setN
  rw [h4, join_split]

/-! ### What is in a set -/
def meantZ (last z : Int) : Int := if z = 0 then last else z
def inR (last n : Int) (r : Rg) : Bool := decide (min (meantZ last r.1) (meantZ last r.2) ≤ n ∧ n ≤ max (meantZ last r.1) (meantZ last r.2))
def hasZ (l : List Rg) (n last : Int) : Bool := decide (1 ≤ n) && l.any (inR last n)
def pickU (l : List Rg) (last : Int) (nums : List Int) : List Int := nums.filter fun n => hasZ l n last
def pickZ (l : List Rg) (nums : List Int) : List Int := pickU l (nums.getLastD 0) nums
theorem pickU_snoc (l : List Rg) (last : Int) (nums : List Int) (n : Int) : pickU l last (nums ++ [n]) = pickU l last nums ++ (if hasZ l n last = true then [n] else []) := by
  unfold pickU
  rw [List.filter_append]
  by_cases h : hasZ l n last = true <;> simp [h]
theorem inR_swap (last n : Int) (r : Rg) : inR last n (r.2, r.1) = inR last n r := by
  unfold inR
  rw [Int.min_comm, Int.max_comm]
theorem has_turned (l : List Rg) (n last : Int) : hasZ (l.map fun r => (r.2, r.1)) n last = hasZ l n last := by
  unfold hasZ
  rw [List.any_map]
  congr 2
  funext r
  exact inR_swap last n r
def nameR (last : Int) (r : Rg) : Rg := (meantZ last r.1, meantZ last r.2)
theorem inR_named {last : Int} (h : 1 ≤ last) (k n : Int) (r : Rg) : inR k n (nameR last r) = inR last n r := by
  have hm : ∀ z, meantZ k (meantZ last z) = meantZ last z := by
    intro z
    unfold meantZ
    by_cases hz : z = 0
    · rw [if_pos hz, if_neg (by omega)]
    · rw [if_neg hz, if_neg hz]
  unfold inR nameR
  simp only [hm]
theorem has_named {last : Int} (h : 1 ≤ last) (k : Int) (l : List Rg) (n : Int) : hasZ (l.map (nameR last)) n k = hasZ l n last := by
  unfold hasZ
  rw [List.any_map]
  congr 2
  funext r
  exact inR_named h k n r

/-! ### Numbers made a set -/
def ofStep (o : List Rg) (n : Int) : List Rg :=
  match o.getLast? with
  | some r => if n - r.2 = 1 then o.dropLast ++ [(r.1, n)] else o ++ [(n, n)]
  | none => [(n, n)]
def ofZ (nums : List Int) : List Rg := nums.foldl ofStep []
theorem ofZ_snoc (nums : List Int) (n : Int) : ofZ (nums ++ [n]) = ofStep (ofZ nums) n := by unfold ofZ; rw [List.foldl_append]; rfl
theorem ofStep_nil (n : Int) : ofStep [] n = [(n, n)] := rfl
theorem ofStep_on {o : List Rg} {a b n : Int} (h : n - b = 1) : ofStep (o ++ [(a, b)]) n = o ++ [(a, n)] := by
  unfold ofStep
  rw [List.getLast?_concat]
  show (if n - b = 1 then _ else _) = _
  rw [if_pos h, List.dropLast_concat]
theorem ofStep_new {o : List Rg} {a b n : Int} (h : ¬ n - b = 1) : ofStep (o ++ [(a, b)]) n = o ++ [(a, b)] ++ [(n, n)] := by
  unfold ofStep
  rw [List.getLast?_concat]
  show (if n - b = 1 then _ else _) = _
  rw [if_neg h]
theorem snoc_of_ne {α : Type} {l : List α} (h : l ≠ []) : ∃ a b, l = a ++ [b] := ⟨l.dropLast, l.getLast h, (List.dropLast_concat_getLast h).symm⟩
theorem snoc_indI {p : List Int → Prop} (h0 : p []) (h1 : ∀ l b, p l → p (l ++ [b])) (l : List Int) : p l := by
  have : ∀ r : List Int, p r.reverse := by
    intro r
    induction r with
    | nil => exact h0
    | cons b r ih => rw [List.reverse_cons]; exact h1 _ _ ih
  have h := this l.reverse
  rwa [List.reverse_reverse] at h
/-- the last range ends at the last number -/
theorem ofZ_last (l : List Int) : ∀ (m : Int), ∃ o a, ofZ (l ++ [m]) = o ++ [(a, m)] := by
  intro m
  rw [ofZ_snoc]
  by_cases h : ofZ l = []
  · rw [h]; exact ⟨[], m, rfl⟩
  · obtain ⟨o, ⟨a, b⟩, e⟩ := snoc_of_ne h
    rw [e]
    by_cases hb : m - b = 1
    · exact ⟨o, a, ofStep_on hb⟩
    · exact ⟨o ++ [(a, b)], m, ofStep_new hb⟩
theorem ofZ_len (l : List Int) : (ofZ l).length ≤ l.length := by
  induction l using snoc_indI with
  | h0 => exact Nat.le_refl _
  | h1 l n ih =>
    rw [ofZ_snoc, List.length_append, List.length_singleton]
    by_cases h : ofZ l = []
    · rw [h]; simp [ofStep_nil]
    · obtain ⟨o, ⟨a, b⟩, e⟩ := snoc_of_ne h
      rw [e] at ih ⊢
      by_cases hb : n - b = 1
      · rw [ofStep_on hb]; simp at ih ⊢; omega
      · rw [ofStep_new hb]; simp at ih ⊢; omega
def riseAt (l : List Int) (i : Nat) : Bool := decide (1 ≤ l.getD i 0 ∧ l.getD i 0 ≤ 4294967295 ∧ (i = 0 ∨ l.getD (i - 1) 0 < l.getD i 0))
def riseB (l : List Int) : Bool := decide (∀ i, i < l.length → riseAt l i = true)
theorem riseB_stop {l : List Int} {k : Nat} (hk : k < l.length) (h : riseAt l k = false) : riseB l = false := decide_eq_false fun e => by rw [e k hk] at h; cases h
theorem riseB_init {l : List Int} {n : Int} (h : riseB (l ++ [n]) = true) : riseB l = true := by
  have h := of_decide_eq_true h
  refine decide_eq_true fun i hi => ?_
  have := h i (by rw [List.length_append]; omega)
  unfold riseAt at this ⊢
  rw [List.getD_eq_getElem?_getD, List.getD_eq_getElem?_getD, List.getElem?_append_left hi] at this
  rw [List.getD_eq_getElem?_getD, List.getD_eq_getElem?_getD]
  rw [List.getElem?_append_left (by omega : i - 1 < l.length)] at this
  exact this
theorem riseB_last {l : List Int} {n : Int} (h : riseB (l ++ [n]) = true) : 1 ≤ n ∧ n ≤ 4294967295 ∧ ∀ m r, l = r ++ [m] → m < n := by
  have h := of_decide_eq_true h l.length (by rw [List.length_append, List.length_singleton]; omega)
  have h := of_decide_eq_true h
  rw [List.getD_eq_getElem?_getD, List.getElem?_append_right (Nat.le_refl _), Nat.sub_self] at h
  refine ⟨h.1, h.2.1, fun m r e => ?_⟩
  subst e
  rcases h.2.2 with h0 | h0
  · simp at h0
  · rw [List.length_append, List.length_singleton, Nat.add_sub_cancel, List.getD_eq_getElem?_getD, List.append_assoc, List.getElem?_append_right (Nat.le_refl _), Nat.sub_self] at h0
    exact h0
theorem any_snoc {α : Type} (l : List α) (x : α) (p : α → Bool) : (l ++ [x]).any p = (l.any p || p x) := by rw [List.any_append]; simp
theorem inR_plain {a b last n : Int} (ha : 1 ≤ a) (hab : a ≤ b) : inR last n (a, b) = decide (a ≤ n ∧ n ≤ b) := by
  unfold inR meantZ
  simp only
  rw [if_neg (by omega), if_neg (by omega), Int.min_eq_left hab, Int.max_eq_right hab]
/-- a set of numbers has just these -/
theorem ofZ_has (last n : Int) (l : List Int) : riseB l = true → (ofZ l).any (inR last n) = decide (n ∈ l) ∧ (∀ z ∈ l, 1 ≤ z) ∧ (∀ o a b, ofZ l = o ++ [(a, b)] → 1 ≤ a ∧ a ≤ b ∧ l.getLast? = some b) := by
  induction l using snoc_indI with
  | h0 => intro _; exact ⟨rfl, (fun z hz => by cases hz), (fun o a b e => by have := congrArg List.length e; simp [ofZ] at this)⟩
  | h1 l m ih =>
    intro hr
    obtain ⟨h1, h2, h3⟩ := ih (riseB_init hr)
    obtain ⟨g1, _, g3⟩ := riseB_last hr
    have hmem : decide (n ∈ l ++ [m]) = (decide (n ∈ l) || decide (n = m)) := by
      rw [Bool.eq_iff_iff]; simp
    rw [ofZ_snoc, hmem]
    refine ⟨?_, fun z hz => ?_, ?_⟩
    · by_cases h : ofZ l = []
      · rw [h] at h1 ⊢
        rw [← h1, ofStep_nil]
        show ((inR last n (m, m)) || false) = (false || decide (n = m))
        rw [inR_plain g1 (by omega), Bool.eq_iff_iff]
        simp; omega
      · obtain ⟨o, ⟨a, b⟩, e⟩ := snoc_of_ne h
        obtain ⟨k1, k2, k3⟩ := h3 o a b e
        rw [e, any_snoc, inR_plain k1 k2] at h1
        obtain ⟨r, hlr⟩ : ∃ r, l = r ++ [b] := by
          have hne : l ≠ [] := fun e2 => by rw [e2] at k3; cases k3
          obtain ⟨r, x, hx⟩ := snoc_of_ne hne
          rw [hx, List.getLast?_concat] at k3
          injection k3 with k3
          exact ⟨r, by rw [hx, k3]⟩
        have hbm := g3 b r hlr
        rw [e]
        by_cases hb : m - b = 1
        · rw [ofStep_on hb, any_snoc, inR_plain k1 (by omega), ← h1, Bool.eq_iff_iff]
          simp only [Bool.or_eq_true, decide_eq_true_eq]
          constructor
          · rintro (h | h)
            · exact .inl (.inl h)
            · by_cases hn : n ≤ b
              · exact .inl (.inr ⟨h.1, hn⟩)
              · exact .inr (by omega)
          · rintro ((h | h) | h)
            · exact .inl h
            · exact .inr (by omega)
            · exact .inr (by omega)
        · rw [ofStep_new hb, any_snoc, any_snoc, inR_plain k1 k2, h1, inR_plain g1 (by omega), Bool.eq_iff_iff]
          simp only [Bool.or_eq_true, decide_eq_true_eq]
          constructor
          · rintro (h | h)
            · exact .inl h
            · exact .inr (by omega)
          · rintro (h | h)
            · exact .inl h
            · exact .inr (by omega)
    · rcases List.mem_append.1 hz with h | h
      · exact h2 z h
      · rw [List.mem_singleton.1 h]; exact g1
    · intro o a b e
      rw [List.getLast?_concat]
      by_cases h : ofZ l = []
      · rw [h, ofStep_nil] at e
        have hl := congrArg List.length e
        simp at hl
        have ho : o = [] := by cases o with
          | nil => rfl
          | cons x o => simp at hl
        subst ho
        injection e with e _
        injection e with e1 e2
        exact ⟨by omega, by omega, by rw [e2]⟩
      · obtain ⟨o2, ⟨a2, b2⟩, e2⟩ := snoc_of_ne h
        obtain ⟨k1, k2, k3⟩ := h3 o2 a2 b2 e2
        rw [e2] at e
        by_cases hb : m - b2 = 1
        · rw [ofStep_on hb] at e
          have h4 := congrArg List.getLast? e
          rw [List.getLast?_concat, List.getLast?_concat] at h4
          injection h4 with h4
          injection h4 with h4 h5
          exact ⟨by omega, by omega, by rw [h5]⟩
        · rw [ofStep_new hb] at e
          have h4 := congrArg List.getLast? e
          rw [List.getLast?_concat, List.getLast?_concat] at h4
          injection h4 with h4
          injection h4 with h4 h5
          exact ⟨by omega, by omega, by rw [h5]⟩
theorem has_of {l : List Int} (h : riseB l = true) (n last : Int) : hasZ (ofZ l) n last = decide (n ∈ l) := by
  obtain ⟨h1, h2, _⟩ := ofZ_has last n l h
  unfold hasZ
  rw [h1, Bool.eq_iff_iff]
  simp only [Bool.and_eq_true, decide_eq_true_eq]
  exact ⟨fun h => h.2, fun h => ⟨h2 n h, h⟩⟩
theorem pick_of {l : List Int} (h : riseB l = true) : pickZ (ofZ l) l = l := by
  unfold pickZ pickU
  rw [List.filter_eq_self]
  intro z hz
  rw [has_of h]
  exact decide_eq_true hz
end Go.Proofs.YtoiffchhfnbooaaDoor

/-
  Plain mathematics of package name: names, INBOX, patterns, what is like them. Nothing here speaks of a program.
-/
namespace Go.Proofs.YtoiffchhfnbooaaDoor
set_option linter.unusedVariables false
set_option linter.unusedSimpArgs false
set_option linter.unusedVariables false
set_option linter.unusedSimpArgs false

/-! ### Names -/
def plainB (c : Nat) : Bool := decide (32 < c ∧ c ≤ 126 ∧ c ≠ 40 ∧ c ≠ 41 ∧ c ≠ 123 ∧ c ≠ 37 ∧ c ≠ 42 ∧ c ≠ 34 ∧ c ≠ 92)
/-- may byte i stand there? -/
def spotB (l : List Nat) (i : Nat) : Bool := plainB (l.getD i 0) && !decide (l.getD i 0 = 47 ∧ (i = 0 ∨ i + 1 = l.length ∨ l.getD (i - 1) 0 = 47))
def formB (l : List Nat) : Bool := decide (1 ≤ l.length ∧ l.length ≤ 40 ∧ (∀ i, i < l.length → spotB l i = true) ∧ l.count 47 ≤ 3)
def upC (c : Nat) : Nat := if 97 ≤ c ∧ c ≤ 122 then c - 32 else c
def inboxL : List Nat := [73, 78, 66, 79, 88]
def inboxB (l : List Nat) : Bool := decide ((l.take 5).map upC = inboxL ∧ (l.length = 5 ∨ l[5]? = some 47))
def cleanN (l : List Nat) : List Nat := if inboxB l = true then inboxL ++ l.drop 5 else l
def cleanE (l : List Nat) : Int := if formB l = true then 0 else 3
def cleanV (l : List Nat) : List Nat := if formB l = true then cleanN l else []
def rightN (l : List Nat) : Bool := decide (formB l = true ∧ cleanN l = l)
def aboveR (l : List Nat) : List (List Nat) := (List.range l.length).filterMap fun i => if l[i]? = some 47 then some (l.take i) else none
def aboveN (l : List Nat) : List (List Nat) := if rightN l = true then aboveR l else []
def belowN (l top : List Nat) : Bool := decide (top ∈ aboveN l)
def patB (l : List Nat) : Bool := decide (l.length ≤ 80 ∧ ∀ c ∈ l, plainB c = true ∨ c = 42 ∨ c = 37)

theorem spot_of {l : List Nat} {i : Nat} (h : spotB l i = true) : plainB (l.getD i 0) = true ∧ ¬ (l.getD i 0 = 47 ∧ (i = 0 ∨ i + 1 = l.length ∨ l.getD (i - 1) 0 = 47)) := by
  unfold spotB at h
  rw [Bool.and_eq_true, Bool.not_eq_true'] at h
  exact ⟨h.1, of_decide_eq_false h.2⟩
theorem spot_mk {l : List Nat} {i : Nat} (h1 : plainB (l.getD i 0) = true) (h2 : ¬ (l.getD i 0 = 47 ∧ (i = 0 ∨ i + 1 = l.length ∨ l.getD (i - 1) 0 = 47))) : spotB l i = true := by
  unfold spotB
  rw [Bool.and_eq_true, Bool.not_eq_true']
  exact ⟨h1, decide_eq_false h2⟩
theorem form_mem {l : List Nat} (h : formB l = true) : ∀ c ∈ l, plainB c = true := fun c hc => by
  obtain ⟨i, hi, rfl⟩ := List.mem_iff_getElem.1 hc
  have := (spot_of ((of_decide_eq_true h).2.2.1 i hi)).1
  rwa [List.getD_eq_getElem?_getD, List.getElem?_eq_getElem hi] at this
theorem plain_lt {c : Nat} (h : plainB c = true) : 32 < c ∧ c ≤ 126 ∧ c ≠ 42 ∧ c ≠ 37 := by
  have := of_decide_eq_true h
  omega
/-- what INBOX in any letters looks like -/
theorem inbox_parts {l : List Nat} (h : inboxB l = true) : ∃ a r, l = a ++ r ∧ a.length = 5 ∧ a.map upC = inboxL ∧ (r = [] ∨ ∃ r', r = 47 :: r') := by
  obtain ⟨h1, h2⟩ := of_decide_eq_true h
  have hl : (l.take 5).length = 5 := by have := congrArg List.length h1; simpa [inboxL] using this
  refine ⟨l.take 5, l.drop 5, (List.take_append_drop 5 l).symm, hl, h1, ?_⟩
  rcases h2 with h2 | h2
  · exact .inl (List.drop_eq_nil_of_le (by omega))
  · obtain ⟨h5, he⟩ := List.getElem?_eq_some_iff.1 h2
    exact .inr ⟨l.drop 6, by rw [List.drop_eq_getElem_cons h5, he]⟩
theorem cleanN_parts {l a r : List Nat} (h : inboxB l = true) (e : l = a ++ r) (ha : a.length = 5) : cleanN l = inboxL ++ r := by
  unfold cleanN
  rw [if_pos h, e, List.drop_append_of_le_length (by omega), List.drop_eq_nil_of_le (by omega), List.nil_append]
theorem upC_letter {c d : Nat} (h : upC c = d) (hd : 65 ≤ d ∧ d ≤ 90) : 65 ≤ c ∧ c ≤ 122 ∧ ¬ (90 < c ∧ c < 97) := by
  unfold upC at h
  split at h <;> omega
theorem upC_five {a : List Nat} (h : a.map upC = inboxL) : ∀ i, i < 5 → 65 ≤ a.getD i 0 ∧ a.getD i 0 ≤ 122 ∧ ¬ (90 < a.getD i 0 ∧ a.getD i 0 < 97) := by
  intro i hi
  have hl : a.length = 5 := by have := congrArg List.length h; simpa [inboxL] using this
  have hx := congrArg (·[i]?) h
  simp only [List.getElem?_map] at hx
  rw [List.getElem?_eq_getElem (by omega)] at hx
  rw [List.getD_eq_getElem?_getD, List.getElem?_eq_getElem (by omega)]
  show 65 ≤ a[i] ∧ a[i] ≤ 122 ∧ _
  simp only [Option.map_some] at hx
  have hd : ∀ j, j < 5 → ∃ d, inboxL[j]? = some d ∧ 65 ≤ d ∧ d ≤ 90 := by decide
  obtain ⟨d, e1, e2⟩ := hd i hi
  rw [e1] at hx
  injection hx with hx
  exact upC_letter hx e2
theorem inboxL_up : inboxL.map upC = inboxL := by decide
theorem letter_plain {c : Nat} (h : 65 ≤ c ∧ c ≤ 122 ∧ ¬ (90 < c ∧ c < 97)) : plainB c = true ∧ c ≠ 47 := by
  refine ⟨decide_eq_true ?_, ?_⟩ <;> omega
theorem getD_app_left (a r : List Nat) {i : Nat} (h : i < a.length) : (a ++ r).getD i 0 = a.getD i 0 := by
  rw [List.getD_eq_getElem?_getD, List.getD_eq_getElem?_getD, List.getElem?_append_left h]
theorem getD_app_right (a r : List Nat) {i : Nat} (h : a.length ≤ i) : (a ++ r).getD i 0 = r.getD (i - a.length) 0 := by
  rw [List.getD_eq_getElem?_getD, List.getD_eq_getElem?_getD, List.getElem?_append_right h]
theorem form_inbox {a b r : List Nat} (ha : a.map upC = inboxL) (hb : b.map upC = inboxL) (h : formB (a ++ r) = true) : formB (b ++ r) = true := by
  have hla : a.length = 5 := by have := congrArg List.length ha; simpa [inboxL] using this
  have hlb : b.length = 5 := by have := congrArg List.length hb; simpa [inboxL] using this
  have hA := upC_five ha
  have hB := upC_five hb
  obtain ⟨h1, h2, h3, h4⟩ := of_decide_eq_true h
  rw [List.length_append] at h1 h2 h3
  have hcnt : ∀ c : List Nat, c.map upC = inboxL → c.count 47 = 0 := by
    intro c hc
    rw [List.count_eq_zero]
    intro hm
    have : upC 47 ∈ c.map upC := List.mem_map_of_mem hm
    rw [hc] at this
    exact absurd this (by decide)
  refine decide_eq_true ⟨by rw [List.length_append]; omega, by rw [List.length_append]; omega, fun i hi => ?_, ?_⟩
  · rw [List.length_append] at hi
    by_cases h5 : i < 5
    · obtain ⟨p1, p2⟩ := letter_plain (hB i h5)
      refine spot_mk ?_ ?_
      · rw [getD_app_left b r (by omega)]; exact p1
      · rw [getD_app_left b r (by omega)]; exact fun hx => p2 hx.1
    · obtain ⟨p1, p2⟩ := spot_of (h3 i (by omega))
      rw [getD_app_right a r (by omega), hla] at p1 p2
      rw [List.length_append, hla] at p2
      refine spot_mk ?_ ?_
      · rw [getD_app_right b r (by omega), hlb]; exact p1
      · rw [getD_app_right b r (by omega), hlb, List.length_append, hlb]
        rintro ⟨e, e2⟩
        refine p2 ⟨e, ?_⟩
        rcases e2 with e2 | e2 | e2
        · omega
        · exact .inr (.inl e2)
        · by_cases h6 : i = 5
          · subst h6
            rw [getD_app_left b r (by omega)] at e2
            exact absurd e2 (letter_plain (hB 4 (by omega))).2
          · rw [getD_app_right b r (by omega), hlb] at e2
            rw [getD_app_right a r (by omega), hla]
            exact .inr (.inr e2)
  · rw [List.count_append, hcnt a ha] at h4
    rw [List.count_append, hcnt b hb]
    exact h4
theorem form_clean (l : List Nat) : formB (cleanN l) = formB l := by
  by_cases h : inboxB l = true
  · obtain ⟨a, r, e, hl, ha, _⟩ := inbox_parts h
    rw [cleanN_parts h e hl, e, Bool.eq_iff_iff]
    exact ⟨form_inbox inboxL_up ha, form_inbox ha inboxL_up⟩
  · unfold cleanN; rw [if_neg h]
theorem inbox_clean (l : List Nat) : inboxB (cleanN l) = inboxB l := by
  by_cases h : inboxB l = true
  · obtain ⟨a, r, e, hl, ha, hr⟩ := inbox_parts h
    rw [h, cleanN_parts h e hl]
    refine decide_eq_true ⟨?_, ?_⟩
    · rw [List.take_append_of_le_length (by decide), show inboxL.take 5 = inboxL from rfl, inboxL_up]
    · rcases hr with rfl | ⟨r', rfl⟩
      · exact .inl rfl
      · exact .inr rfl
  · unfold cleanN; rw [if_neg h]
theorem clean_clean (l : List Nat) : cleanN (cleanN l) = cleanN l := by
  by_cases h : inboxB l = true
  · obtain ⟨a, r, e, hl, ha, hr⟩ := inbox_parts h
    have h2 := inbox_clean l
    rw [h] at h2
    rw [cleanN_parts h e hl] at h2 ⊢
    rw [cleanN_parts h2 rfl rfl]
  · unfold cleanN; rw [if_neg h, if_neg h]
theorem right_clean {l : List Nat} (h : formB l = true) : rightN (cleanN l) = true := decide_eq_true ⟨by rw [form_clean]; exact h, clean_clean l⟩
theorem right_form {l : List Nat} (h : formB l = false) : rightN l = false := decide_eq_false fun e => by rw [h] at e; cases e.1

/-! ### Patterns -/
/-- a byte of a pattern stands for a text -/
def St (c : Nat) (u : List Nat) : Prop := c = 42 ∨ (c = 37 ∧ 47 ∉ u) ∨ (c ≠ 42 ∧ c ≠ 37 ∧ u = [c])
/-- a text is like a pattern -/
def Lk : List Nat → List Nat → Prop
  | [], s => s = []
  | c :: p, s => ∃ u v, s = u ++ v ∧ St c u ∧ Lk p v
def starF (f : List Nat → Bool) (g : Nat → Bool) : List Nat → Bool
  | [] => f []
  | x :: t => f (x :: t) || (g x && starF f g t)
def oneF (f : List Nat → Bool) (c : Nat) : List Nat → Bool
  | [] => false
  | x :: t => decide (x = c) && f t
def likeF : List Nat → List Nat → Bool
  | [], s => s.isEmpty
  | c :: p, s => if c = 42 then starF (likeF p) (fun _ => true) s else if c = 37 then starF (likeF p) (fun x => decide (x ≠ 47)) s else oneF (likeF p) c s
theorem starF_iff (f : List Nat → Bool) (g : Nat → Bool) : ∀ s, starF f g s = true ↔ ∃ u v, s = u ++ v ∧ (∀ y ∈ u, g y = true) ∧ f v = true
  | [] => by
    constructor
    · intro h; exact ⟨[], [], rfl, (fun y hy => by cases hy), h⟩
    · rintro ⟨u, v, e, _, hv⟩
      obtain ⟨rfl, rfl⟩ := List.append_eq_nil_iff.1 e.symm
      exact hv
  | x :: t => by
    show (f (x :: t) || (g x && starF f g t)) = true ↔ _
    rw [Bool.or_eq_true, Bool.and_eq_true, starF_iff f g t]
    constructor
    · rintro (h | ⟨hx, u, v, rfl, hu, hv⟩)
      · exact ⟨[], x :: t, rfl, (fun y hy => by cases hy), h⟩
      · exact ⟨x :: u, v, rfl, fun y hy => by rcases List.mem_cons.1 hy with rfl | hy; exact hx; exact hu y hy, hv⟩
    · rintro ⟨u, v, e, hu, hv⟩
      cases u with
      | nil => exact .inl (by rw [show x :: t = v from e]; exact hv)
      | cons y u =>
        injection e with e1 e2
        subst e1
        exact .inr ⟨hu x (List.mem_cons_self ..), u, v, e2, fun z hz => hu z (List.mem_cons_of_mem _ hz), hv⟩
theorem like_iff : ∀ (p s : List Nat), likeF p s = true ↔ Lk p s
  | [], s => by show s.isEmpty = true ↔ s = []; exact List.isEmpty_iff
  | c :: p, s => by
    unfold likeF Lk
    by_cases h1 : c = 42
    · rw [if_pos h1, starF_iff]
      constructor
      · rintro ⟨u, v, e, _, hv⟩; exact ⟨u, v, e, .inl h1, (like_iff p v).1 hv⟩
      · rintro ⟨u, v, e, _, hv⟩; exact ⟨u, v, e, fun _ _ => rfl, (like_iff p v).2 hv⟩
    · rw [if_neg h1]
      by_cases h2 : c = 37
      · rw [if_pos h2, starF_iff]
        constructor
        · rintro ⟨u, v, e, hu, hv⟩
          exact ⟨u, v, e, .inr (.inl ⟨h2, fun hm => of_decide_eq_true (hu 47 hm) rfl⟩), (like_iff p v).1 hv⟩
        · rintro ⟨u, v, e, hu, hv⟩
          rcases hu with hu | hu | hu
          · exact absurd hu h1
          · exact ⟨u, v, e, fun y hy => decide_eq_true fun e => hu.2 (e ▸ hy), (like_iff p v).2 hv⟩
          · exact absurd h2 hu.2.1
      · rw [if_neg h2]
        cases s with
        | nil =>
          constructor
          · intro h; cases h
          · rintro ⟨u, v, e, hu, hv⟩
            obtain ⟨rfl, rfl⟩ := List.append_eq_nil_iff.1 e.symm
            rcases hu with hu | hu | hu
            · exact absurd hu h1
            · exact absurd hu.1 h2
            · cases hu.2.2
        | cons x t =>
          show (decide (x = c) && likeF p t) = true ↔ _
          rw [Bool.and_eq_true, decide_eq_true_iff, like_iff p t]
          constructor
          · rintro ⟨rfl, h⟩; exact ⟨[x], t, rfl, .inr (.inr ⟨h1, h2, rfl⟩), h⟩
          · rintro ⟨u, v, e, hu, hv⟩
            rcases hu with hu | hu | hu
            · exact absurd hu h1
            · exact absurd hu.1 h2
            · rw [hu.2.2] at e
              injection e with e1 e2
              exact ⟨e1, by rw [show t = v from e2]; exact hv⟩
theorem Lk_app : ∀ (p q s : List Nat), Lk (p ++ q) s ↔ ∃ u v, s = u ++ v ∧ Lk p u ∧ Lk q v
  | [], q, s => by
    constructor
    · intro h; exact ⟨[], s, rfl, rfl, h⟩
    · rintro ⟨u, v, rfl, hu, hv⟩
      rw [show u = [] from hu]; exact hv
  | c :: p, q, s => by
    constructor
    · rintro ⟨u, v, rfl, hu, hv⟩
      obtain ⟨u2, v2, rfl, h1, h2⟩ := (Lk_app p q v).1 hv
      exact ⟨u ++ u2, v2, (List.append_assoc ..).symm, ⟨u, u2, rfl, hu, h1⟩, h2⟩
    · rintro ⟨u, v, rfl, ⟨u1, u2, rfl, h1, h2⟩, hv⟩
      exact ⟨u1, u2 ++ v, List.append_assoc .., h1, (Lk_app p q _).2 ⟨u2, v, rfl, h2, hv⟩⟩
theorem Lk_one (c : Nat) (v : List Nat) : Lk [c] v ↔ St c v := by
  constructor
  · rintro ⟨u, w, rfl, hu, hw⟩
    rw [show w = [] from hw, List.append_nil]; exact hu
  · intro h; exact ⟨v, [], (List.append_nil v).symm, h, rfl⟩
theorem Lk_snoc (p : List Nat) (c : Nat) (s : List Nat) : Lk (p ++ [c]) s ↔ ∃ u v, s = u ++ v ∧ Lk p u ∧ St c v := by
  rw [Lk_app]
  constructor
  · rintro ⟨u, v, e, h1, h2⟩; exact ⟨u, v, e, h1, (Lk_one c v).1 h2⟩
  · rintro ⟨u, v, e, h1, h2⟩; exact ⟨u, v, e, h1, (Lk_one c v).2 h2⟩
theorem Lk_nil (s : List Nat) : Lk [] s ↔ s = [] := Iff.rfl
theorem Lk_wild {c : Nat} {g : Nat → Prop} (hw : ∀ u, St c u ↔ ∀ y ∈ u, g y) (p t : List Nat) (x : Nat) : Lk (p ++ [c]) (t ++ [x]) ↔ Lk p (t ++ [x]) ∨ (Lk (p ++ [c]) t ∧ g x) := by
  rw [Lk_snoc, Lk_snoc]
  constructor
  · rintro ⟨u, v, e, h1, h2⟩
    rw [hw] at h2
    rcases List.eq_nil_or_concat v with rfl | ⟨v', y, rfl⟩
    · rw [List.append_nil] at e
      exact .inl (by rw [e]; exact h1)
    · rw [List.concat_eq_append, ← List.append_assoc] at e
      obtain ⟨rfl, e2⟩ := List.append_inj' e rfl
      injection e2 with e2 _
      subst e2
      exact .inr ⟨⟨u, v', rfl, h1, (hw v').2 fun z hz => h2 z (by rw [List.concat_eq_append]; exact List.mem_append_left _ hz)⟩, h2 x (by rw [List.concat_eq_append]; exact List.mem_append_right _ (List.mem_singleton_self x))⟩
  · rintro (h | ⟨⟨u, v, rfl, h1, h2⟩, hx⟩)
    · exact ⟨t ++ [x], [], (List.append_nil _).symm, h, (hw []).2 fun y hy => by cases hy⟩
    · exact ⟨u, v ++ [x], List.append_assoc .., h1, (hw _).2 fun y hy => by
        rcases List.mem_append.1 hy with hy | hy
        · exact (hw v).1 h2 y hy
        · rw [List.mem_singleton.1 hy]; exact hx⟩
theorem Lk_wild_nil {c : Nat} {g : Nat → Prop} (hw : ∀ u, St c u ↔ ∀ y ∈ u, g y) (p : List Nat) : Lk (p ++ [c]) [] ↔ Lk p [] := by
  rw [Lk_snoc]
  constructor
  · rintro ⟨u, v, e, h1, _⟩
    rw [(List.append_eq_nil_iff.1 e.symm).1] at h1; exact h1
  · intro h; exact ⟨[], [], rfl, h, (hw []).2 fun y hy => by cases hy⟩
theorem St_star (u : List Nat) : St 42 u ↔ ∀ y ∈ u, True := ⟨fun _ _ _ => trivial, fun _ => .inl rfl⟩
theorem St_pct (u : List Nat) : St 37 u ↔ ∀ y ∈ u, y ≠ 47 := by
  constructor
  · rintro (h | h | h) y hy
    · cases h
    · exact fun e => h.2 (e ▸ hy)
    · exact absurd rfl h.2.1
  · intro h; exact .inr (.inl ⟨rfl, fun hm => h 47 hm rfl⟩)
theorem St_plain {c : Nat} (h1 : c ≠ 42) (h2 : c ≠ 37) (u : List Nat) : St c u ↔ u = [c] := by
  constructor
  · rintro (h | h | h)
    · exact absurd h h1
    · exact absurd h.1 h2
    · exact h.2.2
  · intro h; exact .inr (.inr ⟨h1, h2, h⟩)
theorem Lk_plain {c : Nat} (h1 : c ≠ 42) (h2 : c ≠ 37) (p t : List Nat) (x : Nat) : Lk (p ++ [c]) (t ++ [x]) ↔ Lk p t ∧ x = c := by
  rw [Lk_snoc]
  constructor
  · rintro ⟨u, v, e, h3, h4⟩
    rw [St_plain h1 h2] at h4
    subst h4
    obtain ⟨rfl, e2⟩ := List.append_inj' e rfl
    injection e2 with e2 _
    exact ⟨h3, e2⟩
  · rintro ⟨h, rfl⟩; exact ⟨t, [x], rfl, h, (St_plain h1 h2 _).2 rfl⟩
theorem Lk_plain_nil {c : Nat} (h1 : c ≠ 42) (h2 : c ≠ 37) (p : List Nat) : ¬ Lk (p ++ [c]) [] := by
  rw [Lk_snoc]
  rintro ⟨u, v, e, _, h⟩
  rw [(St_plain h1 h2 _).1 h] at e
  have := congrArg List.length e
  simp at this
/-! as a table says it -/
def wildB (c : Nat) : Bool := decide (c = 42 ∨ c = 37)
theorem like_nil_s (k : List Nat) : likeF [] k = decide (k = []) := by
  rw [Bool.eq_iff_iff, like_iff, decide_eq_true_iff]; exact Iff.rfl
theorem like_zero (p : List Nat) (c : Nat) : likeF (p ++ [c]) [] = (wildB c && likeF p []) := by
  rw [Bool.eq_iff_iff, Bool.and_eq_true, like_iff, like_iff]
  unfold wildB
  rw [decide_eq_true_iff]
  by_cases h1 : c = 42
  · subst h1; rw [Lk_wild_nil St_star]; simp
  · by_cases h2 : c = 37
    · subst h2; rw [Lk_wild_nil St_pct]; simp
    · constructor
      · intro h; exact absurd h (Lk_plain_nil h1 h2 p)
      · rintro ⟨h | h, _⟩
        · exact absurd h h1
        · exact absurd h h2
theorem like_wild (p t : List Nat) (c x : Nat) (h : wildB c = true) : likeF (p ++ [c]) (t ++ [x]) = (likeF p (t ++ [x]) || (likeF (p ++ [c]) t && (decide (c = 42) || decide (x ≠ 47)))) := by
  rw [Bool.eq_iff_iff, Bool.or_eq_true, Bool.and_eq_true, Bool.or_eq_true, like_iff, like_iff, like_iff, decide_eq_true_iff, decide_eq_true_iff]
  rcases of_decide_eq_true h with rfl | rfl
  · rw [Lk_wild St_star]; simp
  · rw [Lk_wild St_pct]; simp
theorem like_one (p t : List Nat) (c x : Nat) (h : wildB c = false) : likeF (p ++ [c]) (t ++ [x]) = (likeF p t && decide (x = c)) := by
  have h := of_decide_eq_false h
  rw [Bool.eq_iff_iff, Bool.and_eq_true, like_iff, like_iff, decide_eq_true_iff]
  exact Lk_plain (fun e => h (.inl e)) (fun e => h (.inr e)) p t x
/-! what is like what -/
theorem like_self : ∀ {l : List Nat}, (∀ c ∈ l, c ≠ 42 ∧ c ≠ 37) → Lk l l
  | [], _ => rfl
  | c :: l, h => ⟨[c], l, rfl, .inr (.inr ⟨(h c (List.mem_cons_self ..)).1, (h c (List.mem_cons_self ..)).2, rfl⟩), like_self fun d hd => h d (List.mem_cons_of_mem _ hd)⟩
theorem like_star (l : List Nat) : Lk [42] l := (Lk_one 42 l).2 (.inl rfl)
theorem like_pct (l : List Nat) : Lk [37] l ↔ 47 ∉ l := by
  rw [Lk_one, St_pct]
  exact ⟨fun h hm => h 47 hm rfl, fun h y hy e => h (e ▸ hy)⟩
theorem like_behind {p s : List Nat} (h : Lk p s) : Lk (p ++ [42]) s := (Lk_snoc p 42 s).2 ⟨s, [], (List.append_nil s).symm, h, .inl rfl⟩
theorem like_ahead {p s : List Nat} (h : Lk p s) : Lk (42 :: p) s := ⟨[], s, rfl, .inl rfl, h⟩
theorem like_below {s : List Nat} (h : ∀ c ∈ s, c ≠ 42 ∧ c ≠ 37) (more : List Nat) : Lk (s ++ [47, 42]) (s ++ 47 :: more) :=
  (Lk_app s [47, 42] _).2 ⟨s, 47 :: more, rfl, like_self h, ⟨[47], more, rfl, .inr (.inr ⟨by decide, by decide, rfl⟩), like_star more⟩⟩
end Go.Proofs.YtoiffchhfnbooaaDoor
