/-
  Plain facts of events: which may be, their bytes, what is read of bytes; there and back; cut short.
-/
import Derived.Test.YtoiffchhfnbooaaDoorQRowRel
import Derived.Test.YtoiffchhfnbooaaDoorQUidsMath
import Derived.Test.YtoiffchhfnbooaaDoorQBoxMath
namespace Go.Proofs.YtoiffchhfnbooaaDoor
set_option linter.unusedVariables false
set_option linter.unusedSimpArgs false
set_option linter.unusedVariables false
set_option linter.unusedSimpArgs false

structure Ev where
  kind : Int
  at_ : Int
  box : ByteArray
  to_ : ByteArray
  ids : List Int
  set : List Rg
  mode : Int
  flags : Int
  date : Int
  n : Int
  body : List Nat

def evEq (a b : Ev) : Bool := decide (a.kind = b.kind) && (decide (a.at_ = b.at_) && (decide (a.box = b.box) && (decide (a.to_ = b.to_) && (decide (a.ids = b.ids) && (decide (a.set = b.set) && (decide (a.mode = b.mode) && (decide (a.flags = b.flags) && (decide (a.date = b.date) && (decide (a.n = b.n) && decide (a.body = b.body))))))))))
theorem evEq_iff (a b : Ev) : evEq a b = true ↔ a = b := by
  obtain ⟨a1, a2, a3, a4, a5, a6, a7, a8, a9, a10, a11⟩ := a
  obtain ⟨b1, b2, b3, b4, b5, b6, b7, b8, b9, b10, b11⟩ := b
  unfold evEq
  simp only [Bool.and_eq_true, decide_eq_true_eq, Ev.mk.injEq]
theorem evEq_self (a : Ev) : evEq a a = true := (evEq_iff a a).2 rfl

def letK : Nat → List Nat
  | 0 => [98]
  | 1 => [98]
  | 2 => [98, 116]
  | 3 => [98]
  | 4 => [98]
  | 5 => [98, 102, 100, 121]
  | 6 => [98, 105, 109, 102]
  | 7 => [98, 116, 105]
  | 8 => [98, 105]
  | 9 => [110]
  | 10 => [98, 110]
  | 11 => [98, 115]
  | 12 => [110]
  | 13 => [105]
  | _ => []
def nineL : List Nat := [98, 116, 105, 115, 109, 102, 100, 110, 121]
def partsN (k : Int) : List Nat := if 1 ≤ k ∧ k ≤ 14 then letK (k.toNat - 1) else []
theorem letK_lt (j : Nat) : ∀ x ∈ letK j, x < 128 := by
  by_cases h : j < 14
  · have : ∀ j : Fin 14, ∀ x ∈ letK j.val, x < 128 := by decide
    exact this ⟨j, h⟩
  · obtain ⟨i, rfl⟩ := Nat.exists_eq_add_of_le (by omega : 14 ≤ j)
    rw [show 14 + i = i + 14 by omega]
    intro x hx
    cases hx
theorem partsN_lt (k : Int) : ∀ x ∈ partsN k, x < 128 := by
  unfold partsN
  split
  · exact letK_lt _
  · intro x hx; cases hx
theorem letK_nine (j : Nat) : (∀ x ∈ letK j, x ∈ nineL) ∧ (letK j).Nodup ∧ (letK j).length ≤ 4 := by
  by_cases h : j < 14
  · have : ∀ j : Fin 14, (∀ x ∈ letK j.val, x ∈ nineL) ∧ (letK j.val).Nodup ∧ (letK j.val).length ≤ 4 := by decide
    exact this ⟨j, h⟩
  · obtain ⟨i, rfl⟩ := Nat.exists_eq_add_of_le (by omega : 14 ≤ j)
    rw [show 14 + i = i + 14 by omega]
    exact ⟨(by intro x hx; cases hx), List.nodup_nil, Nat.zero_le _⟩
theorem partsN_nine (k : Int) : (∀ x ∈ partsN k, x ∈ nineL) ∧ (partsN k).Nodup ∧ (partsN k).length ≤ 4 := by
  unfold partsN
  split
  · exact letK_nine _
  · exact ⟨(by intro x hx; cases hx), List.nodup_nil, Nat.zero_le _⟩
theorem kind_cases {k : Int} (h : 1 ≤ k ∧ k ≤ 14) : k = 1 ∨ k = 2 ∨ k = 3 ∨ k = 4 ∨ k = 5 ∨ k = 6 ∨ k = 7 ∨ k = 8 ∨ k = 9 ∨ k = 10 ∨ k = 11 ∨ k = 12 ∨ k = 13 ∨ k = 14 := by omega

def tmB (z : Int) : Bool := decide (0 ≤ z ∧ z ≤ 1099511627776)
def idsB (l : List Int) : Bool := decide (1 ≤ l.length ∧ l.length ≤ 60) && riseB l
def setB (l : List Rg) : Bool := decide (l.length ≤ 60 ∧ ∀ r ∈ l, okR r)
def modeB (z : Int) : Bool := decide (0 ≤ z ∧ z ≤ 2)
def noText : ByteArray := ⟨#[]⟩
def okQ (e : Ev) (c : Nat) : Bool :=
  if c = 98 then rightN (nats e.box) else if c = 116 then rightN (nats e.to_) else if c = 105 then idsB e.ids else if c = 115 then setB e.set else if c = 109 then modeB e.mode else
  if c = 102 then okF e.flags else if c = 100 then tmB e.date else if c = 110 then tmB e.n else decide (e.body.length ≤ 2000)
def noneP (e : Ev) (c : Nat) : Bool :=
  if c = 98 then decide (e.box = noText) else if c = 116 then decide (e.to_ = noText) else if c = 105 then decide (e.ids = []) else if c = 115 then decide (e.set = []) else if c = 109 then decide (e.mode = 0) else
  if c = 102 then decide (e.flags = 0) else if c = 100 then decide (e.date = 0) else if c = 110 then decide (e.n = 0) else decide (e.body = [])
def outP (e : Ev) (c : Nat) : Ev :=
  if c = 98 then { e with box := noText } else if c = 116 then { e with to_ := noText } else if c = 105 then { e with ids := [] } else if c = 115 then { e with set := [] } else if c = 109 then { e with mode := 0 } else
  if c = 102 then { e with flags := 0 } else if c = 100 then { e with date := 0 } else if c = 110 then { e with n := 0 } else if c = 121 then { e with body := [] } else e
def bare (k t : Int) : Ev := ⟨k, t, noText, noText, [], [], 0, 0, 0, 0, []⟩
def rightE (e : Ev) : Bool := !(partsN e.kind).isEmpty && (tmB e.at_ && ((partsN e.kind).all (okQ e) && evEq ((partsN e.kind).foldl outP e) (bare e.kind e.at_)))
def rightD (e : Ev) : Bool := !(partsN e.kind).isEmpty && (tmB e.at_ && nineL.all fun c => if c ∈ partsN e.kind then okQ e c else noneP e c)
theorem right_doc (e : Ev) : rightD e = rightE e := by
  obtain ⟨k, t, a1, a2, a3, a4, a5, a6, a7, a8, a9⟩ := e
  by_cases h : 1 ≤ k ∧ k ≤ 14
  · rcases kind_cases h with rfl | rfl | rfl | rfl | rfl | rfl | rfl | rfl | rfl | rfl | rfl | rfl | rfl | rfl <;>
    · rw [Bool.eq_iff_iff]
      simp [rightD, rightE, partsN, letK, nineL, noneP, outP, evEq, bare, okQ]
      try grind
  · have hp : partsN k = [] := if_neg h
    unfold rightD rightE
    simp [hp]
theorem rightE_parts {e : Ev} (h : rightE e = true) : partsN e.kind ≠ [] ∧ tmB e.at_ = true ∧ (∀ c ∈ partsN e.kind, okQ e c = true) ∧ (partsN e.kind).foldl outP e = bare e.kind e.at_ := by
  unfold rightE at h
  simp only [Bool.and_eq_true, List.all_eq_true] at h
  exact ⟨by simpa using h.1, h.2.1, h.2.2.1, (evEq_iff _ _).1 h.2.2.2⟩
theorem rightE_kind {e : Ev} (h : rightE e = true) : 1 ≤ e.kind ∧ e.kind ≤ 14 := by
  have := (rightE_parts h).1
  unfold partsN at this
  split at this
  · assumption
  · exact absurd rfl this

/-! ### Bytes -/
def endsL (l : List Rg) : List Int := l.flatMap fun r => [r.1, r.2]
theorem endsL_len (l : List Rg) : (endsL l).length = 2 * l.length := by
  unfold endsL
  induction l with
  | nil => rfl
  | cons r l ih => rw [List.flatMap_cons, List.length_append, ih, List.length_cons]; simp; omega
theorem endsL_snoc (l : List Rg) (r : Rg) : endsL (l ++ [r]) = endsL l ++ [r.1, r.2] := by unfold endsL; rw [List.flatMap_append]; rfl
def layP (e : Ev) (c : Nat) : List Nat :=
  if c = 98 then textB (nats e.box) else if c = 116 then textB (nats e.to_) else if c = 105 then numsB [(e.ids.length : Int)] ++ numsB e.ids else if c = 115 then numsB [(e.set.length : Int)] ++ numsB (endsL e.set) else if c = 109 then numsB [e.mode] else
  if c = 102 then numsB [e.flags] else if c = 100 then numsB [e.date] else if c = 110 then numsB [e.n] else textB e.body
def layD (e : Ev) (c : Nat) : List Nat := if c ∈ partsN e.kind then layP e c else []
def bytesE (e : Ev) : List Nat := numsB [e.kind, e.at_] ++ (partsN e.kind).flatMap (layP e)
def bytesD (e : Ev) : List Nat := numsB [e.kind, e.at_] ++ nineL.flatMap (layD e)
theorem bytes_doc (e : Ev) : bytesD e = bytesE e := by
  obtain ⟨k, t, a1, a2, a3, a4, a5, a6, a7, a8, a9⟩ := e
  by_cases h : 1 ≤ k ∧ k ≤ 14
  · rcases kind_cases h with rfl | rfl | rfl | rfl | rfl | rfl | rfl | rfl | rfl | rfl | rfl | rfl | rfl | rfl <;>
      simp [bytesD, bytesE, layD, partsN, letK, nineL, layP]
  · have hp : partsN k = [] := if_neg h
    unfold bytesD bytesE layD
    simp [hp]
def encE (e : Ev) : Nat := if rightE e = true then 0 else 1
def encV (e : Ev) : List Nat := if rightE e = true then bytesE e else []
theorem idsB_len {l : List Int} (h : idsB l = true) : 1 ≤ l.length ∧ l.length ≤ 60 := by
  unfold idsB at h
  rw [Bool.and_eq_true] at h
  exact of_decide_eq_true h.1
theorem setB_len {l : List Rg} (h : setB l = true) : l.length ≤ 60 := by
  unfold setB at h
  exact (of_decide_eq_true h).1
theorem layP_len {e : Ev} {c : Nat} (h : okQ e c = true) : (layP e c).length ≤ 5000 := by
  unfold okQ at h
  unfold layP
  split <;> rename_i h1
  · have := textB_length (nats e.box); omega
  rw [if_neg h1] at h
  split <;> rename_i h2
  · have := textB_length (nats e.to_); omega
  rw [if_neg h2] at h
  split <;> rename_i h3
  · rw [if_pos h3] at h
    have := idsB_len h
    rw [List.length_append, numsB_length, numsB_length, List.length_singleton]; omega
  rw [if_neg h3] at h
  split <;> rename_i h4
  · rw [if_pos h4] at h
    have := setB_len h
    rw [List.length_append, numsB_length, numsB_length, List.length_singleton, endsL_len]; omega
  rw [if_neg h4] at h
  split
  · rw [numsB_length, List.length_singleton]; omega
  split
  · rw [numsB_length, List.length_singleton]; omega
  split
  · rw [numsB_length, List.length_singleton]; omega
  split
  · rw [numsB_length, List.length_singleton]; omega
  · have := textB_length e.body; omega
theorem flat_len_le {f : Nat → List Nat} {m : Nat} : ∀ {p : List Nat}, (∀ c ∈ p, (f c).length ≤ m) → (p.flatMap f).length ≤ m * p.length
  | [], _ => Nat.zero_le _
  | c :: p, h => by
    rw [List.flatMap_cons, List.length_append, List.length_cons, Nat.mul_succ]
    have := h c (List.mem_cons_self ..)
    have := flat_len_le fun d hd => h d (List.mem_cons_of_mem c hd)
    omega
theorem bytesE_len {e : Ev} (h : rightE e = true) : 16 ≤ (bytesE e).length ∧ (bytesE e).length ≤ 20016 := by
  have h1 := flat_len_le (f := layP e) fun c hc => layP_len ((rightE_parts h).2.2.1 c hc)
  have h2 := (partsN_nine e.kind).2.2
  unfold bytesE
  rw [List.length_append, numsB_length, List.length_cons, List.length_singleton]
  omega

/-! ### Reading -/
def rdI : Nat → List Nat → Nat → List Int × List Nat × Nat
  | 0, l, e => ([], l, e)
  | k + 1, l, e => ((rdI k l e).1 ++ [((numV (rdI k l e).2.1 (rdI k l e).2.2 : Nat) : Int)], takeL (rdI k l e).2.1 (rdI k l e).2.2 8, numE (rdI k l e).2.1 (rdI k l e).2.2)
def rdS : Nat → List Nat → Nat → List Rg
  | 0, l, e => []
  | k + 1, l, e => rdS k l e ++ [(((numV (rdI (2 * k) l e).2.1 (rdI (2 * k) l e).2.2 : Nat) : Int), ((numV (rdI (2 * k + 1) l e).2.1 (rdI (2 * k + 1) l e).2.2 : Nat) : Int))]
theorem endsL_rdS (l : List Nat) (e : Nat) : ∀ k, endsL (rdS k l e) = (rdI (2 * k) l e).1
  | 0 => rfl
  | k + 1 => by
    show endsL (rdS k l e ++ [_]) = _
    rw [endsL_snoc, endsL_rdS l e k, show 2 * (k + 1) = 2 * k + 1 + 1 by omega]
    show _ = ((rdI (2 * k) l e).1 ++ [_]) ++ [_]
    rw [List.append_assoc]
    rfl
theorem rdS_len (l : List Nat) (e : Nat) : ∀ k, (rdS k l e).length = k
  | 0 => rfl
  | k + 1 => by show (rdS k l e ++ [_]).length = _; rw [List.length_append, rdS_len l e k]; rfl
theorem rdI_len (l : List Nat) (e : Nat) : ∀ k, (rdI k l e).1.length = k
  | 0 => rfl
  | k + 1 => by show ((rdI k l e).1 ++ [_]).length = _; rw [List.length_append, rdI_len l e k]; rfl
theorem rdI_stays {e : Nat} (l : List Nat) (h : e ≠ 0) : ∀ k, (rdI k l e).2.1 = l ∧ (rdI k l e).2.2 = e
  | 0 => ⟨rfl, rfl⟩
  | k + 1 => by
    obtain ⟨h1, h2⟩ := rdI_stays l h k
    refine ⟨?_, ?_⟩
    · show takeL (rdI k l e).2.1 (rdI k l e).2.2 8 = l
      rw [h1, h2, takeL_stays h]
    · show numE (rdI k l e).2.1 (rdI k l e).2.2 = e
      rw [h1, h2, numE_stays h]
theorem numE_zero {l : List Nat} {e : Nat} (h : numE l e = 0) : e = 0 := by
  by_cases h0 : e = 0
  · exact h0
  · rw [numE_stays h0] at h; exact h
theorem rdI_zero {l : List Nat} {e : Nat} : ∀ {k : Nat}, (rdI (k + 1) l e).2.2 = 0 → (rdI k l e).2.2 = 0 := fun {k} h => numE_zero h
theorem rdI_lt {l : List Nat} {e : Nat} (h : ∀ x ∈ l, x < 256) : ∀ k, ∀ x ∈ (rdI k l e).2.1, x < 256
  | 0 => h
  | k + 1 => takeL_lt (rdI_lt h k)
theorem rdI_shorter {l : List Nat} {e : Nat} : ∀ k, (rdI k l e).2.1.length ≤ l.length
  | 0 => Nat.le_refl _
  | k + 1 => Nat.le_trans takeL_len (rdI_shorter k)
/-- one round ahead -/
theorem rdI_more (l : List Nat) (e : Nat) : ∀ k, (rdI (k + 1) l e).1 = ((numV l e : Nat) : Int) :: (rdI k (takeL l e 8) (numE l e)).1 ∧ (rdI (k + 1) l e).2 = (rdI k (takeL l e 8) (numE l e)).2
  | 0 => ⟨rfl, rfl⟩
  | k + 1 => by
    obtain ⟨h1, h2⟩ := rdI_more l e k
    have h3 : (rdI (k + 1) l e).2.1 = (rdI k (takeL l e 8) (numE l e)).2.1 := by rw [h2]
    have h4 : (rdI (k + 1) l e).2.2 = (rdI k (takeL l e 8) (numE l e)).2.2 := by rw [h2]
    refine ⟨?_, ?_⟩
    · show (rdI (k + 1) l e).1 ++ [_] = _ :: ((rdI k (takeL l e 8) (numE l e)).1 ++ [_])
      rw [h1, h3, h4]; rfl
    · show (takeL (rdI (k + 1) l e).2.1 (rdI (k + 1) l e).2.2 8, numE (rdI (k + 1) l e).2.1 (rdI (k + 1) l e).2.2) = _
      rw [h3, h4]; rfl
def numK (z : Int) : Prop := 0 ≤ z ∧ z ≤ 4611686018427387904
theorem numK_clamp {z : Int} (h : numK z) : ((clampB z : Nat) : Int) = z := by unfold numK at h; unfold clampB; omega
theorem rdI_back (r : List Nat) : ∀ (l : List Int), (∀ z ∈ l, numK z) → rdI l.length (numsB l ++ r) 0 = (l, r, 0)
  | [], _ => rfl
  | z :: l, h => by
    obtain ⟨h1, h2, h3⟩ := num_back (clampB z) (clampB_le z) (numsB l ++ r)
    obtain ⟨m1, m2⟩ := rdI_more (numsB (z :: l) ++ r) 0 l.length
    rw [numsB_cons, List.append_assoc] at *
    rw [h1, h2, h3, rdI_back r l (fun x hx => h x (List.mem_cons_of_mem _ hx)), numK_clamp (h z (List.mem_cons_self ..))] at m1
    rw [h2, h3, rdI_back r l (fun x hx => h x (List.mem_cons_of_mem _ hx))] at m2
    exact Prod.ext m1 m2
theorem endsL_inj : ∀ {a b : List Rg}, endsL a = endsL b → a = b
  | [], [], _ => rfl
  | [], r :: b, h => by exact absurd (congrArg List.length h) (by rw [endsL_len, endsL_len, List.length_cons, List.length_nil]; omega)
  | r :: a, [], h => by exact absurd (congrArg List.length h) (by rw [endsL_len, endsL_len, List.length_cons, List.length_nil]; omega)
  | r :: a, s :: b, h => by
    have h' : r.1 :: r.2 :: endsL a = s.1 :: s.2 :: endsL b := h
    injection h' with h1 h2
    injection h2 with h2 h3
    rw [endsL_inj h3, Prod.ext h1 h2]
theorem rdS_back (r : List Nat) (l : List Rg) (h : ∀ z ∈ endsL l, numK z) : rdS l.length (numsB (endsL l) ++ r) 0 = l ∧ (rdI (2 * l.length) (numsB (endsL l) ++ r) 0).2 = (r, 0) := by
  have h1 := rdI_back r (endsL l) h
  rw [endsL_len] at h1
  have h2 := endsL_rdS (numsB (endsL l) ++ r) 0 l.length
  rw [h1] at h2
  exact ⟨endsL_inj h2, by rw [h1]⟩
theorem tkV_short {l : List Nat} {n : Nat} (h : l.length < n) : takeV l 0 n = [] := if_neg (by omega)
theorem tkE_short {l : List Nat} {n : Nat} (h : l.length < n) : takeE l 0 n = 2 := if_pos ⟨rfl, h⟩
theorem num_cut (v k : Nat) (h : k < 8) : numE ((encB 8 v).take k) 0 = 2 := by
  have h1 : ((encB 8 v).take k).length < 8 := by rw [List.length_take, encB_length]; omega
  unfold numE
  rw [tkV_short h1, tkE_short h1, decB_nil, if_neg (by decide)]
theorem rdI_cut : ∀ (l : List Int) (k : Nat), k < (numsB l).length → (rdI l.length ((numsB l).take k) 0).2.2 = 2
  | [], k, h => by exact absurd h (by simp [numsB_nil])
  | z :: l, k, h => by
    rw [List.length_cons, (rdI_more _ _ _).2, numsB_cons]
    by_cases h8 : k < 8
    · rw [List.take_append_of_le_length (by rw [encB_length]; omega), num_cut _ _ h8]
      exact (rdI_stays _ (by decide) _).2
    · have e : (encB 8 (clampB z) ++ numsB l).take k = encB 8 (clampB z) ++ (numsB l).take (k - 8) := by
        rw [List.take_append, encB_length, List.take_of_length_le (by rw [encB_length]; omega)]
      obtain ⟨h1, h2, h3⟩ := num_back (clampB z) (clampB_le z) ((numsB l).take (k - 8))
      rw [e, h2, h3]
      exact rdI_cut l (k - 8) (by rw [numsB_cons, List.length_append, encB_length] at h; omega)
theorem text_cut (s : List Nat) (k : Nat) (h : k < (textB s).length) : textE ((textB s).take k) 0 = 2 := by
  unfold textB at *
  rw [List.length_append, encB_length] at h
  by_cases h4 : k < 4
  · rw [List.take_append_of_le_length (by rw [encB_length]; omega)]
    have h1 : ((encB 4 (s.take 4096).length).take k).length < 4 := by rw [List.length_take, encB_length]; omega
    unfold textE
    rw [tkV_short h1, tkE_short h1, decB_nil, if_neg (by decide)]
    exact takeE_stays (by decide)
  · have e : (encB 4 (s.take 4096).length ++ s.take 4096).take k = encB 4 (s.take 4096).length ++ (s.take 4096).take (k - 4) := by
      rw [List.take_append, encB_length, List.take_of_length_le (by rw [encB_length]; omega)]
    rw [e]
    have hs : (s.take 4096).length ≤ 4096 := by rw [List.length_take]; omega
    have h4' : 4 ≤ (encB 4 (s.take 4096).length ++ (s.take 4096).take (k - 4)).length := by rw [List.length_append, encB_length]; omega
    have v : takeV (encB 4 (s.take 4096).length ++ (s.take 4096).take (k - 4)) 0 4 = encB 4 (s.take 4096).length := by
      unfold takeV
      rw [if_pos ⟨rfl, h4'⟩, List.take_append_of_le_length (by rw [encB_length]; omega), List.take_of_length_le (by rw [encB_length]; omega)]
    have d : takeL (encB 4 (s.take 4096).length ++ (s.take 4096).take (k - 4)) 0 4 = (s.take 4096).take (k - 4) := by
      unfold takeL
      rw [if_pos ⟨rfl, h4'⟩, List.drop_append_of_le_length (by rw [encB_length]; omega), List.drop_of_length_le (by rw [encB_length]; omega)]
      rfl
    have t : takeE (encB 4 (s.take 4096).length ++ (s.take 4096).take (k - 4)) 0 4 = 0 := by
      unfold takeE
      rw [if_neg (by omega)]
    have b : decB (encB 4 (s.take 4096).length) = (s.take 4096).length := decB_encB 4 _ (by omega)
    unfold textE
    rw [v, d, t, b, if_neg (by omega)]
    exact if_pos ⟨rfl, by rw [List.length_take]; omega⟩

theorem num_forth12 {l : List Nat} (hl : ∀ x ∈ l, x < 256) (h : numE l 0 = 0) : l = encB 8 (numV l 0) ++ takeL l 0 8 ∧ numV l 0 ≤ 4611686018427387904 := by
  unfold numE at h
  by_cases hb : 4611686018427387904 < decB (takeV l 0 8)
  · rw [if_pos hb] at h
    exact absurd h (by decide)
  · rw [if_neg hb] at h
    have h8 : 8 ≤ l.length := by
      unfold takeE at h
      by_cases h8 : l.length < 8
      · rw [if_pos ⟨rfl, h8⟩] at h
        exact absurd h (by decide)
      · omega
    have e1 : takeV l 0 8 = l.take 8 := if_pos ⟨rfl, h8⟩
    have e2 : numV l 0 = decB (l.take 8) := by unfold numV; rw [if_neg hb, e1]
    have e3 : (l.take 8).length = 8 := by rw [List.length_take]; omega
    have e4 := encB_decB (l.take 8) (fun x hx => hl x (List.mem_of_mem_take hx))
    rw [e3] at e4
    rw [e1] at hb
    exact ⟨by rw [e2, e4, show takeL l 0 8 = l.drop 8 from if_pos ⟨rfl, h8⟩, List.take_append_drop], by omega⟩
theorem text_forth12 {l : List Nat} (hl : ∀ x ∈ l, x < 256) (h : textE l 0 = 0) : l = textB (textV l 0) ++ textL l 0 := by
  unfold textE at h
  by_cases hb : 4096 < decB (takeV l 0 4)
  · rw [if_pos hb] at h
    exact absurd h (by decide)
  · rw [if_neg hb] at h
    have h4 : 4 ≤ l.length := by
      by_cases h4 : l.length < 4
      · have e : takeE l 0 4 = 2 := if_pos ⟨rfl, h4⟩
        rw [e, takeE_stays (by decide)] at h
        exact absurd h (by decide)
      · omega
    have e0 : takeE l 0 4 = 0 := if_neg (by omega)
    have e1 : takeV l 0 4 = l.take 4 := if_pos ⟨rfl, h4⟩
    have e2 : takeL l 0 4 = l.drop 4 := if_pos ⟨rfl, h4⟩
    rw [e0, e1, e2] at h
    have hd : ¬ (l.drop 4).length < decB (l.take 4) := by
      intro hlt
      unfold takeE at h
      rw [if_pos ⟨rfl, hlt⟩] at h
      exact absurd h (by decide)
    rw [e1] at hb
    have v : textV l 0 = (l.drop 4).take (decB (l.take 4)) := by
      unfold textV
      rw [e1, if_neg hb, e2, e0]
      exact if_pos ⟨rfl, by omega⟩
    have r : textL l 0 = (l.drop 4).drop (decB (l.take 4)) := by
      unfold textL
      rw [e1, if_neg hb, e2, e0]
      exact if_pos ⟨rfl, by omega⟩
    have hlen : ((l.drop 4).take (decB (l.take 4))).length = decB (l.take 4) := by rw [List.length_take]; omega
    have e4 := encB_decB (l.take 4) (fun x hx => hl x (List.mem_of_mem_take hx))
    rw [show (l.take 4).length = 4 by rw [List.length_take]; omega] at e4
    unfold textB
    rw [v, r, List.take_of_length_le (by rw [hlen]; omega), hlen, e4, List.append_assoc, List.take_append_drop, List.take_append_drop]
theorem rdI_forth {l : List Nat} (hl : ∀ x ∈ l, x < 256) : ∀ (k : Nat), (rdI k l 0).2.2 = 0 → l = numsB (rdI k l 0).1 ++ (rdI k l 0).2.1 ∧ ∀ z ∈ (rdI k l 0).1, numK z
  | 0, _ => ⟨by rw [show (rdI 0 l 0).1 = [] from rfl, numsB_nil]; rfl, by intro z hz; cases hz⟩
  | k + 1, h => by
    have h0 := rdI_zero h
    obtain ⟨h1, h2⟩ := rdI_forth hl k h0
    have h' : numE (rdI k l 0).2.1 0 = 0 := by have : numE (rdI k l 0).2.1 (rdI k l 0).2.2 = 0 := h; rwa [h0] at this
    obtain ⟨a1, a2⟩ := num_forth12 (rdI_lt hl k) h'
    have ok : numK ((numV (rdI k l 0).2.1 0 : Nat) : Int) := ⟨by omega, by omega⟩
    have hc : clampB ((numV (rdI k l 0).2.1 0 : Nat) : Int) = numV (rdI k l 0).2.1 0 := by have := numK_clamp ok; omega
    refine ⟨?_, ?_⟩
    · show l = numsB ((rdI k l 0).1 ++ [((numV (rdI k l 0).2.1 (rdI k l 0).2.2 : Nat) : Int)]) ++ takeL (rdI k l 0).2.1 (rdI k l 0).2.2 8
      rw [h0, numsB_snoc, hc, List.append_assoc, ← a1]
      exact h1
    · intro z hz
      have hz' : z ∈ (rdI k l 0).1 ++ [((numV (rdI k l 0).2.1 (rdI k l 0).2.2 : Nat) : Int)] := hz
      rw [h0] at hz'
      rcases List.mem_append.1 hz' with hz' | hz'
      · exact h2 z hz'
      · rw [List.mem_singleton.1 hz']; exact ok

/-! ### An event's parts, read -/
abbrev St3 := Ev × List Nat × Nat
def withP (e : Ev) (c : Nat) (l : List Nat) (er : Nat) : St3 :=
  if c = 98 then ({ e with box := strOf (textV l er) }, textL l er, textE l er)
  else if c = 116 then ({ e with to_ := strOf (textV l er) }, textL l er, textE l er)
  else if c = 105 then ({ e with ids := (rdI (countV l er 60) (takeL l er 8) (countE l er 60)).1 }, (rdI (countV l er 60) (takeL l er 8) (countE l er 60)).2)
  else if c = 115 then ({ e with set := rdS (countV l er 60) (takeL l er 8) (countE l er 60) }, (rdI (2 * countV l er 60) (takeL l er 8) (countE l er 60)).2)
  else if c = 109 then ({ e with mode := ((numV l er : Nat) : Int) }, takeL l er 8, numE l er)
  else if c = 102 then ({ e with flags := ((numV l er : Nat) : Int) }, takeL l er 8, numE l er)
  else if c = 100 then ({ e with date := ((numV l er : Nat) : Int) }, takeL l er 8, numE l er)
  else if c = 110 then ({ e with n := ((numV l er : Nat) : Int) }, takeL l er 8, numE l er)
  else if c = 121 then ({ e with body := textV l er }, textL l er, textE l er)
  else (e, l, er)
def stepE (x : St3) (c : Nat) : St3 := withP x.1 c x.2.1 x.2.2
def copyP (x e : Ev) (c : Nat) : Ev :=
  if c = 98 then { x with box := e.box } else if c = 116 then { x with to_ := e.to_ } else if c = 105 then { x with ids := e.ids } else if c = 115 then { x with set := e.set } else if c = 109 then { x with mode := e.mode } else
  if c = 102 then { x with flags := e.flags } else if c = 100 then { x with date := e.date } else if c = 110 then { x with n := e.n } else if c = 121 then { x with body := e.body } else x
theorem tm_num {z : Int} (h : tmB z = true) : numK z := by
  unfold tmB at h
  have := of_decide_eq_true h
  exact ⟨by omega, by omega⟩
theorem nine_cases {c : Nat} (h : c ∈ nineL) : c = 98 ∨ c = 116 ∨ c = 105 ∨ c = 115 ∨ c = 109 ∨ c = 102 ∨ c = 100 ∨ c = 110 ∨ c = 121 := by
  simpa [nineL] using h
theorem one_back {z : Int} (h : numK z) (r : List Nat) : ((numV (numsB [z] ++ r) 0 : Nat) : Int) = z ∧ takeL (numsB [z] ++ r) 0 8 = r ∧ numE (numsB [z] ++ r) 0 = 0 := by
  obtain ⟨h1, h2, h3⟩ := num_back (clampB z) (clampB_le z) r
  rw [numsB_cons, numsB_nil, List.append_nil, h1, h2, h3]
  exact ⟨numK_clamp h, rfl, rfl⟩
theorem count_back {n : Nat} (h : n ≤ 60) (r : List Nat) : countV (numsB [(n : Int)] ++ r) 0 60 = n ∧ takeL (numsB [(n : Int)] ++ r) 0 8 = r ∧ countE (numsB [(n : Int)] ++ r) 0 60 = 0 := by
  obtain ⟨h1, h2, h3⟩ := one_back (z := (n : Int)) ⟨by omega, by omega⟩ r
  have h1' : numV (numsB [(n : Int)] ++ r) 0 = n := by omega
  unfold countV countE
  rw [h1', h3, if_neg (by omega), if_neg (by omega)]
  exact ⟨rfl, h2, rfl⟩
theorem name_short {s : ByteArray} (h : rightN (nats s) = true) : (nats s).length ≤ 40 := by
  unfold rightN at h
  have := (of_decide_eq_true h).1
  unfold formB at this
  exact (of_decide_eq_true this).2.1
theorem okF_num {z : Int} (h : okF z = true) : numK z := by
  unfold okF at h
  have := of_decide_eq_true h
  exact ⟨by omega, by omega⟩
theorem mode_num {z : Int} (h : modeB z = true) : numK z := by
  unfold modeB at h
  have := of_decide_eq_true h
  exact ⟨by omega, by omega⟩
theorem ids_num {l : List Int} (h : idsB l = true) : ∀ z ∈ l, numK z := by
  intro z hz
  unfold idsB at h
  rw [Bool.and_eq_true] at h
  have h2 := of_decide_eq_true h.2
  obtain ⟨i, hi, rfl⟩ := List.mem_iff_getElem.1 hz
  have h3 := of_decide_eq_true (h2 i hi)
  have e : l.getD i 0 = l[i] := by simp [hi]
  rw [e] at h3
  exact ⟨by omega, by omega⟩
theorem set_num {l : List Rg} (h : setB l = true) : ∀ z ∈ endsL l, numK z := by
  intro z hz
  unfold setB at h
  have h2 := (of_decide_eq_true h).2
  unfold endsL at hz
  obtain ⟨r, hr, hz⟩ := List.mem_flatMap.1 hz
  obtain ⟨⟨a, b⟩, ⟨c, d⟩⟩ := h2 r hr
  simp only [List.mem_cons, List.not_mem_nil, or_false] at hz
  rcases hz with rfl | rfl
  · exact ⟨a, by omega⟩
  · exact ⟨c, by omega⟩
theorem part_back (x e : Ev) {c : Nat} (hc : c ∈ nineL) (h : okQ e c = true) (hb : ∀ y ∈ e.body, y < 256) (r : List Nat) : withP x c (layP e c ++ r) 0 = (copyP x e c, r, 0) := by
  rcases nine_cases hc with rfl | rfl | rfl | rfl | rfl | rfl | rfl | rfl | rfl
  · have h' : rightN (nats e.box) = true := h
    obtain ⟨h1, h2, h3⟩ := text_back (nats e.box) r
    rw [List.take_of_length_le (by have := name_short h'; omega)] at h1
    show (({ x with box := strOf (textV (textB (nats e.box) ++ r) 0) } : Ev), textL (textB (nats e.box) ++ r) 0, textE (textB (nats e.box) ++ r) 0) = _
    rw [h1, h2, h3, strOf_nats]; rfl
  · have h' : rightN (nats e.to_) = true := h
    obtain ⟨h1, h2, h3⟩ := text_back (nats e.to_) r
    rw [List.take_of_length_le (by have := name_short h'; omega)] at h1
    show (({ x with to_ := strOf (textV (textB (nats e.to_) ++ r) 0) } : Ev), textL (textB (nats e.to_) ++ r) 0, textE (textB (nats e.to_) ++ r) 0) = _
    rw [h1, h2, h3, strOf_nats]; rfl
  · have h' : idsB e.ids = true := h
    obtain ⟨h1, h2, h3⟩ := count_back (idsB_len h').2 (numsB e.ids ++ r)
    have h4 := rdI_back r e.ids (ids_num h')
    have e1 : layP e 105 ++ r = numsB [(e.ids.length : Int)] ++ (numsB e.ids ++ r) := List.append_assoc _ _ _
    rw [e1]
    show (({ x with ids := (rdI (countV _ 0 60) (takeL _ 0 8) (countE _ 0 60)).1 } : Ev), (rdI (countV _ 0 60) (takeL _ 0 8) (countE _ 0 60)).2) = _
    rw [h1, h2, h3, h4]; rfl
  · have h' : setB e.set = true := h
    obtain ⟨h1, h2, h3⟩ := count_back (setB_len h') (numsB (endsL e.set) ++ r)
    obtain ⟨h4, h5⟩ := rdS_back r e.set (set_num h')
    have e1 : layP e 115 ++ r = numsB [(e.set.length : Int)] ++ (numsB (endsL e.set) ++ r) := List.append_assoc _ _ _
    rw [e1]
    show (({ x with set := rdS (countV _ 0 60) (takeL _ 0 8) (countE _ 0 60) } : Ev), (rdI (2 * countV _ 0 60) (takeL _ 0 8) (countE _ 0 60)).2) = _
    rw [h1, h2, h3, h4, h5]; rfl
  · obtain ⟨h1, h2, h3⟩ := one_back (mode_num (z := e.mode) h) r
    show (({ x with mode := ((numV (numsB [e.mode] ++ r) 0 : Nat) : Int) } : Ev), takeL (numsB [e.mode] ++ r) 0 8, numE (numsB [e.mode] ++ r) 0) = _
    rw [h1, h2, h3]; rfl
  · obtain ⟨h1, h2, h3⟩ := one_back (okF_num (z := e.flags) h) r
    show (({ x with flags := ((numV (numsB [e.flags] ++ r) 0 : Nat) : Int) } : Ev), takeL (numsB [e.flags] ++ r) 0 8, numE (numsB [e.flags] ++ r) 0) = _
    rw [h1, h2, h3]; rfl
  · obtain ⟨h1, h2, h3⟩ := one_back (tm_num (z := e.date) h) r
    show (({ x with date := ((numV (numsB [e.date] ++ r) 0 : Nat) : Int) } : Ev), takeL (numsB [e.date] ++ r) 0 8, numE (numsB [e.date] ++ r) 0) = _
    rw [h1, h2, h3]; rfl
  · obtain ⟨h1, h2, h3⟩ := one_back (tm_num (z := e.n) h) r
    show (({ x with n := ((numV (numsB [e.n] ++ r) 0 : Nat) : Int) } : Ev), takeL (numsB [e.n] ++ r) 0 8, numE (numsB [e.n] ++ r) 0) = _
    rw [h1, h2, h3]; rfl
  · have h' : e.body.length ≤ 2000 := of_decide_eq_true h
    obtain ⟨h1, h2, h3⟩ := text_back e.body r
    rw [List.take_of_length_le (by omega)] at h1
    show (({ x with body := textV (textB e.body ++ r) 0 } : Ev), textL (textB e.body ++ r) 0, textE (textB e.body ++ r) 0) = _
    rw [h1, h2, h3]; rfl
theorem fold_back (e : Ev) (hb : ∀ y ∈ e.body, y < 256) (r : List Nat) : ∀ (p : List Nat) (x : Ev), (∀ c ∈ p, c ∈ nineL) → (∀ c ∈ p, okQ e c = true) → p.foldl stepE (x, p.flatMap (layP e) ++ r, 0) = (p.foldl (fun x c => copyP x e c) x, r, 0)
  | [], x, _, _ => rfl
  | c :: p, x, h1, h2 => by
    rw [List.flatMap_cons, List.append_assoc, List.foldl_cons, List.foldl_cons, show stepE (x, layP e c ++ (p.flatMap (layP e) ++ r), 0) c = withP x c (layP e c ++ (p.flatMap (layP e) ++ r)) 0 from rfl, part_back x e (h1 c (List.mem_cons_self ..)) (h2 c (List.mem_cons_self ..)) hb]
    exact fold_back e hb r p _ (fun d hd => h1 d (List.mem_cons_of_mem _ hd)) (fun d hd => h2 d (List.mem_cons_of_mem _ hd))
theorem copy_all {e : Ev} (h : rightE e = true) : (partsN e.kind).foldl (fun x c => copyP x e c) (bare e.kind e.at_) = e := by
  have h1 := (rightE_parts h).2.2.2
  have h2 := rightE_kind h
  obtain ⟨k, t, a1, a2, a3, a4, a5, a6, a7, a8, a9⟩ := e
  rcases kind_cases h2 with rfl | rfl | rfl | rfl | rfl | rfl | rfl | rfl | rfl | rfl | rfl | rfl | rfl | rfl <;>
  · simp [partsN, letK, outP, bare] at h1
    simp [partsN, letK, copyP, bare, h1]

/-! ### Errors stay -/
theorem countE_stays {e : Nat} {l : List Nat} {m : Int} (h : e ≠ 0) : countE l e m = e := by
  unfold countE
  rw [numE_stays h, if_neg fun x => h x.1]
theorem countV_stays {e : Nat} {l : List Nat} {m : Int} (h : e ≠ 0) : countV l e m = 0 := by
  unfold countV
  rw [numV_stays h]
  split <;> rfl
theorem textL_stays {e : Nat} {l : List Nat} (h : e ≠ 0) : textL l e = l := by
  unfold textL
  rw [takeL_stays h, takeE_stays h, takeL_stays h]
  split <;> rfl
theorem part_stays (x : Ev) (c : Nat) (l : List Nat) {er : Nat} (h : er ≠ 0) : (withP x c l er).2 = (l, er) := by
  unfold withP
  split
  · rw [textL_stays h, textE_stays h]
  split
  · rw [textL_stays h, textE_stays h]
  split
  · rw [takeL_stays h, countE_stays h]
    exact Prod.ext (rdI_stays l h _).1 (rdI_stays l h _).2
  split
  · rw [takeL_stays h, countE_stays h]
    exact Prod.ext (rdI_stays l h _).1 (rdI_stays l h _).2
  split
  · rw [takeL_stays h, numE_stays h]
  split
  · rw [takeL_stays h, numE_stays h]
  split
  · rw [takeL_stays h, numE_stays h]
  split
  · rw [takeL_stays h, numE_stays h]
  split
  · rw [textL_stays h, textE_stays h]
  · rfl
theorem fold_stays : ∀ (p : List Nat) (x : Ev) (l : List Nat) {er : Nat}, er ≠ 0 → (p.foldl stepE (x, l, er)).2 = (l, er)
  | [], x, l, er, h => rfl
  | c :: p, x, l, er, h => by
    have h1 := part_stays x c l h
    have h2 : stepE (x, l, er) c = ((withP x c l er).1, l, er) := Prod.ext rfl h1
    rw [List.foldl_cons, h2]
    exact fold_stays p _ l h
theorem one_cut (z : Int) (k : Nat) (h : k < (numsB [z]).length) : numE ((numsB [z]).take k) 0 = 2 := by
  rw [numsB_cons, numsB_nil, List.append_nil] at *
  rw [encB_length] at h
  exact num_cut _ k h
theorem part_cut (x e : Ev) {c : Nat} (hc : c ∈ nineL) (h : okQ e c = true) {k : Nat} (hk : k < (layP e c).length) : (withP x c ((layP e c).take k) 0).2.2 = 2 := by
  have cnt : ∀ (n k : Nat) (l : List Nat), n ≤ 60 → ¬ k < 8 → (numsB [(n : Int)] ++ l).take k = numsB [(n : Int)] ++ l.take (k - 8) := by
    intro n k l _ h8
    rw [List.take_append, numsB_length, List.length_singleton, List.take_of_length_le (by rw [numsB_length, List.length_singleton]; omega)]
  have cut8 : ∀ (n k : Nat) (l : List Nat), k < 8 → countE ((numsB [(n : Int)] ++ l).take k) 0 60 = 2 := by
    intro n k l h8
    rw [List.take_append_of_le_length (by rw [numsB_length, List.length_singleton]; omega)]
    have := one_cut (n : Int) k (by rw [numsB_length, List.length_singleton]; omega)
    unfold countE
    rw [this, if_neg (by omega)]
  rcases nine_cases hc with rfl | rfl | rfl | rfl | rfl | rfl | rfl | rfl | rfl
  · exact text_cut _ k hk
  · exact text_cut _ k hk
  · have h' : idsB e.ids = true := h
    show (rdI (countV ((layP e 105).take k) 0 60) (takeL ((layP e 105).take k) 0 8) (countE ((layP e 105).take k) 0 60)).2.2 = 2
    have e0 : layP e 105 = numsB [(e.ids.length : Int)] ++ numsB e.ids := rfl
    rw [e0] at hk ⊢
    by_cases h8 : k < 8
    · rw [cut8 _ _ _ h8]
      exact (rdI_stays _ (by decide) _).2
    · rw [List.length_append, numsB_length, List.length_singleton] at hk
      obtain ⟨h1, h2, h3⟩ := count_back (idsB_len h').2 ((numsB e.ids).take (k - 8))
      rw [cnt _ _ _ (idsB_len h').2 h8, h1, h2, h3]
      exact rdI_cut e.ids (k - 8) (by omega)
  · have h' : setB e.set = true := h
    show (rdI (2 * countV ((layP e 115).take k) 0 60) (takeL ((layP e 115).take k) 0 8) (countE ((layP e 115).take k) 0 60)).2.2 = 2
    have e0 : layP e 115 = numsB [(e.set.length : Int)] ++ numsB (endsL e.set) := rfl
    rw [e0] at hk ⊢
    by_cases h8 : k < 8
    · rw [cut8 _ _ _ h8]
      exact (rdI_stays _ (by decide) _).2
    · rw [List.length_append, numsB_length, List.length_singleton] at hk
      obtain ⟨h1, h2, h3⟩ := count_back (setB_len h') ((numsB (endsL e.set)).take (k - 8))
      rw [cnt _ _ _ (setB_len h') h8, h1, h2, h3]
      have := rdI_cut (endsL e.set) (k - 8) (by omega)
      rwa [endsL_len] at this
  · exact one_cut _ k hk
  · exact one_cut _ k hk
  · exact one_cut _ k hk
  · exact one_cut _ k hk
  · exact text_cut _ k hk
theorem fold_cut (e : Ev) (hb : ∀ y ∈ e.body, y < 256) : ∀ (p : List Nat) (x : Ev) (k : Nat), (∀ c ∈ p, c ∈ nineL) → (∀ c ∈ p, okQ e c = true) → k < (p.flatMap (layP e)).length → (p.foldl stepE (x, (p.flatMap (layP e)).take k, 0)).2.2 = 2
  | [], x, k, _, _, h => absurd h (Nat.not_lt_zero _)
  | c :: p, x, k, h1, h2, hk => by
    rw [List.flatMap_cons, List.length_append] at hk
    rw [List.flatMap_cons, List.foldl_cons]
    by_cases h8 : k < (layP e c).length
    · rw [List.take_append_of_le_length (by omega)]
      have h3 := part_cut x e (h1 c (List.mem_cons_self ..)) (h2 c (List.mem_cons_self ..)) h8
      have h4 : stepE (x, (layP e c).take k, 0) c = ((withP x c ((layP e c).take k) 0).1, (withP x c ((layP e c).take k) 0).2.1, 2) := Prod.ext rfl (Prod.ext rfl h3)
      rw [h4, fold_stays p _ _ (by decide)]
    · rw [List.take_append, List.take_of_length_le (by omega), show stepE (x, layP e c ++ (p.flatMap (layP e)).take (k - (layP e c).length), 0) c = withP x c (layP e c ++ (p.flatMap (layP e)).take (k - (layP e c).length)) 0 from rfl, part_back x e (h1 c (List.mem_cons_self ..)) (h2 c (List.mem_cons_self ..)) hb]
      exact fold_cut e hb p _ _ (fun d hd => h1 d (List.mem_cons_of_mem _ hd)) (fun d hd => h2 d (List.mem_cons_of_mem _ hd)) (by omega)
end Go.Proofs.YtoiffchhfnbooaaDoor

/-
  Plain facts of events: what is read of bytes, as a whole; there and back; cut short; the document's own way of reading.
-/
namespace Go.Proofs.YtoiffchhfnbooaaDoor
set_option linter.unusedVariables false
set_option linter.unusedSimpArgs false
set_option linter.unusedVariables false
set_option linter.unusedSimpArgs false

/-- behind the kind and the time: what stands there, whether the kind is one -/
def headL (l : List Nat) : List Nat := takeL (takeL l 0 8) (numE l 0) 8
def headK (l : List Nat) : Int := ((numV l 0 : Nat) : Int)
def headT (l : List Nat) : Int := ((numV (takeL l 0 8) (numE l 0) : Nat) : Int)
def headR (l : List Nat) : Nat := numE (takeL l 0 8) (numE l 0)
def headE (l : List Nat) : Nat := failE (headR l) (decide (partsN (headK l) = []))
def decS (l : List Nat) : St3 := (partsN (headK l)).foldl stepE (bare (headK l) (headT l), headL l, headE l)
def decD (l : List Nat) : Nat := doneE (decS l).2.1 (decS l).2.2
def decE (l : List Nat) : Nat := if decD l = 0 then (if rightE (decS l).1 = true then 0 else 3) else decD l
def decV (l : List Nat) : Ev := if decE l = 0 then (decS l).1 else bare 0 0
/-- the document's way -/
def docStep (k : Int) (x : St3) (c : Nat) : St3 := if c ∈ partsN k then stepE x c else x
def docS (l : List Nat) : St3 := if headE l = 0 then nineL.foldl (docStep (headK l)) (bare (headK l) (headT l), headL l, 0) else (bare 0 0, headL l, headE l)
theorem fold_doc (k : Int) (x : St3) : nineL.foldl (docStep k) x = (partsN k).foldl stepE x := by
  by_cases h : 1 ≤ k ∧ k ≤ 14
  · rcases kind_cases h with rfl | rfl | rfl | rfl | rfl | rfl | rfl | rfl | rfl | rfl | rfl | rfl | rfl | rfl <;> rfl
  · have hp : partsN k = [] := if_neg h
    unfold nineL docStep
    simp [hp]
theorem doc_same (l : List Nat) : (docS l).2 = (decS l).2 ∧ (decD l = 0 → (docS l).1 = (decS l).1) := by
  unfold docS
  by_cases h : headE l = 0
  · rw [if_pos h, fold_doc]
    unfold decS
    rw [h]
    exact ⟨rfl, fun _ => rfl⟩
  · rw [if_neg h]
    have h1 := fold_stays (partsN (headK l)) (bare (headK l) (headT l)) (headL l) h
    refine ⟨h1.symm, fun h0 => ?_⟩
    have h2 : decD l = doneE (headL l) (headE l) := by
      unfold decD decS
      rw [h1]
    rw [h2] at h0
    unfold doneE at h0
    rw [if_neg fun x => h x.1] at h0
    exact absurd h0 h
theorem docD (l : List Nat) : doneE (docS l).2.1 (docS l).2.2 = decD l := by rw [(doc_same l).1]; rfl

/-! ### There and back -/
theorem head_back {e : Ev} (h : rightE e = true) (r : List Nat) : headK (numsB [e.kind, e.at_] ++ r) = e.kind ∧ headT (numsB [e.kind, e.at_] ++ r) = e.at_ ∧ headL (numsB [e.kind, e.at_] ++ r) = r ∧ headE (numsB [e.kind, e.at_] ++ r) = 0 := by
  have hk := rightE_kind h
  have ht := tm_num (rightE_parts h).2.1
  have e1 : numsB [e.kind, e.at_] ++ r = numsB [e.kind] ++ (numsB [e.at_] ++ r) := by
    rw [numsB_cons [e.at_] e.kind, numsB_cons [] e.at_, numsB_cons [] e.kind, numsB_nil, List.append_nil, List.append_nil, List.append_assoc]
  obtain ⟨a1, a2, a3⟩ := one_back (z := e.kind) ⟨by omega, by omega⟩ (numsB [e.at_] ++ r)
  obtain ⟨b1, b2, b3⟩ := one_back ht r
  have c1 : headK (numsB [e.kind, e.at_] ++ r) = e.kind := by rw [e1]; exact a1
  refine ⟨c1, ?_, ?_, ?_⟩
  · rw [e1]; unfold headT; rw [a2, a3]; exact b1
  · rw [e1]; unfold headL; rw [a2, a3]; exact b2
  · unfold headE
    rw [c1, decide_eq_false (rightE_parts h).1]
    have : headR (numsB [e.kind, e.at_] ++ r) = 0 := by rw [e1]; unfold headR; rw [a2, a3]; exact b3
    rw [this]; rfl
theorem decS_back {e : Ev} (h : rightE e = true) (hb : ∀ y ∈ e.body, y < 256) (r : List Nat) : decS (bytesE e ++ r) = (e, r, 0) := by
  have e1 : bytesE e ++ r = numsB [e.kind, e.at_] ++ ((partsN e.kind).flatMap (layP e) ++ r) := List.append_assoc _ _ _
  obtain ⟨h1, h2, h3, h4⟩ := head_back h ((partsN e.kind).flatMap (layP e) ++ r)
  rw [e1]
  unfold decS
  rw [h1, h2, h3, h4, fold_back e hb r _ _ (partsN_nine e.kind).1 (rightE_parts h).2.2.1, copy_all h]
theorem dec_back {e : Ev} (h : rightE e = true) (hb : ∀ y ∈ e.body, y < 256) : decE (bytesE e) = 0 ∧ decV (bytesE e) = e := by
  have h1 := decS_back h hb []
  rw [List.append_nil] at h1
  have h2 : decD (bytesE e) = 0 := by unfold decD; rw [h1]; rfl
  have h3 : decE (bytesE e) = 0 := by unfold decE; rw [h2, h1, if_pos rfl, if_pos h]
  exact ⟨h3, by unfold decV; rw [h3, h1, if_pos rfl]⟩
theorem dec_more {e : Ev} (h : rightE e = true) (hb : ∀ y ∈ e.body, y < 256) (x : Nat) : decE (bytesE e ++ [x]) = 3 := by
  have h1 := decS_back h hb [x]
  have h2 : decD (bytesE e ++ [x]) = 3 := by unfold decD; rw [h1]; rfl
  unfold decE
  rw [h2, if_neg (by decide)]
theorem dec_cut {e : Ev} (h : rightE e = true) (hb : ∀ y ∈ e.body, y < 256) {k : Nat} (hk : k < (bytesE e).length) : decE ((bytesE e).take k) = 2 := by
  have hkd := rightE_kind h
  have ht := tm_num (rightE_parts h).2.1
  have fin : (decS ((bytesE e).take k)).2.2 = 2 → decE ((bytesE e).take k) = 2 := by
    intro h1
    have h2 : decD ((bytesE e).take k) = 2 := by unfold decD; rw [h1]; unfold doneE; exact if_neg fun x => absurd x.1 (by decide)
    unfold decE
    rw [h2, if_neg (by decide)]
  have stay : ∀ er, headR ((bytesE e).take k) = er → er = 2 → (decS ((bytesE e).take k)).2.2 = 2 := by
    rintro er h1 rfl
    have h2 : headE ((bytesE e).take k) = 2 := by unfold headE; rw [h1]; rfl
    unfold decS
    rw [h2, fold_stays _ _ _ (by decide)]
  have e1 : bytesE e = numsB [e.kind] ++ (numsB [e.at_] ++ (partsN e.kind).flatMap (layP e)) := by
    unfold bytesE
    rw [numsB_cons [e.at_] e.kind, numsB_cons [] e.at_, numsB_cons [] e.kind, numsB_nil, List.append_nil, List.append_nil, List.append_assoc]
  have hl : (numsB [e.kind]).length = 8 := by rw [numsB_length, List.length_singleton]
  have hl2 : (numsB [e.at_]).length = 8 := by rw [numsB_length, List.length_singleton]
  refine fin ?_
  by_cases h8 : k < 8
  · refine stay _ rfl ?_
    unfold headR
    have : numE ((bytesE e).take k) 0 = 2 := by
      rw [e1, List.take_append_of_le_length (by omega)]
      exact one_cut _ k (by omega)
    rw [this, numE_stays (by decide)]
  · have e2 : (bytesE e).take k = numsB [e.kind] ++ (numsB [e.at_] ++ (partsN e.kind).flatMap (layP e)).take (k - 8) := by
      rw [e1, List.take_append, hl, List.take_of_length_le (by omega)]
    obtain ⟨a1, a2, a3⟩ := one_back (z := e.kind) ⟨by omega, by omega⟩ ((numsB [e.at_] ++ (partsN e.kind).flatMap (layP e)).take (k - 8))
    by_cases h16 : k < 16
    · refine stay _ rfl ?_
      unfold headR
      rw [e2, a2, a3, List.take_append_of_le_length (by omega)]
      exact one_cut _ _ (by omega)
    · have e3 : (bytesE e).take k = numsB [e.kind, e.at_] ++ ((partsN e.kind).flatMap (layP e)).take (k - 16) := by
        rw [e2, List.take_append, hl2, List.take_of_length_le (l := numsB [e.at_]) (by omega), show k - 8 - 8 = k - 16 by omega, numsB_cons [e.at_] e.kind, numsB_cons [] e.kind, numsB_nil, List.append_nil, List.append_assoc]
      obtain ⟨h1, h2, h3, h4⟩ := head_back h (((partsN e.kind).flatMap (layP e)).take (k - 16))
      rw [e3]
      unfold decS
      rw [h1, h2, h3, h4]
      refine fold_cut e hb _ _ _ (partsN_nine e.kind).1 (rightE_parts h).2.2.1 ?_
      have : (bytesE e).length = 16 + ((partsN e.kind).flatMap (layP e)).length := by
        rw [e1, List.length_append, List.length_append, hl, hl2]; omega
      omega

/-! ### What is decoded has just those bytes -/
theorem countE_zero {l : List Nat} {e : Nat} {m : Int} (h : countE l e m = 0) : numE l e = 0 ∧ countV l e m = numV l e := by
  unfold countE at h
  by_cases h1 : numE l e = 0 ∧ m < ((numV l e : Nat) : Int)
  · rw [if_pos h1] at h
    exact absurd h (by decide)
  · rw [if_neg h1] at h
    refine ⟨h, ?_⟩
    unfold countV
    rw [if_neg fun x => h1 ⟨h, x⟩]
theorem rdI_err {l : List Nat} {e : Nat} (h : e ≠ 0) (k : Nat) : (rdI k l e).2.2 ≠ 0 := by rw [(rdI_stays l h k).2]; exact h
theorem one_forth {l : List Nat} (hl : ∀ x ∈ l, x < 256) (h : numE l 0 = 0) : l = numsB [((numV l 0 : Nat) : Int)] ++ takeL l 0 8 := by
  obtain ⟨h1, h2⟩ := num_forth12 hl h
  have hc : clampB ((numV l 0 : Nat) : Int) = numV l 0 := by unfold clampB; omega
  rw [numsB_cons, numsB_nil, List.append_nil, hc]
  exact h1
theorem part_forth (x : Ev) {c : Nat} (hc : c ∈ nineL) {l : List Nat} (hl : ∀ y ∈ l, y < 256) (h : (withP x c l 0).2.2 = 0) : l = layP (withP x c l 0).1 c ++ (withP x c l 0).2.1 := by
  rcases nine_cases hc with rfl | rfl | rfl | rfl | rfl | rfl | rfl | rfl | rfl
  · show l = textB (nats (strOf (textV l 0))) ++ textL l 0
    rw [nats_strOf _ (textV_lt hl)]
    exact text_forth12 hl h
  · show l = textB (nats (strOf (textV l 0))) ++ textL l 0
    rw [nats_strOf _ (textV_lt hl)]
    exact text_forth12 hl h
  · have h' : (rdI (countV l 0 60) (takeL l 0 8) (countE l 0 60)).2.2 = 0 := h
    have h0 : countE l 0 60 = 0 := Decidable.byContradiction fun hn => rdI_err hn _ h'
    obtain ⟨h1, h2⟩ := countE_zero h0
    show l = (numsB [(((rdI (countV l 0 60) (takeL l 0 8) (countE l 0 60)).1.length : Nat) : Int)] ++ numsB (rdI (countV l 0 60) (takeL l 0 8) (countE l 0 60)).1) ++ (rdI (countV l 0 60) (takeL l 0 8) (countE l 0 60)).2.1
    rw [h0] at h'
    rw [rdI_len, h0, List.append_assoc, ← (rdI_forth (takeL_lt hl) _ h').1, h2]
    exact one_forth hl h1
  · have h' : (rdI (2 * countV l 0 60) (takeL l 0 8) (countE l 0 60)).2.2 = 0 := h
    have h0 : countE l 0 60 = 0 := Decidable.byContradiction fun hn => rdI_err hn _ h'
    obtain ⟨h1, h2⟩ := countE_zero h0
    show l = (numsB [(((rdS (countV l 0 60) (takeL l 0 8) (countE l 0 60)).length : Nat) : Int)] ++ numsB (endsL (rdS (countV l 0 60) (takeL l 0 8) (countE l 0 60)))) ++ (rdI (2 * countV l 0 60) (takeL l 0 8) (countE l 0 60)).2.1
    rw [h0] at h'
    rw [rdS_len, endsL_rdS, h0, List.append_assoc, ← (rdI_forth (takeL_lt hl) _ h').1, h2]
    exact one_forth hl h1
  · exact one_forth hl h
  · exact one_forth hl h
  · exact one_forth hl h
  · exact one_forth hl h
  · exact text_forth12 hl h
theorem part_lt (x : Ev) (c : Nat) {l : List Nat} (er : Nat) (hl : ∀ y ∈ l, y < 256) : ∀ y ∈ (withP x c l er).2.1, y < 256 := by
  unfold withP
  split
  · exact textL_lt hl
  split
  · exact textL_lt hl
  split
  · exact rdI_lt (takeL_lt hl) _
  split
  · exact rdI_lt (takeL_lt hl) _
  split
  · exact takeL_lt hl
  split
  · exact takeL_lt hl
  split
  · exact takeL_lt hl
  split
  · exact takeL_lt hl
  split
  · exact textL_lt hl
  · exact hl
theorem part_len (x : Ev) (c : Nat) {l : List Nat} (er : Nat) : (withP x c l er).2.1.length ≤ l.length := by
  unfold withP
  split
  · exact textL_len
  split
  · exact textL_len
  split
  · exact Nat.le_trans (rdI_shorter _) takeL_len
  split
  · exact Nat.le_trans (rdI_shorter _) takeL_len
  split
  · exact takeL_len
  split
  · exact takeL_len
  split
  · exact takeL_len
  split
  · exact takeL_len
  split
  · exact textL_len
  · exact Nat.le_refl _
set_option maxHeartbeats 4000000 in
theorem part_other (x : Ev) {c d : Nat} (hc : c ∈ nineL) (hd : d ∈ nineL) (hne : c ≠ d) (l : List Nat) (er : Nat) : layP (withP x d l er).1 c = layP x c := by
  rcases nine_cases hd with rfl | rfl | rfl | rfl | rfl | rfl | rfl | rfl | rfl <;>
  rcases nine_cases hc with rfl | rfl | rfl | rfl | rfl | rfl | rfl | rfl | rfl <;>
  first | exact absurd rfl hne | rfl
theorem fold_other {c : Nat} (hc : c ∈ nineL) : ∀ (p : List Nat) (x : Ev) (l : List Nat) (er : Nat), (∀ d ∈ p, d ∈ nineL) → c ∉ p → layP (p.foldl stepE (x, l, er)).1 c = layP x c
  | [], x, l, er, _, _ => rfl
  | d :: p, x, l, er, h, hn => by
    rw [List.foldl_cons]
    have := fold_other hc p (withP x d l er).1 (withP x d l er).2.1 (withP x d l er).2.2 (fun y hy => h y (List.mem_cons_of_mem _ hy)) (fun hy => hn (List.mem_cons_of_mem _ hy))
    exact this.trans (part_other x hc (h d (List.mem_cons_self ..)) (fun e => hn (e ▸ List.mem_cons_self ..)) l er)
theorem fold_forth : ∀ (p : List Nat) (x : Ev) (l : List Nat), (∀ d ∈ p, d ∈ nineL) → p.Nodup → (∀ y ∈ l, y < 256) → (p.foldl stepE (x, l, 0)).2.2 = 0 → l = p.flatMap (layP (p.foldl stepE (x, l, 0)).1) ++ (p.foldl stepE (x, l, 0)).2.1
  | [], x, l, _, _, _, _ => rfl
  | c :: p, x, l, h, hn, hl, h0 => by
    rw [List.nodup_cons] at hn
    rw [List.foldl_cons] at h0 ⊢
    have hc := h c (List.mem_cons_self ..)
    have hp : ∀ d ∈ p, d ∈ nineL := fun y hy => h y (List.mem_cons_of_mem _ hy)
    have h1 : (withP x c l 0).2.2 = 0 := Decidable.byContradiction fun hne => by
      have e := fold_stays p (withP x c l 0).1 (withP x c l 0).2.1 hne
      have e2 : (p.foldl stepE (stepE (x, l, 0) c)).2.2 = (withP x c l 0).2.2 := by rw [show stepE (x, l, 0) c = ((withP x c l 0).1, (withP x c l 0).2.1, (withP x c l 0).2.2) from rfl, e]
      rw [e2] at h0
      exact hne h0
    have e1 : stepE (x, l, 0) c = ((withP x c l 0).1, (withP x c l 0).2.1, 0) := Prod.ext rfl (Prod.ext rfl h1)
    rw [e1] at h0 ⊢
    have h2 := fold_forth p (withP x c l 0).1 (withP x c l 0).2.1 hp hn.2 (part_lt x c 0 hl) h0
    rw [List.flatMap_cons, fold_other hc p _ _ _ hp hn.1, List.append_assoc, ← h2]
    exact part_forth x hc hl h1
theorem part_head (x : Ev) (c : Nat) (l : List Nat) (er : Nat) : (withP x c l er).1.kind = x.kind ∧ (withP x c l er).1.at_ = x.at_ := by
  unfold withP
  repeat (first | exact ⟨rfl, rfl⟩ | split)
theorem fold_head : ∀ (p : List Nat) (x : Ev) (l : List Nat) (er : Nat), (p.foldl stepE (x, l, er)).1.kind = x.kind ∧ (p.foldl stepE (x, l, er)).1.at_ = x.at_
  | [], x, l, er => ⟨rfl, rfl⟩
  | c :: p, x, l, er => by
    obtain ⟨h1, h2⟩ := fold_head p (withP x c l er).1 (withP x c l er).2.1 (withP x c l er).2.2
    obtain ⟨h3, h4⟩ := part_head x c l er
    rw [List.foldl_cons]
    exact ⟨h1.trans h3, h2.trans h4⟩
theorem dec_forth {l : List Nat} (hl : ∀ x ∈ l, x < 256) (h : decE l = 0) : rightE (decV l) = true ∧ bytesE (decV l) = l := by
  have hv : decV l = (decS l).1 := if_pos h
  have hD : decD l = 0 := by
    unfold decE at h
    by_cases h1 : decD l = 0
    · exact h1
    · rw [if_neg h1] at h; exact absurd h h1
  have hr : rightE (decS l).1 = true := by
    unfold decE at h
    rw [if_pos hD] at h
    by_cases h1 : rightE (decS l).1 = true
    · exact h1
    · rw [if_neg h1] at h; exact absurd h (by decide)
  have hd2 : (decS l).2.2 = 0 ∧ (decS l).2.1 = [] := by
    unfold decD doneE at hD
    by_cases h1 : (decS l).2.2 = 0 ∧ (decS l).2.1 ≠ []
    · rw [if_pos h1] at hD; exact absurd hD (by decide)
    · rw [if_neg h1] at hD
      exact ⟨hD, Decidable.byContradiction fun hn => h1 ⟨hD, hn⟩⟩
  have hE : headE l = 0 := Decidable.byContradiction fun hn => by
    have := fold_stays (partsN (headK l)) (bare (headK l) (headT l)) (headL l) hn
    have e : (decS l).2.2 = headE l := by unfold decS; rw [this]
    exact hn (e ▸ hd2.1)
  have hR : headR l = 0 := by
    unfold headE failE at hE
    by_cases h1 : headR l = 0 ∧ decide (partsN (headK l) = []) = true
    · exact h1.1
    · rw [if_neg h1] at hE; exact hE
  have h0 : numE l 0 = 0 := numE_zero hR
  have f1 := one_forth hl h0
  have hR' : numE (takeL l 0 8) 0 = 0 := by unfold headR at hR; rwa [h0] at hR
  have f2 := one_forth (takeL_lt hl) hR'
  have hL : headL l = takeL (takeL l 0 8) 0 8 := by unfold headL; rw [h0]
  have hT : headT l = ((numV (takeL l 0 8) 0 : Nat) : Int) := by unfold headT; rw [h0]
  have hk := fold_head (partsN (headK l)) (bare (headK l) (headT l)) (headL l) (headE l)
  have hk1 : (decS l).1.kind = headK l := hk.1
  have hk2 : (decS l).1.at_ = headT l := hk.2
  have hS : decS l = (partsN (headK l)).foldl stepE (bare (headK l) (headT l), headL l, 0) := by unfold decS; rw [hE]
  have f3 := fold_forth (partsN (headK l)) (bare (headK l) (headT l)) (headL l) (partsN_nine _).1 (partsN_nine _).2.1 (by unfold headL; exact takeL_lt (takeL_lt hl)) (by rw [← hS]; exact hd2.1)
  rw [← hS, hd2.2, List.append_nil, hL] at f3
  refine ⟨by rw [hv]; exact hr, ?_⟩
  rw [hv]
  unfold bytesE
  rw [hk1, hk2, ← f3, hT, numsB_cons, show encB 8 (clampB (headK l)) = numsB [headK l] by rw [numsB_cons, numsB_nil, List.append_nil], List.append_assoc, ← f2]
  exact f1.symm
theorem decS_lt_body (l : List Nat) : True := trivial
end Go.Proofs.YtoiffchhfnbooaaDoor
