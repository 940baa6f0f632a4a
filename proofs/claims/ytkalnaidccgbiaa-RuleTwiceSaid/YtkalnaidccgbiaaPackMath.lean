/-
  Plain mathematics of package pack: a number's bytes, the highest first; what bytes tell; texts as lists of bytes; what a reader answers and where it stands then. Nothing here speaks of a program.
-/
import Derived.Laws.BytesArg
import Derived.Laws.Strings
namespace Go.Proofs.Ytkalnaidccgbiaa
set_option linter.unusedVariables false
set_option linter.unusedSimpArgs false

/-- k bytes of a number, the highest first -/
def encB : Nat → Nat → List Nat
  | 0, _ => []
  | k + 1, v => encB k (v / 256) ++ [v % 256]
/-- the number that bytes tell -/
def decB (l : List Nat) : Nat := l.foldl (fun a b => a * 256 + b) 0
/-- a number of bytes at most 2^62, else -1 -/
def numB (l : List Nat) : Int := if 4611686018427387904 < decB l then -1 else (decB l : Int)

theorem encB_length : ∀ (k v : Nat), (encB k v).length = k
  | 0, _ => rfl
  | k + 1, v => by rw [encB, List.length_append, encB_length k]; rfl
theorem encB_lt : ∀ (k v : Nat), ∀ x ∈ encB k v, x < 256
  | 0, _ => by intro x hx; cases hx
  | k + 1, v => by
    intro x hx
    rcases List.mem_append.1 hx with h | h
    · exact encB_lt k _ x h
    · rw [List.mem_singleton.1 h]; omega
theorem encB_front : ∀ (k v : Nat), encB (k + 1) v = (v / 256 ^ k % 256) :: encB k v
  | 0, v => by simp [encB]
  | k + 1, v => by
    have e : encB (k + 1) v = encB k (v / 256) ++ [v % 256] := rfl
    rw [encB, encB_front k (v / 256), Nat.div_div_eq_div_mul, ← Nat.pow_succ', List.cons_append, e]
theorem encB_mod : ∀ (k v : Nat), encB k (v % 256 ^ k) = encB k v
  | 0, _ => rfl
  | k + 1, v => by
    have h1 : v % 256 ^ (k + 1) / 256 = v / 256 % 256 ^ k := by rw [Nat.pow_succ', Nat.mod_mul_right_div_self]
    have h2 : v % 256 ^ (k + 1) % 256 = v % 256 := Nat.mod_mod_of_dvd _ ⟨256 ^ k, by rw [Nat.pow_succ']⟩
    rw [encB, encB, h1, h2, encB_mod k]
theorem decB_snoc (l : List Nat) (b : Nat) : decB (l ++ [b]) = decB l * 256 + b := by unfold decB; rw [List.foldl_append]; rfl
theorem decB_nil : decB [] = 0 := rfl
theorem snoc_ind {p : List Nat → Prop} (h0 : p []) (h1 : ∀ l b, p l → p (l ++ [b])) (l : List Nat) : p l := by
  have : ∀ r : List Nat, p r.reverse := by
    intro r
    induction r with
    | nil => exact h0
    | cons b r ih => rw [List.reverse_cons]; exact h1 _ _ ih
  have h := this l.reverse
  rwa [List.reverse_reverse] at h
theorem decB_lt (l : List Nat) : (∀ x ∈ l, x < 256) → decB l < 256 ^ l.length := by
  induction l using snoc_ind with
  | h0 => intro _; exact Nat.one_pos
  | h1 l b ih =>
    intro h
    have h1 := ih fun x hx => h x (List.mem_append_left _ hx)
    have h2 := h b (List.mem_append_right _ (List.mem_singleton_self b))
    rw [decB_snoc, List.length_append, List.length_singleton, Nat.pow_succ]
    omega
theorem decB_encB : ∀ (k v : Nat), v < 256 ^ k → decB (encB k v) = v
  | 0, v, h => by rw [Nat.pow_zero] at h; rw [encB, decB_nil]; omega
  | k + 1, v, h => by
    rw [encB, decB_snoc, decB_encB k (v / 256) (by rw [Nat.pow_succ'] at h; exact Nat.div_lt_of_lt_mul h)]
    omega
theorem encB_decB (l : List Nat) : (∀ x ∈ l, x < 256) → encB l.length (decB l) = l := by
  induction l using snoc_ind with
  | h0 => intro _; rfl
  | h1 l b ih =>
    intro h
    have h1 := ih fun x hx => h x (List.mem_append_left _ hx)
    have h2 := h b (List.mem_append_right _ (List.mem_singleton_self b))
    rw [List.length_append, List.length_singleton, encB, decB_snoc, show (decB l * 256 + b) / 256 = decB l by omega, h1, show (decB l * 256 + b) % 256 = b by omega]
theorem decB_append (l r : List Nat) : decB l * 256 ^ r.length ≤ decB (l ++ r) := by
  induction r using snoc_ind with
  | h0 => simp
  | h1 r b ih =>
    rw [← List.append_assoc, decB_snoc, List.length_append, List.length_singleton, Nat.pow_succ, ← Nat.mul_assoc]
    omega
/-- told at a byte too early: it will be too great -/
theorem decB_great (l : List Nat) (k : Nat) (hk : k < l.length) (h : 36028797018963968 ≤ decB (l.take k)) : 4611686018427387904 < decB l := by
  have h1 := decB_append (l.take k) (l.drop k)
  rw [List.take_append_drop, List.length_drop] at h1
  have h2 : 256 ^ 1 ≤ 256 ^ (l.length - k) := Nat.pow_le_pow_right (by omega) (by omega)
  have h3 : 36028797018963968 * 256 ^ 1 ≤ decB (l.take k) * 256 ^ (l.length - k) := Nat.mul_le_mul h h2
  omega

/-- the number that may be, next to any -/
def clampB (z : Int) : Nat := (min (max z 0) 4611686018427387904).toNat
theorem clampB_le (z : Int) : clampB z ≤ 4611686018427387904 := by unfold clampB; omega
/-- the bytes of numbers -/
def numsB (l : List Int) : List Nat := (l.map fun z => encB 8 (clampB z)).flatten
theorem numsB_nil : numsB [] = [] := rfl
theorem numsB_snoc (l : List Int) (z : Int) : numsB (l ++ [z]) = numsB l ++ encB 8 (clampB z) := by unfold numsB; simp
theorem numsB_cons (l : List Int) (z : Int) : numsB (z :: l) = encB 8 (clampB z) ++ numsB l := by unfold numsB; simp
theorem numsB_length : ∀ l : List Int, (numsB l).length = 8 * l.length
  | [] => rfl
  | z :: l => by rw [numsB_cons, List.length_append, encB_length, numsB_length l, List.length_cons]; omega

/-- a text's bytes as numbers, and back -/
def nats (s : ByteArray) : List Nat := s.data.toList.map (·.toNat)
def strOf (l : List Nat) : ByteArray := strOfNums (l.map fun x : Nat => (x : Int))
theorem nats_length (s : ByteArray) : (nats s).length = s.size := by unfold nats; rw [List.length_map, Array.length_toList]; rfl
theorem nats_lt (s : ByteArray) : ∀ x ∈ nats s, x < 256 := by
  intro x hx
  obtain ⟨b, _, rfl⟩ := List.mem_map.1 hx
  exact b.toNat_lt
theorem strOf_size (l : List Nat) : (strOf l).size = l.length := by unfold strOf; rw [strOfNums_size, List.length_map]
theorem strOf_data (l : List Nat) : (strOf l).data.toList = l.map UInt8.ofNat := by
  unfold strOf
  rw [strOfNums_data, List.map_map]
  rfl
theorem nats_strOf (l : List Nat) (h : ∀ x ∈ l, x < 256) : nats (strOf l) = l := by
  unfold nats
  rw [strOf_data, List.map_map]
  conv => rhs; rw [← List.map_id l]
  refine List.map_congr_left fun x hx => ?_
  have := h x hx
  simp [Nat.mod_eq_of_lt this]
theorem data_inj {a b : ByteArray} (h : a.data.toList = b.data.toList) : a = b := by
  cases a; cases b
  simp only at h
  rw [Array.toList_inj.1 h]
theorem strOf_nats (s : ByteArray) : strOf (nats s) = s := by
  refine data_inj ?_
  rw [strOf_data]
  unfold nats
  rw [List.map_map]
  conv => rhs; rw [← List.map_id s.data.toList]
  refine List.map_congr_left fun x _ => ?_
  simp
theorem strOf_inj {a b : List Nat} (ha : ∀ x ∈ a, x < 256) (hb : ∀ x ∈ b, x < 256) (h : strOf a = strOf b) : a = b := by
  rw [← nats_strOf a ha, ← nats_strOf b hb, h]
theorem strOf_to (l : List Nat) (n : Nat) : (strOf l).extract 0 n = strOf (l.take n) := by
  refine data_inj ?_
  rw [strOf_data, ByteArray.data_extract, Array.toList_extract, strOf_data]
  simp [List.map_take]
theorem strOf_from (l : List Nat) (n : Nat) (k : Nat) (hk : l.length ≤ k) : (strOf l).extract n k = strOf (l.drop n) := by
  refine data_inj ?_
  rw [strOf_data, ByteArray.data_extract, Array.toList_extract, strOf_data]
  rw [List.map_drop, List.extract_eq_take_drop, List.take_of_length_le]
  simp; omega
theorem strOf_eqb (a b : List Nat) (ha : ∀ x ∈ a, x < 256) (hb : ∀ x ∈ b, x < 256) : ((strOf a).toList == (strOf b).toList) = decide (a = b) := by
  rw [ByteArray.toList_eq, ByteArray.toList_eq]
  by_cases h : a = b
  · subst h; simp
  · have : ¬ (strOf a).data.toList = (strOf b).data.toList := fun e => h (strOf_inj ha hb (data_inj e))
    have h2 : ¬ (strOf a).data = (strOf b).data := fun e => this (by rw [e])
    simp [h, h2]

/-- the bytes of a text -/
def textB (s : List Nat) : List Nat := encB 4 (s.take 4096).length ++ s.take 4096
def textsB (l : List (List Nat)) : List Nat := (l.map textB).flatten
theorem textsB_nil : textsB [] = [] := rfl
theorem textsB_snoc (l : List (List Nat)) (s : List Nat) : textsB (l ++ [s]) = textsB l ++ textB s := by unfold textsB; simp
theorem textsB_cons (l : List (List Nat)) (s : List Nat) : textsB (s :: l) = textB s ++ textsB l := by unfold textsB; simp
theorem textB_length (s : List Nat) : (textB s).length ≤ 4100 := by
  unfold textB
  rw [List.length_append, encB_length, List.length_take]
  omega
theorem textsB_length : ∀ l : List (List Nat), (textsB l).length ≤ 4100 * l.length
  | [] => Nat.le_refl _
  | s :: l => by
    rw [textsB_cons, List.length_append, List.length_cons]
    have := textB_length s
    have := textsB_length l
    omega

/- a reader: the bytes that are left, its error (0: none) -/
def takeV (l : List Nat) (e n : Nat) : List Nat := if e = 0 ∧ n ≤ l.length then l.take n else []
def takeL (l : List Nat) (e n : Nat) : List Nat := if e = 0 ∧ n ≤ l.length then l.drop n else l
def takeE (l : List Nat) (e n : Nat) : Nat := if e = 0 ∧ l.length < n then 2 else e
def numV (l : List Nat) (e : Nat) : Nat := if 4611686018427387904 < decB (takeV l e 8) then 0 else decB (takeV l e 8)
def numE (l : List Nat) (e : Nat) : Nat := if 4611686018427387904 < decB (takeV l e 8) then 3 else takeE l e 8
def textV (l : List Nat) (e : Nat) : List Nat := if 4096 < decB (takeV l e 4) then [] else takeV (takeL l e 4) (takeE l e 4) (decB (takeV l e 4))
def textL (l : List Nat) (e : Nat) : List Nat := if 4096 < decB (takeV l e 4) then takeL l e 4 else takeL (takeL l e 4) (takeE l e 4) (decB (takeV l e 4))
def textE (l : List Nat) (e : Nat) : Nat := if 4096 < decB (takeV l e 4) then 4 else takeE (takeL l e 4) (takeE l e 4) (decB (takeV l e 4))
def countV (l : List Nat) (e : Nat) (most : Int) : Nat := if most < (numV l e : Int) then 0 else numV l e
def countE (l : List Nat) (e : Nat) (most : Int) : Nat := if numE l e = 0 ∧ most < (numV l e : Int) then 4 else numE l e
def failE (e : Nat) (bad : Bool) : Nat := if e = 0 ∧ bad = true then 3 else e
def doneE (l : List Nat) (e : Nat) : Nat := if e = 0 ∧ l ≠ [] then 3 else e

section
variable {l : List Nat} {e n : Nat}
theorem takeV_lt (h : ∀ x ∈ l, x < 256) : ∀ x ∈ takeV l e n, x < 256 := by
  unfold takeV
  split
  · exact fun x hx => h x (List.mem_of_mem_take hx)
  · intro x hx; cases hx
theorem takeL_lt (h : ∀ x ∈ l, x < 256) : ∀ x ∈ takeL l e n, x < 256 := by
  unfold takeL
  split
  · exact fun x hx => h x (List.mem_of_mem_drop hx)
  · exact h
theorem takeL_len : (takeL l e n).length ≤ l.length := by
  unfold takeL
  split
  · rw [List.length_drop]; omega
  · exact Nat.le_refl _
theorem takeV_len : (takeV l e n).length ≤ n := by
  unfold takeV
  split
  · rw [List.length_take]; omega
  · exact Nat.zero_le _
theorem takeV_err (h : takeE l e n ≠ 0) : takeV l e n = [] := by
  unfold takeE at h
  unfold takeV
  split
  · rename_i h2
    rw [if_neg (by omega)] at h
    exact absurd h2.1 h
  · rfl
theorem textL_lt (h : ∀ x ∈ l, x < 256) : ∀ x ∈ textL l e, x < 256 := by
  unfold textL
  split
  · exact takeL_lt h
  · exact takeL_lt (takeL_lt h)
theorem textL_len : (textL l e).length ≤ l.length := by
  unfold textL
  split
  · exact takeL_len
  · exact Nat.le_trans takeL_len takeL_len
theorem textV_lt (h : ∀ x ∈ l, x < 256) : ∀ x ∈ textV l e, x < 256 := by
  unfold textV
  split
  · intro x hx; cases hx
  · exact takeV_lt (takeL_lt h)
theorem takeE_stays (h : e ≠ 0) : takeE l e n = e := if_neg (by omega)
theorem takeL_stays (h : e ≠ 0) : takeL l e n = l := if_neg (by omega)
theorem takeV_stays (h : e ≠ 0) : takeV l e n = [] := if_neg (by omega)
theorem numV_stays (h : e ≠ 0) : numV l e = 0 := by unfold numV; rw [takeV_stays h]; rfl
theorem numE_stays (h : e ≠ 0) : numE l e = e := by unfold numE; rw [takeV_stays h, decB_nil, if_neg (by omega), takeE_stays h]
theorem textV_stays (h : e ≠ 0) : textV l e = [] := by unfold textV; rw [takeV_stays h, decB_nil, if_neg (by omega), takeE_stays h, takeV_stays h]
theorem textE_stays (h : e ≠ 0) : textE l e = e := by unfold textE; rw [takeV_stays h, decB_nil, if_neg (by omega), takeE_stays h, takeE_stays h]
/-- what was laid is read: a number -/
theorem num_back (v : Nat) (hv : v ≤ 4611686018427387904) (r : List Nat) : numV (encB 8 v ++ r) 0 = v ∧ takeL (encB 8 v ++ r) 0 8 = r ∧ numE (encB 8 v ++ r) 0 = 0 := by
  have hl : 8 ≤ (encB 8 v ++ r).length := by rw [List.length_append, encB_length]; omega
  have e1 : takeV (encB 8 v ++ r) 0 8 = encB 8 v := by
    unfold takeV
    rw [if_pos ⟨rfl, hl⟩]
    exact List.take_left' (encB_length 8 v)
  have e2 : decB (encB 8 v) = v := decB_encB 8 v (by omega)
  refine ⟨?_, ?_, ?_⟩
  · unfold numV; rw [e1, e2, if_neg (by omega)]
  · unfold takeL
    rw [if_pos ⟨rfl, hl⟩]
    exact List.drop_left' (encB_length 8 v)
  · unfold numE takeE; rw [e1, e2, if_neg (by omega), if_neg (by omega)]
/-- what was laid is read: a text -/
theorem text_back (s r : List Nat) : textV (textB s ++ r) 0 = s.take 4096 ∧ textL (textB s ++ r) 0 = r ∧ textE (textB s ++ r) 0 = 0 := by
  unfold textB
  have hq : (s.take 4096).length ≤ 4096 := by rw [List.length_take]; omega
  generalize s.take 4096 = q at hq
  rw [List.append_assoc]
  have hl : 4 ≤ (encB 4 q.length ++ (q ++ r)).length := by rw [List.length_append, encB_length]; omega
  have e1 : takeV (encB 4 q.length ++ (q ++ r)) 0 4 = encB 4 q.length := by
    unfold takeV
    rw [if_pos ⟨rfl, hl⟩]
    exact List.take_left' (encB_length 4 _)
  have e2 : decB (encB 4 q.length) = q.length := decB_encB 4 _ (by omega)
  have e3 : takeL (encB 4 q.length ++ (q ++ r)) 0 4 = q ++ r := by
    unfold takeL
    rw [if_pos ⟨rfl, hl⟩]
    exact List.drop_left' (encB_length 4 _)
  have e4 : takeE (encB 4 q.length ++ (q ++ r)) 0 4 = 0 := by unfold takeE; rw [if_neg (by omega)]
  have hl2 : q.length ≤ (q ++ r).length := by rw [List.length_append]; omega
  refine ⟨?_, ?_, ?_⟩
  · unfold textV; rw [e1, e2, if_neg (by omega), e3, e4]; unfold takeV; rw [if_pos ⟨rfl, hl2⟩, List.take_left]
  · unfold textL; rw [e1, e2, if_neg (by omega), e3, e4]; unfold takeL; rw [if_pos ⟨rfl, hl2⟩, List.drop_left]
  · unfold textE; rw [e1, e2, if_neg (by omega), e3, e4]; unfold takeE; rw [if_neg (by omega)]
end
end Go.Proofs.Ytkalnaidccgbiaa
