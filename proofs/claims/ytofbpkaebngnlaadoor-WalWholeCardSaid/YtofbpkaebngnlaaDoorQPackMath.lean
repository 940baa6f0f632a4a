/-
  Plain mathematics of package pack: a number's bytes, the highest first; what bytes tell; texts as lists of bytes; what a reader answers and where it stands then. Nothing here speaks of a program.
-/
import Derived.Laws.BytesArg
import Derived.Laws.Strings
import Derived.Below
namespace Go.Proofs.YtofbpkaebngnlaaDoor
set_option linter.unusedVariables false
set_option linter.unusedSimpArgs false
set_option linter.unusedVariables false
set_option linter.unusedSimpArgs false

/-- k bytes of a number, the highest first -/
def encB : Nat → Nat → List Nat
  | 0, _ => []
  | k + 1, v => encB k (v / 256) ++ [v % 256]
/-- the number that bytes tell -/
def decB (l : List Nat) : Nat := l.foldl (fun a b => a * 256 + b) 0
/-- a number of bytes at most 2^62, else -1 -/
def numB (l : List Nat) : Int := if 4611686018427387904 < decB l then -1 else (decB l : Int)

theorem encB_length : ∀ (k v : Nat), (encB k v).length = k
  | 0, _ => rfl
  | k + 1, v => by rw [encB, List.length_append, encB_length k]; rfl
theorem encB_lt : ∀ (k v : Nat), ∀ x ∈ encB k v, x < 256
  | 0, _ => by intro x hx; cases hx
  | k + 1, v => by
    intro x hx
    rcases List.mem_append.1 hx with h | h
    · exact encB_lt k _ x h
    · rw [List.mem_singleton.1 h]; omega
theorem encB_front : ∀ (k v : Nat), encB (k + 1) v = (v / 256 ^ k % 256) :: encB k v
  | 0, v => by simp [encB]
  | k + 1, v => by
    have e : encB (k + 1) v = encB k (v / 256) ++ [v % 256] := rfl
    rw [encB, encB_front k (v / 256), Nat.div_div_eq_div_mul, ← Nat.pow_succ', List.cons_append, e]
theorem encB_mod : ∀ (k v : Nat), encB k (v % 256 ^ k) = encB k v
  | 0, _ => rfl
  | k + 1, v => by
    have h1 : v % 256 ^ (k + 1) / 256 = v / 256 % 256 ^ k := by rw [Nat.pow_succ', Nat.mod_mul_right_div_self]
    have h2 : v % 256 ^ (k + 1) % 256 = v % 256 := Nat.mod_mod_of_dvd _ ⟨256 ^ k, by rw [Nat.pow_succ']⟩
    rw [encB, encB, h1, h2, encB_mod k]
theorem decB_snoc (l : List Nat) (b : Nat) : decB (l ++ [b]) = decB l * 256 + b := by unfold decB; rw [List.foldl_append]; rfl
theorem decB_nil : decB [] = 0 := rfl
theorem snoc_ind {p : List Nat → Prop} (h0 : p []) (h1 : ∀ l b, p l → p (l ++ [b])) (l : List Nat) : p l := by
  have : ∀ r : List Nat, p r.reverse := by
    intro r
    induction r with
    | nil => exact h0
    | cons b r ih => rw [List.reverse_cons]; exact h1 _ _ ih
  have h := this l.reverse
  rwa [List.reverse_reverse] at h
theorem decB_lt (l : List Nat) : (∀ x ∈ l, x < 256) → decB l < 256 ^ l.length := by
  induction l using snoc_ind with
  | h0 => intro _; exact Nat.one_pos
  | h1 l b ih =>
    intro h
    have h1 := ih fun x hx => h x (List.mem_append_left _ hx)
    have h2 := h b (List.mem_append_right _ (List.mem_singleton_self b))
    rw [decB_snoc, List.length_append, List.length_singleton, Nat.pow_succ]
    omega
theorem decB_encB : ∀ (k v : Nat), v < 256 ^ k → decB (encB k v) = v
  | 0, v, h => by rw [Nat.pow_zero] at h; rw [encB, decB_nil]; omega
  | k + 1, v, h => by
    rw [encB, decB_snoc, decB_encB k (v / 256) (by rw [Nat.pow_succ'] at h; exact Nat.div_lt_of_lt_mul h)]
    omega
theorem encB_decB (l : List Nat) : (∀ x ∈ l, x < 256) → encB l.length (decB l) = l := by
  induction l using snoc_ind with
  | h0 => intro _; rfl
  | h1 l b ih =>
    intro h
    have h1 := ih fun x hx => h x (List.mem_append_left _ hx)
    have h2 := h b (List.mem_append_right _ (List.mem_singleton_self b))
    rw [List.length_append, List.length_singleton, encB, decB_snoc, show (decB l * 256 + b) / 256 = decB l by omega, h1, show (decB l * 256 + b) % 256 = b by omega]
theorem decB_append (l r : List Nat) : decB l * 256 ^ r.length ≤ decB (l ++ r) := by
  induction r using snoc_ind with
  | h0 => simp
  | h1 r b ih =>
    rw [← List.append_assoc, decB_snoc, List.length_append, List.length_singleton, Nat.pow_succ, ← Nat.mul_assoc]
    omega
/-- told at a byte too early: it will be too great -/
theorem decB_great (l : List Nat) (k : Nat) (hk : k < l.length) (h : 36028797018963968 ≤ decB (l.take k)) : 4611686018427387904 < decB l := by
  have h1 := decB_append (l.take k) (l.drop k)
  rw [List.take_append_drop, List.length_drop] at h1
  have h2 : 256 ^ 1 ≤ 256 ^ (l.length - k) := Nat.pow_le_pow_right (by omega) (by omega)
  have h3 : 36028797018963968 * 256 ^ 1 ≤ decB (l.take k) * 256 ^ (l.length - k) := Nat.mul_le_mul h h2
  omega

/-- the number that may be, next to any -/
def clampB (z : Int) : Nat := (min (max z 0) 4611686018427387904).toNat
theorem clampB_le (z : Int) : clampB z ≤ 4611686018427387904 := by unfold clampB; omega
/-- the bytes of numbers -/
def numsB (l : List Int) : List Nat := (l.map fun z => encB 8 (clampB z)).flatten
theorem numsB_nil : numsB [] = [] := rfl
theorem numsB_snoc (l : List Int) (z : Int) : numsB (l ++ [z]) = numsB l ++ encB 8 (clampB z) := by unfold numsB; simp
theorem numsB_cons (l : List Int) (z : Int) : numsB (z :: l) = encB 8 (clampB z) ++ numsB l := by unfold numsB; simp
theorem numsB_length : ∀ l : List Int, (numsB l).length = 8 * l.length
  | [] => rfl
  | z :: l => by rw [numsB_cons, List.length_append, encB_length, numsB_length l, List.length_cons]; omega

/-- a text's bytes as numbers, and back -/
def nats (s : ByteArray) : List Nat := s.data.toList.map (·.toNat)
def strOf (l : List Nat) : ByteArray := strOfNums (l.map fun x : Nat => (x : Int))
theorem nats_length (s : ByteArray) : (nats s).length = s.size := by unfold nats; rw [List.length_map, Array.length_toList]; rfl
theorem nats_lt (s : ByteArray) : ∀ x ∈ nats s, x < 256 := by
  intro x hx
  obtain ⟨b, _, rfl⟩ := List.mem_map.1 hx
  exact b.toNat_lt
theorem strOf_size (l : List Nat) : (strOf l).size = l.length := by unfold strOf; rw [strOfNums_size, List.length_map]
theorem strOf_data (l : List Nat) : (strOf l).data.toList = l.map UInt8.ofNat := by
  unfold strOf
  rw [strOfNums_data, List.map_map]
  rfl
theorem nats_strOf (l : List Nat) (h : ∀ x ∈ l, x < 256) : nats (strOf l) = l := by
  unfold nats
  rw [strOf_data, List.map_map]
  conv => rhs; rw [← List.map_id l]
  refine List.map_congr_left fun x hx => ?_
  have := h x hx
  simp [Nat.mod_eq_of_lt this]
theorem data_inj {a b : ByteArray} (h : a.data.toList = b.data.toList) : a = b := by
  cases a; cases b
  simp only at h
  rw [Array.toList_inj.1 h]
theorem strOf_nats (s : ByteArray) : strOf (nats s) = s := by
  refine data_inj ?_
  rw [strOf_data]
  unfold nats
  rw [List.map_map]
  conv => rhs; rw [← List.map_id s.data.toList]
  refine List.map_congr_left fun x _ => ?_
  simp
theorem strOf_inj {a b : List Nat} (ha : ∀ x ∈ a, x < 256) (hb : ∀ x ∈ b, x < 256) (h : strOf a = strOf b) : a = b := by
  rw [← nats_strOf a ha, ← nats_strOf b hb, h]
theorem strOf_to (l : List Nat) (n : Nat) : (strOf l).extract 0 n = strOf (l.take n) := by
  refine data_inj ?_
  rw [strOf_data, ByteArray.data_extract, Array.toList_extract, strOf_data]
  simp [List.map_take]
theorem strOf_from (l : List Nat) (n : Nat) (k : Nat) (hk : l.length ≤ k) : (strOf l).extract n k = strOf (l.drop n) := by
  refine data_inj ?_
  rw [strOf_data, ByteArray.data_extract, Array.toList_extract, strOf_data]
  rw [List.map_drop, List.extract_eq_take_drop, List.take_of_length_le]
  simp; omega
theorem strOf_eqb (a b : List Nat) (ha : ∀ x ∈ a, x < 256) (hb : ∀ x ∈ b, x < 256) : ((strOf a).toList == (strOf b).toList) = decide (a = b) := by
  rw [ByteArray.toList_eq, ByteArray.toList_eq]
  by_cases h : a = b
  · subst h; simp
  · have : ¬ (strOf a).data.toList = (strOf b).data.toList := fun e => h (strOf_inj ha hb (data_inj e))
    have h2 : ¬ (strOf a).data = (strOf b).data := fun e => this (by rw [e])
    simp [h, h2]

/-- the bytes of a text -/
def textB (s : List Nat) : List Nat := encB 4 (s.take 4096).length ++ s.take 4096
def textsB (l : List (List Nat)) : List Nat := (l.map textB).flatten
theorem textsB_nil : textsB [] = [] := rfl
theorem textsB_snoc (l : List (List Nat)) (s : List Nat) : textsB (l ++ [s]) = textsB l ++ textB s := by unfold textsB; simp
theorem textsB_cons (l : List (List Nat)) (s : List Nat) : textsB (s :: l) = textB s ++ textsB l := by unfold textsB; simp
theorem textB_length (s : List Nat) : (textB s).length ≤ 4100 := by
  unfold textB
  rw [List.length_append, encB_length, List.length_take]
  omega
theorem textsB_length : ∀ l : List (List Nat), (textsB l).length ≤ 4100 * l.length
  | [] => Nat.le_refl _
  | s :: l => by
    rw [textsB_cons, List.length_append, List.length_cons]
    have := textB_length s
    have := textsB_length l
    omega

/- a reader: the bytes that are left, its error (0: none) -/
def takeV (l : List Nat) (e n : Nat) : List Nat := if e = 0 ∧ n ≤ l.length then l.take n else []
def takeL (l : List Nat) (e n : Nat) : List Nat := if e = 0 ∧ n ≤ l.length then l.drop n else l
def takeE (l : List Nat) (e n : Nat) : Nat := if e = 0 ∧ l.length < n then 2 else e
def numV (l : List Nat) (e : Nat) : Nat := if 4611686018427387904 < decB (takeV l e 8) then 0 else decB (takeV l e 8)
def numE (l : List Nat) (e : Nat) : Nat := if 4611686018427387904 < decB (takeV l e 8) then 3 else takeE l e 8
def textV (l : List Nat) (e : Nat) : List Nat := if 4096 < decB (takeV l e 4) then [] else takeV (takeL l e 4) (takeE l e 4) (decB (takeV l e 4))
def textL (l : List Nat) (e : Nat) : List Nat := if 4096 < decB (takeV l e 4) then takeL l e 4 else takeL (takeL l e 4) (takeE l e 4) (decB (takeV l e 4))
def textE (l : List Nat) (e : Nat) : Nat := if 4096 < decB (takeV l e 4) then 4 else takeE (takeL l e 4) (takeE l e 4) (decB (takeV l e 4))
def countV (l : List Nat) (e : Nat) (most : Int) : Nat := if most < (numV l e : Int) then 0 else numV l e
def countE (l : List Nat) (e : Nat) (most : Int) : Nat := if numE l e = 0 ∧ most < (numV l e : Int) then 4 else numE l e
def failE (e : Nat) (bad : Bool) : Nat := if e = 0 ∧ bad = true then 3 else e
def doneE (l : List Nat) (e : Nat) : Nat := if e = 0 ∧ l ≠ [] then 3 else e

section
variable {l : List Nat} {e n : Nat}
theorem takeV_lt (h : ∀ x ∈ l, x < 256) : ∀ x ∈ takeV l e n, x < 256 := by
  unfold takeV
  split
  · exact fun x hx => h x (List.mem_of_mem_take hx)
  · intro x hx; cases hx
theorem takeL_lt (h : ∀ x ∈ l, x < 256) : ∀ x ∈ takeL l e n, x < 256 := by
  unfold takeL
  split
  · exact fun x hx => h x (List.mem_of_mem_drop hx)
  · exact h
theorem takeL_len : (takeL l e n).length ≤ l.length := by
  unfold takeL
  split
  · rw [List.length_drop]; omega
  · exact Nat.le_refl _
theorem takeV_len : (takeV l e n).length ≤ n := by
  unfold takeV
  split
  · rw [List.length_take]; omega
  · exact Nat.zero_le _
theorem takeV_err (h : takeE l e n ≠ 0) : takeV l e n = [] := by
  unfold takeE at h
  unfold takeV
  split
  · rename_i h2
    rw [if_neg (by omega)] at h
    exact absurd h2.1 h
  · rfl
theorem textL_lt (h : ∀ x ∈ l, x < 256) : ∀ x ∈ textL l e, x < 256 := by
  unfold textL
  split
  · exact takeL_lt h
  · exact takeL_lt (takeL_lt h)
theorem textL_len : (textL l e).length ≤ l.length := by
  unfold textL
  split
  · exact takeL_len
  · exact Nat.le_trans takeL_len takeL_len
theorem textV_lt (h : ∀ x ∈ l, x < 256) : ∀ x ∈ textV l e, x < 256 := by
  unfold textV
  split
  · intro x hx; cases hx
  · exact takeV_lt (takeL_lt h)
theorem takeE_stays (h : e ≠ 0) : takeE l e n = e := if_neg (by omega)
theorem takeL_stays (h : e ≠ 0) : takeL l e n = l := if_neg (by omega)
theorem takeV_stays (h : e ≠ 0) : takeV l e n = [] := if_neg (by omega)
theorem numV_stays (h : e ≠ 0) : numV l e = 0 := by unfold numV; rw [takeV_stays h]; rfl
theorem numE_stays (h : e ≠ 0) : numE l e = e := by unfold numE; rw [takeV_stays h, decB_nil, if_neg (by omega), takeE_stays h]
theorem textV_stays (h : e ≠ 0) : textV l e = [] := by unfold textV; rw [takeV_stays h, decB_nil, if_neg (by omega), takeE_stays h, takeV_stays h]
theorem textE_stays (h : e ≠ 0) : textE l e = e := by unfold textE; rw [takeV_stays h, decB_nil, if_neg (by omega), takeE_stays h, takeE_stays h]
/-- what was laid is read: a number -/
theorem num_back (v : Nat) (hv : v ≤ 4611686018427387904) (r : List Nat) : numV (encB 8 v ++ r) 0 = v ∧ takeL (encB 8 v ++ r) 0 8 = r ∧ numE (encB 8 v ++ r) 0 = 0 := by
  have hl : 8 ≤ (encB 8 v ++ r).length := by rw [List.length_append, encB_length]; omega
  have e1 : takeV (encB 8 v ++ r) 0 8 = encB 8 v := by
    unfold takeV
    rw [if_pos ⟨rfl, hl⟩]
    exact List.take_left' (encB_length 8 v)
  have e2 : decB (encB 8 v) = v := decB_encB 8 v (by omega)
  refine ⟨?_, ?_, ?_⟩
  · unfold numV; rw [e1, e2, if_neg (by omega)]
  · unfold takeL
    rw [if_pos ⟨rfl, hl⟩]
    exact List.drop_left' (encB_length 8 v)
  · unfold numE takeE; rw [e1, e2, if_neg (by omega), if_neg (by omega)]
/-- what was laid is read: a text -/
theorem text_back (s r : List Nat) : textV (textB s ++ r) 0 = s.take 4096 ∧ textL (textB s ++ r) 0 = r ∧ textE (textB s ++ r) 0 = 0 := by
  unfold textB
  have hq : (s.take 4096).length ≤ 4096 := by rw [List.length_take]; omega
  generalize s.take 4096 = q at hq
  rw [List.append_assoc]
  have hl : 4 ≤ (encB 4 q.length ++ (q ++ r)).length := by rw [List.length_append, encB_length]; omega
  have e1 : takeV (encB 4 q.length ++ (q ++ r)) 0 4 = encB 4 q.length := by
    unfold takeV
    rw [if_pos ⟨rfl, hl⟩]
    exact List.take_left' (encB_length 4 _)
  have e2 : decB (encB 4 q.length) = q.length := decB_encB 4 _ (by omega)
  have e3 : takeL (encB 4 q.length ++ (q ++ r)) 0 4 = q ++ r := by
    unfold takeL
    rw [if_pos ⟨rfl, hl⟩]
    exact List.drop_left' (encB_length 4 _)
  have e4 : takeE (encB 4 q.length ++ (q ++ r)) 0 4 = 0 := by unfold takeE; rw [if_neg (by omega)]
  have hl2 : q.length ≤ (q ++ r).length := by rw [List.length_append]; omega
  refine ⟨?_, ?_, ?_⟩
  · unfold textV; rw [e1, e2, if_neg (by omega), e3, e4]; unfold takeV; rw [if_pos ⟨rfl, hl2⟩, List.take_left]
  · unfold textL; rw [e1, e2, if_neg (by omega), e3, e4]; unfold takeL; rw [if_pos ⟨rfl, hl2⟩, List.drop_left]
  · unfold textE; rw [e1, e2, if_neg (by omega), e3, e4]; unfold takeE; rw [if_neg (by omega)]
end
end Go.Proofs.YtofbpkaebngnlaaDoor

/-
  The plain mathematics of the sum (CRC-32): one step, eight steps, the sum of bytes behind a sum; that they are linear over exclusive or and one to one, and what half a byte does. Nothing here speaks of a program.
-/
namespace Go.Proofs.YtofbpkaebngnlaaDoor
set_option linter.unusedVariables false
set_option linter.unusedSimpArgs false

def polyC : Nat := 0xedb88320
def step1 (s : Nat) : Nat := if s % 2 = 1 then (s / 2) ^^^ polyC else s / 2
def stepN : Nat → Nat → Nat
  | 0, s => s
  | k + 1, s => stepN k (step1 s)
/-- the state behind the bytes l, from the state s -/
def runC : Nat → List Nat → Nat
  | s, [] => s
  | s, b :: r => runC (stepN 8 (s ^^^ b)) r
def onesC : Nat := 0xffffffff
def moreC (s : Nat) (l : List Nat) : Nat := runC (s ^^^ onesC) l ^^^ onesC

theorem xor_half (a b : Nat) : (a ^^^ b) / 2 = a / 2 ^^^ b / 2 := by
  apply Nat.eq_of_testBit_eq
  intro i
  simp [Nat.testBit_div_two]
theorem xor_mod2 (a b : Nat) : (a ^^^ b) % 2 = (a % 2 + b % 2) % 2 := by
  have h := Nat.testBit_xor a b 0
  simp only [Nat.testBit_zero] at h
  have h1 := Nat.mod_two_eq_zero_or_one a
  have h2 := Nat.mod_two_eq_zero_or_one b
  have h3 := Nat.mod_two_eq_zero_or_one (a ^^^ b)
  rcases h1 with h1 | h1 <;> rcases h2 with h2 | h2 <;> rcases h3 with h3 | h3 <;> simp [h1, h2, h3] at h ⊢
theorem step1_xor (a b : Nat) : step1 (a ^^^ b) = step1 a ^^^ step1 b := by
  unfold step1
  have h := xor_mod2 a b
  rw [xor_half]
  rcases Nat.mod_two_eq_zero_or_one a with h1 | h1 <;> rcases Nat.mod_two_eq_zero_or_one b with h2 | h2
  · rw [if_neg (by omega), if_neg (by omega), if_neg (by omega)]
  · rw [if_pos (by omega), if_neg (by omega), if_pos (by omega), Nat.xor_assoc]
  · rw [if_pos (by omega), if_pos (by omega), if_neg (by omega), Nat.xor_assoc, Nat.xor_assoc, Nat.xor_comm polyC]
  · rw [if_neg (by omega), if_pos (by omega), if_pos (by omega), Nat.xor_assoc, Nat.xor_comm polyC, Nat.xor_assoc, Nat.xor_self, Nat.xor_zero]
theorem step1_lt {s : Nat} (h : s < 4294967296) : step1 s < 4294967296 := by
  unfold step1
  split
  · exact Nat.xor_lt_two_pow (n := 32) (by omega) (by decide)
  · omega
theorem step1_zero {s : Nat} (h : s < 4294967296) (h0 : step1 s = 0) : s = 0 := by
  unfold step1 at h0
  split at h0
  · have : s / 2 = polyC := by
      have e : s / 2 ^^^ polyC ^^^ polyC = 0 ^^^ polyC := by rw [h0]
      rwa [Nat.xor_assoc, Nat.xor_self, Nat.xor_zero, Nat.zero_xor] at e
    unfold polyC at this
    omega
  · omega
theorem stepN_xor : ∀ (k a b : Nat), stepN k (a ^^^ b) = stepN k a ^^^ stepN k b
  | 0, _, _ => rfl
  | k + 1, a, b => by unfold stepN; rw [step1_xor, stepN_xor k]
theorem stepN_lt : ∀ (k : Nat) {s : Nat}, s < 4294967296 → stepN k s < 4294967296
  | 0, _, h => h
  | k + 1, _, h => stepN_lt k (step1_lt h)
theorem stepN_zero : ∀ (k : Nat) {s : Nat}, s < 4294967296 → stepN k s = 0 → s = 0
  | 0, _, _, h => h
  | k + 1, _, hs, h => step1_zero hs (stepN_zero k (step1_lt hs) h)
theorem stepN_add : ∀ (j k s : Nat), stepN (j + k) s = stepN k (stepN j s)
  | 0, k, s => by rw [Nat.zero_add]; rfl
  | j + 1, k, s => by rw [Nat.succ_add]; exact stepN_add j k (step1 s)
theorem xor_eq_zero' {a b : Nat} (h : a ^^^ b = 0) : a = b := by
  have e : a ^^^ b ^^^ b = 0 ^^^ b := by rw [h]
  rwa [Nat.xor_assoc, Nat.xor_self, Nat.xor_zero, Nat.zero_xor] at e
theorem stepN_inj (k : Nat) {a b : Nat} (ha : a < 4294967296) (hb : b < 4294967296) (h : stepN k a = stepN k b) : a = b := by
  refine xor_eq_zero' (stepN_zero k (Nat.xor_lt_two_pow (n := 32) ha hb) ?_)
  rw [stepN_xor, h, Nat.xor_self]

theorem byte_lt {s b : Nat} (hs : s < 4294967296) (hb : b < 256) : s ^^^ b < 4294967296 := Nat.xor_lt_two_pow (n := 32) hs (by omega)
theorem runC_lt : ∀ (l : List Nat) {s : Nat}, s < 4294967296 → (∀ b ∈ l, b < 256) → runC s l < 4294967296
  | [], _, h, _ => h
  | b :: r, _, h, hb => runC_lt r (stepN_lt 8 (byte_lt h (hb b (by simp)))) (fun x hx => hb x (by simp [hx]))
theorem runC_append : ∀ (l m : List Nat) (s : Nat), runC s (l ++ m) = runC (runC s l) m
  | [], _, _ => rfl
  | _ :: r, m, _ => runC_append r m _
theorem runC_inj : ∀ (l : List Nat) {a b : Nat}, a < 4294967296 → b < 4294967296 → (∀ x ∈ l, x < 256) → runC a l = runC b l → a = b
  | [], _, _, _, _, _, h => h
  | x :: r, a, b, ha, hb, hx, h => by
    have h8 : x < 256 := hx x (by simp)
    have e := runC_inj r (stepN_lt 8 (byte_lt ha h8)) (stepN_lt 8 (byte_lt hb h8)) (fun y hy => hx y (by simp [hy])) h
    have e2 := stepN_inj 8 (byte_lt ha h8) (byte_lt hb h8) e
    have e3 : a ^^^ x ^^^ x = b ^^^ x ^^^ x := by rw [e2]
    rwa [Nat.xor_assoc, Nat.xor_assoc, Nat.xor_self, Nat.xor_zero, Nat.xor_zero] at e3
theorem ones_lt : onesC < 4294967296 := by decide
theorem xor_ones_inj {a b : Nat} (h : a ^^^ onesC = b ^^^ onesC) : a = b := by
  have e : a ^^^ onesC ^^^ onesC = b ^^^ onesC ^^^ onesC := by rw [h]
  rwa [Nat.xor_assoc, Nat.xor_assoc, Nat.xor_self, Nat.xor_zero, Nat.xor_zero] at e
theorem moreC_lt (l : List Nat) {s : Nat} (h : s < 4294967296) (hb : ∀ b ∈ l, b < 256) : moreC s l < 4294967296 :=
  Nat.xor_lt_two_pow (n := 32) (runC_lt l (Nat.xor_lt_two_pow (n := 32) h ones_lt) hb) ones_lt
theorem moreC_append (l m : List Nat) (s : Nat) : moreC s (l ++ m) = moreC (moreC s l) m := by
  unfold moreC
  rw [runC_append, Nat.xor_assoc (runC _ _), Nat.xor_self, Nat.xor_zero]
theorem moreC_nil (s : Nat) : moreC s [] = s := by
  show s ^^^ onesC ^^^ onesC = s
  rw [Nat.xor_assoc, Nat.xor_self, Nat.xor_zero]

/-- one byte that is another one -/
theorem moreC_other (s : Nat) (l m : List Nat) (x y : Nat) (hs : s < 4294967296) (hl : ∀ b ∈ l, b < 256) (hm : ∀ b ∈ m, b < 256) (hx : x < 256) (hy : y < 256) : moreC s (l ++ x :: m) = moreC s (l ++ y :: m) ↔ x = y := by
  constructor
  · intro h
    unfold moreC at h
    have h := xor_ones_inj h
    rw [runC_append, runC_append] at h
    have hr := runC_lt l (Nat.xor_lt_two_pow (n := 32) hs ones_lt) hl
    have e := runC_inj m (stepN_lt 8 (byte_lt hr hx)) (stepN_lt 8 (byte_lt hr hy)) hm h
    have e2 := stepN_inj 8 (byte_lt hr hx) (byte_lt hr hy) e
    have e3 : ∀ r : Nat, r ^^^ x = r ^^^ y → x = y := fun r hr => by
      have e4 : r ^^^ (r ^^^ x) = r ^^^ (r ^^^ y) := by rw [hr]
      rwa [← Nat.xor_assoc, ← Nat.xor_assoc, Nat.xor_self, Nat.zero_xor, Nat.zero_xor] at e4
    exact e3 _ e2
  · rintro rfl; rfl

theorem fix8 : ∀ x, x < 256 → stepN 8 x = x → x = 0 := by decide +kernel
/-- two bytes that change places -/
theorem moreC_swap (s : Nat) (l m : List Nat) (x y : Nat) (hs : s < 4294967296) (hl : ∀ b ∈ l, b < 256) (hm : ∀ b ∈ m, b < 256) (hx : x < 256) (hy : y < 256) : moreC s (l ++ x :: y :: m) = moreC s (l ++ y :: x :: m) ↔ x = y := by
  constructor
  · intro h
    unfold moreC at h
    have h := xor_ones_inj h
    rw [runC_append, runC_append] at h
    have hr := runC_lt l (Nat.xor_lt_two_pow (n := 32) hs ones_lt) hl
    have l1 := stepN_lt 8 (byte_lt hr hx)
    have l2 := stepN_lt 8 (byte_lt hr hy)
    have e := runC_inj m (stepN_lt 8 (byte_lt l1 hy)) (stepN_lt 8 (byte_lt l2 hx)) hm h
    have e2 := stepN_inj 8 (byte_lt l1 hy) (byte_lt l2 hx) e
    have gen : ∀ r : Nat, stepN 8 (r ^^^ x) ^^^ y = stepN 8 (r ^^^ y) ^^^ x → stepN 8 (x ^^^ y) = x ^^^ y := by
      intro r h
      rw [stepN_xor, stepN_xor] at h
      rw [stepN_xor]
      have h2 : stepN 8 r ^^^ (stepN 8 r ^^^ stepN 8 x ^^^ y) ^^^ (stepN 8 y ^^^ y) = stepN 8 r ^^^ (stepN 8 r ^^^ stepN 8 y ^^^ x) ^^^ (stepN 8 y ^^^ y) := by rw [h]
      have c : ∀ p q t u : Nat, p ^^^ (p ^^^ q ^^^ t) ^^^ (u ^^^ t) = q ^^^ u := by
        intro p q t u
        apply Nat.eq_of_testBit_eq
        intro i
        simp only [Nat.testBit_xor]
        cases p.testBit i <;> cases q.testBit i <;> cases t.testBit i <;> cases u.testBit i <;> rfl
      have c2 : ∀ p q t u : Nat, p ^^^ (p ^^^ q ^^^ t) ^^^ (q ^^^ u) = t ^^^ u := by
        intro p q t u
        apply Nat.eq_of_testBit_eq
        intro i
        simp only [Nat.testBit_xor]
        cases p.testBit i <;> cases q.testBit i <;> cases t.testBit i <;> cases u.testBit i <;> rfl
      rw [c, c2] at h2
      exact h2
    have hz := fix8 (x ^^^ y) (Nat.xor_lt_two_pow (n := 8) hx hy) (gen _ e2)
    exact xor_eq_zero' hz
  · rintro rfl; rfl

/-! ### half a byte at a time -/
def tabC (r : Nat) : Nat := stepN 4 r
theorem xor_split (x : Nat) : x = (x / 16 * 16) ^^^ (x % 16) := by
  have h : x / 16 * 16 + x % 16 = (x / 16 * 16) ^^^ (x % 16) := by
    have := Nat.two_pow_add_eq_or_of_lt (i := 4) (b := x % 16) (Nat.mod_lt _ (by omega)) (x / 16)
    rw [Nat.mul_comm] at this
    rw [show x / 16 * 16 = x / 16 * 2 ^ 4 from rfl, this]
    apply Nat.eq_of_testBit_eq
    intro i
    rw [Nat.testBit_or, Nat.testBit_xor]
    by_cases hi : i < 4
    · have : (x / 16 * 2 ^ 4).testBit i = false := by
        rw [Nat.testBit_mul_two_pow]
        simp; omega
      rw [this]; simp
    · have : (x % 16).testBit i = false := by
        apply Nat.testBit_lt_two_pow
        exact Nat.lt_of_lt_of_le (Nat.mod_lt _ (by omega)) (Nat.pow_le_pow_right (n := 2) (by omega) (show 4 ≤ i by omega))
      rw [this]; simp
  rw [← h]
  omega
theorem step1_even (q : Nat) : step1 (2 * q) = q := by
  unfold step1
  rw [if_neg (by omega)]
  omega
theorem stepN4_mul (q : Nat) : stepN 4 (q * 16) = q := by
  have e : q * 16 = 2 * (2 * (2 * (2 * q))) := by omega
  rw [e]
  show step1 (step1 (step1 (step1 _))) = q
  rw [step1_even, step1_even, step1_even, step1_even]
theorem half4 (x : Nat) : stepN 4 x = (x / 16) ^^^ tabC (x % 16) := by
  have h := xor_split x
  calc stepN 4 x = stepN 4 ((x / 16 * 16) ^^^ (x % 16)) := by rw [← h]
    _ = _ := by rw [stepN_xor, stepN4_mul]; rfl
theorem step8_half (x : Nat) : stepN 8 x = stepN 4 (stepN 4 x) := stepN_add 4 4 x
end Go.Proofs.YtofbpkaebngnlaaDoor
