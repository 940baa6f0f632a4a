/-
  What cells holdB, as data of one's own: numbers, bools, texts, slices of rows, rows behind one another; kept over whatever leaves older blocks as they lay; and that what comes in as an argument holds such data. They speak of any program.
-/
import Derived.Test.YtoiffchhfnbooaaDoorQBytes
import Derived.ProofKit
import Derived.OpenShut
import Derived.ShutString
import Derived.ChangeOld
import Derived.Deep.Slices
import Derived.SizedLaws
import Derived.Laws.BytesArg
import Derived.Laws.Strings
import Derived.Lib.AppendStr
import Derived.Lib.ConvBytes
import Derived.Test.YtoiffchhfnbooaaDoorProg
import Derived.Laws.BitsAllLaws
import Derived.Lib.SliceRun
namespace Go.Proofs.YtoiffchhfnbooaaDoor
set_option linter.unusedVariables false
set_option linter.unusedSimpArgs false
set_option linter.unusedVariables false
set_option linter.unusedSimpArgs false
open Go.ChangeShapes Go.WideShapes Go.ChangeAt Go.RowKit Go.Deep

/-- what k cells holdB, in a world whose blocks below B are asked -/
structure RowRel (α : Type) where
  k : Nat
  R : World → Nat → List Value → α → Prop
  len : ∀ {w : World} {B : Nat} {cs : List Value} {a : α}, R w B cs a → cs.length = k
  keep : ∀ {w w' : World} {B : Nat} {cs : List Value} {a : α}, R w B cs a → (∀ p : Addr, p.block < B → w'.cell? p = w.cell? p) → R w' B cs a
  more : ∀ {w : World} {B B' : Nat} {cs : List Value} {a : α}, R w B cs a → B ≤ B' → R w B' cs a

namespace RowRel
variable {α β : Type}
theorem below (r : RowRel α) {w w' : World} {B B' : Nat} {cs : List Value} {a : α} (h : r.R w B cs a) (hb : Below B' w w') (hB : B ≤ B') : r.R w' B cs a := r.keep h fun _ hp => hb.cell (by omega)
theorem later (r : RowRel α) {w w' : World} {cs : List Value} {a : α} (h : r.R w w.heap.size cs a) (hb : Below w.heap.size w w') : r.R w' w'.heap.size cs a := r.more (r.below h hb (Nat.le_refl _)) hb.size

def int (k : IntKind) : RowRel Int where
  k := 1
  R := fun _ _ cs a => cs = [.int k a] ∧ (Lit.int k a).wf = true
  len := fun h => by rw [h.1]; rfl
  keep := fun h _ => h
  more := fun h _ => h
def byte : RowRel Nat where
  k := 1
  R := fun _ _ cs a => cs = [.int .u8 (a : Int)] ∧ a < 256
  len := fun h => by rw [h.1]; rfl
  keep := fun h _ => h
  more := fun h _ => h
def bool : RowRel Bool where
  k := 1
  R := fun _ _ cs a => cs = [.bool a]
  len := fun h => by rw [h]; rfl
  keep := fun h _ => h
  more := fun h _ => h
def str : RowRel ByteArray where
  k := 1
  R := fun _ _ cs a => cs = [.string a] ∧ a.size ≤ 140737488355328
  len := fun h => by rw [h.1]; rfl
  keep := fun h _ => h
  more := fun h _ => h
/-- the rows l from cell o of block b on -/
def rows (r : RowRel α) (w : World) (B b o : Nat) (l : List α) : Prop := ∀ i a, l[i]? = some a → ∃ cs, w.rangeAt b (o + i * r.k) cs ∧ r.R w B cs a
def slice (r : RowRel α) : RowRel (List α) where
  k := 1
  R := fun w B cs l => ∃ A n c, cs = [.slice A n c] ∧ n ≤ c ∧ c ≤ maxLen ∧ n ≤ 140737488355328 ∧ l.length = n ∧ (0 < n → ∃ b o, A = some ⟨b, o, none⟩ ∧ b < B ∧ r.rows w B b o l)
  len := fun h => by obtain ⟨A, n, c, rfl, _⟩ := h; rfl
  keep := fun h hk => by
    obtain ⟨A, n, c, e, h1, h2, h3, h4, h5⟩ := h
    refine ⟨A, n, c, e, h1, h2, h3, h4, fun hn => ?_⟩
    obtain ⟨b, o, e, hb, hr⟩ := h5 hn
    refine ⟨b, o, e, hb, fun i a ha => ?_⟩
    obtain ⟨cs, hc, hR⟩ := hr i a ha
    exact ⟨cs, fun j v hv => (hk _ hb).trans (hc j v hv), r.keep hR hk⟩
  more := fun h hB => by
    obtain ⟨A, n, c, e, h1, h2, h3, h4, h5⟩ := h
    refine ⟨A, n, c, e, h1, h2, h3, h4, fun hn => ?_⟩
    obtain ⟨b, o, e, hb, hr⟩ := h5 hn
    refine ⟨b, o, e, by omega, fun i a ha => ?_⟩
    obtain ⟨cs, hc, hR⟩ := hr i a ha
    exact ⟨cs, hc, r.more hR hB⟩
def pair (r : RowRel α) (s : RowRel β) : RowRel (α × β) where
  k := r.k + s.k
  R := fun w B cs x => ∃ c1 c2, cs = c1 ++ c2 ∧ r.R w B c1 x.1 ∧ s.R w B c2 x.2
  len := fun h => by obtain ⟨c1, c2, rfl, h1, h2⟩ := h; rw [List.length_append, r.len h1, s.len h2]
  keep := fun h hk => by obtain ⟨c1, c2, rfl, h1, h2⟩ := h; exact ⟨c1, c2, rfl, r.keep h1 hk, s.keep h2 hk⟩
  more := fun h hk => by obtain ⟨c1, c2, rfl, h1, h2⟩ := h; exact ⟨c1, c2, rfl, r.more h1 hk, s.more h2 hk⟩
/-- the same cells, as data of another form -/
def via (r : RowRel α) (f : β → α) : RowRel β where
  k := r.k
  R := fun w B cs b => r.R w B cs (f b)
  len := fun h => r.len h
  keep := fun h hk => r.keep h hk
  more := fun h hk => r.more h hk
/-- a slice of bytes -/
def bytes : RowRel (List Nat) where
  k := 1
  R := fun w B cs l => ∃ A n c, cs = [.slice A n c] ∧ n ≤ c ∧ c ≤ maxLen ∧ n ≤ 140737488355328 ∧ Bytes w B A n l
  len := fun h => by obtain ⟨A, n, c, rfl, _⟩ := h; rfl
  keep := fun h hk => by
    obtain ⟨A, n, c, e, h1, h2, h3, h4⟩ := h
    exact ⟨A, n, c, e, h1, h2, h3, h4.keep hk⟩
  more := fun h hB => by
    obtain ⟨A, n, c, e, h1, h2, h3, h4⟩ := h
    exact ⟨A, n, c, e, h1, h2, h3, h4.more hB⟩
theorem bytes_of_slice {w : World} {B : Nat} {cs : List Value} {l : List Nat} (h : byte.slice.R w B cs l) : bytes.R w B cs l := by
  obtain ⟨A, n, c, e, h1, h2, h3, h4, h5⟩ := h
  refine ⟨A, n, c, e, h1, h2, h3, h4, ?_, fun hn => ?_⟩
  · intro x hx
    obtain ⟨i, hi, rfl⟩ := List.mem_iff_getElem.1 hx
    obtain ⟨b, o, _, _, hr⟩ := h5 (by omega)
    obtain ⟨cs, _, _, hlt⟩ := hr i _ (List.getElem?_eq_getElem hi)
    exact hlt
  · obtain ⟨b, o, e, hb, hr⟩ := h5 hn
    refine ⟨b, o, e, hb, fun i hi => ?_⟩
    obtain ⟨cs, hc, rfl, hlt⟩ := hr i l[i] (List.getElem?_eq_getElem (by omega))
    have := hc 0 _ rfl
    rw [Nat.add_zero, show i * byte.k = i from Nat.mul_one i] at this
    rw [this]
    unfold byteAt
    simp [List.getElem?_eq_getElem (show i < l.length by omega)]
theorem bytes_of {w : World} {B : Nat} {A : Option Addr} {n c : Nat} {l : List Nat} (h : bytes.R w B [.slice A n c] l) : Bytes w B A n l ∧ n ≤ 140737488355328 := by
  obtain ⟨A', n', c', e, _, _, h3, h4⟩ := h
  injection e with e _
  injection e with e1 e2 e3
  subst e1; subst e2; subst e3
  exact ⟨h4, h3⟩
end RowRel

section
variable {P : Program}
/-- cells of type t that come in holdB data by r -/
def Opens {α : Type} (P : Program) (t : TypeId) (r : RowRel α) : Prop :=
  P.cellsOf t = r.k ∧ ∀ (H : Type) (enc : TypeId × Value → H) (w : World) (base : Nat) (heldB : Bool) (fuel : Nat) (cs : List Value) (x : DataW H × List MemPlace),
    DataW.trod enc P w base (fun _ => true) heldB fuel t cs = some x → (x.1.weights P t).all (· ≤ reachBytes) = true → ∃ a, r.R w w.heap.size cs a

theorem opens_int {t : TypeId} {k : IntKind} (ht : P.underlying t = some (.int k)) (hc : P.cellsOf t = 1) : Opens P t (RowRel.int k) :=
  ⟨hc, fun H enc w base heldB fuel cs x h _ => by
    obtain ⟨n, h1, _, h2⟩ := DataW.trod_int ht h
    exact ⟨n, h1, h2⟩⟩
theorem opens_byte {t : TypeId} (ht : P.underlying t = some (.int .u8)) (hc : P.cellsOf t = 1) : Opens P t RowRel.byte :=
  ⟨hc, fun H enc w base heldB fuel cs x h _ => by
    obtain ⟨n, h1, _, h2⟩ := DataW.trod_int ht h
    obtain ⟨b0, b1⟩ := bounds_u8 h2
    obtain ⟨k, rfl⟩ := Int.eq_ofNat_of_zero_le b0
    exact ⟨k, h1, by omega⟩⟩
theorem opens_bool {t : TypeId} (ht : P.underlying t = some .bool) (hc : P.cellsOf t = 1) : Opens P t RowRel.bool :=
  ⟨hc, fun H enc w base heldB fuel cs x h _ => by
    obtain ⟨n, h1, _⟩ := DataW.trod_bool ht h
    exact ⟨n, h1⟩⟩
theorem opens_str {t : TypeId} (ht : P.underlying t = some .string) (hc : P.cellsOf t = 1) : Opens P t RowRel.str :=
  ⟨hc, fun H enc w base heldB fuel cs x h hz => by
    obtain ⟨s, h1, h2, _⟩ := DataW.trod_string ht h
    subst h2
    have hz' : s.data.toList.length ≤ reachBytes := by simpa [DataW.weights] using hz
    have e : s.size = s.data.toList.length := (Array.length_toList (xs := s.data)).symm
    rw [← e] at hz'
    unfold reachBytes at hz'
    exact ⟨s, h1, by omega⟩⟩

theorem weightsAll_mem {H : Type} {P : Program} {e : TypeId} : ∀ {l : List (DataW H)} {d : DataW H}, d ∈ l → ∀ n ∈ d.weights P e, n ∈ DataW.weightsAll P e l
  | d' :: r, d, hd, n, hn => by
    simp only [DataW.weightsAll, List.mem_append]
    rcases List.mem_cons.1 hd with rfl | h
    · exact Or.inl hn
    · exact Or.inr (weightsAll_mem h n hn)

theorem list_of_all {α : Type} {p : Nat → α → Prop} (n : Nat) (h : ∀ i, i < n → ∃ a, p i a) : ∃ l : List α, l.length = n ∧ ∀ i a, l[i]? = some a → p i a := by
  induction n with
  | zero => exact ⟨[], rfl, fun i a h => by simp at h⟩
  | succ n ih =>
    obtain ⟨l, h1, h2⟩ := ih (fun i hi => h i (by omega))
    obtain ⟨y, h3⟩ := h n (by omega)
    refine ⟨l ++ [y], by simp [h1], fun i a ha => ?_⟩
    by_cases hin : i < l.length
    · rw [List.getElem?_append_left hin] at ha
      exact h2 i a ha
    · have hi : i < (l ++ [y]).length := (List.getElem?_eq_some_iff.1 ha).1
      have : i = n := by simp at hi; omega
      subst this
      rw [List.getElem?_append_right (by omega), h1] at ha
      simp at ha
      exact ha ▸ h3

theorem opens_slice {α : Type} {r : RowRel α} {t e : TypeId} (ht : P.underlying t = some (.slice e)) (hc : P.cellsOf t = 1) (hk : 0 < r.k) (hb : 0 < P.bytesOf e) (he : Opens P e r) : Opens P t r.slice := by
  refine ⟨hc, fun H enc w base heldB fuel cs x h hz => ?_⟩
  rcases open_slice ht h with ⟨rfl, _⟩ | ⟨a, len, cap, m, n, D, Pl, rfl, _, hl, hm, hmm, rfl, hx⟩
  · exact ⟨[], none, 0, 0, rfl, Nat.le_refl _, by unfold maxLen; omega, by omega, rfl, fun h => absurd h (by omega)⟩
  · simp only [if_true] at hmm
    subst hmm
    have hw : ∀ y ∈ DataW.weights P t (.slice ((List.range len).map D) ((List.range (m - len)).map fun j => D (len + j))), y ≤ reachBytes := by simpa using hz
    have hlen : len ≤ 140737488355328 := by
      have := hw _ (by simp only [DataW.weights, ht]; exact List.mem_cons_self)
      simp only [List.length_map, List.length_range, reachBytes] at this
      have h2 : len * 1 ≤ (len + (m - len)) * P.bytesOf e := Nat.mul_le_mul (by omega) hb
      omega
    have hall : ∀ i, i < len → ∃ a', ∃ cs', (cs'.length = r.k ∧ ∀ j, j < r.k → w.cell? (a.add (i * r.k + j)) = cs'[j]?) ∧ r.R w w.heap.size cs' a' := by
      intro i hi
      obtain ⟨cs', h1, h2⟩ := hx i (by omega)
      have hwi : ((D i).weights P e).all (· ≤ reachBytes) = true := by
        rw [List.all_eq_true]
        intro y hy
        refine decide_eq_true (hw y ?_)
        simp only [DataW.weights, ht, List.mem_cons, List.mem_append]
        exact .inr (.inl (weightsAll_mem (List.mem_map.2 ⟨i, List.mem_range.2 hi, rfl⟩) y hy))
      obtain ⟨a', hR⟩ := he.2 H enc w base heldB n cs' _ h2 hwi
      rw [he.1] at h1
      obtain ⟨_, h3, h4⟩ := World.cells?_some h1
      exact ⟨a', cs', ⟨h3, fun j hj => by rw [← h4 j hj, Go.Deep.add_add]⟩, hR⟩
    obtain ⟨l, hll, hlr⟩ := list_of_all len hall
    refine ⟨l, some a, len, m, rfl, hl, hm, hlen, hll, fun hn => ?_⟩
    obtain ⟨cs0, ⟨h0l, h0⟩, _⟩ := hlr 0 _ (List.getElem?_eq_getElem (by omega))
    have h0 := h0 0 hk
    rw [List.getElem?_eq_getElem (by omega)] at h0
    obtain ⟨ab, ao, asp⟩ := a
    have hsp : asp = none := by simpa [Addr.add] using World.cell?_spot h0
    subst hsp
    refine ⟨ab, ao, rfl, block_lt_of_cell (a := ⟨ab, ao, none⟩) (by simpa [Addr.add] using h0), fun i y hy => ?_⟩
    obtain ⟨cs', ⟨h1, h2⟩, hR⟩ := hlr i y hy
    refine ⟨cs', fun j v hv => ?_, hR⟩
    have hj : j < r.k := by rw [← h1]; exact (List.getElem?_eq_some_iff.1 hv).1
    have := h2 j hj
    rw [Addr.add_mid] at this
    rw [Nat.add_assoc, this, hv]

theorem opens_bytes {t e : TypeId} (ht : P.underlying t = some (.slice e)) (he : P.underlying e = some (.int .u8)) (hc : P.cellsOf t = 1) (hce : P.cellsOf e = 1) (hb : 0 < P.bytesOf e) : Opens P t RowRel.bytes :=
  ⟨hc, fun H enc w base heldB fuel cs x h hz => by
    obtain ⟨a, ha⟩ := (opens_slice ht hc (by decide) hb (opens_byte he hce)).2 H enc w base heldB fuel cs x h hz
    exact ⟨a, RowRel.bytes_of_slice ha⟩⟩

theorem opens_via {α β : Type} {t : TypeId} {r : RowRel α} (f : β → α) (g : α → β) (hfg : ∀ a, f (g a) = a) (h : Opens P t r) : Opens P t (r.via f) :=
  ⟨h.1, fun H enc w base heldB fuel cs x h1 hz => by
    obtain ⟨a, ha⟩ := h.2 H enc w base heldB fuel cs x h1 hz
    exact ⟨g a, by show r.R _ _ _ (f (g a)); rw [hfg]; exact ha⟩⟩

/-- an argument that is one value -/
theorem Opens.arg {α : Type} {t : TypeId} {r : RowRel α} (h : Opens P t r) {H : Type} {enc : TypeId × Value → H} {w : World} {base : Nat} {heldB : Bool} {v : Value} {d : DataW H} {p : List MemPlace}
    (hd : DataW.Trod enc P w base (fun _ => true) heldB t v d p) (hz : (d.weights P t).all (· ≤ reachBytes) = true) : ∃ a, r.R w w.heap.size v.cells.toList a := by
  obtain ⟨fuel, hf⟩ := hd
  exact h.2 H enc w base heldB fuel _ _ hf hz
end
end Go.Proofs.YtoiffchhfnbooaaDoor

/-
  Plain mathematics of package pack: a number's bytes, the highest first; what bytes tell; texts as lists of bytes; what a reader answers and where it stands then. Nothing here speaks of a program.
-/
namespace Go.Proofs.YtoiffchhfnbooaaDoor
set_option linter.unusedVariables false
set_option linter.unusedSimpArgs false
set_option linter.unusedVariables false
set_option linter.unusedSimpArgs false

/-- k bytes of a number, the highest first -/
def encB : Nat → Nat → List Nat
  | 0, _ => []
  | k + 1, v => encB k (v / 256) ++ [v % 256]
/-- the number that bytes tell -/
def decB (l : List Nat) : Nat := l.foldl (fun a b => a * 256 + b) 0
/-- a number of bytes at most 2^62, else -1 -/
def numB (l : List Nat) : Int := if 4611686018427387904 < decB l then -1 else (decB l : Int)

theorem encB_length : ∀ (k v : Nat), (encB k v).length = k
  | 0, _ => rfl
  | k + 1, v => by rw [encB, List.length_append, encB_length k]; rfl
theorem encB_lt : ∀ (k v : Nat), ∀ x ∈ encB k v, x < 256
  | 0, _ => by intro x hx; cases hx
  | k + 1, v => by
    intro x hx
    rcases List.mem_append.1 hx with h | h
    · exact encB_lt k _ x h
    · rw [List.mem_singleton.1 h]; omega
theorem encB_front : ∀ (k v : Nat), encB (k + 1) v = (v / 256 ^ k % 256) :: encB k v
  | 0, v => by simp [encB]
  | k + 1, v => by
    have e : encB (k + 1) v = encB k (v / 256) ++ [v % 256] := rfl
    rw [encB, encB_front k (v / 256), Nat.div_div_eq_div_mul, ← Nat.pow_succ', List.cons_append, e]
theorem encB_mod : ∀ (k v : Nat), encB k (v % 256 ^ k) = encB k v
  | 0, _ => rfl
  | k + 1, v => by
    have h1 : v % 256 ^ (k + 1) / 256 = v / 256 % 256 ^ k := by rw [Nat.pow_succ', Nat.mod_mul_right_div_self]
    have h2 : v % 256 ^ (k + 1) % 256 = v % 256 := Nat.mod_mod_of_dvd _ ⟨256 ^ k, by rw [Nat.pow_succ']⟩
    rw [encB, encB, h1, h2, encB_mod k]
theorem decB_snoc (l : List Nat) (b : Nat) : decB (l ++ [b]) = decB l * 256 + b := by unfold decB; rw [List.foldl_append]; rfl
theorem decB_nil : decB [] = 0 := rfl
theorem snoc_ind {p : List Nat → Prop} (h0 : p []) (h1 : ∀ l b, p l → p (l ++ [b])) (l : List Nat) : p l := by
  have : ∀ r : List Nat, p r.reverse := by
    intro r
    induction r with
    | nil => exact h0
    | cons b r ih => rw [List.reverse_cons]; exact h1 _ _ ih
  have h := this l.reverse
  rwa [List.reverse_reverse] at h
theorem decB_lt (l : List Nat) : (∀ x ∈ l, x < 256) → decB l < 256 ^ l.length := by
  induction l using snoc_ind with
  | h0 => intro _; exact Nat.one_pos
  | h1 l b ih =>
    intro h
    have h1 := ih fun x hx => h x (List.mem_append_left _ hx)
    have h2 := h b (List.mem_append_right _ (List.mem_singleton_self b))
    rw [decB_snoc, List.length_append, List.length_singleton, Nat.pow_succ]
    omega
theorem decB_encB : ∀ (k v : Nat), v < 256 ^ k → decB (encB k v) = v
  | 0, v, h => by rw [Nat.pow_zero] at h; rw [encB, decB_nil]; omega
  | k + 1, v, h => by
    rw [encB, decB_snoc, decB_encB k (v / 256) (by rw [Nat.pow_succ'] at h; exact Nat.div_lt_of_lt_mul h)]
    omega
theorem encB_decB (l : List Nat) : (∀ x ∈ l, x < 256) → encB l.length (decB l) = l := by
  induction l using snoc_ind with
  | h0 => intro _; rfl
  | h1 l b ih =>
    intro h
    have h1 := ih fun x hx => h x (List.mem_append_left _ hx)
    have h2 := h b (List.mem_append_right _ (List.mem_singleton_self b))
    rw [List.length_append, List.length_singleton, encB, decB_snoc, show (decB l * 256 + b) / 256 = decB l by omega, h1, show (decB l * 256 + b) % 256 = b by omega]
theorem decB_append (l r : List Nat) : decB l * 256 ^ r.length ≤ decB (l ++ r) := by
  induction r using snoc_ind with
  | h0 => simp
  | h1 r b ih =>
    rw [← List.append_assoc, decB_snoc, List.length_append, List.length_singleton, Nat.pow_succ, ← Nat.mul_assoc]
    omega
/-- told at a byte too early: it will be too great -/
theorem decB_great (l : List Nat) (k : Nat) (hk : k < l.length) (h : 36028797018963968 ≤ decB (l.take k)) : 4611686018427387904 < decB l := by
  have h1 := decB_append (l.take k) (l.drop k)
  rw [List.take_append_drop, List.length_drop] at h1
  have h2 : 256 ^ 1 ≤ 256 ^ (l.length - k) := Nat.pow_le_pow_right (by omega) (by omega)
  have h3 : 36028797018963968 * 256 ^ 1 ≤ decB (l.take k) * 256 ^ (l.length - k) := Nat.mul_le_mul h h2
  omega

/-- the number that may be, next to any -/
def clampB (z : Int) : Nat := (min (max z 0) 4611686018427387904).toNat
theorem clampB_le (z : Int) : clampB z ≤ 4611686018427387904 := by unfold clampB; omega
/-- the bytes of numbers -/
def numsB (l : List Int) : List Nat := (l.map fun z => encB 8 (clampB z)).flatten
theorem numsB_nil : numsB [] = [] := rfl
theorem numsB_snoc (l : List Int) (z : Int) : numsB (l ++ [z]) = numsB l ++ encB 8 (clampB z) := by unfold numsB; simp
theorem numsB_cons (l : List Int) (z : Int) : numsB (z :: l) = encB 8 (clampB z) ++ numsB l := by unfold numsB; simp
theorem numsB_length : ∀ l : List Int, (numsB l).length = 8 * l.length
  | [] => rfl
  | z :: l => by rw [numsB_cons, List.length_append, encB_length, numsB_length l, List.length_cons]; omega

/-- a text's bytes as numbers, and back -/
def nats (s : ByteArray) : List Nat := s.data.toList.map (·.toNat)
def strOf (l : List Nat) : ByteArray := strOfNums (l.map fun x : Nat => (x : Int))
theorem nats_length (s : ByteArray) : (nats s).length = s.size := by unfold nats; rw [List.length_map, Array.length_toList]; rfl
theorem nats_lt (s : ByteArray) : ∀ x ∈ nats s, x < 256 := by
  intro x hx
  obtain ⟨b, _, rfl⟩ := List.mem_map.1 hx
  exact b.toNat_lt
theorem strOf_size (l : List Nat) : (strOf l).size = l.length := by unfold strOf; rw [strOfNums_size, List.length_map]
theorem strOf_data (l : List Nat) : (strOf l).data.toList = l.map UInt8.ofNat := by
  unfold strOf
  rw [strOfNums_data, List.map_map]
  rfl
theorem nats_strOf (l : List Nat) (h : ∀ x ∈ l, x < 256) : nats (strOf l) = l := by
  unfold nats
  rw [strOf_data, List.map_map]
  conv => rhs; rw [← List.map_id l]
  refine List.map_congr_left fun x hx => ?_
  have := h x hx
  simp [Nat.mod_eq_of_lt this]
theorem data_inj {a b : ByteArray} (h : a.data.toList = b.data.toList) : a = b := by
  cases a; cases b
  simp only at h
  rw [Array.toList_inj.1 h]
theorem strOf_nats (s : ByteArray) : strOf (nats s) = s := by
  refine data_inj ?_
  rw [strOf_data]
  unfold nats
  rw [List.map_map]
  conv => rhs; rw [← List.map_id s.data.toList]
  refine List.map_congr_left fun x _ => ?_
  simp
theorem strOf_inj {a b : List Nat} (ha : ∀ x ∈ a, x < 256) (hb : ∀ x ∈ b, x < 256) (h : strOf a = strOf b) : a = b := by
  rw [← nats_strOf a ha, ← nats_strOf b hb, h]
theorem strOf_to (l : List Nat) (n : Nat) : (strOf l).extract 0 n = strOf (l.take n) := by
  refine data_inj ?_
  rw [strOf_data, ByteArray.data_extract, Array.toList_extract, strOf_data]
  simp [List.map_take]
theorem strOf_from (l : List Nat) (n : Nat) (k : Nat) (hk : l.length ≤ k) : (strOf l).extract n k = strOf (l.drop n) := by
  refine data_inj ?_
  rw [strOf_data, ByteArray.data_extract, Array.toList_extract, strOf_data]
  rw [List.map_drop, List.extract_eq_take_drop, List.take_of_length_le]
  simp; omega
theorem strOf_eqb (a b : List Nat) (ha : ∀ x ∈ a, x < 256) (hb : ∀ x ∈ b, x < 256) : ((strOf a).toList == (strOf b).toList) = decide (a = b) := by
  rw [ByteArray.toList_eq, ByteArray.toList_eq]
  by_cases h : a = b
  · subst h; simp
  · have : ¬ (strOf a).data.toList = (strOf b).data.toList := fun e => h (strOf_inj ha hb (data_inj e))
    have h2 : ¬ (strOf a).data = (strOf b).data := fun e => this (by rw [e])
    simp [h, h2]

/-- the bytes of a text -/
def textB (s : List Nat) : List Nat := encB 4 (s.take 4096).length ++ s.take 4096
def textsB (l : List (List Nat)) : List Nat := (l.map textB).flatten
theorem textsB_nil : textsB [] = [] := rfl
theorem textsB_snoc (l : List (List Nat)) (s : List Nat) : textsB (l ++ [s]) = textsB l ++ textB s := by unfold textsB; simp
theorem textsB_cons (l : List (List Nat)) (s : List Nat) : textsB (s :: l) = textB s ++ textsB l := by unfold textsB; simp
theorem textB_length (s : List Nat) : (textB s).length ≤ 4100 := by
  unfold textB
  rw [List.length_append, encB_length, List.length_take]
  omega
theorem textsB_length : ∀ l : List (List Nat), (textsB l).length ≤ 4100 * l.length
  | [] => Nat.le_refl _
  | s :: l => by
    rw [textsB_cons, List.length_append, List.length_cons]
    have := textB_length s
    have := textsB_length l
    omega

/- a reader: the bytes that are left, its error (0: none) -/
def takeV (l : List Nat) (e n : Nat) : List Nat := if e = 0 ∧ n ≤ l.length then l.take n else []
def takeL (l : List Nat) (e n : Nat) : List Nat := if e = 0 ∧ n ≤ l.length then l.drop n else l
def takeE (l : List Nat) (e n : Nat) : Nat := if e = 0 ∧ l.length < n then 2 else e
def numV (l : List Nat) (e : Nat) : Nat := if 4611686018427387904 < decB (takeV l e 8) then 0 else decB (takeV l e 8)
def numE (l : List Nat) (e : Nat) : Nat := if 4611686018427387904 < decB (takeV l e 8) then 3 else takeE l e 8
def textV (l : List Nat) (e : Nat) : List Nat := if 4096 < decB (takeV l e 4) then [] else takeV (takeL l e 4) (takeE l e 4) (decB (takeV l e 4))
def textL (l : List Nat) (e : Nat) : List Nat := if 4096 < decB (takeV l e 4) then takeL l e 4 else takeL (takeL l e 4) (takeE l e 4) (decB (takeV l e 4))
def textE (l : List Nat) (e : Nat) : Nat := if 4096 < decB (takeV l e 4) then 4 else takeE (takeL l e 4) (takeE l e 4) (decB (takeV l e 4))
def countV (l : List Nat) (e : Nat) (most : Int) : Nat := if most < (numV l e : Int) then 0 else numV l e
def countE (l : List Nat) (e : Nat) (most : Int) : Nat := if numE l e = 0 ∧ most < (numV l e : Int) then 4 else numE l e
def failE (e : Nat) (bad : Bool) : Nat := if e = 0 ∧ bad = true then 3 else e
def doneE (l : List Nat) (e : Nat) : Nat := if e = 0 ∧ l ≠ [] then 3 else e

section
variable {l : List Nat} {e n : Nat}
theorem takeV_lt (h : ∀ x ∈ l, x < 256) : ∀ x ∈ takeV l e n, x < 256 := by
  unfold takeV
  split
  · exact fun x hx => h x (List.mem_of_mem_take hx)
  · intro x hx; cases hx
theorem takeL_lt (h : ∀ x ∈ l, x < 256) : ∀ x ∈ takeL l e n, x < 256 := by
  unfold takeL
  split
  · exact fun x hx => h x (List.mem_of_mem_drop hx)
  · exact h
theorem takeL_len : (takeL l e n).length ≤ l.length := by
  unfold takeL
  split
  · rw [List.length_drop]; omega
  · exact Nat.le_refl _
theorem takeV_len : (takeV l e n).length ≤ n := by
  unfold takeV
  split
  · rw [List.length_take]; omega
  · exact Nat.zero_le _
theorem takeV_err (h : takeE l e n ≠ 0) : takeV l e n = [] := by
  unfold takeE at h
  unfold takeV
  split
  · rename_i h2
    rw [if_neg (by omega)] at h
    exact absurd h2.1 h
  · rfl
theorem textL_lt (h : ∀ x ∈ l, x < 256) : ∀ x ∈ textL l e, x < 256 := by
  unfold textL
  split
  · exact takeL_lt h
  · exact takeL_lt (takeL_lt h)
theorem textL_len : (textL l e).length ≤ l.length := by
  unfold textL
  split
  · exact takeL_len
  · exact Nat.le_trans takeL_len takeL_len
theorem textV_lt (h : ∀ x ∈ l, x < 256) : ∀ x ∈ textV l e, x < 256 := by
  unfold textV
  split
  · intro x hx; cases hx
  · exact takeV_lt (takeL_lt h)
theorem takeE_stays (h : e ≠ 0) : takeE l e n = e := if_neg (by omega)
theorem takeL_stays (h : e ≠ 0) : takeL l e n = l := if_neg (by omega)
theorem takeV_stays (h : e ≠ 0) : takeV l e n = [] := if_neg (by omega)
theorem numV_stays (h : e ≠ 0) : numV l e = 0 := by unfold numV; rw [takeV_stays h]; rfl
theorem numE_stays (h : e ≠ 0) : numE l e = e := by unfold numE; rw [takeV_stays h, decB_nil, if_neg (by omega), takeE_stays h]
theorem textV_stays (h : e ≠ 0) : textV l e = [] := by unfold textV; rw [takeV_stays h, decB_nil, if_neg (by omega), takeE_stays h, takeV_stays h]
theorem textE_stays (h : e ≠ 0) : textE l e = e := by unfold textE; rw [takeV_stays h, decB_nil, if_neg (by omega), takeE_stays h, takeE_stays h]
/-- what was laid is read: a number -/
theorem num_back (v : Nat) (hv : v ≤ 4611686018427387904) (r : List Nat) : numV (encB 8 v ++ r) 0 = v ∧ takeL (encB 8 v ++ r) 0 8 = r ∧ numE (encB 8 v ++ r) 0 = 0 := by
  have hl : 8 ≤ (encB 8 v ++ r).length := by rw [List.length_append, encB_length]; omega
  have e1 : takeV (encB 8 v ++ r) 0 8 = encB 8 v := by
    unfold takeV
    rw [if_pos ⟨rfl, hl⟩]
    exact List.take_left' (encB_length 8 v)
  have e2 : decB (encB 8 v) = v := decB_encB 8 v (by omega)
  refine ⟨?_, ?_, ?_⟩
  · unfold numV; rw [e1, e2, if_neg (by omega)]
  · unfold takeL
    rw [if_pos ⟨rfl, hl⟩]
    exact List.drop_left' (encB_length 8 v)
  · unfold numE takeE; rw [e1, e2, if_neg (by omega), if_neg (by omega)]
/-- what was laid is read: a text -/
theorem text_back (s r : List Nat) : textV (textB s ++ r) 0 = s.take 4096 ∧ textL (textB s ++ r) 0 = r ∧ textE (textB s ++ r) 0 = 0 := by
  unfold textB
  have hq : (s.take 4096).length ≤ 4096 := by rw [List.length_take]; omega
  generalize s.take 4096 = q at hq
  rw [List.append_assoc]
  have hl : 4 ≤ (encB 4 q.length ++ (q ++ r)).length := by rw [List.length_append, encB_length]; omega
  have e1 : takeV (encB 4 q.length ++ (q ++ r)) 0 4 = encB 4 q.length := by
    unfold takeV
    rw [if_pos ⟨rfl, hl⟩]
    exact List.take_left' (encB_length 4 _)
  have e2 : decB (encB 4 q.length) = q.length := decB_encB 4 _ (by omega)
  have e3 : takeL (encB 4 q.length ++ (q ++ r)) 0 4 = q ++ r := by
    unfold takeL
    rw [if_pos ⟨rfl, hl⟩]
    exact List.drop_left' (encB_length 4 _)
  have e4 : takeE (encB 4 q.length ++ (q ++ r)) 0 4 = 0 := by unfold takeE; rw [if_neg (by omega)]
  have hl2 : q.length ≤ (q ++ r).length := by rw [List.length_append]; omega
  refine ⟨?_, ?_, ?_⟩
  · unfold textV; rw [e1, e2, if_neg (by omega), e3, e4]; unfold takeV; rw [if_pos ⟨rfl, hl2⟩, List.take_left]
  · unfold textL; rw [e1, e2, if_neg (by omega), e3, e4]; unfold takeL; rw [if_pos ⟨rfl, hl2⟩, List.drop_left]
  · unfold textE; rw [e1, e2, if_neg (by omega), e3, e4]; unfold takeE; rw [if_neg (by omega)]
end
end Go.Proofs.YtoiffchhfnbooaaDoor

/-
  Columns of values of one cell: what a slice of numbers or of texts holds, as a list. Nothing here speaks of a program.
-/
namespace Go.Proofs.YtoiffchhfnbooaaDoor
set_option linter.unusedVariables false
set_option linter.unusedSimpArgs false
set_option linter.unusedVariables false
set_option linter.unusedSimpArgs false
open Go.RowKit

/-- the slice (A, n) holds the values l, each laid by f, in a block below B -/
def Col {α : Type} (f : α → Value) (w : World) (B : Nat) (A : Option Addr) (n : Nat) (l : List α) : Prop :=
  l.length = n ∧ (0 < n → ∃ b o, A = some ⟨b, o, none⟩ ∧ b < B ∧ ∀ i a, l[i]? = some a → w.cell? ⟨b, o + i, none⟩ = some (f a))
section
variable {α : Type} {f : α → Value} {w w' : World} {B B' n : Nat} {A : Option Addr} {l : List α}
theorem Col.nil : Col f w B A 0 [] := ⟨rfl, fun h => absurd h (Nat.lt_irrefl _)⟩
theorem Col.keep (h : Col f w B A n l) (hk : ∀ p : Addr, p.block < B → w'.cell? p = w.cell? p) : Col f w' B A n l :=
  ⟨h.1, fun hn => by
    obtain ⟨b, o, e, hb, hc⟩ := h.2 hn
    exact ⟨b, o, e, hb, fun i a ha => (hk _ hb).trans (hc i a ha)⟩⟩
theorem Col.more (h : Col f w B A n l) (hB : B ≤ B') : Col f w B' A n l :=
  ⟨h.1, fun hn => by
    obtain ⟨b, o, e, hb, hc⟩ := h.2 hn
    exact ⟨b, o, e, by omega, hc⟩⟩
theorem Col.below (h : Col f w B A n l) (hb : Below B' w w') (hB : B ≤ B') : Col f w' B A n l := h.keep fun _ hp => hb.cell (by omega)
theorem Col.later (h : Col f w w.heap.size A n l) (hb : Below w.heap.size w w') : Col f w' w'.heap.size A n l := (h.below hb (Nat.le_refl _)).more hb.size
theorem Col.at_ {k : Nat} (h : Col f w B A n l) (hk : k < n) : ∃ b o a, A = some ⟨b, o, none⟩ ∧ b < B ∧ l[k]? = some a ∧ l.take (k + 1) = l.take k ++ [a] ∧ w.cell? ⟨b, o + k, none⟩ = some (f a) := by
  obtain ⟨b, o, e, hb, hc⟩ := h.2 (by omega)
  have hl : k < l.length := by rw [h.1]; exact hk
  exact ⟨b, o, l[k], e, hb, List.getElem?_eq_getElem hl, List.take_succ_eq_append_getElem hl, hc k _ (List.getElem?_eq_getElem hl)⟩
/-- one value alone in a new block -/
theorem Col.one (w : World) (f : α → Value) (a : α) (hf : (f a).oneCell' = true) (t : TypeId) :
    Col f (w.alloc (.cells #[f a] t)) (w.heap.size + 1) (some ⟨w.heap.size, 0, none⟩) 1 [a] := by
  refine ⟨rfl, fun _ => ⟨w.heap.size, 0, rfl, by omega, fun i x hx => ?_⟩⟩
  have hi : i < 1 := (List.getElem?_eq_some_iff.1 hx).1
  obtain rfl : i = 0 := by omega
  obtain rfl : a = x := by simpa using hx
  rw [cell_of_row _ _ _ _ _ _ (heap_alloc_new w _)]
  rfl
end
theorem Col.of_ints {w : World} {B : Nat} {A : Option Addr} {n c : Nat} {k : IntKind} {l : List Int} (h : (RowRel.int k).slice.R w B [.slice A n c] l) :
    Col (fun z => .int k z) w B A n l ∧ (∀ z ∈ l, (Lit.int k z).wf = true) ∧ n ≤ 140737488355328 := by
  obtain ⟨A1, n1, c1, e, h1, h2, h3, h4, h5⟩ := h
  injection e with e _
  injection e with e1 e2 e3
  subst e1; subst e2; subst e3
  refine ⟨⟨h4, fun hn => ?_⟩, ?_, h3⟩
  · obtain ⟨b, o, e, hb, hr⟩ := h5 hn
    refine ⟨b, o, e, hb, fun i a ha => ?_⟩
    obtain ⟨cs, hc, rfl, _⟩ := hr i a ha
    have := hc 0 _ rfl
    rwa [Nat.add_zero, show i * (RowRel.int k).k = i from Nat.mul_one i] at this
  · intro z hz
    obtain ⟨i, hi, rfl⟩ := List.mem_iff_getElem.1 hz
    obtain ⟨b, o, _, _, hr⟩ := h5 (by omega)
    obtain ⟨cs, _, _, hw⟩ := hr i _ (List.getElem?_eq_getElem hi)
    exact hw
theorem Col.of_strs {w : World} {B : Nat} {A : Option Addr} {n c : Nat} {l : List ByteArray} (h : RowRel.str.slice.R w B [.slice A n c] l) :
    Col Value.string w B A n l ∧ (∀ z ∈ l, z.size ≤ 140737488355328) ∧ n ≤ 140737488355328 := by
  obtain ⟨A1, n1, c1, e, h1, h2, h3, h4, h5⟩ := h
  injection e with e _
  injection e with e1 e2 e3
  subst e1; subst e2; subst e3
  refine ⟨⟨h4, fun hn => ?_⟩, ?_, h3⟩
  · obtain ⟨b, o, e, hb, hr⟩ := h5 hn
    refine ⟨b, o, e, hb, fun i a ha => ?_⟩
    obtain ⟨cs, hc, rfl, _⟩ := hr i a ha
    have := hc 0 _ rfl
    rwa [Nat.add_zero, show i * RowRel.str.k = i from Nat.mul_one i] at this
  · intro z hz
    obtain ⟨i, hi, rfl⟩ := List.mem_iff_getElem.1 hz
    obtain ⟨b, o, _, _, hr⟩ := h5 (by omega)
    obtain ⟨cs, _, _, hw⟩ := hr i _ (List.getElem?_eq_getElem hi)
    exact hw

theorem strCells_nats (s : ByteArray) : Lib.strCells s = (nats s).map bv := by
  unfold Lib.strCells nats bv
  rw [List.map_map]
  rfl
section
variable {P : Program}
/-- append(b, s...) -/
theorem wpList_append_str {ops : Array Oper} {rest : List Oper} {o : Oper} {a : Act} {w : World} {Q : Exit → Act → World → Prop} (hgd : o.guard = none) (s x : Operand) (t u : TypeId)
    (ho : o.op = .call { callee := .builtin .append, args := #[s, x], argTypes := #[t, u] }) {e : TypeId} (ht : P.underlying t = some (.slice e)) (hu : P.underlying u = some .string)
    (he : (P.info? e).map (fun i => (i.zero, i.size, i.bytes)) = some (some (.int .u8 0), 1, 1))
    (base : Nat) (A : Option Addr) (n c : Nat) (l : List Nat) (hs : a.eval s = .slice A n c) (hown : OwnB w base e A n c l)
    (z : ByteArray) (hx : a.eval x = .string z) (hnm : n + z.size ≤ 1000000000) (hbase : base ≤ w.heap.size)
    (h : ∀ A2 c2 w', OwnB w' base e A2 (n + z.size) c2 (l ++ nats z) → Below base w w' → w.grownBy w' (Value.slice A n c).ownBlock → wpList P ops Q rest (a.put o.dst (.slice A2 (n + z.size) c2)) w') : wpList P ops Q (o :: rest) a w := by
  obtain ⟨i, hi, hz, hsz, hby⟩ := info_parts he
  refine Lib.wpList_append_own_string w hgd s x t u ho base e i ht hu hi hz hsz hby (.slice A n c) n (l.map bv) hs hown.1 z hx (by unfold maxLen; omega) (by omega) hbase ?_
  intro v' w' h1 h2 _
  have hsh : ∃ A2 c2, v' = .slice A2 (n + z.size) c2 := by
    rcases h1.2 with ⟨rfl, h0⟩ | ⟨g, cap, cur, rfl, _⟩
    · rw [h0]; exact ⟨_, _, rfl⟩
    · exact ⟨_, _, rfl⟩
  obtain ⟨A2, c2, rfl⟩ := hsh
  refine h A2 c2 w' ⟨by rw [List.map_append, ← strCells_nats]; exact h1, fun y hy => ?_⟩ ((Below.refl _ _).grown h2 hbase (fun k hk => (hown.1.lt k hk).1)) h2
  exact (List.mem_append.1 hy).elim (hown.2 y) (nats_lt z y)

theorem run_loadCells_0 (w : World) (a : Addr) : (loadCells a 0).run P w = .ok #[] w := by simp [loadCells, loadCellsFrom]
/-- string(b) -/
theorem run_str_of_bytes {w : World} {B : Nat} {A : Option Addr} {n c : Nat} {l : List Nat} (h : Bytes w B A n l) {src dst e : TypeId} (hs : P.underlying src = some (.slice e)) (he : P.underlying e = some (.int .u8)) (hd : P.underlying dst = some .string) :
    (convert src dst (.slice A n c)).run P w = .ok (.string (strOf l)) w := by
  rcases Nat.eq_zero_or_pos n with h0 | h0
  · subst h0
    have hl : l = [] := List.eq_nil_of_length_eq_zero h.1
    subst hl
    cases A with
    | none => exact run_convert_bytes_nil w src e hs he 0 c dst hd
    | some a =>
      rw [run_convert_bytes_string w src dst e _ 0 c hs he hd, run_bytesToString w a 0 c [] (run_loadCells_0 w a)]
      rfl
  · obtain ⟨b, o, rfl, _, hc⟩ := h.2.2 h0
    refine run_convert_bytes_arg w src e hs he b o n c (l.map fun x : Nat => (x : Int)) (by rw [List.length_map, h.1]) (fun i hi => ?_) dst hd
    rw [hc i hi]
    unfold byteAt
    simp [List.getD_eq_getElem?_getD, List.getElem?_eq_getElem (show i < l.length by rw [h.1]; exact hi)]
end
/-- []byte(s): the bytes of a new block -/
theorem bytesWorld_bytes (w : World) (e : TypeId) (s : ByteArray) : Bytes (Lib.bytesWorld w e s) (w.heap.size + 1) (some ⟨w.heap.size, 0, none⟩) s.size (nats s) := by
  refine ⟨nats_length s, nats_lt s, fun _ => ⟨w.heap.size, 0, rfl, by omega, fun i hi => ?_⟩⟩
  rw [Nat.zero_add, Lib.bytesWorld_cell w e s i hi]
  unfold byteAt nats
  have : i < s.data.toList.length := by rw [Array.length_toList]; exact hi
  simp only [List.getD_eq_getElem?_getD, List.getElem?_map, List.getElem?_eq_getElem this, Option.getD_some, Option.map_some]
theorem bytesWorld_grown (w : World) (e : TypeId) (s : ByteArray) (row : Option Nat) : w.grownBy (Lib.bytesWorld w e s) row :=
  ⟨rfl, rfl, rfl, by rw [Lib.bytesWorld_size]; omega, fun k hk _ => Lib.bytesWorld_at_old w e s k hk⟩
theorem grownBy_trans {a w w' : World} {row : Option Nat} (h : a.grownBy w row) (k : w.grownBy w' row) : a.grownBy w' row :=
  ⟨k.os.trans h.os, k.tape.trans h.tape, k.output.trans h.output, Nat.le_trans h.size k.size, fun j hj hr => (k.block j (Nat.lt_of_lt_of_le hj h.size) hr).trans (h.block j hj hr)⟩
end Go.Proofs.YtoiffchhfnbooaaDoor

/-
  Contracts over package pack: copies of bytes, a number laid behind bytes, numbers and texts laid; and of the document's own answers.
-/
namespace Go.Proofs.YtoiffchhfnbooaaDoor
set_option linter.unusedVariables false
set_option linter.unusedSimpArgs false
open Go.RowKit

theorem info_u8 : (Tryd.prog.info? 5).map (fun i => (i.zero, i.size, i.bytes)) = some (some (.int .u8 0), 1, 1) := by kernel_rfl
/-- a new slice of bytes -/
def Made (base : Nat) (w0 : World) (n : Nat) (l : List Nat) (e : Ending) (w' : World) : Prop :=
  ∃ A' c', e = .returned (.slice A' n c') ∧ OwnB w' base 5 A' n c' l ∧ Below base w0 w'
theorem Bytes.one (w : World) {b : Nat} (hb : b < 256) (t : TypeId) : Bytes (w.alloc (.cells #[.int .u8 (b : Int)] t)) (w.heap.size + 1) (some ⟨w.heap.size, 0, none⟩) 1 [b] := by
  refine ⟨rfl, by simpa using hb, fun _ => ⟨w.heap.size, 0, rfl, by omega, fun i hi => ?_⟩⟩
  obtain rfl : i = 0 := by omega
  rw [cell_of_row _ _ _ _ _ _ (heap_alloc_new w _)]
  rfl
theorem OwnB.alloc {w : World} {base n c : Nat} {e : TypeId} {A : Option Addr} {l : List Nat} (h : OwnB w base e A n c l) (o : Obj) : OwnB (w.alloc o) base e A n c l := h.below ((Below.refl _ _).alloc (Nat.le_refl _) _)

set_option maxHeartbeats 400000 in
theorem cloneB_any (A : Option Addr) (n c : Nat) (l : List Nat) (w : World) (hl : Bytes w w.heap.size A n l) (hn : n ≤ 1000000000) :
    Calls Tryd.prog 20 #[.slice A n c] w (Made w.heap.size w n l) := by
  cases A with
  | none =>
    have h0 : n = 0 := by
      rcases Nat.eq_zero_or_pos n with h | h
      · exact h
      · obtain ⟨b, o, h', _⟩ := hl.2.2 h; cases h'
    subst h0
    have hl' : l = [] := List.eq_nil_of_length_eq_zero hl.1
    subst hl'
    have heq := fun W => Lib.run_eql_slice_nil (P := Tryd.prog) W 32 5 none 0 c 0 0 Tryd.underlying32
    go_enter Tryd.func20, Tryd.ntmps20
    go_wp2
    go_ret
    exact ⟨_, _, rfl, OwnB.nil, Below.refl _ _⟩
  | some a =>
    have heq := fun W => Lib.run_eql_slice_nil (P := Tryd.prog) W 32 5 (some a) n c 0 0 Tryd.underlying32
    go_enter Tryd.func20, Tryd.ntmps20
    go_wp2_with ((with_reducible show wpList _ _ _ (⟨some 7, _, _, _, _, _⟩ :: _) _ _); refine holdB ?_)
    refine heldB (wpList_append_bytes rfl (.tmp 5) (.tmp 6) 32 rfl Tryd.underlying32 info_u8 w.heap.size (some ⟨w.heap.size, 0, none⟩) 0 0 [] rfl (OwnB.empty w 5) w.heap.size (some a) n c l rfl
      (hl.below ((Below.refl _ _).alloc (Nat.le_refl _) _) (Nat.le_refl _)) (by omega) (by simp) ?_)
    intro A3 c3 w3 ho3 hb3 hg3
    clear hg3
    have hb3' : Below w.heap.size w w3 := ((Below.refl _ _).alloc (Nat.le_refl _) _).trans hb3
    rw [Nat.zero_add, List.nil_append] at ho3
    rw [Nat.zero_add]
    go_wp2
    go_ret
    exact ⟨_, _, rfl, ho3, hb3'⟩

set_option maxHeartbeats 400000 in
theorem lay_any (A : Option Addr) (n c k v base : Nat) (l : List Nat) (w : World) (hl : OwnB w base 5 A n c l) (hn : n + k ≤ 1000000000) (hk : k ≤ 8) (hv : v < 18446744073709551616) (hbase : base ≤ w.heap.size) :
    Calls Tryd.prog 21 #[.slice A n c, .int .i64 (k : Int), .int .u64 (v : Int)] w (Made base w (n + k) (l ++ encB k v)) := by
  have HV := hide hv
  clear hv
  go_enter Tryd.func21, Tryd.ntmps21
  go_wp2
  go_loopw [0, 7] (fun s t wr => ∃ m A' c', m ≤ k ∧ s = .slice A' (n + (k - m)) c' ∧ OwnB wr base 5 A' (n + (k - m)) c' (l ++ encB (k - m) (v / 256 ^ m)) ∧ t = .int .i64 (8 * (m : Int) - 8) ∧ Below base w wr) (fun _ t _ => (intOf t + 8).toNat)
  case atStart => exact ⟨k, A, c, Nat.le_refl _, by simp, by rw [Nat.sub_self]; simpa [encB] using hl, by go_num, Below.refl _ _⟩
  case round =>
    obtain ⟨m, A', c', hm, rfl, ho, rfl, hb⟩ := hrel
    by_cases h0 : m = 0
    · subst h0
      go_wp2
      go_ret
      refine ⟨A', c', rfl, ?_, hb⟩
      simpa using ho
    · obtain ⟨j, rfl⟩ : ∃ j, m = j + 1 := ⟨m - 1, by omega⟩
      have e1 : (8 * ((j + 1 : Nat) : Int) - 8) = 8 * (j : Int) := by omega
      rw [e1]
      have hbyte : (v : Int) / 2 ^ (8 * j) % 256 = ((v / 256 ^ j % 256 : Nat) : Int) := by
        rw [show (2 : Int) ^ (8 * j) = ((256 ^ j : Nat) : Int) by rw [Int.pow_mul]; simp]
        omega
      have HB := hide hbyte
      clear hbyte
      go_wp2_with ((with_reducible show wpList _ _ _ (⟨some 21, _, _, _, _, _⟩ :: _) _ _); refine holdB ?_)
      rw [HB.out]
      refine heldB (wpList_append_bytes rfl (.tmp 15) (.tmp 20) 32 rfl Tryd.underlying32 info_u8 base A' (n + (k - (j + 1))) c' _ rfl (ho.alloc _) _ _ 1 1 _ rfl (Bytes.one wr (Nat.mod_lt _ (by omega)) _) (by omega) (by have := hb.size; simp; omega) ?_)
      intro A3 c3 w3 ho3 hb3 hg3
      clear hg3
      have hbb : Below base w w3 := (hb.alloc (Nat.le_trans hbase hb.size) _).trans hb3
      have HL := hide (show k - j = k - (j + 1) + 1 by omega)
      go_wp2
      go_roundw
      case rel => exact ⟨j, A3, c3, by omega, by rw [HL.out]; rfl, by
        rw [HL.out, encB, Nat.div_div_eq_div_mul, ← Nat.pow_succ, ← List.append_assoc]
        exact ho3, by go_num, hbb⟩
      case measure => simp [intOf]; omega

theorem run_make_u8 (W : World) (k : Nat) (hk : k ≤ 1000000000) : (Instr.makeSlice 32 (.int .i64 (k : Int)) (.int .i64 (k : Int))).run Tryd.prog W = .ok (.slice (some ⟨W.heap.size, 0, none⟩) k k) (W.alloc (.cells (madeCells #[.int .u8 0] k) 5)) := by
  obtain ⟨i, hi, hz, hs, hby⟩ := info_parts info_u8
  have := run_make (P := Tryd.prog) W 32 5 i (.int .u8 0) Tryd.underlying32 hi hz .i64 .i64 (k : Int) (k : Int) (by omega) (by omega) (by rw [hby]; omega) (by omega)
  rw [hs, show (Value.int .u8 0).cells = #[.int .u8 0] from rfl] at this
  simpa using this
theorem OwnB.made (w : World) (k : Nat) (hk : k ≤ 1000000000) (e : TypeId) : OwnB (w.alloc (.cells (madeCells #[.int .u8 0] k) e)) w.heap.size e (some ⟨w.heap.size, 0, none⟩) k k (List.replicate k 0) := by
  refine ⟨⟨by simp, .inr ⟨w.heap.size, k, madeCells #[.int .u8 0] k, rfl, Nat.le_refl _, heap_alloc_new w _, Nat.le_refl _, by unfold maxLen; omega, ?_, ?_⟩⟩, ?_⟩
  · simp [size_madeCells]
  · apply List.ext_getElem?
    intro i
    by_cases hi : i < k
    · simp [madeCells, hi, bv, List.getElem?_take, Nat.mod_one]
    · rw [List.getElem?_eq_none (by simp [size_madeCells]; omega), List.getElem?_eq_none (by simp; omega)]
  · intro x hx
    rw [(List.mem_replicate.1 hx).2]
    omega
theorem set_front (j r v x : Nat) (hx : x = v / 256 ^ r % 256) : (List.replicate (j + 1) 0 ++ encB r v).set j x = List.replicate j 0 ++ encB (r + 1) v := by
  rw [encB_front, hx, List.replicate_succ', List.append_assoc, List.set_append_right _ _ (by simp)]
  simp

theorem decB_take (l : List Nat) (k : Nat) (h : k < l.length) : decB (l.take (k + 1)) = decB (l.take k) * 256 + byteAt l k := by rw [take_snoc' l k h, decB_snoc]
theorem clampB_neg {z : Int} (h : z < 0) : clampB z = 0 := by unfold clampB; omega
theorem clampB_mid {z : Int} (h0 : 0 ≤ z) (h1 : z ≤ 4611686018427387904) : clampB z = z.toNat := by unfold clampB; omega
theorem clampB_top {z : Int} (h : 4611686018427387904 < z) : clampB z = 4611686018427387904 := by unfold clampB; omega

/-- the first 4096 bytes of a text -/
def cutS (z : ByteArray) : ByteArray := z.extract 0 4096
theorem cutS_nats (z : ByteArray) : nats (cutS z) = (nats z).take 4096 := by
  have h := strOf_to (nats z) 4096
  rw [strOf_nats] at h
  unfold cutS
  rw [h, nats_strOf _ (fun x hx => nats_lt z x (List.mem_of_mem_take hx))]
theorem cutS_short {z : ByteArray} (h : z.size ≤ 4096) : cutS z = z := by
  rw [← strOf_nats (cutS z), cutS_nats, List.take_of_length_le (by rw [nats_length]; exact h), strOf_nats]
theorem cutS_size (z : ByteArray) : (cutS z).size = min 4096 z.size := by rw [← nats_length, cutS_nats, List.length_take, nats_length]
theorem textB_cut (z : ByteArray) : textB (nats z) = encB 4 (cutS z).size ++ nats (cutS z) := by unfold textB; rw [← cutS_nats, nats_length]

set_option maxHeartbeats 400000 in
/-- the same bytes? -/
theorem same3_any (A : Option Addr) (n c B : Nat) (l : List Nat) (A' : Option Addr) (n' c' B' : Nat) (l' : List Nat) (w : World) (hl : Bytes w B A n l) (hl' : Bytes w B' A' n' l') :
    Calls Tryd.prog 16 #[.slice A n c, .slice A' n' c'] w fun e w' => e = .returned (.bool (decide (l = l'))) ∧ w = w' := by
  have h1 := run_str_of_bytes (P := Tryd.prog) (c := c) hl Tryd.underlying32 Tryd.underlying5 Tryd.underlying9
  have h2 := run_str_of_bytes (P := Tryd.prog) (c := c') hl' Tryd.underlying32 Tryd.underlying5 Tryd.underlying9
  have he := strOf_eqb l l' hl.2.1 hl'.2.1
  generalize decide (l = l') = b at *
  go_enter Tryd.func16, Tryd.ntmps16
  go_wp2
  go_ret
  exact ⟨rfl, rfl⟩
end Go.Proofs.YtoiffchhfnbooaaDoor
