/-
  What cells holdB, as data of one's own: numbers, bools, texts, slices of rows, rows behind one another; kept over whatever leaves older blocks as they lay; and that what comes in as an argument holds such data. They speak of any program.
-/
import Derived.Test.YtkalnaidccgbiaaBytes
import Derived.ProofKit
import Derived.OpenShut
import Derived.ShutString
import Derived.ChangeOld
import Derived.Deep.Slices
import Derived.SizedLaws
namespace Go.Proofs.Ytkalnaidccgbiaa
set_option linter.unusedVariables false
set_option linter.unusedSimpArgs false
open Go.ChangeShapes Go.WideShapes Go.ChangeAt Go.RowKit Go.Deep

/-- what k cells holdB, in a world whose blocks below B are asked -/
structure RowRel (α : Type) where
  k : Nat
  R : World → Nat → List Value → α → Prop
  len : ∀ {w : World} {B : Nat} {cs : List Value} {a : α}, R w B cs a → cs.length = k
  keep : ∀ {w w' : World} {B : Nat} {cs : List Value} {a : α}, R w B cs a → (∀ p : Addr, p.block < B → w'.cell? p = w.cell? p) → R w' B cs a
  more : ∀ {w : World} {B B' : Nat} {cs : List Value} {a : α}, R w B cs a → B ≤ B' → R w B' cs a

namespace RowRel
variable {α β : Type}
theorem below (r : RowRel α) {w w' : World} {B B' : Nat} {cs : List Value} {a : α} (h : r.R w B cs a) (hb : Below B' w w') (hB : B ≤ B') : r.R w' B cs a := r.keep h fun _ hp => hb.cell (by omega)
theorem later (r : RowRel α) {w w' : World} {cs : List Value} {a : α} (h : r.R w w.heap.size cs a) (hb : Below w.heap.size w w') : r.R w' w'.heap.size cs a := r.more (r.below h hb (Nat.le_refl _)) hb.size

def int (k : IntKind) : RowRel Int where
  k := 1
  R := fun _ _ cs a => cs = [.int k a] ∧ (Lit.int k a).wf = true
  len := fun h => by rw [h.1]; rfl
  keep := fun h _ => h
  more := fun h _ => h
def byte : RowRel Nat where
  k := 1
  R := fun _ _ cs a => cs = [.int .u8 (a : Int)] ∧ a < 256
  len := fun h => by rw [h.1]; rfl
  keep := fun h _ => h
  more := fun h _ => h
def bool : RowRel Bool where
  k := 1
  R := fun _ _ cs a => cs = [.bool a]
  len := fun h => by rw [h]; rfl
  keep := fun h _ => h
  more := fun h _ => h
def str : RowRel ByteArray where
  k := 1
  R := fun _ _ cs a => cs = [.string a] ∧ a.size ≤ 140737488355328
  len := fun h => by rw [h.1]; rfl
  keep := fun h _ => h
  more := fun h _ => h
/-- the rows l from cell o of block b on -/
def rows (r : RowRel α) (w : World) (B b o : Nat) (l : List α) : Prop := ∀ i a, l[i]? = some a → ∃ cs, w.rangeAt b (o + i * r.k) cs ∧ r.R w B cs a
def slice (r : RowRel α) : RowRel (List α) where
  k := 1
  R := fun w B cs l => ∃ A n c, cs = [.slice A n c] ∧ n ≤ c ∧ c ≤ maxLen ∧ n ≤ 140737488355328 ∧ l.length = n ∧ (0 < n → ∃ b o, A = some ⟨b, o, none⟩ ∧ b < B ∧ r.rows w B b o l)
  len := fun h => by obtain ⟨A, n, c, rfl, _⟩ := h; rfl
  keep := fun h hk => by
    obtain ⟨A, n, c, e, h1, h2, h3, h4, h5⟩ := h
    refine ⟨A, n, c, e, h1, h2, h3, h4, fun hn => ?_⟩
    obtain ⟨b, o, e, hb, hr⟩ := h5 hn
    refine ⟨b, o, e, hb, fun i a ha => ?_⟩
    obtain ⟨cs, hc, hR⟩ := hr i a ha
    exact ⟨cs, fun j v hv => (hk _ hb).trans (hc j v hv), r.keep hR hk⟩
  more := fun h hB => by
    obtain ⟨A, n, c, e, h1, h2, h3, h4, h5⟩ := h
    refine ⟨A, n, c, e, h1, h2, h3, h4, fun hn => ?_⟩
    obtain ⟨b, o, e, hb, hr⟩ := h5 hn
    refine ⟨b, o, e, by omega, fun i a ha => ?_⟩
    obtain ⟨cs, hc, hR⟩ := hr i a ha
    exact ⟨cs, hc, r.more hR hB⟩
def pair (r : RowRel α) (s : RowRel β) : RowRel (α × β) where
  k := r.k + s.k
  R := fun w B cs x => ∃ c1 c2, cs = c1 ++ c2 ∧ r.R w B c1 x.1 ∧ s.R w B c2 x.2
  len := fun h => by obtain ⟨c1, c2, rfl, h1, h2⟩ := h; rw [List.length_append, r.len h1, s.len h2]
  keep := fun h hk => by obtain ⟨c1, c2, rfl, h1, h2⟩ := h; exact ⟨c1, c2, rfl, r.keep h1 hk, s.keep h2 hk⟩
  more := fun h hk => by obtain ⟨c1, c2, rfl, h1, h2⟩ := h; exact ⟨c1, c2, rfl, r.more h1 hk, s.more h2 hk⟩
/-- the same cells, as data of another form -/
def via (r : RowRel α) (f : β → α) : RowRel β where
  k := r.k
  R := fun w B cs b => r.R w B cs (f b)
  len := fun h => r.len h
  keep := fun h hk => r.keep h hk
  more := fun h hk => r.more h hk
/-- a slice of bytes -/
def bytes : RowRel (List Nat) where
  k := 1
  R := fun w B cs l => ∃ A n c, cs = [.slice A n c] ∧ n ≤ c ∧ c ≤ maxLen ∧ n ≤ 140737488355328 ∧ Bytes w B A n l
  len := fun h => by obtain ⟨A, n, c, rfl, _⟩ := h; rfl
  keep := fun h hk => by
    obtain ⟨A, n, c, e, h1, h2, h3, h4⟩ := h
    exact ⟨A, n, c, e, h1, h2, h3, h4.keep hk⟩
  more := fun h hB => by
    obtain ⟨A, n, c, e, h1, h2, h3, h4⟩ := h
    exact ⟨A, n, c, e, h1, h2, h3, h4.more hB⟩
theorem bytes_of_slice {w : World} {B : Nat} {cs : List Value} {l : List Nat} (h : byte.slice.R w B cs l) : bytes.R w B cs l := by
  obtain ⟨A, n, c, e, h1, h2, h3, h4, h5⟩ := h
  refine ⟨A, n, c, e, h1, h2, h3, h4, ?_, fun hn => ?_⟩
  · intro x hx
    obtain ⟨i, hi, rfl⟩ := List.mem_iff_getElem.1 hx
    obtain ⟨b, o, _, _, hr⟩ := h5 (by omega)
    obtain ⟨cs, _, _, hlt⟩ := hr i _ (List.getElem?_eq_getElem hi)
    exact hlt
  · obtain ⟨b, o, e, hb, hr⟩ := h5 hn
    refine ⟨b, o, e, hb, fun i hi => ?_⟩
    obtain ⟨cs, hc, rfl, hlt⟩ := hr i l[i] (List.getElem?_eq_getElem (by omega))
    have := hc 0 _ rfl
    rw [Nat.add_zero, show i * byte.k = i from Nat.mul_one i] at this
    rw [this]
    unfold byteAt
    simp [List.getElem?_eq_getElem (show i < l.length by omega)]
theorem bytes_of {w : World} {B : Nat} {A : Option Addr} {n c : Nat} {l : List Nat} (h : bytes.R w B [.slice A n c] l) : Bytes w B A n l ∧ n ≤ 140737488355328 := by
  obtain ⟨A', n', c', e, _, _, h3, h4⟩ := h
  injection e with e _
  injection e with e1 e2 e3
  subst e1; subst e2; subst e3
  exact ⟨h4, h3⟩
end RowRel

section
variable {P : Program}
/-- cells of type t that come in holdB data by r -/
def Opens {α : Type} (P : Program) (t : TypeId) (r : RowRel α) : Prop :=
  P.cellsOf t = r.k ∧ ∀ (H : Type) (enc : TypeId × Value → H) (w : World) (base : Nat) (heldB : Bool) (fuel : Nat) (cs : List Value) (x : DataW H × List MemPlace),
    DataW.trod enc P w base (fun _ => true) heldB fuel t cs = some x → (x.1.weights P t).all (· ≤ reachBytes) = true → ∃ a, r.R w w.heap.size cs a

theorem opens_int {t : TypeId} {k : IntKind} (ht : P.underlying t = some (.int k)) (hc : P.cellsOf t = 1) : Opens P t (RowRel.int k) :=
  ⟨hc, fun H enc w base heldB fuel cs x h _ => by
    obtain ⟨n, h1, _, h2⟩ := DataW.trod_int ht h
    exact ⟨n, h1, h2⟩⟩
theorem opens_byte {t : TypeId} (ht : P.underlying t = some (.int .u8)) (hc : P.cellsOf t = 1) : Opens P t RowRel.byte :=
  ⟨hc, fun H enc w base heldB fuel cs x h _ => by
    obtain ⟨n, h1, _, h2⟩ := DataW.trod_int ht h
    obtain ⟨b0, b1⟩ := bounds_u8 h2
    obtain ⟨k, rfl⟩ := Int.eq_ofNat_of_zero_le b0
    exact ⟨k, h1, by omega⟩⟩
theorem opens_bool {t : TypeId} (ht : P.underlying t = some .bool) (hc : P.cellsOf t = 1) : Opens P t RowRel.bool :=
  ⟨hc, fun H enc w base heldB fuel cs x h _ => by
    obtain ⟨n, h1, _⟩ := DataW.trod_bool ht h
    exact ⟨n, h1⟩⟩
theorem opens_str {t : TypeId} (ht : P.underlying t = some .string) (hc : P.cellsOf t = 1) : Opens P t RowRel.str :=
  ⟨hc, fun H enc w base heldB fuel cs x h hz => by
    obtain ⟨s, h1, h2, _⟩ := DataW.trod_string ht h
    subst h2
    have hz' : s.data.toList.length ≤ reachBytes := by simpa [DataW.weights] using hz
    have e : s.size = s.data.toList.length := (Array.length_toList (xs := s.data)).symm
    rw [← e] at hz'
    unfold reachBytes at hz'
    exact ⟨s, h1, by omega⟩⟩

theorem weightsAll_mem {H : Type} {P : Program} {e : TypeId} : ∀ {l : List (DataW H)} {d : DataW H}, d ∈ l → ∀ n ∈ d.weights P e, n ∈ DataW.weightsAll P e l
  | d' :: r, d, hd, n, hn => by
    simp only [DataW.weightsAll, List.mem_append]
    rcases List.mem_cons.1 hd with rfl | h
    · exact Or.inl hn
    · exact Or.inr (weightsAll_mem h n hn)

theorem list_of_all {α : Type} {p : Nat → α → Prop} (n : Nat) (h : ∀ i, i < n → ∃ a, p i a) : ∃ l : List α, l.length = n ∧ ∀ i a, l[i]? = some a → p i a := by
  induction n with
  | zero => exact ⟨[], rfl, fun i a h => by simp at h⟩
  | succ n ih =>
    obtain ⟨l, h1, h2⟩ := ih (fun i hi => h i (by omega))
    obtain ⟨y, h3⟩ := h n (by omega)
    refine ⟨l ++ [y], by simp [h1], fun i a ha => ?_⟩
    by_cases hin : i < l.length
    · rw [List.getElem?_append_left hin] at ha
      exact h2 i a ha
    · have hi : i < (l ++ [y]).length := (List.getElem?_eq_some_iff.1 ha).1
      have : i = n := by simp at hi; omega
      subst this
      rw [List.getElem?_append_right (by omega), h1] at ha
      simp at ha
      exact ha ▸ h3

theorem opens_slice {α : Type} {r : RowRel α} {t e : TypeId} (ht : P.underlying t = some (.slice e)) (hc : P.cellsOf t = 1) (hk : 0 < r.k) (hb : 0 < P.bytesOf e) (he : Opens P e r) : Opens P t r.slice := by
  refine ⟨hc, fun H enc w base heldB fuel cs x h hz => ?_⟩
  rcases open_slice ht h with ⟨rfl, _⟩ | ⟨a, len, cap, m, n, D, Pl, rfl, _, hl, hm, hmm, rfl, hx⟩
  · exact ⟨[], none, 0, 0, rfl, Nat.le_refl _, by unfold maxLen; omega, by omega, rfl, fun h => absurd h (by omega)⟩
  · simp only [if_true] at hmm
    subst hmm
    have hw : ∀ y ∈ DataW.weights P t (.slice ((List.range len).map D) ((List.range (m - len)).map fun j => D (len + j))), y ≤ reachBytes := by simpa using hz
    have hlen : len ≤ 140737488355328 := by
      have := hw _ (by simp only [DataW.weights, ht]; exact List.mem_cons_self)
      simp only [List.length_map, List.length_range, reachBytes] at this
      have h2 : len * 1 ≤ (len + (m - len)) * P.bytesOf e := Nat.mul_le_mul (by omega) hb
      omega
    have hall : ∀ i, i < len → ∃ a', ∃ cs', (cs'.length = r.k ∧ ∀ j, j < r.k → w.cell? (a.add (i * r.k + j)) = cs'[j]?) ∧ r.R w w.heap.size cs' a' := by
      intro i hi
      obtain ⟨cs', h1, h2⟩ := hx i (by omega)
      have hwi : ((D i).weights P e).all (· ≤ reachBytes) = true := by
        rw [List.all_eq_true]
        intro y hy
        refine decide_eq_true (hw y ?_)
        simp only [DataW.weights, ht, List.mem_cons, List.mem_append]
        exact .inr (.inl (weightsAll_mem (List.mem_map.2 ⟨i, List.mem_range.2 hi, rfl⟩) y hy))
      obtain ⟨a', hR⟩ := he.2 H enc w base heldB n cs' _ h2 hwi
      rw [he.1] at h1
      obtain ⟨_, h3, h4⟩ := World.cells?_some h1
      exact ⟨a', cs', ⟨h3, fun j hj => by rw [← h4 j hj, Go.Deep.add_add]⟩, hR⟩
    obtain ⟨l, hll, hlr⟩ := list_of_all len hall
    refine ⟨l, some a, len, m, rfl, hl, hm, hlen, hll, fun hn => ?_⟩
    obtain ⟨cs0, ⟨h0l, h0⟩, _⟩ := hlr 0 _ (List.getElem?_eq_getElem (by omega))
    have h0 := h0 0 hk
    rw [List.getElem?_eq_getElem (by omega)] at h0
    obtain ⟨ab, ao, asp⟩ := a
    have hsp : asp = none := by simpa [Addr.add] using World.cell?_spot h0
    subst hsp
    refine ⟨ab, ao, rfl, block_lt_of_cell (a := ⟨ab, ao, none⟩) (by simpa [Addr.add] using h0), fun i y hy => ?_⟩
    obtain ⟨cs', ⟨h1, h2⟩, hR⟩ := hlr i y hy
    refine ⟨cs', fun j v hv => ?_, hR⟩
    have hj : j < r.k := by rw [← h1]; exact (List.getElem?_eq_some_iff.1 hv).1
    have := h2 j hj
    rw [Addr.add_mid] at this
    rw [Nat.add_assoc, this, hv]

theorem opens_bytes {t e : TypeId} (ht : P.underlying t = some (.slice e)) (he : P.underlying e = some (.int .u8)) (hc : P.cellsOf t = 1) (hce : P.cellsOf e = 1) (hb : 0 < P.bytesOf e) : Opens P t RowRel.bytes :=
  ⟨hc, fun H enc w base heldB fuel cs x h hz => by
    obtain ⟨a, ha⟩ := (opens_slice ht hc (by decide) hb (opens_byte he hce)).2 H enc w base heldB fuel cs x h hz
    exact ⟨a, RowRel.bytes_of_slice ha⟩⟩

theorem opens_via {α β : Type} {t : TypeId} {r : RowRel α} (f : β → α) (g : α → β) (hfg : ∀ a, f (g a) = a) (h : Opens P t r) : Opens P t (r.via f) :=
  ⟨h.1, fun H enc w base heldB fuel cs x h1 hz => by
    obtain ⟨a, ha⟩ := h.2 H enc w base heldB fuel cs x h1 hz
    exact ⟨g a, by show r.R _ _ _ (f (g a)); rw [hfg]; exact ha⟩⟩

/-- an argument that is one value -/
theorem Opens.arg {α : Type} {t : TypeId} {r : RowRel α} (h : Opens P t r) {H : Type} {enc : TypeId × Value → H} {w : World} {base : Nat} {heldB : Bool} {v : Value} {d : DataW H} {p : List MemPlace}
    (hd : DataW.Trod enc P w base (fun _ => true) heldB t v d p) (hz : (d.weights P t).all (· ≤ reachBytes) = true) : ∃ a, r.R w w.heap.size v.cells.toList a := by
  obtain ⟨fuel, hf⟩ := hd
  exact h.2 H enc w base heldB fuel _ _ hf hz
end
end Go.Proofs.Ytkalnaidccgbiaa
