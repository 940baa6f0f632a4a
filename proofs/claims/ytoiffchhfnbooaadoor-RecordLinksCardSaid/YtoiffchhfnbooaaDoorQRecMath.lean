/-
  Records as plain data: what is made of a chain and an event, what bytes are read as, and how they link. Nothing here speaks of a program.
-/
import Derived.Test.YtoiffchhfnbooaaDoorQShaPad
import Derived.Test.YtoiffchhfnbooaaDoorQEventMath
import Derived.Test.YtoiffchhfnbooaaDoorQRowRel
import Derived.Test.YtoiffchhfnbooaaDoorQShaWalksB
import Derived.Deep.MidRow
import Derived.Test.YtoiffchhfnbooaaDoorQDateText
import Derived.Test.YtoiffchhfnbooaaDoorChecked
import Derived.Test.YtoiffchhfnbooaaDoorQBytes
import Derived.Lib.IndexBytes
import Derived.IntWalk
import Derived.OwnWalk
import Derived.BigQuiet
import Derived.Test.YtoiffchhfnbooaaDoorQUidsMath
import Derived.Test.YtoiffchhfnbooaaDoorQBoxMath
import Derived.Shelf.Small.Strs
import Derived.Shelf.Strings.Search1
import Derived.Shelf.Strings.Search2
import Derived.Shelf.Strings.Search3
import Derived.Shelf.Strings.Cut
import Derived.Shelf.Strings.Count
import Derived.Shelf.LaysM
import Derived.Shelf.Strings.Shaped
import Derived.Shelf.Strings.Split
import Derived.Shelf.Unicode.DecodeSlow
namespace Go.Proofs.YtoiffchhfnbooaaDoor
set_option linter.unusedVariables false
set_option linter.unusedSimpArgs false
set_option linter.unusedVariables false
set_option linter.unusedSimpArgs false

/-- a chain -/
structure Ch where
  head : List Nat
  count : Int
  deriving DecidableEq
def Ch.Ok (c : Ch) : Prop := c.head.length = 32 ∧ ∀ x ∈ c.head, x < 256
def ch0 : Ch := ⟨List.replicate 32 0, 0⟩
theorem ch0_ok : ch0.Ok := ⟨rfl, fun x hx => by have := List.eq_of_mem_replicate hx; omega⟩
def rightC (c : Ch) : Bool := decide (0 ≤ c.count) && decide (c.count ≤ 1099511627776)
theorem rightC_iff (c : Ch) : rightC c = true ↔ 0 ≤ c.count ∧ c.count ≤ 1099511627776 := by unfold rightC; simp
/-- what a record has -/
def recB (c : Ch) (e : Ev) : List Nat := c.head ++ encB 8 (clampB (c.count + 1)) ++ bytesE e
def grownC (c : Ch) (l : List Nat) : Ch := ⟨sumB l, c.count + 1⟩
theorem grownC_ok (c : Ch) (l : List Nat) : (grownC c l).Ok := ⟨sumB_length l, sumB_lt l⟩
def nextE (c : Ch) (e : Ev) : Nat := if rightC c = true ∧ encE e = 0 then (if c.count = 1099511627776 then 15 else 0) else 1
def nextB (c : Ch) (e : Ev) : List Nat := if nextE c e = 0 then recB c e else []
def nextC (c : Ch) (e : Ev) : Ch := if nextE c e = 0 then grownC c (recB c e) else ch0
theorem encE_0 {e : Ev} (h : encE e = 0) : rightE e = true ∧ encV e = bytesE e := by
  unfold encE at h
  cases hr : rightE e
  · rw [hr] at h; exact absurd h (by decide)
  · exact ⟨rfl, if_pos hr⟩
theorem nextE_0 {c : Ch} {e : Ev} (h : nextE c e = 0) : (0 ≤ c.count ∧ c.count < 1099511627776) ∧ rightE e = true := by
  unfold nextE at h
  by_cases h1 : rightC c = true ∧ encE e = 0
  · rw [if_pos h1] at h
    by_cases h2 : c.count = 1099511627776
    · rw [if_pos h2] at h; exact absurd h (by decide)
    · have := (rightC_iff c).1 h1.1
      exact ⟨⟨this.1, by omega⟩, (encE_0 h1.2).1⟩
  · rw [if_neg h1] at h; exact absurd h (by decide)
theorem nextC_ok (c : Ch) (e : Ev) : (nextC c e).Ok := by
  unfold nextC
  by_cases h : nextE c e = 0
  · rw [if_pos h]; exact grownC_ok _ _
  · rw [if_neg h]; exact ch0_ok
theorem nextC_count {c : Ch} {e : Ev} (h : nextE c e = 0) : (nextC c e).count = c.count + 1 := by unfold nextC; rw [if_pos h]; rfl
theorem recB_len {c : Ch} {e : Ev} (hc : c.Ok) : (recB c e).length = 40 + (bytesE e).length := by
  unfold recB
  rw [List.length_append, List.length_append, hc.1, encB_length]
/-- the bytes behind the head -/
def numR (l : List Nat) : Nat := numV (l.drop 32) 0
def badR (l : List Nat) : Bool := decide (numR l < 1) || decide (1099511627776 < numR l)
def errR (l : List Nat) : Nat := failE (numE (l.drop 32) 0) (badR l)
def restR (l : List Nat) : List Nat := takeL (l.drop 32) 0 8
def readE (l : List Nat) : Nat := if l.length < 32 then 2 else if errR l = 0 then decE (restR l) else errR l
def readC (l : List Nat) : Ch := if readE l = 0 then ⟨l.take 32, (numR l : Int) - 1⟩ else ch0
def readV (l : List Nat) : Ev := if readE l = 0 then decV (restR l) else bare 0 0
theorem readE_short {l : List Nat} (h : l.length < 32) : readE l = 2 := if_pos h
theorem readE_err {l : List Nat} (h : ¬ l.length < 32) (he : errR l ≠ 0) : readE l = errR l := by unfold readE; rw [if_neg h, if_neg he]
theorem readE_dec {l : List Nat} (h : ¬ l.length < 32) (he : errR l = 0) : readE l = decE (restR l) := by unfold readE; rw [if_neg h, if_pos he]
theorem readC_no {l : List Nat} (h : readE l ≠ 0) : readC l = ch0 := if_neg h
theorem readV_no {l : List Nat} (h : readE l ≠ 0) : readV l = bare 0 0 := if_neg h
theorem readC_yes {l : List Nat} (h : readE l = 0) : readC l = ⟨l.take 32, (numR l : Int) - 1⟩ := if_pos h
theorem readV_yes {l : List Nat} (h : readE l = 0) : readV l = decV (restR l) := if_pos h
theorem errR_0 {l : List Nat} (h : errR l = 0) : numE (l.drop 32) 0 = 0 ∧ 1 ≤ numR l ∧ numR l ≤ 1099511627776 := by
  unfold errR failE at h
  by_cases h1 : numE (l.drop 32) 0 = 0 ∧ badR l = true
  · rw [if_pos h1] at h; exact absurd h (by decide)
  · rw [if_neg h1] at h
    have h2 : badR l = false := by cases hb : badR l; rfl; exact absurd ⟨h, hb⟩ h1
    unfold badR at h2
    simp at h2
    exact ⟨h, by omega, by omega⟩
/-- a number that could be read has its eight bytes -/
theorem numE_0 {l : List Nat} (h : numE l 0 = 0) : 8 ≤ l.length := by
  unfold numE at h
  by_cases h1 : 4611686018427387904 < decB (takeV l 0 8)
  · rw [if_pos h1] at h; exact absurd h (by decide)
  · rw [if_neg h1] at h
    unfold takeE at h
    by_cases h2 : (0 : Nat) = 0 ∧ l.length < 8
    · rw [if_pos h2] at h; exact absurd h (by decide)
    · have : ¬ l.length < 8 := fun h3 => h2 ⟨rfl, h3⟩
      omega
theorem restR_drop {l : List Nat} (h : numE (l.drop 32) 0 = 0) : restR l = (l.drop 32).drop 8 := by
  unfold restR takeL
  rw [if_pos ⟨rfl, numE_0 h⟩]
theorem readC_ok {l : List Nat} (hl : ∀ x ∈ l, x < 256) : (readC l).Ok := by
  by_cases h : readE l = 0
  · rw [readC_yes h]
    have h1 : ¬ l.length < 32 := fun h2 => by rw [readE_short h2] at h; exact absurd h (by decide)
    exact ⟨by simp; omega, fun x hx => hl x (List.mem_of_mem_take hx)⟩
  · rw [readC_no h]; exact ch0_ok
theorem readC_count {l : List Nat} (h : readE l = 0) : 0 ≤ (readC l).count ∧ (readC l).count < 1099511627776 := by
  have h1 : ¬ l.length < 32 := fun h2 => by rw [readE_short h2] at h; exact absurd h (by decide)
  have h2 : errR l = 0 := by
    by_cases h3 : errR l = 0
    · exact h3
    · rw [readE_err h1 h3] at h; exact absurd h h3
  have h3 := errR_0 h2
  rw [readC_yes h]
  constructor
  · show (0 : Int) ≤ (numR l : Int) - 1
    omega
  · show (numR l : Int) - 1 < 1099511627776
    omega
/-- what links -/
def linkE (c : Ch) (l : List Nat) : Nat := if readE l = 0 then (if readC l = c then 0 else 11) else readE l
def linkC (c : Ch) (l : List Nat) : Ch := if linkE c l = 0 then grownC c l else ch0
def linkV (c : Ch) (l : List Nat) : Ev := if linkE c l = 0 then readV l else bare 0 0
theorem linkE_err {c : Ch} {l : List Nat} (h : readE l ≠ 0) : linkE c l = readE l ∧ linkC c l = ch0 ∧ linkV c l = bare 0 0 := by
  have h1 : linkE c l = readE l := if_neg h
  exact ⟨h1, if_neg (by rw [h1]; exact h), if_neg (by rw [h1]; exact h)⟩
theorem linkE_ne {c : Ch} {l : List Nat} (h : readE l = 0) (hc : readC l ≠ c) : linkE c l = 11 ∧ linkC c l = ch0 ∧ linkV c l = bare 0 0 := by
  have h1 : linkE c l = 11 := by unfold linkE; rw [if_pos h, if_neg hc]
  exact ⟨h1, if_neg (by rw [h1]; decide), if_neg (by rw [h1]; decide)⟩
theorem linkE_eq {c : Ch} {l : List Nat} (h : readE l = 0) (hc : readC l = c) : linkE c l = 0 ∧ linkC c l = grownC c l ∧ linkV c l = readV l := by
  have h1 : linkE c l = 0 := by unfold linkE; rw [if_pos h, if_pos hc]
  exact ⟨h1, if_pos h1, if_pos h1⟩
theorem linkE_0 {c : Ch} {l : List Nat} : linkE c l = 0 ↔ readE l = 0 ∧ readC l = c := by
  constructor
  · intro h
    unfold linkE at h
    by_cases h1 : readE l = 0
    · rw [if_pos h1] at h
      by_cases h2 : readC l = c
      · exact ⟨h1, h2⟩
      · rw [if_neg h2] at h; exact absurd h (by decide)
    · rw [if_neg h1] at h; exact absurd h h1
  · intro h; exact (linkE_eq h.1 h.2).1
/-- what is made is read as it was -/
theorem read_back {c : Ch} {e : Ev} (hc : c.Ok) (h : nextE c e = 0) (hb : ∀ y ∈ e.body, y < 256) : readE (recB c e) = 0 ∧ readC (recB c e) = c ∧ readV (recB c e) = e := by
  obtain ⟨⟨h0, h1⟩, h2⟩ := nextE_0 h
  have hcl : clampB (c.count + 1) = (c.count + 1).toNat := clampB_mid (by omega) (by omega)
  have hd : (recB c e).drop 32 = encB 8 (c.count + 1).toNat ++ bytesE e := by
    unfold recB
    rw [List.append_assoc, List.drop_append_of_le_length (by rw [hc.1]; exact Nat.le_refl _), List.drop_of_length_le (by rw [hc.1]; exact Nat.le_refl _), List.nil_append, hcl]
  have ht : (recB c e).take 32 = c.head := by
    unfold recB
    rw [List.append_assoc, List.take_append_of_le_length (by rw [hc.1]; exact Nat.le_refl _), List.take_of_length_le (by rw [hc.1]; exact Nat.le_refl _)]
  obtain ⟨n1, n2, n3⟩ := num_back (c.count + 1).toNat (by omega) (bytesE e)
  have hn : numR (recB c e) = (c.count + 1).toNat := by unfold numR; rw [hd, n1]
  have hr : restR (recB c e) = bytesE e := by unfold restR; rw [hd, n2]
  have hbad : badR (recB c e) = false := by
    unfold badR
    rw [hn]
    simp
    omega
  have he : errR (recB c e) = 0 := by
    unfold errR failE
    rw [hd, n3, hbad]
    rfl
  have hlen : ¬ (recB c e).length < 32 := by rw [recB_len hc]; omega
  have hdb := dec_back h2 hb
  have hE : readE (recB c e) = 0 := by rw [readE_dec hlen he, hr]; exact hdb.1
  refine ⟨hE, ?_, ?_⟩
  · rw [readC_yes hE, ht, hn]
    obtain ⟨hd, ct⟩ := c
    simp only [Ch.mk.injEq, true_and]
    simp only at h0 h1
    omega
  · rw [readV_yes hE, hr]
    exact hdb.2
theorem link_back {c : Ch} {e : Ev} (hc : c.Ok) (h : nextE c e = 0) (hb : ∀ y ∈ e.body, y < 256) : linkE c (recB c e) = 0 ∧ linkC c (recB c e) = nextC c e ∧ linkV c (recB c e) = e := by
  obtain ⟨h1, h2, h3⟩ := read_back hc h hb
  obtain ⟨l1, l2, l3⟩ := linkE_eq h1 h2
  exact ⟨l1, by rw [l2]; unfold nextC; rw [if_pos h], by rw [l3, h3]⟩
theorem recB_lt {c : Ch} {e : Ev} (hc : c.Ok) (hb : ∀ y ∈ bytesE e, y < 256) : ∀ x ∈ recB c e, x < 256 := by
  intro x hx
  unfold recB at hx
  rcases List.mem_append.1 hx with h | h
  · rcases List.mem_append.1 h with h | h
    · exact hc.2 x h
    · exact encB_lt _ _ x h
  · exact hb x h
end Go.Proofs.YtoiffchhfnbooaaDoor

/-
  What is made of one event behind the other, as plain data: each record links behind its own chain alone. Nothing here speaks of a program.
-/
namespace Go.Proofs.YtoiffchhfnbooaaDoor
set_option linter.unusedVariables false
set_option linter.unusedSimpArgs false
set_option linter.unusedVariables false
set_option linter.unusedSimpArgs false

structure Rc where
  c : { c : Ch // c.Ok }
  e : Ev
def Rc.bytes (r : Rc) : List Nat := recB r.c.1 r.e
def RcOk (l : List Rc) : Prop := ∀ (i : Nat) (r : Rc), l[i]? = some r → r.c.1.count = (i : Int) ∧ nextE r.c.1 r.e = 0 ∧ ∀ y ∈ r.e.body, y < 256
theorem RcOk.nil : RcOk [] := fun i r h => by simp at h
theorem RcOk.snoc {l : List Rc} (h : RcOk l) {r : Rc} (h1 : r.c.1.count = (l.length : Int)) (h2 : nextE r.c.1 r.e = 0) (h3 : ∀ y ∈ r.e.body, y < 256) : RcOk (l ++ [r]) := by
  intro i x hx
  by_cases hi : i < l.length
  · rw [List.getElem?_append_left hi] at hx
    exact h i x hx
  · rw [List.getElem?_append_right (by omega)] at hx
    have hil : i < l.length + 1 := by
      have := (List.getElem?_eq_some_iff.1 hx).1
      simp only [List.length_singleton] at this
      omega
    obtain rfl : i = l.length := by omega
    rw [Nat.sub_self] at hx
    cases hx
    exact ⟨h1, h2, h3⟩
theorem only_own {l : List Rc} (h : RcOk l) {i k : Nat} {a b : Rc} (ha : l[i]? = some a) (hb : l[k]? = some b) : linkE a.c.1 b.bytes = 0 ↔ i = k := by
  obtain ⟨a1, a2, a3⟩ := h i a ha
  obtain ⟨b1, b2, b3⟩ := h k b hb
  obtain ⟨r1, r2, r3⟩ := read_back b.c.2 b2 b3
  unfold Rc.bytes
  rw [linkE_0]
  constructor
  · rintro ⟨_, h2⟩
    rw [r2] at h2
    have h3 := congrArg Ch.count h2
    rw [a1, b1] at h3
    omega
  · rintro rfl
    rw [ha] at hb
    cases hb
    exact ⟨r1, r2⟩
theorem own_dec {l : List Rc} (h : RcOk l) {i k : Nat} {a b : Rc} (ha : l[i]? = some a) (hb : l[k]? = some b) : ((((linkE a.c.1 b.bytes : Nat) : Int) == 0) : Bool) = decide (i = k) := by
  have := only_own h ha hb
  rw [Bool.eq_iff_iff, decide_eq_true_eq, ← this]
  simp
end Go.Proofs.YtoiffchhfnbooaaDoor

/-
  Slices whose elements take k cells each (pairs, changes, ..): as lists; those of a call's own; append of one. Of any program.
-/
namespace Go.Proofs.YtoiffchhfnbooaaDoor
set_option linter.unusedVariables false
set_option linter.unusedSimpArgs false
set_option linter.unusedVariables false
set_option linter.unusedSimpArgs false
open Go.RowKit

/-- the slice (A, n) holds the elements of a list, k cells each, f says which, below block B -/
def ColK {α : Type} (k : Nat) (f : α → List Value) (w : World) (B : Nat) (A : Option Addr) (n : Nat) (l : List α) : Prop :=
  l.length = n ∧ (0 < n → ∃ b o, A = some ⟨b, o, none⟩ ∧ b < B ∧ ∀ i a, l[i]? = some a → w.rangeAt b (o + i * k) (f a))
theorem rangeAtK_keep {w w' : World} {b o : Nat} {cs : List Value} (h : w.rangeAt b o cs) (hk : ∀ i, w'.cell? ⟨b, i, none⟩ = w.cell? ⟨b, i, none⟩) : w'.rangeAt b o cs := fun j v hv => by rw [hk]; exact h j v hv
section
variable {α : Type} {k : Nat} {f : α → List Value} {w w' : World} {B B' n : Nat} {A : Option Addr} {l : List α}
theorem ColK.nil : ColK k f w B A 0 [] := ⟨rfl, fun h => absurd h (by omega)⟩
theorem ColK.keep (h : ColK k f w B A n l) (hk : ∀ p : Addr, p.block < B → w'.cell? p = w.cell? p) : ColK k f w' B A n l := by
  refine ⟨h.1, fun hn => ?_⟩
  obtain ⟨b, o, rfl, hb, hc⟩ := h.2 hn
  exact ⟨b, o, rfl, hb, fun i a ha => rangeAtK_keep (hc i a ha) (fun j => hk ⟨b, j, none⟩ hb)⟩
theorem ColK.more (h : ColK k f w B A n l) (hB : B ≤ B') : ColK k f w B' A n l := by
  refine ⟨h.1, fun hn => ?_⟩
  obtain ⟨b, o, rfl, hb, hc⟩ := h.2 hn
  exact ⟨b, o, rfl, by omega, hc⟩
theorem ColK.below (h : ColK k f w B A n l) (hb : Below B' w w') (hB : B ≤ B') : ColK k f w' B A n l := h.keep fun p hp => hb.cell (p := p) (by omega)
theorem ColK.later (h : ColK k f w w.heap.size A n l) (hb : Below w.heap.size w w') : ColK k f w' w'.heap.size A n l := (h.below hb (Nat.le_refl _)).more hb.size
theorem ColK.at_ {j : Nat} (h : ColK k f w B A n l) (hj : j < n) : ∃ b o a, A = some ⟨b, o, none⟩ ∧ b < B ∧ l[j]? = some a ∧ l.take (j + 1) = l.take j ++ [a] ∧ w.rangeAt b (o + j * k) (f a) := by
  obtain ⟨b, o, rfl, hb, hc⟩ := h.2 (by omega)
  have hl : j < l.length := by rw [h.1]; exact hj
  refine ⟨b, o, l[j], rfl, hb, List.getElem?_eq_getElem hl, ?_, hc j _ (List.getElem?_eq_getElem hl)⟩
  rw [List.take_add_one, List.getElem?_eq_getElem hl]; rfl
end

/-- a slice of one's own, from block base on, that holds the elements of a list, k cells each -/
def OwnK {α : Type} (k : Nat) (f : α → List Value) (w : World) (base : Nat) (e : TypeId) (A : Option Addr) (n c : Nat) (l : List α) : Prop :=
  w.ownsRow base e k (.slice A n c) n (l.flatMap f) ∧ l.length = n ∧ ∀ a, (f a).length = k
section
variable {α : Type} {k : Nat} {f : α → List Value} {w w' : World} {base n c : Nat} {e : TypeId} {A : Option Addr} {l : List α}
theorem flat_len (hk : ∀ a, (f a).length = k) (l : List α) : (l.flatMap f).length = l.length * k := by
  induction l with
  | nil => simp
  | cons a l ih => rw [List.flatMap_cons, List.length_append, ih, hk, List.length_cons, Nat.add_mul]; omega
theorem flat_get (hk : ∀ a, (f a).length = k) : ∀ (l : List α) (i : Nat) (a : α), l[i]? = some a → ∀ j v, (f a)[j]? = some v → (l.flatMap f)[i * k + j]? = some v
  | b :: l, 0, a, h, j, v, hv => by
    cases h
    have hj : j < (f b).length := (List.getElem?_eq_some_iff.1 hv).1
    rw [List.flatMap_cons, List.getElem?_append_left (by omega)]
    simpa using hv
  | b :: l, i + 1, a, h, j, v, hv => by
    rw [List.flatMap_cons, List.getElem?_append_right (by rw [hk, Nat.add_mul]; omega), hk, show (i + 1) * k + j - k = i * k + j by rw [Nat.add_mul]; omega]
    exact flat_get hk l i a h j v hv
theorem OwnK.nil (hk : ∀ a, (f a).length = k) : OwnK k f w base e none 0 0 [] := ⟨⟨by simp, .inl ⟨rfl, rfl⟩⟩, rfl, hk⟩
theorem OwnK.len (h : OwnK k f w base e A n c l) : l.length = n := h.2.1
theorem OwnK.below (h : OwnK k f w base e A n c l) (hb : Below w.heap.size w w') : OwnK k f w' base e A n c l := by
  refine ⟨⟨h.1.1, ?_⟩, h.2⟩
  rcases h.1.2 with h0 | ⟨g, cap, cur, hv, hg, hh, r⟩
  · exact .inl h0
  · exact .inr ⟨g, cap, cur, hv, hg, (hb.block g (Array.getElem?_eq_some_iff.1 hh).1).trans hh, r⟩
theorem OwnK.alloc (h : OwnK k f w base e A n c l) (o : Obj) : OwnK k f (w.alloc o) base e A n c l := h.below ((Below.refl _ _).alloc (Nat.le_refl _) _)
theorem OwnK.from_ {base' : Nat} (h : OwnK k f w base e A n c l) (hb : base' ≤ base) : OwnK k f w base' e A n c l := by
  refine ⟨⟨h.1.1, ?_⟩, h.2⟩
  rcases h.1.2 with h0 | ⟨g, cap, cur, hv, hg, r⟩
  · exact .inl h0
  · exact .inr ⟨g, cap, cur, hv, Nat.le_trans hb hg, r⟩
theorem OwnK.cap (h : OwnK k f w base e A n c l) : n ≤ c ∧ c ≤ maxLen := by
  rcases h.1.2 with ⟨hv, h0⟩ | ⟨g, cap, cur, hv, _, _, h1, h2, _⟩
  · injection hv with _ _ hc; subst hc; exact ⟨by omega, by unfold maxLen; omega⟩
  · injection hv with _ _ hc; subst hc; exact ⟨h1, h2⟩
theorem OwnK.block (h : OwnK k f w base e A n c l) (hn : 0 < n) : ∃ g cur, A = some ⟨g, 0, none⟩ ∧ base ≤ g ∧ w.heap[g]? = some (.cells cur e (0, 0)) ∧ cur.size = c * k ∧ cur.toList.take (n * k) = l.flatMap f := by
  rcases h.1.2 with ⟨_, h0⟩ | ⟨g, cap, cur, hv, hg, hh, h1, h2, h3, h4⟩
  · omega
  · injection hv with hA _ hc
    subst hA hc
    exact ⟨g, cur, rfl, hg, hh, h3, h4⟩
theorem OwnK.range (h : OwnK k f w base e A n c l) (hn : 0 < n) : ∃ g, A = some ⟨g, 0, none⟩ ∧ base ≤ g ∧ g < w.heap.size ∧ ∀ i a, l[i]? = some a → w.rangeAt g (i * k) (f a) := by
  obtain ⟨g, cur, rfl, hg, hh, hcs, htk⟩ := h.block hn
  refine ⟨g, rfl, hg, (Array.getElem?_eq_some_iff.1 hh).1, fun i a ha j v hv => ?_⟩
  have h1 := flat_get h.2.2 l i a ha j v hv
  have hi : i < l.length := (List.getElem?_eq_some_iff.1 ha).1
  have hj : j < k := by rw [← h.2.2 a]; exact (List.getElem?_eq_some_iff.1 hv).1
  rw [← htk, List.getElem?_take, if_pos (by
    have : (i + 1) * k ≤ n * k := Nat.mul_le_mul_right k (by rw [← h.len]; omega)
    rw [Nat.add_mul] at this; omega)] at h1
  rw [cell_of_row w g (i * k + j) cur e (0, 0) hh]
  simpa only [Array.getElem?_toList] using h1
theorem OwnK.col (h : OwnK k f w base e A n c l) : ColK k f w w.heap.size A n l := by
  refine ⟨h.len, fun hn => ?_⟩
  obtain ⟨g, rfl, _, hg, hr⟩ := h.range hn
  exact ⟨g, 0, rfl, hg, fun i a ha => by rw [Nat.zero_add]; exact hr i a ha⟩
end
section
variable {P : Program} {α : Type} {k : Nat} {f : α → List Value}
/-- append(s, v): the one element lies in a new block -/
theorem wpList_append_k {ops : Array Oper} {rest : List Oper} {o : Oper} {a : Act} {w : World} {Q : Exit → Act → World → Prop} (hgd : o.guard = none) (s x : Operand) (t : TypeId)
    (ho : o.op = .call { callee := .builtin .append, args := #[s, x], argTypes := #[t, t] }) {e : TypeId} (ht : P.underlying t = some (.slice e)) {zv : Value} {by_ : Nat}
    (he : (P.info? e).map (fun i => (i.zero, i.size, i.bytes)) = some (some zv, k, by_)) (hzc : zv.cells.size = k) (hk0 : 0 < k) (hby : by_ ≤ 100)
    (base : Nat) (A : Option Addr) (n c : Nat) (l : List α) (hs : a.eval s = .slice A n c) (hown : OwnK k f w base e A n c l)
    (b off : Nat) (v : α) (hx : a.eval x = .slice (some ⟨b, off, none⟩) 1 1) (hc : w.rangeAt b off (f v)) (hv : ∀ u ∈ f v, u.oneCell' = true) (hn : n ≤ 1000000) (hbase : base ≤ w.heap.size)
    (h : ∀ A2 c2 w', OwnK k f w' base e A2 (n + 1) c2 (l ++ [v]) → Below base w w' → w.grownBy w' (Value.slice A n c).ownBlock → wpList P ops Q rest (a.put o.dst (.slice A2 (n + 1) c2)) w') : wpList P ops Q (o :: rest) a w :=
  wpList_plain hgd fun _ hK => by
    obtain ⟨i, hi, hz, hs', hby'⟩ := info_parts he
    obtain ⟨v', w', hrun, h1, h2, _, _⟩ := run_append_own_at (P := P) w base t o.type e i zv k by_ ht hi hz hs' hby' hzc hk0 (.slice A n c) n (l.flatMap f) hown.1 ⟨b, off, none⟩ 1 1 (f v) (by rw [hown.2.2, Nat.one_mul])
      (fun j u hu => by rw [Addr.add_mid]; exact hc j u hu) hv (by unfold maxLen; omega) (Nat.le_trans (Nat.mul_le_mul_left _ hby) (by omega)) hbase
    have hsh : ∃ A2 c2, v' = .slice A2 (n + 1) c2 := by
      rcases h1.2 with ⟨rfl, h0⟩ | ⟨g, cap, cur, rfl, _⟩
      · omega
      · exact ⟨_, _, rfl⟩
    obtain ⟨A2, c2, rfl⟩ := hsh
    unfold Oper.wp execOp
    simp only [ho, resolve, invoke, builtin, Sem.run_bind, Sem.run_pure, Result.andThen_ok, List.map_toArray, List.map_cons, List.map_nil, hs, hx, hrun]
    refine hK _ _ (h A2 c2 w' ⟨?_, by rw [List.length_append, hown.len]; rfl, hown.2.2⟩ ((Below.refl _ _).grown h2 hbase (fun k hk => (hown.1.lt k hk).1)) h2)
    rw [List.flatMap_append, List.flatMap_singleton]
    exact h1
end
end Go.Proofs.YtoiffchhfnbooaaDoor

/-
  Texts as lists of bytes within a walk: added, in slices of a call's own, joined; a place where a walk stands. Of any program with texts.
-/
namespace Go.Proofs.YtoiffchhfnbooaaDoor
set_option linter.unusedVariables false
set_option linter.unusedSimpArgs false
open Go.RowKit
set_option linter.unusedVariables false
set_option linter.unusedSimpArgs false

theorem hold {p : Prop} (h : Hid p) : p := h
theorem held {p : Prop} (h : p) : Hid p := h
theorem post_over {Q : Exit → Act → World → Prop} {e : Exit} {a : Act} {W : World} (G : World → Prop) (hG : G W) (h : ∀ W', G W' → Q e a W') : Q e a W := h W hG
theorem code_over {P : Program} {c : Code} {a : Act} {W : World} {Q : Exit → Act → World → Prop} (G : World → Prop) (hG : G W) (h : ∀ W', G W' → c.wp P Q a W') : c.wp P Q a W := h W hG
theorem k_over {K : Act → World → Prop} {a : Act} {W : World} (G : World → Prop) (hG : G W) (h : ∀ W', G W' → K a W') : K a W := h W hG
theorem take_snoc_n (l : List Nat) (k x : Nat) (hx : l[k]? = some x) : l.take (k + 1) = l.take k ++ [x] := by rw [List.take_add_one, hx]; rfl
theorem take_snoc_l {α : Type} (l : List α) (k : Nat) (x : α) (hx : l[k]? = some x) : l.take (k + 1) = l.take k ++ [x] := by rw [List.take_add_one, hx]; rfl
theorem drewN_twice (w : World) (a b : Nat) : (w.drewN a).drewN b = w.drewN (a + b) := by unfold World.drewN; simp [Nat.add_assoc]
theorem below_drewN {B : Nat} {a w : World} (h : Below B a w) (q : Nat) : Below B a (w.drewN q) := ⟨h.os, h.tape, h.output, h.size, h.block⟩
theorem info_str : (Tryd.prog.info? 9).map (fun i => (i.zero, i.size, i.bytes)) = some (some (.string ByteArray.empty), 1, 16) := by kernel_rfl
theorem strOf_append (a b : List Nat) : strOf a ++ strOf b = strOf (a ++ b) := by
  refine data_inj ?_
  rw [ByteArray.data_append, Array.toList_append, strOf_data, strOf_data, strOf_data, List.map_append]
theorem add_str (x y : ByteArray) (a b : List Nat) (hx : x = strOf a) (hy : y = strOf b) (h : a.length + b.length ≤ 1000000000000) (W : World) : (Op.stringOp .add x y).run Tryd.prog W = .ok (.string (strOf (a ++ b))) W := by
  subst hx hy
  rw [run_string_add_sum _ _ _ (by rw [strOf_size, strOf_size]; omega), strOf_append]
theorem strOf_ne {l m : List Nat} (hl : ∀ x ∈ l, x < 256) (hm : ∀ x ∈ m, x < 256) (h : l ≠ m) : ((strOf l).toList == (strOf m).toList) = false := by
  rw [strOf_eqb l m hl hm]; exact decide_eq_false h
theorem strOf_one (s : ByteArray) (m : List Nat) (hm : ∀ x ∈ m, x < 256) : (s.toList == (strOf m).toList) = decide (nats s = m) := by
  have := strOf_eqb (nats s) m (nats_lt s) hm
  rwa [strOf_nats] at this

/-- texts in cells -/
def Strs (w : World) (b o : Nat) (l : List (List Nat)) : Prop := ∀ i p, l[i]? = some p → w.cell? ⟨b, o + i, none⟩ = some (.string (strOf p))
theorem Strs.keep {w w' : World} {b o : Nat} {l : List (List Nat)} (h : Strs w b o l) (hk : ∀ i, w'.cell? ⟨b, i, none⟩ = w.cell? ⟨b, i, none⟩) : Strs w' b o l := fun i p hp => by rw [hk]; exact h i p hp
theorem Strs.below {w w' : World} {b o B : Nat} {l : List (List Nat)} (h : Strs w b o l) (hb : Below B w w') (hB : b < B) : Strs w' b o l := h.keep fun i => hb.cell (p := ⟨b, i, none⟩) hB
def sv (p : List Nat) : Value := .string (strOf p)
/-- an own slice of texts -/
def OwnS (w : World) (base : Nat) (A : Option Addr) (n c : Nat) (l : List (List Nat)) : Prop := OwnV w base 9 A n c (l.map sv)
section
variable {w w' : World} {base n c : Nat} {A : Option Addr} {l : List (List Nat)}
theorem OwnS.len (h : OwnS w base A n c l) : l.length = n := by have := OwnV.len h; simpa using this
theorem OwnS.below (h : OwnS w base A n c l) (hb : Below w.heap.size w w') : OwnS w' base A n c l := OwnV.below h hb
theorem OwnS.cap (h : OwnS w base A n c l) : n ≤ c := by
  rcases h.2 with ⟨hv, h0⟩ | ⟨g, cap, cur, hv, _, _, hnc, _⟩
  · injection hv with _ _ hc; omega
  · injection hv with _ _ hc; omega
theorem OwnS.at_ (h : OwnS w base A n c l) (hn : 0 < n) : ∃ g, A = some ⟨g, 0, none⟩ ∧ base ≤ g ∧ g < w.heap.size ∧ Strs w g 0 l ∧ (∀ i, w.frozen? ⟨g, i, none⟩ = false) ∧
    ∀ i p, i < n → OwnS (w.setCell ⟨g, i, none⟩ (.string (strOf p))) base A n c (l.set i p) := by
  have hlen := h.len
  rcases h.2 with ⟨_, h0⟩ | ⟨g, cap, cur, hv, hg, hh, hnc, hcm, hcs, htk⟩
  · omega
  · injection hv with hA _ hc
    subst hA hc
    refine ⟨g, rfl, hg, (Array.getElem?_eq_some_iff.1 hh).1, fun i p hp => ?_, fun i => frozen_of_row w g i cur _ hh, fun i p hi => ?_⟩
    · have hil : i < l.length := (List.getElem?_eq_some_iff.1 hp).1
      rw [Nat.zero_add, cell_of_row w g i cur _ (0, 0) hh]
      have h2 := congrArg (·[i]?) htk
      simp only [List.getElem?_take, Nat.mul_one, List.getElem?_map, hp, Option.map_some] at h2
      rw [if_pos (by omega)] at h2
      have h3 : cur[i]? = some (sv p) := by simpa only [Array.getElem?_toList] using h2
      exact h3
    · refine ⟨by simp [hlen], .inr ⟨g, c, cur.setIfInBounds i (.string (strOf p)), rfl, hg, heap_setCell_same w g i cur _ _ hh, hnc, hcm, by simpa using hcs, ?_⟩⟩
      rw [Array.toList_setIfInBounds, List.take_set, htk, List.map_set]
      rfl
theorem OwnS.col (h : OwnS w base A n c l) : Col Value.string w w.heap.size A n (l.map strOf) := by
  refine ⟨by rw [List.length_map]; exact h.len, fun hn => ?_⟩
  obtain ⟨g, rfl, _, hg, hst, _, _⟩ := h.at_ hn
  refine ⟨g, 0, rfl, hg, fun i s hs => ?_⟩
  rw [List.getElem?_map] at hs
  obtain ⟨p, hp, rfl⟩ := Option.map_eq_some_iff.1 hs
  exact hst i p hp
end
theorem map_nats_strOf {l : List (List Nat)} (h : ∀ p ∈ l, ∀ x ∈ p, x < 256) : (l.map strOf).map nats = l := by
  rw [List.map_map]
  conv => rhs; rw [← List.map_id l]
  exact List.map_congr_left fun p hp => nats_strOf p (h p hp)
theorem splitGo_take {c : Nat} {l : List Nat} {k x : Nat} (hx : l[k]? = some x) : splitGo c [] (l.take (k + 1)) = if x = c then splitGo c [] (l.take k) ++ [[]] else (splitGo c [] (l.take k)).dropLast ++ [(splitGo c [] (l.take k)).getLastD [] ++ [x]] := by
  rw [take_snoc_n l k x hx]
  exact splitGo_snoc _ _ _
theorem last_set {α : Type} (l : List α) (x : α) (h : l ≠ []) : l.dropLast ++ [x] = l.set (l.length - 1) x := by
  obtain ⟨a, b, rfl⟩ : ∃ a b, l = a ++ [b] := ⟨l.dropLast, l.getLast h, (List.dropLast_concat_getLast h).symm⟩
  simp
theorem last_get (l : List (List Nat)) (h : l ≠ []) : l[l.length - 1]? = some (l.getLastD []) := by
  obtain ⟨a, b, rfl⟩ : ∃ a b, l = a ++ [b] := ⟨l.dropLast, l.getLast h, (List.dropLast_concat_getLast h).symm⟩
  simp
theorem le_sumT : ∀ {l : List Nat} {x : Nat}, x ∈ l → x ≤ l.sum
  | y :: l, x, h => by
    rw [List.sum_cons]
    rcases List.mem_cons.1 h with rfl | h
    · omega
    · have := le_sumT h
      omega
theorem splitL_small {c : Nat} {l : List Nat} : ∀ p ∈ splitL c l, p.length ≤ l.length := by
  intro p hp
  have h := splitL_sum c l
  have h1 : p.length ≤ ((splitL c l).map List.length).sum := le_sumT (List.mem_map.2 ⟨p, hp, rfl⟩)
  have h2 : 0 < (splitL c l).length := List.length_pos_of_mem hp
  omega
end Go.Proofs.YtoiffchhfnbooaaDoor

/-
  Contracts over package uids and the document's own: whether it is a set; equal lists; rising numbers.
-/
namespace Go.Proofs.YtoiffchhfnbooaaDoor
set_option linter.unusedVariables false
set_option linter.unusedSimpArgs false
open Go.RowKit
set_option linter.unusedVariables false
set_option linter.unusedSimpArgs false

def rgC (r : Rg) : List Value := [.int .i64 r.1, .int .i64 r.2]
theorem rgC_len (r : Rg) : (rgC r).length = 2 := rfl
def ints (z : Int) : Value := .int .i64 z

theorem rightU_short {l : List Rg} (h : l.length < 1) : rightU l = false := decide_eq_false fun e => by omega
theorem rightU_long {l : List Rg} (h : 60 < l.length) : rightU l = false := decide_eq_false fun e => by omega
theorem rightU_stop {l : List Rg} {k : Nat} {r : Rg} (hr : l[k]? = some r) (h : ¬ okR r) : rightU l = false := decide_eq_false fun e => h (e.2.2 r (List.mem_of_getElem? hr))
theorem rightU_yes {l : List Rg} (h1 : 1 ≤ l.length) (h2 : l.length ≤ 60) (h : ∀ r ∈ l, okR r) : rightU l = true := decide_eq_true ⟨h1, h2, h⟩
theorem okR_snoc {l : List Rg} {k : Nat} {r : Rg} (h : ∀ x ∈ l.take k, okR x) (ht : l.take (k + 1) = l.take k ++ [r]) (hr : okR r) : ∀ x ∈ l.take (k + 1), okR x := by
  rw [ht]
  intro x hx
  rcases List.mem_append.1 hx with h1 | h1
  · exact h x h1
  · rw [List.mem_singleton.1 h1]; exact hr

theorem eq_at {α : Type} {a b : List α} (hl : a.length = b.length) (k : Nat) (h : a.take k = b.take k) (hk : k = a.length) : a = b := by
  rwa [List.take_of_length_le (by omega), List.take_of_length_le (by omega)] at h
theorem ne_at {α : Type} {a b : List α} {k : Nat} {x y : α} (hx : a[k]? = some x) (hy : b[k]? = some y) (h : x ≠ y) : a ≠ b := fun e => h (by rw [e, hy] at hx; exact (Option.some.inj hx).symm)

set_option maxRecDepth 20000 in
set_option maxHeartbeats 2000000 in
theorem x9Ints_any (A B : Option Addr) (n c m d : Nat) (l r : List Int) (w : World) (hl : Col ints w w.heap.size A n l) (hr : Col ints w w.heap.size B m r) (hn : n ≤ 140737488355328) (hm : m ≤ 140737488355328) :
    Calls Tryd.prog 14 #[.slice A n c, .slice B m d] w fun e w' => e = .returned (.bool (decide (l = r))) ∧ ∃ q, w' = w.drewN q := by
  have HL := Lib.hid hl
  have HR := Lib.hid hr
  by_cases hnm : n = m
  · subst hnm
    have hne : ((n : Int) != (n : Int)) = false := by simp
    clear hl hr
    go_enter Tryd.func14, Tryd.ntmps14
    go_wp2_with fail
    go_loopw [5] (fun i wx => ∃ k q : Nat, k ≤ n ∧ i = .int .i64 (k : Int) ∧ l.take k = r.take k ∧ wx = w.drewN q) (fun i _ => n - (intOf i).toNat)
    case atStart => exact ⟨0, 0, Nat.zero_le _, rfl, rfl, rfl⟩
    case round =>
      obtain ⟨k, q, hk, rfl, hm, hw⟩ := hrel
      have HM := Lib.hid hm
      have HW := Lib.hid hw
      clear hm hw
      by_cases hlt : k < n
      · obtain ⟨b, o, x, rfl, hbb, hla, htk, hc⟩ := HL.out.at_ hlt
        obtain ⟨b2, o2, y, rfl, hbb2, hla2, htk2, hc2⟩ := HR.out.at_ hlt
        rw [show w.cell? ⟨b, o + k, none⟩ = wr.cell? ⟨b, o + k, none⟩ by rw [HW.out]; rfl] at hc
        rw [show w.cell? ⟨b2, o2 + k, none⟩ = wr.cell? ⟨b2, o2 + k, none⟩ by rw [HW.out]; rfl] at hc2
        have hk0 : (0 : Int) ≤ (k : Int) := by omega
        have hkn : (k : Int) < (n : Int) := by omega
        unfold ints at hc hc2
        have HA1 := Lib.hid hla
        have HA2 := Lib.hid hla2
        have HT1 := Lib.hid htk
        have HT2 := Lib.hid htk2
        clear hla hla2 htk htk2
        by_cases he : x = y
        · subst he
          have hxy : (x != x) = false := by simp
          have HN : Hid (l.take (k + 1) = r.take (k + 1)) := Lib.hid (by rw [HT1.out, HT2.out, HM.out])
          go_wp2_with fail
          go_quiet (fail)
          go_wp2_with fail
          go_roundw
          case rel => exact ⟨k + 1, _, by omega, by go_num, HN.out, by rw [HW.out]; exact drewN_twice _ _ _⟩
          case measure => simp [intOf]; omega
        · have hxy : (x != y) = true := by simp; exact he
          have HN : Hid (decide (l = r) = false) := Lib.hid (decide_eq_false (ne_at HA1.out HA2.out he))
          go_wp2_with fail
          go_quiet (fail)
          go_wp2_with fail
          go_ret
          exact ⟨by rw [HN.out] <;> rfl, _, by rw [HW.out]; exact drewN_twice _ _ _⟩
      · have HN : Hid (decide (l = r) = true) := Lib.hid (decide_eq_true (eq_at (HL.out.1.trans HR.out.1.symm) k HM.out (by rw [HL.out.1]; omega)))
        go_wp2_with fail
        go_ret
        exact ⟨by rw [HN.out] <;> rfl, _, HW.out⟩
  · have hne : ((n : Int) != (m : Int)) = true := by simp; omega
    have HN : Hid (decide (l = r) = false) := Lib.hid (decide_eq_false (fun e => hnm (by rw [← hl.1, ← hr.1, e])))
    clear hl hr
    go_enter Tryd.func14, Tryd.ntmps14
    go_wp2_with fail
    go_ret
    exact ⟨by rw [HN.out] <;> rfl, 0, rfl⟩
end Go.Proofs.YtoiffchhfnbooaaDoor

/-
  Contracts over packages flag and escheatref08: flags that may be; flags changed.
-/
namespace Go.Proofs.YtoiffchhfnbooaaDoor
set_option linter.unusedVariables false
set_option linter.unusedSimpArgs false
open Go.RowKit
set_option linter.unusedVariables false
set_option linter.unusedSimpArgs false

theorem okF_lo {f : Int} (h : ¬ 0 ≤ f) : okF f = false := decide_eq_false fun e => h e.1
theorem okF_hi {f : Int} (h : ¬ f ≤ 31) : okF f = false := decide_eq_false fun e => h e.2
theorem okF_yes {f : Int} (h : 0 ≤ f) (h2 : f ≤ 31) : okF f = true := decide_eq_true ⟨h, h2⟩
set_option maxHeartbeats 400000 in
theorem fright_any (f : Int) (w : World) : Calls Tryd.prog 45 #[.int .i64 f] w fun e w' => e = .returned (.bool (okF f)) ∧ w = w' := by
  by_cases h1 : 0 ≤ f
  · by_cases h2 : f ≤ 31
    · have HR := Lib.hid (okF_yes h1 h2)
      go_enter Tryd.func45, Tryd.ntmps45
      go_wp2
      go_ret
      exact ⟨by rw [HR.out] <;> rfl, rfl⟩
    · have HR := Lib.hid (okF_hi h2)
      go_enter Tryd.func45, Tryd.ntmps45
      go_wp2
      go_ret
      exact ⟨by rw [HR.out] <;> rfl, rfl⟩
  · have HR := Lib.hid (okF_lo h1)
    go_enter Tryd.func45, Tryd.ntmps45
    go_wp2
    go_ret
    exact ⟨by rw [HR.out] <;> rfl, rfl⟩
theorem ap_no1 {f m g : Int} (h : okF f = false) : apV f m g = 0 ∧ apE f m g = 1 := by
  unfold apV apE; rw [h]; simp
theorem ap_no2 {f m g : Int} (h : okF g = false) : apV f m g = 0 ∧ apE f m g = 1 := by
  unfold apV apE; rw [h]; simp
theorem ap_mode {f m g : Int} (hf : okF f = true) (hg : okF g = true) (h : ¬ (0 ≤ m ∧ m ≤ 2)) : apV f m g = 0 ∧ apE f m g = 1 := by
  unfold apV apE; rw [hf, hg, if_pos ⟨rfl, rfl⟩, if_neg (by omega), if_neg (by omega), if_neg (by omega), if_neg (fun e => h ⟨e.2.2.1, e.2.2.2⟩)]; exact ⟨rfl, rfl⟩
theorem ap_0 {f g : Int} (hf : okF f = true) (hg : okF g = true) : apV f 0 g = g ∧ apE f 0 g = 0 := by
  unfold apV apE; rw [hf, hg]; simp
theorem ap_1 {f g : Int} (hf : okF f = true) (hg : okF g = true) : apV f 1 g = bits .or .i64 f g ∧ apE f 1 g = 0 := by
  unfold apV apE; rw [hf, hg]; simp
theorem ap_2 {f g : Int} (hf : okF f = true) (hg : okF g = true) : apV f 2 g = bits .andNot .i64 f g ∧ apE f 2 g = 0 := by
  unfold apV apE; rw [hf, hg]; simp
end Go.Proofs.YtoiffchhfnbooaaDoor

/-
  The library's functions that package name calls, as this program holds them: the numbers of the functions and types that the contracts of the library's texts speak of.
-/
namespace Go.Proofs.YtoiffchhfnbooaaDoor
set_option linter.unusedVariables false
set_option linter.unusedSimpArgs false
open Go.Shelf
def nS137_ren : Go.Shelf.Ren := ⟨fun | 137 => 74 | 217 => 78 | 266 => 85 | n => n, fun | 9 => 9 | 5 => 5 | 3 => 3 | n => n, fun | n => n⟩
theorem nS137 : Go.Proofs.Lays.n137 Tryd.prog nS137_ren := {
  mixed := by kernel_rfl
  f137 := Tryd.func74.trans (congrArg some (by kernel_rfl))
  f217 := Tryd.func78.trans (congrArg some (by kernel_rfl))
  f266 := Tryd.func85.trans (congrArg some (by kernel_rfl))
  t3 := Tryd.underlying3
  a3 := Tryd.isAgg3
  z3 := Tryd.sizeOf3
  v3 := Tryd.zeroValue3
  t5 := Tryd.underlying5
  a5 := Tryd.isAgg5
  z5 := Tryd.sizeOf5
  v5 := Tryd.zeroValue5
  t9 := Tryd.underlying9
  a9 := Tryd.isAgg9
  z9 := Tryd.sizeOf9
  v9 := Tryd.zeroValue9 }
def nS219_ren : Go.Shelf.Ren := ⟨fun | 219 => 77 | 217 => 78 | 225 => 82 | 224 => 83 | 267 => 84 | 266 => 85 | 314 => 89 | n => n, fun | 9 => 9 | 3 => 3 | 4 => 4 | 5 => 5 | 46 => 95 | 146 => 120 | 51 => 74 | n => n, fun | 1 => 3 | n => n⟩
theorem nS219 : Go.Proofs.Lays.n219 Tryd.prog nS219_ren := {
  mixed := by kernel_rfl
  f217 := Tryd.func78.trans (congrArg some (by kernel_rfl))
  f219 := Tryd.func77.trans (congrArg some (by kernel_rfl))
  f224 := Tryd.func83.trans (congrArg some (by kernel_rfl))
  f225 := Tryd.func82.trans (congrArg some (by kernel_rfl))
  f266 := Tryd.func85.trans (congrArg some (by kernel_rfl))
  f267 := Tryd.func84.trans (congrArg some (by kernel_rfl))
  f314 := Tryd.func89.trans (congrArg some (by kernel_rfl))
  t3 := Tryd.underlying3
  a3 := Tryd.isAgg3
  z3 := Tryd.sizeOf3
  v3 := Tryd.zeroValue3
  t4 := Tryd.underlying4
  a4 := Tryd.isAgg4
  z4 := Tryd.sizeOf4
  v4 := Tryd.zeroValue4
  t5 := Tryd.underlying5
  a5 := Tryd.isAgg5
  z5 := Tryd.sizeOf5
  v5 := Tryd.zeroValue5
  t9 := Tryd.underlying9
  a9 := Tryd.isAgg9
  z9 := Tryd.sizeOf9
  v9 := Tryd.zeroValue9
  t46 := Tryd.underlying95
  a46 := Tryd.isAgg95
  z46 := Tryd.sizeOf95
  v46 := Tryd.zeroValue95
  t51 := Tryd.underlying74
  a51 := Tryd.isAgg74
  z51 := Tryd.sizeOf74
  v51 := Tryd.zeroValue74
  t146 := Tryd.underlying120
  a146 := Tryd.isAgg120
  z146 := Tryd.sizeOf120
  v146 := Tryd.zeroValue120
  g1 := by kernel_rfl }
def nS143_ren : Go.Shelf.Ren := ⟨fun | 143 => 81 | 219 => 77 | 217 => 78 | 225 => 82 | 224 => 83 | 267 => 84 | 266 => 85 | 314 => 89 | n => n, fun | 9 => 9 | 3 => 3 | 4 => 4 | 5 => 5 | 46 => 95 | 146 => 120 | 51 => 74 | n => n, fun | 1 => 3 | n => n⟩
theorem nS143 : Go.Proofs.Lays.n143 Tryd.prog nS143_ren := {
  mixed := by kernel_rfl
  f143 := Tryd.func81.trans (congrArg some (by kernel_rfl))
  f217 := Tryd.func78.trans (congrArg some (by kernel_rfl))
  f219 := Tryd.func77.trans (congrArg some (by kernel_rfl))
  f224 := Tryd.func83.trans (congrArg some (by kernel_rfl))
  f225 := Tryd.func82.trans (congrArg some (by kernel_rfl))
  f266 := Tryd.func85.trans (congrArg some (by kernel_rfl))
  f267 := Tryd.func84.trans (congrArg some (by kernel_rfl))
  f314 := Tryd.func89.trans (congrArg some (by kernel_rfl))
  t3 := Tryd.underlying3
  a3 := Tryd.isAgg3
  z3 := Tryd.sizeOf3
  v3 := Tryd.zeroValue3
  t4 := Tryd.underlying4
  a4 := Tryd.isAgg4
  z4 := Tryd.sizeOf4
  v4 := Tryd.zeroValue4
  t5 := Tryd.underlying5
  a5 := Tryd.isAgg5
  z5 := Tryd.sizeOf5
  v5 := Tryd.zeroValue5
  t9 := Tryd.underlying9
  a9 := Tryd.isAgg9
  z9 := Tryd.sizeOf9
  v9 := Tryd.zeroValue9
  t46 := Tryd.underlying95
  a46 := Tryd.isAgg95
  z46 := Tryd.sizeOf95
  v46 := Tryd.zeroValue95
  t51 := Tryd.underlying74
  a51 := Tryd.isAgg74
  z51 := Tryd.sizeOf74
  v51 := Tryd.zeroValue74
  t146 := Tryd.underlying120
  a146 := Tryd.isAgg120
  z146 := Tryd.sizeOf120
  v146 := Tryd.zeroValue120
  g1 := by kernel_rfl }
def nS138_ren : Go.Shelf.Ren := ⟨fun | 138 => 80 | 195 => 86 | 218 => 88 | 143 => 81 | 219 => 77 | 217 => 78 | 225 => 82 | 224 => 83 | 267 => 84 | 266 => 85 | 314 => 89 | n => n, fun | 9 => 9 | 3 => 3 | 4 => 4 | 5 => 5 | 0 => 0 | 46 => 95 | 146 => 120 | 51 => 74 | n => n, fun | 1 => 3 | n => n⟩
theorem nS138 : Go.Proofs.Lays.n138 Tryd.prog nS138_ren := {
  mixed := by kernel_rfl
  f138 := Tryd.func80.trans (congrArg some (by kernel_rfl))
  f143 := Tryd.func81.trans (congrArg some (by kernel_rfl))
  f195 := Tryd.func86.trans (congrArg some (by kernel_rfl))
  f217 := Tryd.func78.trans (congrArg some (by kernel_rfl))
  f218 := Tryd.func88.trans (congrArg some (by kernel_rfl))
  f219 := Tryd.func77.trans (congrArg some (by kernel_rfl))
  f224 := Tryd.func83.trans (congrArg some (by kernel_rfl))
  f225 := Tryd.func82.trans (congrArg some (by kernel_rfl))
  f266 := Tryd.func85.trans (congrArg some (by kernel_rfl))
  f267 := Tryd.func84.trans (congrArg some (by kernel_rfl))
  f314 := Tryd.func89.trans (congrArg some (by kernel_rfl))
  t0 := Tryd.underlying0
  a0 := Tryd.isAgg0
  z0 := Tryd.sizeOf0
  v0 := Tryd.zeroValue0
  t3 := Tryd.underlying3
  a3 := Tryd.isAgg3
  z3 := Tryd.sizeOf3
  v3 := Tryd.zeroValue3
  t4 := Tryd.underlying4
  a4 := Tryd.isAgg4
  z4 := Tryd.sizeOf4
  v4 := Tryd.zeroValue4
  t5 := Tryd.underlying5
  a5 := Tryd.isAgg5
  z5 := Tryd.sizeOf5
  v5 := Tryd.zeroValue5
  t9 := Tryd.underlying9
  a9 := Tryd.isAgg9
  z9 := Tryd.sizeOf9
  v9 := Tryd.zeroValue9
  t46 := Tryd.underlying95
  a46 := Tryd.isAgg95
  z46 := Tryd.sizeOf95
  v46 := Tryd.zeroValue95
  t51 := Tryd.underlying74
  a51 := Tryd.isAgg74
  z51 := Tryd.sizeOf74
  v51 := Tryd.zeroValue74
  t146 := Tryd.underlying120
  a146 := Tryd.isAgg120
  z146 := Tryd.sizeOf120
  v146 := Tryd.zeroValue120
  g1 := by kernel_rfl }
def nS221_ren : Go.Shelf.Ren := ⟨fun | 221 => 75 | 268 => 79 | 138 => 80 | 143 => 81 | 195 => 86 | 197 => 87 | 218 => 88 | 219 => 77 | 260 => 90 | 217 => 78 | 225 => 82 | 224 => 83 | 267 => 84 | 266 => 85 | 314 => 89 | n => n, fun | 9 => 9 | 3 => 3 | 31 => 90 | 4 => 4 | 0 => 0 | 105 => 118 | 21 => 21 | 5 => 5 | 46 => 95 | 119 => 122 | 139 => 125 | 138 => 124 | 146 => 120 | 51 => 74 | n => n, fun | 1 => 3 | 3 => 4 | 4 => 5 | n => n⟩
theorem nS221 : Go.Proofs.Lays.n221 Tryd.prog nS221_ren := {
  mixed := by kernel_rfl
  f138 := Tryd.func80.trans (congrArg some (by kernel_rfl))
  f143 := Tryd.func81.trans (congrArg some (by kernel_rfl))
  f195 := Tryd.func86.trans (congrArg some (by kernel_rfl))
  f197 := Tryd.func87.trans (congrArg some (by kernel_rfl))
  f217 := Tryd.func78.trans (congrArg some (by kernel_rfl))
  f218 := Tryd.func88.trans (congrArg some (by kernel_rfl))
  f219 := Tryd.func77.trans (congrArg some (by kernel_rfl))
  f221 := Tryd.func75.trans (congrArg some (by kernel_rfl))
  f224 := Tryd.func83.trans (congrArg some (by kernel_rfl))
  f225 := Tryd.func82.trans (congrArg some (by kernel_rfl))
  f260 := Tryd.func90.trans (congrArg some (by kernel_rfl))
  f266 := Tryd.func85.trans (congrArg some (by kernel_rfl))
  f267 := Tryd.func84.trans (congrArg some (by kernel_rfl))
  f268 := Tryd.func79.trans (congrArg some (by kernel_rfl))
  f314 := Tryd.func89.trans (congrArg some (by kernel_rfl))
  t0 := Tryd.underlying0
  a0 := Tryd.isAgg0
  z0 := Tryd.sizeOf0
  v0 := Tryd.zeroValue0
  t3 := Tryd.underlying3
  a3 := Tryd.isAgg3
  z3 := Tryd.sizeOf3
  v3 := Tryd.zeroValue3
  t4 := Tryd.underlying4
  a4 := Tryd.isAgg4
  z4 := Tryd.sizeOf4
  v4 := Tryd.zeroValue4
  t5 := Tryd.underlying5
  a5 := Tryd.isAgg5
  z5 := Tryd.sizeOf5
  v5 := Tryd.zeroValue5
  t9 := Tryd.underlying9
  a9 := Tryd.isAgg9
  z9 := Tryd.sizeOf9
  v9 := Tryd.zeroValue9
  t21 := Tryd.underlying21
  a21 := Tryd.isAgg21
  z21 := Tryd.sizeOf21
  v21 := Tryd.zeroValue21
  t31 := Tryd.underlying90
  a31 := Tryd.isAgg90
  z31 := Tryd.sizeOf90
  v31 := Tryd.zeroValue90
  t46 := Tryd.underlying95
  a46 := Tryd.isAgg95
  z46 := Tryd.sizeOf95
  v46 := Tryd.zeroValue95
  t51 := Tryd.underlying74
  a51 := Tryd.isAgg74
  z51 := Tryd.sizeOf74
  v51 := Tryd.zeroValue74
  t105 := Tryd.underlying118
  a105 := Tryd.isAgg118
  z105 := Tryd.sizeOf118
  v105 := Tryd.zeroValue118
  t119 := Tryd.underlying122
  a119 := Tryd.isAgg122
  z119 := Tryd.sizeOf122
  t138 := Tryd.underlying124
  a138 := Tryd.isAgg124
  z138 := Tryd.sizeOf124
  v138 := Tryd.zeroValue124
  t139 := Tryd.underlying125
  a139 := Tryd.isAgg125
  z139 := Tryd.sizeOf125
  v139 := Tryd.zeroValue125
  t146 := Tryd.underlying120
  a146 := Tryd.isAgg120
  z146 := Tryd.sizeOf120
  v146 := Tryd.zeroValue120
  g1 := by kernel_rfl
  g3 := by kernel_rfl
  g4 := by kernel_rfl }
def nS146_ren : Go.Shelf.Ren := ⟨fun | 146 => 70 | 221 => 75 | 268 => 79 | 138 => 80 | 143 => 81 | 195 => 86 | 197 => 87 | 218 => 88 | 219 => 77 | 260 => 90 | 217 => 78 | 225 => 82 | 224 => 83 | 267 => 84 | 266 => 85 | 314 => 89 | n => n, fun | 9 => 9 | 31 => 90 | 3 => 3 | 4 => 4 | 0 => 0 | 105 => 118 | 21 => 21 | 5 => 5 | 46 => 95 | 119 => 122 | 139 => 125 | 138 => 124 | 146 => 120 | 51 => 74 | n => n, fun | 1 => 3 | 3 => 4 | 4 => 5 | n => n⟩
theorem nS146 : Go.Proofs.Lays.n146 Tryd.prog nS146_ren := {
  mixed := by kernel_rfl
  f138 := Tryd.func80.trans (congrArg some (by kernel_rfl))
  f143 := Tryd.func81.trans (congrArg some (by kernel_rfl))
  f146 := Tryd.func70.trans (congrArg some (by kernel_rfl))
  f195 := Tryd.func86.trans (congrArg some (by kernel_rfl))
  f197 := Tryd.func87.trans (congrArg some (by kernel_rfl))
  f217 := Tryd.func78.trans (congrArg some (by kernel_rfl))
  f218 := Tryd.func88.trans (congrArg some (by kernel_rfl))
  f219 := Tryd.func77.trans (congrArg some (by kernel_rfl))
  f221 := Tryd.func75.trans (congrArg some (by kernel_rfl))
  f224 := Tryd.func83.trans (congrArg some (by kernel_rfl))
  f225 := Tryd.func82.trans (congrArg some (by kernel_rfl))
  f260 := Tryd.func90.trans (congrArg some (by kernel_rfl))
  f266 := Tryd.func85.trans (congrArg some (by kernel_rfl))
  f267 := Tryd.func84.trans (congrArg some (by kernel_rfl))
  f268 := Tryd.func79.trans (congrArg some (by kernel_rfl))
  f314 := Tryd.func89.trans (congrArg some (by kernel_rfl))
  t0 := Tryd.underlying0
  a0 := Tryd.isAgg0
  z0 := Tryd.sizeOf0
  v0 := Tryd.zeroValue0
  t3 := Tryd.underlying3
  a3 := Tryd.isAgg3
  z3 := Tryd.sizeOf3
  v3 := Tryd.zeroValue3
  t4 := Tryd.underlying4
  a4 := Tryd.isAgg4
  z4 := Tryd.sizeOf4
  v4 := Tryd.zeroValue4
  t5 := Tryd.underlying5
  a5 := Tryd.isAgg5
  z5 := Tryd.sizeOf5
  v5 := Tryd.zeroValue5
  t9 := Tryd.underlying9
  a9 := Tryd.isAgg9
  z9 := Tryd.sizeOf9
  v9 := Tryd.zeroValue9
  t21 := Tryd.underlying21
  a21 := Tryd.isAgg21
  z21 := Tryd.sizeOf21
  v21 := Tryd.zeroValue21
  t31 := Tryd.underlying90
  a31 := Tryd.isAgg90
  z31 := Tryd.sizeOf90
  v31 := Tryd.zeroValue90
  t46 := Tryd.underlying95
  a46 := Tryd.isAgg95
  z46 := Tryd.sizeOf95
  v46 := Tryd.zeroValue95
  t51 := Tryd.underlying74
  a51 := Tryd.isAgg74
  z51 := Tryd.sizeOf74
  v51 := Tryd.zeroValue74
  t105 := Tryd.underlying118
  a105 := Tryd.isAgg118
  z105 := Tryd.sizeOf118
  v105 := Tryd.zeroValue118
  t119 := Tryd.underlying122
  a119 := Tryd.isAgg122
  z119 := Tryd.sizeOf122
  t138 := Tryd.underlying124
  a138 := Tryd.isAgg124
  z138 := Tryd.sizeOf124
  v138 := Tryd.zeroValue124
  t139 := Tryd.underlying125
  a139 := Tryd.isAgg125
  z139 := Tryd.sizeOf125
  v139 := Tryd.zeroValue125
  t146 := Tryd.underlying120
  a146 := Tryd.isAgg120
  z146 := Tryd.sizeOf120
  v146 := Tryd.zeroValue120
  g1 := by kernel_rfl
  g3 := by kernel_rfl
  g4 := by kernel_rfl }
end Go.Proofs.YtoiffchhfnbooaaDoor

/-
  Contracts over the document's own names: bytes, forms, what is clean.
-/
namespace Go.Proofs.YtoiffchhfnbooaaDoor
set_option linter.unusedVariables false
set_option linter.unusedSimpArgs false
open Go.RowKit
set_option linter.unusedVariables false
set_option linter.unusedSimpArgs false

theorem form_stop {l : List Nat} {i : Nat} (hi : i < l.length) (h : spotB l i = false) : formB l = false := decide_eq_false fun e => by rw [e.2.2.1 i hi] at h; cases h
theorem form_all {l : List Nat} (h1 : 1 ≤ l.length) (h2 : l.length ≤ 40) (h : ∀ i, i < l.length → spotB l i = true) : formB l = decide (l.count 47 ≤ 3) := by
  unfold formB
  rw [Bool.eq_iff_iff, decide_eq_true_iff, decide_eq_true_iff]
  exact ⟨fun e => e.2.2.2, fun e => ⟨h1, h2, h, e⟩⟩
theorem getD_byte (s : ByteArray) (i : Nat) (h : i < s.size) : (nats s).getD i 0 = s[i].toNat := by rw [List.getD_eq_getElem?_getD, nats_byte s i h]; rfl
theorem count_take {l : List Nat} {k x : Nat} (h : l[k]? = some x) : (l.take (k + 1)).count 47 = (l.take k).count 47 + if x = 47 then 1 else 0 := by
  rw [take_snoc_n _ _ _ h, List.count_append, List.count_singleton]
  by_cases hx : x = 47 <;> simp [hx]

end Go.Proofs.YtoiffchhfnbooaaDoor

/-
  Contracts over the document's own names: what is clean, what is right, what is a pattern, joining.
-/
namespace Go.Proofs.YtoiffchhfnbooaaDoor
set_option linter.unusedVariables false
set_option linter.unusedSimpArgs false
open Go.RowKit
set_option linter.unusedVariables false
set_option linter.unusedSimpArgs false

theorem inbox_stop {l : List Nat} {k x d : Nat} (hk : k < 5) (hx : l[k]? = some x) (hd : inboxL[k]? = some d) (h : upC x ≠ d) : inboxB l = false := by
  refine decide_eq_false fun e => h ?_
  have e1 := congrArg (·[k]?) e.1
  simp only [List.getElem?_map, List.getElem?_take_of_lt hk, hx, hd, Option.map_some] at e1
  exact Option.some.inj e1
theorem inbox_short {l : List Nat} (h : l.length < 5) : inboxB l = false := decide_eq_false fun e => by
  have := congrArg List.length e.1
  rw [List.length_map, List.length_take] at this
  have h5 : inboxL.length = 5 := rfl
  omega
theorem inbox_more {l : List Nat} {x : Nat} (hl : 5 < l.length) (hx : l[5]? = some x) (h : x ≠ 47) : inboxB l = false := decide_eq_false fun e => by
  rcases e.2 with e2 | e2
  · omega
  · rw [hx] at e2; exact h (Option.some.inj e2)
theorem up_snoc {l : List Nat} {k x d : Nat} (h : (l.take k).map upC = inboxL.take k) (hx : l[k]? = some x) (hd : inboxL[k]? = some d) (he : upC x = d) : (l.take (k + 1)).map upC = inboxL.take (k + 1) := by
  rw [take_snoc_n _ _ _ hx, take_snoc_n _ _ _ hd, List.map_append, h, List.map_singleton, he]
theorem cleanV_same {s : ByteArray} (hf : formB (nats s) = true) (h : inboxB (nats s) = false) : strOf (cleanV (nats s)) = s := by
  unfold cleanV cleanN
  rw [if_pos hf, h, if_neg Bool.false_ne_true, strOf_nats]
theorem inboxNm : (⟨#[73, 78, 66, 79, 88]⟩ : ByteArray) = strOf inboxL := rfl

theorem right_eq {s : ByteArray} (hf : formB (nats s) = true) : rightN (nats s) = decide (strOf (cleanV (nats s)) = s) := by
  unfold rightN cleanV
  rw [if_pos hf, Bool.eq_iff_iff, decide_eq_true_iff, decide_eq_true_iff]
  constructor
  · rintro ⟨_, h⟩; rw [h, strOf_nats]
  · intro h
    have hlt : ∀ x ∈ cleanN (nats s), x < 256 := fun x hx => by
      have := plain_lt (form_mem (by rw [form_clean]; exact hf) x hx)
      omega
    exact ⟨hf, by rw [← nats_strOf _ hlt, h]⟩

end Go.Proofs.YtoiffchhfnbooaaDoor
