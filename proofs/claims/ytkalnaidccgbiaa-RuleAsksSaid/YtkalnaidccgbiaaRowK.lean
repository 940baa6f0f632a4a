/-
  Slices whose elements take k cells each (pairs, changes, ..): as lists; those of a call's own; append of one. Of any program.
-/
import Derived.Test.YtkalnaidccgbiaaOwnV
import Derived.Deep.MidRow
namespace Go.Proofs.Ytkalnaidccgbiaa
set_option linter.unusedVariables false
set_option linter.unusedSimpArgs false
open Go.RowKit

/-- the slice (A, n) holds the elements of a list, k cells each, f says which, below block B -/
def ColK {α : Type} (k : Nat) (f : α → List Value) (w : World) (B : Nat) (A : Option Addr) (n : Nat) (l : List α) : Prop :=
  l.length = n ∧ (0 < n → ∃ b o, A = some ⟨b, o, none⟩ ∧ b < B ∧ ∀ i a, l[i]? = some a → w.rangeAt b (o + i * k) (f a))
theorem rangeAtK_keep {w w' : World} {b o : Nat} {cs : List Value} (h : w.rangeAt b o cs) (hk : ∀ i, w'.cell? ⟨b, i, none⟩ = w.cell? ⟨b, i, none⟩) : w'.rangeAt b o cs := fun j v hv => by rw [hk]; exact h j v hv
section
variable {α : Type} {k : Nat} {f : α → List Value} {w w' : World} {B B' n : Nat} {A : Option Addr} {l : List α}
theorem ColK.nil : ColK k f w B A 0 [] := ⟨rfl, fun h => absurd h (by omega)⟩
theorem ColK.keep (h : ColK k f w B A n l) (hk : ∀ p : Addr, p.block < B → w'.cell? p = w.cell? p) : ColK k f w' B A n l := by
  refine ⟨h.1, fun hn => ?_⟩
  obtain ⟨b, o, rfl, hb, hc⟩ := h.2 hn
  exact ⟨b, o, rfl, hb, fun i a ha => rangeAtK_keep (hc i a ha) (fun j => hk ⟨b, j, none⟩ hb)⟩
theorem ColK.more (h : ColK k f w B A n l) (hB : B ≤ B') : ColK k f w B' A n l := by
  refine ⟨h.1, fun hn => ?_⟩
  obtain ⟨b, o, rfl, hb, hc⟩ := h.2 hn
  exact ⟨b, o, rfl, by omega, hc⟩
theorem ColK.below (h : ColK k f w B A n l) (hb : Below B' w w') (hB : B ≤ B') : ColK k f w' B A n l := h.keep fun p hp => hb.cell (p := p) (by omega)
theorem ColK.later (h : ColK k f w w.heap.size A n l) (hb : Below w.heap.size w w') : ColK k f w' w'.heap.size A n l := (h.below hb (Nat.le_refl _)).more hb.size
theorem ColK.at_ {j : Nat} (h : ColK k f w B A n l) (hj : j < n) : ∃ b o a, A = some ⟨b, o, none⟩ ∧ b < B ∧ l[j]? = some a ∧ l.take (j + 1) = l.take j ++ [a] ∧ w.rangeAt b (o + j * k) (f a) := by
  obtain ⟨b, o, rfl, hb, hc⟩ := h.2 (by omega)
  have hl : j < l.length := by rw [h.1]; exact hj
  refine ⟨b, o, l[j], rfl, hb, List.getElem?_eq_getElem hl, ?_, hc j _ (List.getElem?_eq_getElem hl)⟩
  rw [List.take_add_one, List.getElem?_eq_getElem hl]; rfl
end

/-- a slice of one's own, from block base on, that holds the elements of a list, k cells each -/
def OwnK {α : Type} (k : Nat) (f : α → List Value) (w : World) (base : Nat) (e : TypeId) (A : Option Addr) (n c : Nat) (l : List α) : Prop :=
  w.ownsRow base e k (.slice A n c) n (l.flatMap f) ∧ l.length = n ∧ ∀ a, (f a).length = k
section
variable {α : Type} {k : Nat} {f : α → List Value} {w w' : World} {base n c : Nat} {e : TypeId} {A : Option Addr} {l : List α}
theorem flat_len (hk : ∀ a, (f a).length = k) (l : List α) : (l.flatMap f).length = l.length * k := by
  induction l with
  | nil => simp
  | cons a l ih => rw [List.flatMap_cons, List.length_append, ih, hk, List.length_cons, Nat.add_mul]; omega
theorem flat_get (hk : ∀ a, (f a).length = k) : ∀ (l : List α) (i : Nat) (a : α), l[i]? = some a → ∀ j v, (f a)[j]? = some v → (l.flatMap f)[i * k + j]? = some v
  | b :: l, 0, a, h, j, v, hv => by
    cases h
    have hj : j < (f b).length := (List.getElem?_eq_some_iff.1 hv).1
    rw [List.flatMap_cons, List.getElem?_append_left (by omega)]
    simpa using hv
  | b :: l, i + 1, a, h, j, v, hv => by
    rw [List.flatMap_cons, List.getElem?_append_right (by rw [hk, Nat.add_mul]; omega), hk, show (i + 1) * k + j - k = i * k + j by rw [Nat.add_mul]; omega]
    exact flat_get hk l i a h j v hv
theorem OwnK.nil (hk : ∀ a, (f a).length = k) : OwnK k f w base e none 0 0 [] := ⟨⟨by simp, .inl ⟨rfl, rfl⟩⟩, rfl, hk⟩
theorem OwnK.len (h : OwnK k f w base e A n c l) : l.length = n := h.2.1
theorem OwnK.below (h : OwnK k f w base e A n c l) (hb : Below w.heap.size w w') : OwnK k f w' base e A n c l := by
  refine ⟨⟨h.1.1, ?_⟩, h.2⟩
  rcases h.1.2 with h0 | ⟨g, cap, cur, hv, hg, hh, r⟩
  · exact .inl h0
  · exact .inr ⟨g, cap, cur, hv, hg, (hb.block g (Array.getElem?_eq_some_iff.1 hh).1).trans hh, r⟩
theorem OwnK.alloc (h : OwnK k f w base e A n c l) (o : Obj) : OwnK k f (w.alloc o) base e A n c l := h.below ((Below.refl _ _).alloc (Nat.le_refl _) _)
theorem OwnK.from_ {base' : Nat} (h : OwnK k f w base e A n c l) (hb : base' ≤ base) : OwnK k f w base' e A n c l := by
  refine ⟨⟨h.1.1, ?_⟩, h.2⟩
  rcases h.1.2 with h0 | ⟨g, cap, cur, hv, hg, r⟩
  · exact .inl h0
  · exact .inr ⟨g, cap, cur, hv, Nat.le_trans hb hg, r⟩
theorem OwnK.cap (h : OwnK k f w base e A n c l) : n ≤ c ∧ c ≤ maxLen := by
  rcases h.1.2 with ⟨hv, h0⟩ | ⟨g, cap, cur, hv, _, _, h1, h2, _⟩
  · injection hv with _ _ hc; subst hc; exact ⟨by omega, by unfold maxLen; omega⟩
  · injection hv with _ _ hc; subst hc; exact ⟨h1, h2⟩
theorem OwnK.block (h : OwnK k f w base e A n c l) (hn : 0 < n) : ∃ g cur, A = some ⟨g, 0, none⟩ ∧ base ≤ g ∧ w.heap[g]? = some (.cells cur e (0, 0)) ∧ cur.size = c * k ∧ cur.toList.take (n * k) = l.flatMap f := by
  rcases h.1.2 with ⟨_, h0⟩ | ⟨g, cap, cur, hv, hg, hh, h1, h2, h3, h4⟩
  · omega
  · injection hv with hA _ hc
    subst hA hc
    exact ⟨g, cur, rfl, hg, hh, h3, h4⟩
theorem OwnK.range (h : OwnK k f w base e A n c l) (hn : 0 < n) : ∃ g, A = some ⟨g, 0, none⟩ ∧ base ≤ g ∧ g < w.heap.size ∧ ∀ i a, l[i]? = some a → w.rangeAt g (i * k) (f a) := by
  obtain ⟨g, cur, rfl, hg, hh, hcs, htk⟩ := h.block hn
  refine ⟨g, rfl, hg, (Array.getElem?_eq_some_iff.1 hh).1, fun i a ha j v hv => ?_⟩
  have h1 := flat_get h.2.2 l i a ha j v hv
  have hi : i < l.length := (List.getElem?_eq_some_iff.1 ha).1
  have hj : j < k := by rw [← h.2.2 a]; exact (List.getElem?_eq_some_iff.1 hv).1
  rw [← htk, List.getElem?_take, if_pos (by
    have : (i + 1) * k ≤ n * k := Nat.mul_le_mul_right k (by rw [← h.len]; omega)
    rw [Nat.add_mul] at this; omega)] at h1
  rw [cell_of_row w g (i * k + j) cur e (0, 0) hh]
  simpa only [Array.getElem?_toList] using h1
theorem OwnK.col (h : OwnK k f w base e A n c l) : ColK k f w w.heap.size A n l := by
  refine ⟨h.len, fun hn => ?_⟩
  obtain ⟨g, rfl, _, hg, hr⟩ := h.range hn
  exact ⟨g, 0, rfl, hg, fun i a ha => by rw [Nat.zero_add]; exact hr i a ha⟩
end
section
variable {P : Program} {α : Type} {k : Nat} {f : α → List Value}
/-- append(s, v): the one element lies in a new block -/
theorem wpList_append_k {ops : Array Oper} {rest : List Oper} {o : Oper} {a : Act} {w : World} {Q : Exit → Act → World → Prop} (hgd : o.guard = none) (s x : Operand) (t : TypeId)
    (ho : o.op = .call { callee := .builtin .append, args := #[s, x], argTypes := #[t, t] }) {e : TypeId} (ht : P.underlying t = some (.slice e)) {zv : Value} {by_ : Nat}
    (he : (P.info? e).map (fun i => (i.zero, i.size, i.bytes)) = some (some zv, k, by_)) (hzc : zv.cells.size = k) (hk0 : 0 < k) (hby : by_ ≤ 100)
    (base : Nat) (A : Option Addr) (n c : Nat) (l : List α) (hs : a.eval s = .slice A n c) (hown : OwnK k f w base e A n c l)
    (b off : Nat) (v : α) (hx : a.eval x = .slice (some ⟨b, off, none⟩) 1 1) (hc : w.rangeAt b off (f v)) (hv : ∀ u ∈ f v, u.oneCell' = true) (hn : n ≤ 1000000) (hbase : base ≤ w.heap.size)
    (h : ∀ A2 c2 w', OwnK k f w' base e A2 (n + 1) c2 (l ++ [v]) → Below base w w' → w.grownBy w' (Value.slice A n c).ownBlock → wpList P ops Q rest (a.put o.dst (.slice A2 (n + 1) c2)) w') : wpList P ops Q (o :: rest) a w :=
  wpList_plain hgd fun _ hK => by
    obtain ⟨i, hi, hz, hs', hby'⟩ := info_parts he
    obtain ⟨v', w', hrun, h1, h2, _, _⟩ := run_append_own_at (P := P) w base t o.type e i zv k by_ ht hi hz hs' hby' hzc hk0 (.slice A n c) n (l.flatMap f) hown.1 ⟨b, off, none⟩ 1 1 (f v) (by rw [hown.2.2, Nat.one_mul])
      (fun j u hu => by rw [Addr.add_mid]; exact hc j u hu) hv (by unfold maxLen; omega) (Nat.le_trans (Nat.mul_le_mul_left _ hby) (by omega)) hbase
    have hsh : ∃ A2 c2, v' = .slice A2 (n + 1) c2 := by
      rcases h1.2 with ⟨rfl, h0⟩ | ⟨g, cap, cur, rfl, _⟩
      · omega
      · exact ⟨_, _, rfl⟩
    obtain ⟨A2, c2, rfl⟩ := hsh
    unfold Oper.wp execOp
    simp only [ho, resolve, invoke, builtin, Sem.run_bind, Sem.run_pure, Result.andThen_ok, List.map_toArray, List.map_cons, List.map_nil, hs, hx, hrun]
    refine hK _ _ (h A2 c2 w' ⟨?_, by rw [List.length_append, hown.len]; rfl, hown.2.2⟩ ((Below.refl _ _).grown h2 hbase (fun k hk => (hown.1.lt k hk).1)) h2)
    rw [List.flatMap_append, List.flatMap_singleton]
    exact h1
end
end Go.Proofs.Ytkalnaidccgbiaa
