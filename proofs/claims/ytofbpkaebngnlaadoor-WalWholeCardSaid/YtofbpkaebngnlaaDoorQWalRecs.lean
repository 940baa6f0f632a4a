/-
  Contracts over package wal: the records of a half.
-/
import Derived.Test.YtofbpkaebngnlaaDoorQWalGen
import Derived.Test.YtofbpkaebngnlaaDoorQBytes
namespace Go.Proofs.YtofbpkaebngnlaaDoor
set_option linter.unusedVariables false
set_option linter.unusedSimpArgs false
set_option linter.unusedVariables false
set_option linter.unusedSimpArgs false
open Go.RowKit

section
variable {P : Program}
/-- append(s, v): what lies in blocks of other types stays -/
theorem wpList_append_oneT {ops : Array Oper} {rest : List Oper} {o : Oper} {a : Act} {w : World} {Q : Exit → Act → World → Prop} (hgd : o.guard = none) (s x : Operand) (t : TypeId)
    (ho : o.op = .call { callee := .builtin .append, args := #[s, x], argTypes := #[t, t] }) {e : TypeId} (ht : P.underlying t = some (.slice e)) {zv : Value} {by_ : Nat}
    (he : (P.info? e).map (fun i => (i.zero, i.size, i.bytes)) = some (some zv, 1, by_)) (hzc : zv.cells.size = 1) (hby : by_ ≤ 24)
    (base : Nat) (A : Option Addr) (n c : Nat) (vs : List Value) (hs : a.eval s = .slice A n c) (hown : OwnV w base e A n c vs)
    (b off : Nat) (v : Value) (hx : a.eval x = .slice (some ⟨b, off, none⟩) 1 1) (hc : w.cell? ⟨b, off, none⟩ = some v) (hv : v.oneCell' = true) (hn : n ≤ 1000000) (hbase : base ≤ w.heap.size)
    (h : ∀ A2 c2 w', OwnV w' base e A2 (n + 1) c2 (vs ++ [v]) → Below base w w' → (∀ (b : Nat) (t : TypeId) (cs : Array Value), t ≠ e → Bk w b t cs → Bk w' b t cs) → wpList P ops Q rest (a.put o.dst (.slice A2 (n + 1) c2)) w') : wpList P ops Q (o :: rest) a w :=
  wpList_plain hgd fun _ hK => by
    obtain ⟨i, hi, hz, hs', hby'⟩ := info_parts he
    obtain ⟨v', w', hrun, h1, h2, _, _⟩ := run_append_own_at (P := P) w base t o.type e i zv 1 by_ ht hi hz hs' hby' hzc (by omega) (.slice A n c) n vs hown ⟨b, off, none⟩ 1 1 [v] rfl
      (fun j u hu => by
        cases j with
        | zero => simp at hu; subst hu; rw [Addr.add_mid, Nat.add_zero]; exact hc
        | succ j => simp at hu) (by simpa using hv) (by unfold maxLen; omega) (Nat.le_trans (Nat.mul_le_mul_left _ hby) (by omega)) hbase
    have hsh : ∃ A2 c2, v' = .slice A2 (n + 1) c2 := by
      rcases h1.2 with ⟨rfl, h0⟩ | ⟨g, cap, cur, rfl, _⟩
      · rw [h0]; exact ⟨_, _, rfl⟩
      · exact ⟨_, _, rfl⟩
    obtain ⟨A2, c2, rfl⟩ := hsh
    have hoth : ∀ (b : Nat) (t : TypeId) (cs : Array Value), t ≠ e → Bk w b t cs → Bk w' b t cs := by
      intro b t cs hte hB
      refine hB.grown h2 ?_
      intro heq
      rcases hown.2 with ⟨hv0, _⟩ | ⟨g', cap, cur, hv0, _, hh, _⟩
      · injection hv0 with hA
        subst hA
        cases heq
      · injection hv0 with hA
        subst hA
        simp only [Value.ownBlock, Option.some.injEq] at heq
        subst heq
        have : some (Obj.cells cs t (0, 0)) = some (Obj.cells cur e (0, 0)) := (show w.heap[b]? = _ from hB).symm.trans hh
        injection this with this
        injection this with _ h2 _
        exact hte h2
    unfold Oper.wp execOp
    simp only [ho, resolve, invoke, builtin, Sem.run_bind, Sem.run_pure, Result.andThen_ok, List.map_toArray, List.map_cons, List.map_nil, hs, hx, hrun]
    exact hK _ _ (h A2 c2 w' h1 ((Below.refl _ _).grown h2 hbase (fun k hk => (hown.lt k hk).1)) hoth)
end
theorem info_bytes : (Tryd.prog.info? 32).map (fun i => (i.zero, i.size, i.bytes)) = some (some (.slice none 0 0), 1, 24) := by kernel_rfl

/-- the half at o holds the records L, of the generation g, and none behind them -/
def Log (d : Dk) (o size g : Nat) (L : List (List Nat)) : Prop :=
  (∀ b ∈ L, okR b) ∧ (∀ b ∈ L, ∀ x ∈ b, x < 256) ∧ sumT L ≤ size ∧ 1 ≤ g ∧ g ≤ 1099511627776 ∧
  (∀ k, k < L.length → seen d (o + sumT (L.take k)) = markL g k (textAt L k) ∧ ∀ i, i < nck (textAt L k).length → seen d (o + sumT (L.take k) + 1 + i) = chunkL (textAt L k) i) ∧
  (sumT L = size ∨ seen d (o + sumT L) = zsec)
/-- the records read, each in a block of its own -/
def RecsIn (W : World) (base : Nat) (vs : List Value) (L : List (List Nat)) (k : Nat) : Prop :=
  ∀ i, i < k → ∃ q, vs[i]? = some (.slice (some ⟨q, 0, none⟩) (textAt L i).length (textAt L i).length) ∧ Bk W q 5 ((textAt L i).map bv).toArray ∧ base ≤ q
theorem RecsIn.keep {W W' : World} {base : Nat} {vs : List Value} {L : List (List Nat)} {k : Nat} (h : RecsIn W base vs L k) (hk : ∀ (b : Nat) (cs : Array Value), Bk W b 5 cs → Bk W' b 5 cs) : RecsIn W' base vs L k := fun i hi => by
  obtain ⟨q, h1, h2, h3⟩ := h i hi
  exact ⟨q, h1, hk _ _ h2, h3⟩
theorem RecsIn.next {W : World} {base : Nat} {vs : List Value} {L : List (List Nat)} {k q : Nat} (h : RecsIn W base vs L k) (hl : vs.length = k) (hq : Bk W q 5 ((textAt L k).map bv).toArray) (hb : base ≤ q) : RecsIn W base (vs ++ [.slice (some ⟨q, 0, none⟩) (textAt L k).length (textAt L k).length]) L (k + 1) := fun i hi => by
  by_cases hik : i < k
  · obtain ⟨q', h1, h2, h3⟩ := h i hik
    exact ⟨q', by rw [List.getElem?_append_left (by omega)]; exact h1, h2, h3⟩
  · obtain rfl : i = k := by omega
    exact ⟨q, by rw [List.getElem?_append_right (by omega), hl, Nat.sub_self]; rfl, hq, hb⟩
theorem bytes_block {W : World} {q : Nat} {l : List Nat} (h : Bk W q 5 (l.map bv).toArray) (hl : ∀ x ∈ l, x < 256) : Bytes W W.heap.size (some ⟨q, 0, none⟩) l.length l := by
  refine ⟨rfl, hl, fun _ => ⟨q, 0, rfl, h.lt, fun j hj => ?_⟩⟩
  rw [Nat.zero_add, h.cell, List.getElem?_toArray, List.getElem?_map, List.getElem?_eq_getElem hj]
  unfold byteAt
  rw [List.getD_eq_getElem?_getD, List.getElem?_eq_getElem hj]
  rfl
/-- the records, as a slice of slices of bytes -/
theorem RecsIn.rss {W : World} {base base2 : Nat} {A : Option Addr} {c : Nat} {vs : List Value} {L : List (List Nat)} (h : RecsIn W base vs L L.length) (ho : OwnV W base2 32 A L.length c vs) (hL : ∀ b ∈ L, okR b) (hb : ∀ b ∈ L, ∀ x ∈ b, x < 256) : Rss W W.heap.size A L.length L := by
  refine ⟨rfl, fun hn => ?_⟩
  obtain ⟨g, hA, _, hg, hc⟩ := ho.cells hn
  refine ⟨g, 0, hA, hg, fun i hi => ?_⟩
  obtain ⟨q, h1, h2, _⟩ := h i hi
  have h6 : (textAt L i).length ≤ 6000 := (hL _ (textAt_mem hi)).2
  exact ⟨_, _, _, by rw [Nat.zero_add]; exact hc i _ h1, Nat.le_refl _, by unfold maxLen; omega, by omega, bytes_block h2 (hb _ (textAt_mem hi))⟩
end Go.Proofs.YtofbpkaebngnlaaDoor
