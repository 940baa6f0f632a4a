/-
  append(s, t...) as one operation of a region that draws its order; what lies in other blocks stays.
-/
import Derived.Test.YtofbpkaebngnlaaDoorQWalVals
namespace Go.Proofs.YtofbpkaebngnlaaDoor
set_option linter.unusedVariables false
set_option linter.unusedSimpArgs false
set_option linter.unusedVariables false
set_option linter.unusedSimpArgs false
open Go.RowKit

section
variable {P : Program}
theorem OwnV.low {w : World} {base base' n c : Nat} {e : TypeId} {A : Option Addr} {vs : List Value} (h : OwnV w base e A n c vs) (hb : base' ≤ base) : OwnV w base' e A n c vs := by
  refine ⟨h.1, ?_⟩
  rcases h.2 with h0 | ⟨g, cap, cur, hv, hg, r⟩
  · exact .inl h0
  · exact .inr ⟨g, cap, cur, hv, Nat.le_trans hb hg, r⟩
theorem run_append_valsG {w : World} {base : Nat} {e : TypeId} {A : Option Addr} {n c : Nat} {vs : List Value} (ho : OwnV w base e A n c vs) (t ty : TypeId) (ht : P.underlying t = some (.slice e)) {zv : Value} {by_ : Nat}
    (he : (P.info? e).map (fun i => (i.zero, i.size, i.bytes)) = some (some zv, 1, by_)) (hzc : zv.cells.size = 1) (hby : by_ ≤ 24) {A' : Option Addr} {m c' : Nat} {us : List Value} (hl : us.length = m)
    (hc : 0 < m → ∃ b o, A' = some ⟨b, o, none⟩ ∧ ∀ (i : Nat) (u : Value), us[i]? = some u → w.cell? ⟨b, o + i, none⟩ = some u) (hone : ∀ u ∈ us, u.oneCell' = true) (hnm : n + m ≤ 1000000) (hbase : base ≤ w.heap.size) :
    ∃ A2 c2 w', (Builtin.append_ #[t, t] ty #[.slice A n c, .slice A' m c']).run P w = .ok (.slice A2 (n + m) c2) w' ∧ OwnV w' base e A2 (n + m) c2 (vs ++ us) ∧ Below base w w' ∧ ∀ (b : Nat) (t : TypeId) (cs : Array Value), Bk w b t cs → (Value.slice A n c).ownBlock ≠ some b → Bk w' b t cs := by
  obtain ⟨i, hi, hz, hs, hby'⟩ := info_parts he
  cases A' with
  | none =>
    have hm : m = 0 := by
      rcases Nat.eq_zero_or_pos m with h | h
      · exact h
      · obtain ⟨b, o, h', _⟩ := hc h; cases h'
    subst hm
    have hl' : us = [] := List.eq_nil_of_length_eq_zero hl
    subst hl'
    refine ⟨A, c, w, ?_, by simpa using ho, Below.refl _ _, fun b t cs h _ => h⟩
    have hcc := ho.cap_.1
    cases A with
    | none => 
      rcases ho.2 with ⟨hv, h0⟩ | ⟨g, cap, cur, hv, _⟩
      · injection hv with _ _ hc
        subst hc; subst h0
        simp [Builtin.append_, run_underlying ht, sizeOf, typeInfo, hi, Builtin.lenOf, Builtin.firstCells]
      · cases hv
    | some a => simp [Builtin.append_, run_underlying ht, sizeOf, typeInfo, hi, Builtin.lenOf, Builtin.firstCells, hcc, storeCells]
  | some ad =>
    have hnews : ∀ (j : Nat) (u : Value), us[j]? = some u → w.cell? (ad.add j) = some u := by
      intro j u hu
      have hj : j < us.length := (List.getElem?_eq_some_iff.1 hu).1
      obtain ⟨b, o, h', hcc⟩ := hc (by omega)
      injection h' with h'
      subst h'
      rw [Addr.add_mid]
      exact hcc j u hu
    obtain ⟨v', w', hrun, h1, h2, _, _⟩ := run_append_own_at (P := P) w base t ty e i zv 1 by_ ht hi hz hs hby' hzc (by omega) (.slice A n c) n vs ho ad m c' us (by simp [hl]) hnews hone (by unfold maxLen; omega) (Nat.le_trans (Nat.mul_le_mul_left _ hby) (by omega)) hbase
    have hsh : ∃ A2 c2, v' = .slice A2 (n + m) c2 := by
      rcases h1.2 with ⟨rfl, h0⟩ | ⟨g, cap, cur, rfl, _⟩
      · rw [h0]; exact ⟨_, _, rfl⟩
      · exact ⟨_, _, rfl⟩
    obtain ⟨A2, c2, rfl⟩ := hsh
    exact ⟨A2, c2, w', hrun, h1, (Below.refl _ _).grown h2 hbase (fun k hk => (ho.lt k hk).1), fun b t cs h hne => (h2.block b h.lt (Ne.symm hne)).trans h⟩
theorem oper_append_vals {o : Oper} {a : Act} {w : World} {next : Act → World → Prop} {Q : Exit → Act → World → Prop} (s x : Operand) (t : TypeId)
    (ho : o.op = .call { callee := .builtin .append, args := #[s, x], argTypes := #[t, t] }) {e : TypeId} (ht : P.underlying t = some (.slice e)) {zv : Value} {by_ : Nat}
    (he : (P.info? e).map (fun i => (i.zero, i.size, i.bytes)) = some (some zv, 1, by_)) (hzc : zv.cells.size = 1) (hby : by_ ≤ 24)
    (base : Nat) (A : Option Addr) (n c : Nat) (vs : List Value) (hs : a.eval s = .slice A n c) (hown : OwnV w base e A n c vs)
    (A' : Option Addr) (m c' : Nat) (us : List Value) (k : Nat) (hk : n + m = k) (hx : a.eval x = .slice A' m c') (hl : us.length = m) (hc : 0 < m → ∃ b o, A' = some ⟨b, o, none⟩ ∧ ∀ (i : Nat) (u : Value), us[i]? = some u → w.cell? ⟨b, o + i, none⟩ = some u)
    (hone : ∀ u ∈ us, u.oneCell' = true) (hnm : n + m ≤ 1000000) (hbase : base ≤ w.heap.size)
    (h : ∀ A2 c2 w', OwnV w' base e A2 k c2 (vs ++ us) → Below base w w' → (∀ (b : Nat) (t : TypeId) (cs : Array Value), Bk w b t cs → (Value.slice A n c).ownBlock ≠ some b → Bk w' b t cs) → next (a.put o.dst (.slice A2 k c2)) w') : o.wp P a w next Q := by
  subst hk
  obtain ⟨A2, c2, w', hrun, h1, h2, h3⟩ := run_append_valsG (P := P) hown t o.type ht he hzc hby (c' := c') hl hc hone hnm hbase
  unfold Oper.wp execOp
  simp only [ho, resolve, invoke, builtin, Sem.run_bind, Sem.run_pure, Result.andThen_ok, List.map_toArray, List.map_cons, List.map_nil, hs, hx, hrun]
  exact h A2 c2 w' h1 h2 h3
end
end Go.Proofs.YtofbpkaebngnlaaDoor
