/-
  append(s, t...) onto a slice of one's own, of one-cell values of any kind. They speak of any program.
-/
import Derived.Test.YtkalnaidccgbiaaOwnV
namespace Go.Proofs.Ytkalnaidccgbiaa
set_option linter.unusedVariables false
set_option linter.unusedSimpArgs false
open Go.RowKit

section
variable {P : Program}
theorem OwnV.cap_ {w : World} {base n c : Nat} {e : TypeId} {A : Option Addr} {vs : List Value} (h : OwnV w base e A n c vs) : n ≤ c ∧ c ≤ maxLen := by
  rcases h.2 with ⟨hv, h0⟩ | ⟨g, cap, cur, hv, hg, hh, hnc, hcm, hcs, htk⟩
  · injection hv with _ h1 h2
    subst h1; subst h2
    exact ⟨Nat.le_refl _, by unfold maxLen; omega⟩
  · injection hv with _ _ hc
    subst hc
    exact ⟨hnc, hcm⟩
/-- an empty slice that is there -/
theorem OwnV.empty (w : World) (e : TypeId) : OwnV (w.alloc (.cells #[] e)) w.heap.size e (some ⟨w.heap.size, 0, none⟩) 0 0 [] :=
  ⟨by simp, .inr ⟨w.heap.size, 0, #[], rfl, Nat.le_refl _, heap_alloc_new w _, by omega, by unfold maxLen; omega, by simp, by simp⟩⟩
theorem run_append_vals {w : World} {base : Nat} {e : TypeId} {A : Option Addr} {n c : Nat} {vs : List Value} (ho : OwnV w base e A n c vs) (t ty : TypeId) (ht : P.underlying t = some (.slice e)) {zv : Value} {by_ : Nat}
    (he : (P.info? e).map (fun i => (i.zero, i.size, i.bytes)) = some (some zv, 1, by_)) (hzc : zv.cells.size = 1) (hby : by_ ≤ 24) {A' : Option Addr} {m c' : Nat} {us : List Value} (hl : us.length = m)
    (hc : 0 < m → ∃ b o, A' = some ⟨b, o, none⟩ ∧ ∀ (i : Nat) (u : Value), us[i]? = some u → w.cell? ⟨b, o + i, none⟩ = some u) (hone : ∀ u ∈ us, u.oneCell' = true) (hnm : n + m ≤ 1000000) (hbase : base ≤ w.heap.size) :
    ∃ A2 c2 w', (Builtin.append_ #[t, t] ty #[.slice A n c, .slice A' m c']).run P w = .ok (.slice A2 (n + m) c2) w' ∧ OwnV w' base e A2 (n + m) c2 (vs ++ us) ∧ Below base w w' := by
  obtain ⟨i, hi, hz, hs, hby'⟩ := info_parts he
  cases A' with
  | none =>
    have hm : m = 0 := by
      rcases Nat.eq_zero_or_pos m with h | h
      · exact h
      · obtain ⟨b, o, h', _⟩ := hc h; cases h'
    subst hm
    have hl' : us = [] := List.eq_nil_of_length_eq_zero hl
    subst hl'
    refine ⟨A, c, w, ?_, by simpa using ho, Below.refl _ _⟩
    have hcc := ho.cap_.1
    cases A with
    | none => 
      rcases ho.2 with ⟨hv, h0⟩ | ⟨g, cap, cur, hv, _⟩
      · injection hv with _ _ hc
        subst hc; subst h0
        simp [Builtin.append_, run_underlying ht, sizeOf, typeInfo, hi, Builtin.lenOf, Builtin.firstCells]
      · cases hv
    | some a => simp [Builtin.append_, run_underlying ht, sizeOf, typeInfo, hi, Builtin.lenOf, Builtin.firstCells, hcc, storeCells]
  | some ad =>
    have hnews : ∀ (j : Nat) (u : Value), us[j]? = some u → w.cell? (ad.add j) = some u := by
      intro j u hu
      have hj : j < us.length := (List.getElem?_eq_some_iff.1 hu).1
      obtain ⟨b, o, h', hcc⟩ := hc (by omega)
      injection h' with h'
      subst h'
      rw [Addr.add_mid]
      exact hcc j u hu
    obtain ⟨v', w', hrun, h1, h2, _, _⟩ := run_append_own_at (P := P) w base t ty e i zv 1 by_ ht hi hz hs hby' hzc (by omega) (.slice A n c) n vs ho ad m c' us (by simp [hl]) hnews hone (by unfold maxLen; omega) (Nat.le_trans (Nat.mul_le_mul_left _ hby) (by omega)) hbase
    have hsh : ∃ A2 c2, v' = .slice A2 (n + m) c2 := by
      rcases h1.2 with ⟨rfl, h0⟩ | ⟨g, cap, cur, rfl, _⟩
      · rw [h0]; exact ⟨_, _, rfl⟩
      · exact ⟨_, _, rfl⟩
    obtain ⟨A2, c2, rfl⟩ := hsh
    exact ⟨A2, c2, w', hrun, h1, (Below.refl _ _).grown h2 hbase (fun k hk => (ho.lt k hk).1)⟩
end
end Go.Proofs.Ytkalnaidccgbiaa
