/-
  append(s, t...) onto a slice of one's own, of elements of k cells. They speak of any program.
-/
import Derived.Test.YtkalnaidccgbiaaRowK
import Derived.Test.YtkalnaidccgbiaaAppV
namespace Go.Proofs.Ytkalnaidccgbiaa
set_option linter.unusedVariables false
set_option linter.unusedSimpArgs false
open Go.RowKit

section
variable {P : Program} {α : Type} {k : Nat} {f : α → List Value}
/-- an empty slice that is there -/
theorem OwnK.empty (hk : ∀ a, (f a).length = k) (w : World) (e : TypeId) : OwnK k f (w.alloc (.cells #[] e)) w.heap.size e (some ⟨w.heap.size, 0, none⟩) 0 0 [] :=
  ⟨⟨by simp, .inr ⟨w.heap.size, 0, #[], rfl, Nat.le_refl _, heap_alloc_new w _, by omega, by unfold maxLen; omega, by simp, by simp⟩⟩, rfl, hk⟩
theorem run_append_ks {w : World} {base : Nat} {e : TypeId} {A : Option Addr} {n c : Nat} {l : List α} (ho : OwnK k f w base e A n c l) (t ty : TypeId) (ht : P.underlying t = some (.slice e)) {zv : Value} {by_ : Nat}
    (he : (P.info? e).map (fun i => (i.zero, i.size, i.bytes)) = some (some zv, k, by_)) (hzc : zv.cells.size = k) (hk0 : 0 < k) (hby : by_ ≤ 100) {A' : Option Addr} {m c' B : Nat} {us : List α} (hu : ColK k f w B A' m us) (hone : ∀ u ∈ us, ∀ v ∈ f u, v.oneCell' = true) (hnm : n + m ≤ 1000000) (hbase : base ≤ w.heap.size) :
    ∃ A2 c2 w', (Builtin.append_ #[t, t] ty #[.slice A n c, .slice A' m c']).run P w = .ok (.slice A2 (n + m) c2) w' ∧ OwnK k f w' base e A2 (n + m) c2 (l ++ us) ∧ Below base w w' ∧ w.grownBy w' (Value.slice A n c).ownBlock := by
  obtain ⟨i, hi, hz, hs, hby'⟩ := info_parts he
  have hul := hu.1
  cases A' with
  | none =>
    have hm : m = 0 := by
      rcases Nat.eq_zero_or_pos m with h | h
      · exact h
      · obtain ⟨b, o, h', _⟩ := hu.2 h; cases h'
    subst hm
    have hl' : us = [] := List.eq_nil_of_length_eq_zero hul
    subst hl'
    refine ⟨A, c, w, ?_, by simpa using ho, Below.refl _ _, World.grownBy.refl _ _⟩
    have hcc := ho.cap.1
    cases A with
    | none =>
      rcases ho.1.2 with ⟨hv, h0⟩ | ⟨g, cap, cur, hv, _⟩
      · injection hv with _ _ hc
        subst hc; subst h0
        simp [Builtin.append_, run_underlying ht, sizeOf, typeInfo, hi, Builtin.lenOf, Builtin.firstCells]
      · cases hv
    | some a => simp [Builtin.append_, run_underlying ht, sizeOf, typeInfo, hi, Builtin.lenOf, Builtin.firstCells, hcc, storeCells]
  | some ad =>
    have hnews : ∀ (j : Nat) (u : Value), (us.flatMap f)[j]? = some u → w.cell? (ad.add j) = some u := by
      intro j u hju
      have hj : j < (us.flatMap f).length := (List.getElem?_eq_some_iff.1 hju).1
      rw [flat_len ho.2.2, hul] at hj
      have hm0 : 0 < m := by rcases Nat.eq_zero_or_pos m with h | h; (rw [h, Nat.zero_mul] at hj; omega); exact h
      obtain ⟨b, o, h', _, hcc⟩ := hu.2 hm0
      injection h' with h'
      subst h'
      rw [Addr.add_mid]
      have hq : j / k < us.length := by rw [hul]; exact Nat.div_lt_of_lt_mul (by rw [Nat.mul_comm]; exact hj)
      have hr := hcc (j / k) _ (List.getElem?_eq_getElem hq)
      have hjj : j / k * k + j % k = j := by rw [Nat.mul_comm]; exact Nat.div_add_mod j k
      have hmod : j % k < k := Nat.mod_lt _ hk0
      have hfl : j % k < (f us[j / k]).length := by rw [ho.2.2]; exact hmod
      have h2 := flat_get ho.2.2 us (j / k) _ (List.getElem?_eq_getElem hq) (j % k) _ (List.getElem?_eq_getElem hfl)
      rw [hjj, hju] at h2
      have h3 := hr (j % k) _ (List.getElem?_eq_getElem hfl)
      rw [Nat.add_assoc, hjj] at h3
      rw [h3]
      exact h2.symm
    obtain ⟨v', w', hrun, h1, h2, _, _⟩ := run_append_own_at (P := P) w base t ty e i zv k by_ ht hi hz hs hby' hzc hk0 (.slice A n c) n (l.flatMap f) ho.1 ad m c' (us.flatMap f) (by rw [flat_len ho.2.2, hul]) hnews (fun u hu' => by obtain ⟨a, ha, hau⟩ := List.mem_flatMap.1 hu'; exact hone a ha u hau) (by unfold maxLen; omega) (Nat.le_trans (Nat.mul_le_mul_left _ hby) (by omega)) hbase
    have hsh : ∃ A2 c2, v' = .slice A2 (n + m) c2 := by
      rcases h1.2 with ⟨rfl, h0⟩ | ⟨g, cap, cur, rfl, _⟩
      · rw [h0]; exact ⟨_, _, rfl⟩
      · exact ⟨_, _, rfl⟩
    obtain ⟨A2, c2, rfl⟩ := hsh
    refine ⟨A2, c2, w', hrun, ⟨?_, by rw [List.length_append, ho.len, hul], ho.2.2⟩, (Below.refl _ _).grown h2 hbase (fun k hk => (ho.1.lt k hk).1), h2⟩
    rw [List.flatMap_append]
    exact h1
theorem wp_append_ks {o : Oper} {a : Act} {w w' : World} {K : Act → World → Prop} {Q : Exit → Act → World → Prop} {s x : Operand} {t : TypeId} {v y z : Value} (ho : o.op = .call { callee := .builtin .append, args := #[s, x], argTypes := #[t, t] })
    (hs : a.eval s = v) (hx : a.eval x = y) (hrun : (Builtin.append_ #[t, t] o.type #[v, y]).run P w = .ok z w') (hK : K (a.put o.dst z) w') : o.wp P a w K Q := by
  unfold Oper.wp execOp
  simp only [ho, resolve, invoke, builtin, Sem.run_bind, Sem.run_pure, Result.andThen_ok, List.map_toArray, List.map_cons, List.map_nil, hs, hx, hrun]
  exact hK
/-- a part of a slice as elements -/
theorem ColK.to {w : World} {B n : Nat} {A : Option Addr} {l : List α} (h : ColK k f w B A n l) {j : Nat} (hj : j ≤ n) : ColK k f w B A j (l.take j) := by
  refine ⟨by rw [List.length_take, h.1]; omega, fun hj0 => ?_⟩
  obtain ⟨b, o, e, hb, hc⟩ := h.2 (by omega)
  refine ⟨b, o, e, hb, fun i a hi => hc i a ?_⟩
  have hij : i < j := by have := (List.getElem?_eq_some_iff.1 hi).1; rw [List.length_take] at this; omega
  rwa [List.getElem?_take_of_lt hij] at hi
theorem ColK.from_ {w : World} {B n b o : Nat} {l : List α} (h : ColK k f w B (some ⟨b, o, none⟩) n l) {j : Nat} (hj : j ≤ n) : ColK k f w B (some ⟨b, o + j * k, none⟩) (n - j) (l.drop j) := by
  refine ⟨by rw [List.length_drop, h.1], fun hj0 => ?_⟩
  obtain ⟨b', o', e, hb, hc⟩ := h.2 (by omega)
  injection e with e
  injection e with e1 e2
  subst e1; subst e2
  refine ⟨b, o + j * k, rfl, hb, fun i a hi => ?_⟩
  rw [List.getElem?_drop] at hi
  have := hc (j + i) a hi
  rwa [show o + (j + i) * k = o + j * k + i * k by rw [Nat.add_mul]; omega] at this
end
end Go.Proofs.Ytkalnaidccgbiaa
