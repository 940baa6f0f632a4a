/-
  A step as an argument.
-/
import Derived.Test.YtofbpkaebngnlaaDoorQBytes
import Derived.Test.YtofbpkaebngnlaaDoorQWalSteps
namespace Go.Proofs.YtofbpkaebngnlaaDoor
set_option linter.unusedVariables false
set_option linter.unusedSimpArgs false
set_option linter.unusedVariables false
set_option linter.unusedSimpArgs false
open Go.RowKit Go.ChangeShapes Go.WideShapes Go.Deep

abbrev stepRel : RowRel (List Nat × Nat × Bool × Int) := RowRel.bytes.pair (RowRel.byte.pair (RowRel.bool.pair (RowRel.int .i8)))
theorem stepB : Opens Tryd.prog 32 RowRel.bytes := opens_bytes Tryd.underlying32 Tryd.underlying5 (by kernel_rfl) (by kernel_rfl) (by rw [show Tryd.prog.bytesOf 5 = 1 from by kernel_rfl]; omega)
theorem stepU : Opens Tryd.prog 5 RowRel.byte := opens_byte Tryd.underlying5 (by kernel_rfl)
theorem stepP : Opens Tryd.prog 4 RowRel.bool := opens_bool Tryd.underlying4 (by kernel_rfl)
theorem stepI : Opens Tryd.prog 38 (RowRel.int .i8) := opens_int Tryd.underlying38 (by kernel_rfl)
theorem step_types : (match Tryd.prog.underlying 40 with | some (.struct fs) => fs.toList.map (·.type) | _ => []) = [32, 5, 4, 38] := by kernel_rfl
theorem list4 {α : Type} {l : List α} (h : l.length = 4) : ∃ a b c d, l = [a, b, c, d] := by
  match l, h with
  | [a, b, c, d], _ => exact ⟨a, b, c, d, rfl⟩
set_option maxRecDepth 20000 in
theorem opensStep : Opens Tryd.prog 40 stepRel := by
  refine ⟨by kernel_rfl, fun H enc w base held fuel cs x h hz => ?_⟩
  obtain ⟨xs, m, hfu, hx, hl, hxl, hf⟩ := DataW.trod_struct Tryd.underlying40 h
  subst hx
  replace hxl : xs.length = 4 := hxl
  have hl4 : cs.length = 4 := hl.trans (by kernel_rfl)
  have h0 : DataW.trod enc Tryd.prog w base (fun _ => true) held m 32 ((cs.drop 0).take (Tryd.prog.cellsOf 32)) = xs[0]? := hf 0 _ rfl
  have h1 : DataW.trod enc Tryd.prog w base (fun _ => true) held m 5 ((cs.drop 1).take (Tryd.prog.cellsOf 5)) = xs[1]? := hf 1 _ rfl
  have h2 : DataW.trod enc Tryd.prog w base (fun _ => true) held m 4 ((cs.drop 2).take (Tryd.prog.cellsOf 4)) = xs[2]? := hf 2 _ rfl
  have h3 : DataW.trod enc Tryd.prog w base (fun _ => true) held m 38 ((cs.drop 3).take (Tryd.prog.cellsOf 38)) = xs[3]? := hf 3 _ rfl
  have c0 : Tryd.prog.cellsOf 32 = 1 := by kernel_rfl
  have c1 : Tryd.prog.cellsOf 5 = 1 := by kernel_rfl
  have c2 : Tryd.prog.cellsOf 4 = 1 := by kernel_rfl
  have c3 : Tryd.prog.cellsOf 38 = 1 := by kernel_rfl
  rw [c0] at h0
  rw [c1] at h1
  rw [c2] at h2
  rw [c3] at h3
  obtain ⟨v0, v1, v2, v3, rfl⟩ := list4 hl4
  obtain ⟨y0, y1, y2, y3, rfl⟩ := list4 hxl
  have hz0 : (y0.1.weights Tryd.prog 32).all (· ≤ reachBytes) = true := by
    rw [List.all_eq_true]
    intro q hq
    refine List.all_eq_true.1 hz q ?_
    simp only [DataW.weights, Tryd.underlying40]
    exact DataW.weights_mem_each (j := 0) rfl rfl q hq
  have hz1 : (y1.1.weights Tryd.prog 5).all (· ≤ reachBytes) = true := by
    rw [List.all_eq_true]
    intro q hq
    refine List.all_eq_true.1 hz q ?_
    simp only [DataW.weights, Tryd.underlying40]
    exact DataW.weights_mem_each (j := 1) rfl rfl q hq
  have hz2 : (y2.1.weights Tryd.prog 4).all (· ≤ reachBytes) = true := by
    rw [List.all_eq_true]
    intro q hq
    refine List.all_eq_true.1 hz q ?_
    simp only [DataW.weights, Tryd.underlying40]
    exact DataW.weights_mem_each (j := 2) rfl rfl q hq
  have hz3 : (y3.1.weights Tryd.prog 38).all (· ≤ reachBytes) = true := by
    rw [List.all_eq_true]
    intro q hq
    refine List.all_eq_true.1 hz q ?_
    simp only [DataW.weights, Tryd.underlying40]
    exact DataW.weights_mem_each (j := 3) rfl rfl q hq
  obtain ⟨a0, r0⟩ := stepB.2 H enc w base held m [v0] y0 h0 hz0
  obtain ⟨a1, r1⟩ := stepU.2 H enc w base held m [v1] y1 h1 hz1
  obtain ⟨a2, r2⟩ := stepP.2 H enc w base held m [v2] y2 h2 hz2
  obtain ⟨a3, r3⟩ := stepI.2 H enc w base held m [v3] y3 h3 hz3
  exact ⟨(a0, a1, a2, a3), [v0], [v1, v2, v3], rfl, r0, [v1], [v2, v3], rfl, r1, [v2], [v3], rfl, r2, r3⟩
theorem steps_of_rel {w : World} {B : Nat} {A : Option Addr} {n c : Nat} {S : List StepM} (h : stepRel.slice.R w B [.slice A n c] S) : StepsAt w B A n S ∧ n ≤ c ∧ c ≤ maxLen ∧ n ≤ 140737488355328 := by
  obtain ⟨A1, n1, c1, e, h1, h2, h3, h4, h5⟩ := h
  injection e with e _
  injection e with e1 e2 e3
  subst e1; subst e2; subst e3
  refine ⟨⟨h4, fun hn => ?_⟩, h1, h2, h3⟩
  obtain ⟨b, o, e, hb, hr⟩ := h5 hn
  refine ⟨b, o, e, hb, fun i s hs => ?_⟩
  obtain ⟨cs, hc, k1, k2, rfl, ⟨A', n', c', rfl, g1, g2, g3, g4⟩, k3, k4, rfl, ⟨rfl, q1⟩, k5, k6, rfl, q2, ⟨rfl, q3⟩⟩ := hr i s hs
  have q2' : k5 = [.bool s.2.2.1] := q2
  subst q2'
  have hw : -128 ≤ s.2.2.2 ∧ s.2.2.2 ≤ 127 := by
    have := q3
    have e1 : IntKind.i8.min = -128 := by decide
    have e2 : IntKind.i8.max = 127 := by decide
    simp [Lit.wf] at this
    omega
  refine ⟨q1, hw.1, hw.2, A', n', c', g1, g2, g3, g4, fun j v hv => ?_⟩
  have := hc j v (by
    unfold stv at hv
    rw [← Array.getElem?_toList] at hv
    simpa using hv)
  exact this
end Go.Proofs.YtofbpkaebngnlaaDoor
