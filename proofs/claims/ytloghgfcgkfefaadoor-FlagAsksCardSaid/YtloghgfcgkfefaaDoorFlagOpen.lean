/-
  Package flag's table off what the rows list; three numbers that come in as an array; a text's size.
-/
import Derived.Test.YtloghgfcgkfefaaDoorFlagOne
import Derived.Test.YtloghgfcgkfefaaDoorLaid
namespace Go.Proofs.YtloghgfcgkfefaaDoor
set_option linter.unusedVariables false
set_option linter.unusedSimpArgs false
open Go.ChangeShapes Go.WideShapes Go.ChangeAt Go.RowKit

/-- an array of pairs, a number and a text each -/
theorem trod_pairs {H : Type} {enc : TypeId × Value → H} {P : Program} {w : World} {base : Nat} {sp : Nat → Bool} {held : Bool} {fuel n : Nat} {t e ts ti : TypeId} {k : IntKind} {fs : Array Field} {f0 f1 : Field} {cs : List Value} {L : List (Int × List UInt8)} {p : List MemPlace}
    (ht : P.underlying t = some (.array n e)) (he : P.underlying e = some (.struct fs)) (hc : P.cellsOf e = 2) (h0 : fs[0]? = some f0) (h1 : fs[1]? = some f1) (o0 : f0.offset = 0) (o1 : f1.offset = 1) (t0 : f0.type = ti) (t1 : f1.type = ts)
    (hs : P.underlying ts = some .string) (hi : P.underlying ti = some (.int k)) (c0 : P.cellsOf ts = 1) (c1 : P.cellsOf ti = 1)
    (h : DataW.trod enc P w base sp held fuel t cs = some (.agg (L.map fun x => .agg [.lit (.int k x.1), .lit (.string x.2)]), p)) :
    ∀ i z s, L[i]? = some (z, s) → cs[i * 2]? = some (.int k z) ∧ cs[i * 2 + 1]? = some (.string ⟨s.toArray⟩) := by
  obtain ⟨xs, m, rfl, hx, hl, hxl, hel⟩ := DataW.trod_array ht h
  simp only [Prod.mk.injEq, DataW.agg.injEq] at hx
  intro i z s hi2
  have hlen : L.length = n := by
    have := congrArg List.length hx.1
    simp only [List.length_map] at this
    rw [this, hxl]
  have hin : i < n := by rw [← hlen]; exact (List.getElem?_eq_some_iff.1 hi2).1
  have e1 := hel i hin
  rw [hc] at e1
  have hxi := congrArg (·[i]?) hx.1
  simp only [List.getElem?_map, hi2, Option.map_some] at hxi
  obtain ⟨x, hxe⟩ : ∃ x, xs[i]? = some x := ⟨xs[i]'(by omega), List.getElem?_eq_getElem (by omega)⟩
  rw [hxe] at e1 hxi
  simp only [Option.map_some, Option.some.injEq] at hxi
  obtain ⟨ys, q, hm, hy, hyl, hyn, hye⟩ := DataW.trod_struct he e1
  have hy1 : x.1 = .agg (ys.map (·.1)) := by rw [hy]
  rw [hy1] at hxi
  injection hxi with hxi
  have a0 := hye 0 f0 h0
  have a1 := hye 1 f1 h1
  rw [o0, t0, c1] at a0
  rw [o1, t1, c0] at a1
  have b0 := congrArg (·[0]?) hxi
  have b1 := congrArg (·[1]?) hxi
  simp only [List.getElem?_map, List.getElem?_cons_zero, List.getElem?_cons_succ] at b0 b1
  obtain ⟨y0, hy0⟩ : ∃ y, ys[0]? = some y := by cases hq : ys[0]? with
    | none => rw [hq] at b0; cases b0
    | some y => exact ⟨y, rfl⟩
  obtain ⟨y1, hy1'⟩ : ∃ y, ys[1]? = some y := by cases hq : ys[1]? with
    | none => rw [hq] at b1; cases b1
    | some y => exact ⟨y, rfl⟩
  rw [hy0] at a0 b0
  rw [hy1'] at a1 b1
  obtain ⟨zb, hzb, hzx, _⟩ := DataW.trod_int hi a0
  obtain ⟨sb, hsb, hsx, _⟩ := DataW.trod_string hs a1
  rw [hzx] at b0
  rw [hsx] at b1
  simp only [Option.map_some, Option.some.injEq, DataW.lit.injEq, Lit.string.injEq, Lit.int.injEq, true_and] at b0 b1
  have g0 := congrArg (·[0]?) hzb
  have g1 := congrArg (·[0]?) hsb
  simp only [List.getElem?_take, List.getElem?_drop, List.getElem?_cons_zero, Nat.zero_lt_one, if_true, Nat.zero_add, Nat.add_zero] at g0 g1
  refine ⟨?_, ?_⟩
  · rw [b0]
    simpa using g0
  · rw [b1]
    simpa using g1

theorem open_int3 {H : Type} {enc : TypeId × Value → H} {P : Program} {w : World} {base : Nat} {sp : Nat → Bool} {held : Bool} {fuel : Nat} {t e : TypeId} {k : IntKind} {cs : Array Value} {x : DataW H × List MemPlace}
    (ht : P.underlying t = some (.array 3 e)) (he : P.underlying e = some (.int k)) (hc : P.cellsOf e = 1) (hct : P.cellsOf t = 3)
    (h : DataW.trod enc P w base sp held fuel t cs.toList = some x) : ∃ a b c : Int, cs = #[.int k a, .int k b, .int k c] := by
  obtain ⟨cs⟩ := cs
  obtain ⟨xs, m, rfl, _, hl, hxl, hel⟩ := DataW.trod_array ht h
  have hl' : cs.length = 3 := hl.trans hct
  have hone : ∀ i, i < 3 → ∃ z : Int, cs[i]? = some (.int k z) := by
    intro i hi
    have h1 := hel i hi
    rw [hc, Nat.mul_one, List.getElem?_eq_getElem (by rw [hxl]; exact hi)] at h1
    have h2 : (cs.drop i).take 1 = [cs[i]'(by omega)] := by
      rw [List.drop_eq_getElem_cons (by omega)]
      rfl
    rw [show (({ toList := cs } : Array Value).toList) = cs from rfl, h2] at h1
    obtain ⟨z, hz, _, hw⟩ := DataW.trod_int he h1
    simp only [List.cons.injEq, and_true] at hz
    exact ⟨z, by rw [List.getElem?_eq_getElem (by omega), hz]⟩
  match cs, hl', hone with
  | [u, v, q], _, hone =>
    obtain ⟨a, ha⟩ := hone 0 (by omega)
    obtain ⟨b, hb⟩ := hone 1 (by omega)
    obtain ⟨c, hc⟩ := hone 2 (by omega)
    simp only [List.getElem?_cons_zero, List.getElem?_cons_succ, Option.some.injEq] at ha hb hc
    exact ⟨a, b, c, by rw [ha, hb, hc]⟩

theorem open_int3w {H : Type} {enc : TypeId × Value → H} {P : Program} {w : World} {base : Nat} {sp : Nat → Bool} {held : Bool} {fuel : Nat} {t e : TypeId} {k : IntKind} {cs : Array Value} {x : DataW H × List MemPlace}
    (ht : P.underlying t = some (.array 3 e)) (he : P.underlying e = some (.int k)) (hc : P.cellsOf e = 1) (hct : P.cellsOf t = 3)
    (h : DataW.trod enc P w base sp held fuel t cs.toList = some x) : ∃ a b c : Int, cs = #[.int k a, .int k b, .int k c] ∧ (Lit.int k a).wf = true ∧ (Lit.int k b).wf = true ∧ (Lit.int k c).wf = true := by
  obtain ⟨cs⟩ := cs
  obtain ⟨xs, m, rfl, _, hl, hxl, hel⟩ := DataW.trod_array ht h
  have hl' : cs.length = 3 := hl.trans hct
  have hone : ∀ i, i < 3 → ∃ z : Int, cs[i]? = some (.int k z) ∧ (Lit.int k z).wf = true := by
    intro i hi
    have h1 := hel i hi
    rw [hc, Nat.mul_one, List.getElem?_eq_getElem (by rw [hxl]; exact hi)] at h1
    have h2 : (cs.drop i).take 1 = [cs[i]'(by omega)] := by
      rw [List.drop_eq_getElem_cons (by omega)]
      rfl
    rw [show (({ toList := cs } : Array Value).toList) = cs from rfl, h2] at h1
    obtain ⟨z, hz, _, hw⟩ := DataW.trod_int he h1
    simp only [List.cons.injEq, and_true] at hz
    exact ⟨z, by rw [List.getElem?_eq_getElem (by omega), hz], hw⟩
  match cs, hl', hone with
  | [u, v, q], _, hone =>
    obtain ⟨a, ha, wa⟩ := hone 0 (by omega)
    obtain ⟨b, hb, wb⟩ := hone 1 (by omega)
    obtain ⟨c, hc, wc⟩ := hone 2 (by omega)
    simp only [List.getElem?_cons_zero, List.getElem?_cons_succ, Option.some.injEq] at ha hb hc
    exact ⟨a, b, c, by rw [ha, hb, hc], wa, wb, wc⟩

section
variable {H : Type} {enc : TypeId × Value → H} {P : Program} {w : World} {base : Nat} {spare : Nat → Bool} {held : Bool}
theorem open_str_arg {r : Reach} {b0 : Nat} {t : TypeId} {v : Value} {d : DataW H} {ps : List MemPlace} (ht : P.underlying t = some .string) (hval : Value.okWide P w r b0 t v) (hd : DataW.Trod enc P w base spare held t v d ps) :
    ∃ s : ByteArray, v = .string s ∧ d = .lit (.string s.data.toList) ∧ ps = [] ∧ s.size ≤ maxLen := by
  obtain ⟨s, rfl⟩ := okWide_string ht hval
  obtain ⟨fuel, hf⟩ := hd
  obtain ⟨s', h, hx, hw⟩ := DataW.trod_string ht hf
  simp [Value.cells] at h
  subst h
  simp only [Prod.mk.injEq] at hx
  exact ⟨s, rfl, hx.1, hx.2, hw⟩
theorem shut_string {t : TypeId} {s : ByteArray} (ht : P.underlying t = some .string) (hs : s.size ≤ maxLen) : DataW.Trod enc P w base spare held t (.string s) (.lit (.string s.data.toList)) [] :=
  ⟨1, by simp [DataW.trod, Value.cells, ht, hs]⟩
end

theorem opensStr : Opens Tryd.prog 9 RowRel.str := opens_str Tryd.underlying9 (by kernel_rfl)
theorem str_small {H : Type} {enc : TypeId × Value → H} {w : World} {base : Nat} {held : Bool} {s : ByteArray} {d : DataW H} {p : List MemPlace}
    (h : DataW.Trod enc Tryd.prog w base (fun _ => true) held 9 (.string s) d p) (hz : (d.weights Tryd.prog 9).all (· ≤ reachBytes) = true) : s.size ≤ 140737488355328 := by
  obtain ⟨a, e, h2⟩ := opensStr.arg h hz
  simp [Value.cells] at e
  subst e
  exact h2

def allD : List (Int × List UInt8) := [(2, [92, 65, 110, 115, 119, 101, 114, 101, 100]), (4, [92, 70, 108, 97, 103, 103, 101, 100]), (8, [92, 68, 101, 108, 101, 116, 101, 100]), (1, [92, 83, 101, 101, 110]), (16, [92, 68, 114, 97, 102, 116])]
theorem allD_at : ∀ i, i < 5 → allD[i]? = some (((bitN i : Nat) : Int), (flagS i).map UInt8.ofNat) := by decide +kernel
theorem strOf_mk (l : List Nat) : (⟨(l.map UInt8.ofNat).toArray⟩ : ByteArray) = strOf l := by
  refine data_inj ?_
  rw [strOf_data]
theorem allC_at (i : Nat) (hi : i < 5) : allC[i * 2]? = some (.int .i64 (bitN i : Nat)) ∧ allC[i * 2 + 1]? = some (.string (strOf (flagS i))) := by
  rcases (by omega : i = 0 ∨ i = 1 ∨ i = 2 ∨ i = 3 ∨ i = 4) with rfl | rfl | rfl | rfl | rfl <;> exact ⟨rfl, rfl⟩
theorem all_of_cells {w : World} {cs : List Value} (hw : ∀ r, w.cell? ⟨0, r, none⟩ = cs[r]?) (h : ∀ i z s, allD[i]? = some (z, s) → cs[i * 2]? = some (.int .i64 z) ∧ cs[i * 2 + 1]? = some (.string ⟨s.toArray⟩)) : All w := by
  intro j v hv
  have hj : j < 10 := (List.getElem?_eq_some_iff.1 hv).1
  obtain ⟨h1, h2⟩ := h (j / 2) _ _ (allD_at (j / 2) (by omega))
  rw [strOf_mk] at h2
  have hi := allC_at (j / 2) (by omega)
  rw [Nat.zero_add, hw]
  rcases (by omega : j = j / 2 * 2 ∨ j = j / 2 * 2 + 1) with e | e
  · rw [e] at hv ⊢
    rw [hi.1] at hv
    rw [h1, hv]
  · rw [e] at hv ⊢
    rw [hi.2] at hv
    rw [h2, hv]
end Go.Proofs.YtloghgfcgkfefaaDoor
