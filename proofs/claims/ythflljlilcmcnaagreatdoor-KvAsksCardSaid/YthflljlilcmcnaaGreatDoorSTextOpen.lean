/-
  A part of the proof: see the last text.
-/
import Derived.Test.YthflljlilcmcnaaGreatDoorSBytes
import Derived.Test.YthflljlilcmcnaaGreatDoorSPackMath
import Derived.Test.YthflljlilcmcnaaGreatDoorChecked
import Derived.ProofKit
import Derived.LaidMore
import Derived.OpenShut
import Derived.Stop.Joined
import Derived.Test.YthflljlilcmcnaaGreatDoorSKvSmall
namespace Go.Proofs.YthflljlilcmcnaaGreatDoor
set_option linter.unusedVariables false
set_option linter.unusedSimpArgs false
open Go.ChangeShapes Go.WideShapes Go.ChangeAt Go.RowKit
section
variable {H : Type} {enc : TypeId × Value → H} {P : Program} {w : World} {base : Nat} {spare : Nat → Bool} {held : Bool}
theorem open_str_arg {r : Reach} {b0 : Nat} {t : TypeId} {v : Value} {d : DataW H} {ps : List MemPlace} (ht : P.underlying t = some .string) (hval : Value.okWide P w r b0 t v) (hd : DataW.Trod enc P w base spare held t v d ps) :
    ∃ s : ByteArray, v = .string s ∧ d = .lit (.string s.data.toList) ∧ ps = [] ∧ s.size ≤ maxLen := by
  obtain ⟨s, rfl⟩ := okWide_string ht hval
  obtain ⟨fuel, hf⟩ := hd
  obtain ⟨s', h, hx, hw⟩ := DataW.trod_string ht hf
  simp [Value.cells] at h
  subst h
  simp only [Prod.mk.injEq] at hx
  exact ⟨s, rfl, hx.1, hx.2, hw⟩
theorem shut_string {t : TypeId} {s : ByteArray} (ht : P.underlying t = some .string) (hs : s.size ≤ maxLen) : DataW.Trod enc P w base spare held t (.string s) (.lit (.string s.data.toList)) [] :=
  ⟨1, by simp [DataW.trod, Value.cells, ht, hs]⟩
end
theorem opensStr : Opens Tryz.prog 9 RowRel.str := opens_str Tryz.underlying9 (by kernel_rfl)
end Go.Proofs.YthflljlilcmcnaaGreatDoor
namespace Go.Proofs.YthflljlilcmcnaaGreatDoor
set_option linter.unusedVariables false
set_option linter.unusedSimpArgs false
open Go.ChangeShapes Go.WideShapes Go.ChangeAt Go.RowKit
theorem trod_ints {H : Type} {enc : TypeId × Value → H} {P : Program} {w : World} {base : Nat} {sp : Nat → Bool} {held : Bool} {fuel n : Nat} {t e : TypeId} {k : IntKind} {cs : List Value} {vals : List Int} {p : List MemPlace}
    (ht : P.underlying t = some (.array n e)) (he : P.underlying e = some (.int k)) (hc : P.cellsOf e = 1) (hct : P.cellsOf t = n)
    (h : DataW.trod enc P w base sp held fuel t cs = some (.agg (vals.map fun z => .lit (.int k z)), p)) : cs = vals.map (Value.int k) := by
  obtain ⟨xs, m, rfl, hx, hl, hxl, hel⟩ := DataW.trod_array ht h
  simp only [Prod.mk.injEq, DataW.agg.injEq] at hx
  have hvl : vals.length = n := by
    have := congrArg List.length hx.1
    simp only [List.length_map] at this
    rw [this, hxl]
  apply List.ext_getElem?
  intro i
  by_cases hi : i < n
  · have h1 := hel i hi
    rw [hc, Nat.mul_one, List.getElem?_eq_getElem (by rw [hxl]; exact hi)] at h1
    have h2 : (cs.drop i).take 1 = [cs[i]'(by rw [hl, hct]; exact hi)] := by
      rw [List.drop_eq_getElem_cons (by rw [hl, hct]; exact hi)]
      rfl
    rw [h2] at h1
    obtain ⟨z, hz, hx2, _⟩ := DataW.trod_int he h1
    have h3 := congrArg (·[i]?) hx.1
    simp only [List.getElem?_map, List.getElem?_eq_getElem (show i < vals.length by omega), List.getElem?_eq_getElem (show i < xs.length by omega), Option.map_some, Option.some.injEq] at h3
    rw [hx2] at h3
    injection h3 with h3
    injection h3 with _ h3
    injection hz with hz _
    rw [List.getElem?_eq_getElem (by rw [hl, hct]; exact hi), hz, List.getElem?_map, List.getElem?_eq_getElem (by omega), ← h3]
    rfl
  · rw [List.getElem?_eq_none (by omega), List.getElem?_eq_none (by simp; omega)]
end Go.Proofs.YthflljlilcmcnaaGreatDoor
namespace Go.Proofs.YthflljlilcmcnaaGreatDoor
set_option linter.unusedVariables false
set_option linter.unusedSimpArgs false
open Go.ChangeShapes Go.WideShapes Go.ChangeAt Go.RowKit
def prRel : RowRel Pr where
  k := 2
  R := fun _ _ cs r => cs = pairC r ∧ r.1.size ≤ 140737488355328 ∧ r.2.size ≤ 140737488355328
  len := fun h => by rw [h.1]; rfl
  keep := fun h _ => h
  more := fun h _ => h
def chRel : RowRel Chg where
  k := 3
  R := fun _ _ cs r => cs = chgC r ∧ r.1.size ≤ 140737488355328 ∧ r.2.1.size ≤ 140737488355328
  len := fun h => by rw [h.1]; rfl
  keep := fun h _ => h
  more := fun h _ => h
theorem listP2 {α : Type} {l : List α} (h : l.length = 2) : ∃ a b, l = [a, b] := by
  match l, h with
  | [a, b], _ => exact ⟨a, b, rfl⟩
theorem listP3 {α : Type} {l : List α} (h : l.length = 3) : ∃ a b c, l = [a, b, c] := by
  match l, h with
  | [a, b, c], _ => exact ⟨a, b, c, rfl⟩
set_option maxRecDepth 20000 in
theorem opensPr : Opens Tryz.prog 63 prRel := by
  refine ⟨by kernel_rfl, fun H enc w base held fuel cs x h hz => ?_⟩
  obtain ⟨xs, m, hfu, hx, hl, hxl, hf⟩ := DataW.trod_struct Tryz.underlying63 h
  replace hxl : xs.length = 2 := hxl
  have hl2 : cs.length = 2 := hl.trans (by kernel_rfl)
  have h0 : DataW.trod enc Tryz.prog w base (fun _ => true) held m 9 ((cs.drop 0).take (Tryz.prog.cellsOf 9)) = xs[0]? := hf 0 _ rfl
  have h1 : DataW.trod enc Tryz.prog w base (fun _ => true) held m 9 ((cs.drop 1).take (Tryz.prog.cellsOf 9)) = xs[1]? := hf 1 _ rfl
  have c0 : Tryz.prog.cellsOf 9 = 1 := by kernel_rfl
  rw [c0] at h0 h1
  obtain ⟨v0, v1, rfl⟩ := listP2 hl2
  obtain ⟨y0, y1, rfl⟩ := listP2 hxl
  simp only [List.drop_zero, List.drop_succ_cons, List.take_succ_cons, List.take_zero, List.getElem?_cons_zero, List.getElem?_cons_succ] at h0 h1
  have hw0 : (y0.1.weights Tryz.prog 9).all (· ≤ reachBytes) = true := by
    rw [List.all_eq_true]
    intro q hq
    refine List.all_eq_true.1 hz q ?_
    rw [hx]
    simp only [DataW.weights, Tryz.underlying63]
    exact DataW.weights_mem_each (j := 0) rfl rfl q hq
  have hw1 : (y1.1.weights Tryz.prog 9).all (· ≤ reachBytes) = true := by
    rw [List.all_eq_true]
    intro q hq
    refine List.all_eq_true.1 hz q ?_
    rw [hx]
    simp only [DataW.weights, Tryz.underlying63]
    exact DataW.weights_mem_each (j := 1) rfl rfl q hq
  obtain ⟨a, ha, hsa⟩ := opensStr.2 H enc w base held m [v0] y0 h0 hw0
  obtain ⟨b, hb, hsb⟩ := opensStr.2 H enc w base held m [v1] y1 h1 hw1
  simp only [List.cons.injEq, and_true] at ha hb
  exact ⟨(a, b), by rw [ha, hb]; rfl, hsa, hsb⟩
set_option maxRecDepth 20000 in
theorem opensCh : Opens Tryz.prog 61 chRel := by
  refine ⟨by kernel_rfl, fun H enc w base held fuel cs x h hz => ?_⟩
  obtain ⟨xs, m, hfu, hx, hl, hxl, hf⟩ := DataW.trod_struct Tryz.underlying61 h
  replace hxl : xs.length = 3 := hxl
  have hl2 : cs.length = 3 := hl.trans (by kernel_rfl)
  have h0 : DataW.trod enc Tryz.prog w base (fun _ => true) held m 9 ((cs.drop 0).take (Tryz.prog.cellsOf 9)) = xs[0]? := hf 0 _ rfl
  have h1 : DataW.trod enc Tryz.prog w base (fun _ => true) held m 9 ((cs.drop 1).take (Tryz.prog.cellsOf 9)) = xs[1]? := hf 1 _ rfl
  have h2 : DataW.trod enc Tryz.prog w base (fun _ => true) held m 4 ((cs.drop 2).take (Tryz.prog.cellsOf 4)) = xs[2]? := hf 2 _ rfl
  have c0 : Tryz.prog.cellsOf 9 = 1 := by kernel_rfl
  have c1 : Tryz.prog.cellsOf 4 = 1 := by kernel_rfl
  rw [c0] at h0 h1
  rw [c1] at h2
  obtain ⟨v0, v1, v2, rfl⟩ := listP3 hl2
  obtain ⟨y0, y1, y2, rfl⟩ := listP3 hxl
  simp only [List.drop_zero, List.drop_succ_cons, List.take_succ_cons, List.take_zero, List.getElem?_cons_zero, List.getElem?_cons_succ] at h0 h1 h2
  have hw0 : (y0.1.weights Tryz.prog 9).all (· ≤ reachBytes) = true := by
    rw [List.all_eq_true]
    intro q hq
    refine List.all_eq_true.1 hz q ?_
    rw [hx]
    simp only [DataW.weights, Tryz.underlying61]
    exact DataW.weights_mem_each (j := 0) rfl rfl q hq
  have hw1 : (y1.1.weights Tryz.prog 9).all (· ≤ reachBytes) = true := by
    rw [List.all_eq_true]
    intro q hq
    refine List.all_eq_true.1 hz q ?_
    rw [hx]
    simp only [DataW.weights, Tryz.underlying61]
    exact DataW.weights_mem_each (j := 1) rfl rfl q hq
  obtain ⟨a, ha, hsa⟩ := opensStr.2 H enc w base held m [v0] y0 h0 hw0
  obtain ⟨b, hb, hsb⟩ := opensStr.2 H enc w base held m [v1] y1 h1 hw1
  obtain ⟨c, hc, _⟩ := DataW.trod_bool Tryz.underlying4 h2
  simp only [List.cons.injEq, and_true] at ha hb hc
  exact ⟨(a, b, c), by rw [ha, hb, hc]; rfl, hsa, hsb⟩
theorem opensPrs : Opens Tryz.prog 22 prRel.slice := opens_slice Tryz.underlying22 (by kernel_rfl) (by decide) (by rw [show Tryz.prog.bytesOf 63 = 32 from by kernel_rfl]; omega) opensPr
theorem opensChs : Opens Tryz.prog 23 chRel.slice := opens_slice Tryz.underlying23 (by kernel_rfl) (by decide) (by rw [show Tryz.prog.bytesOf 61 = 40 from by kernel_rfl]; omega) opensCh
theorem ColK.of_prs {w : World} {B : Nat} {A : Option Addr} {n c : Nat} {l : List Pr} (h : prRel.slice.R w B [.slice A n c] l) : ColK 2 pairC w B A n l ∧ (∀ x ∈ l, x.1.size ≤ 140737488355328 ∧ x.2.size ≤ 140737488355328) ∧ n ≤ 140737488355328 := by
  obtain ⟨A1, n1, c1, e, h1, h2, h3, h4, h5⟩ := h
  injection e with e _
  injection e with e1 e2 e3
  subst e1; subst e2; subst e3
  refine ⟨⟨h4, fun hn => ?_⟩, fun x hx => ?_, h3⟩
  · obtain ⟨b, o, e, hb, hr⟩ := h5 hn
    refine ⟨b, o, e, hb, fun i a ha => ?_⟩
    obtain ⟨cs, hc, hcs⟩ := hr i a ha
    rw [hcs.1] at hc
    exact hc
  · obtain ⟨i, hi, rfl⟩ := List.mem_iff_getElem.1 hx
    obtain ⟨b, o, e, hb, hr⟩ := h5 (by omega)
    obtain ⟨cs, hc, hcs⟩ := hr i _ (List.getElem?_eq_getElem hi)
    exact hcs.2
theorem ColK.of_chs {w : World} {B : Nat} {A : Option Addr} {n c : Nat} {l : List Chg} (h : chRel.slice.R w B [.slice A n c] l) : ColK 3 chgC w B A n l ∧ (∀ x ∈ l, x.1.size ≤ 140737488355328 ∧ x.2.1.size ≤ 140737488355328) ∧ n ≤ 140737488355328 := by
  obtain ⟨A1, n1, c1, e, h1, h2, h3, h4, h5⟩ := h
  injection e with e _
  injection e with e1 e2 e3
  subst e1; subst e2; subst e3
  refine ⟨⟨h4, fun hn => ?_⟩, fun x hx => ?_, h3⟩
  · obtain ⟨b, o, e, hb, hr⟩ := h5 hn
    refine ⟨b, o, e, hb, fun i a ha => ?_⟩
    obtain ⟨cs, hc, hcs⟩ := hr i a ha
    rw [hcs.1] at hc
    exact hc
  · obtain ⟨i, hi, rfl⟩ := List.mem_iff_getElem.1 hx
    obtain ⟨b, o, e, hb, hr⟩ := h5 (by omega)
    obtain ⟨cs, hc, hcs⟩ := hr i _ (List.getElem?_eq_getElem hi)
    exact hcs.2
end Go.Proofs.YthflljlilcmcnaaGreatDoor
