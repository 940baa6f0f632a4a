/-
  Package uids' arguments, opened: ranges, numbers, two numbers that come in as an array, texts; the library's table and errors off what the rows list.
-/
import Derived.Test.YtiophifilikajaaDoorQUidsLib
import Derived.Test.YtiophifilikajaaDoorQUidsA
import Derived.Test.YtiophifilikajaaDoorQCols
import Derived.Test.YtiophifilikajaaDoorQBytes
namespace Go.Proofs.YtiophifilikajaaDoor
set_option linter.unusedVariables false
set_option linter.unusedSimpArgs false
set_option linter.unusedVariables false
set_option linter.unusedSimpArgs false
open Go.ChangeShapes Go.WideShapes Go.ChangeAt Go.RowKit

theorem open_int2 {H : Type} {enc : TypeId × Value → H} {P : Program} {w : World} {base : Nat} {sp : Nat → Bool} {held : Bool} {fuel : Nat} {t e : TypeId} {k : IntKind} {cs : Array Value} {x : DataW H × List MemPlace}
    (ht : P.underlying t = some (.array 2 e)) (he : P.underlying e = some (.int k)) (hc : P.cellsOf e = 1) (hct : P.cellsOf t = 2)
    (h : DataW.trod enc P w base sp held fuel t cs.toList = some x) : ∃ a b : Int, cs = #[.int k a, .int k b] := by
  obtain ⟨cs⟩ := cs
  obtain ⟨xs, m, rfl, _, hl, hxl, hel⟩ := DataW.trod_array ht h
  have hl' : cs.length = 2 := hl.trans hct
  have hone : ∀ i, i < 2 → ∃ z : Int, cs[i]? = some (.int k z) := by
    intro i hi
    have h1 := hel i hi
    rw [hc, Nat.mul_one, List.getElem?_eq_getElem (by rw [hxl]; exact hi)] at h1
    have h2 : (cs.drop i).take 1 = [cs[i]'(by omega)] := by
      rw [List.drop_eq_getElem_cons (by omega)]
      rfl
    rw [show (({ toList := cs } : Array Value).toList) = cs from rfl, h2] at h1
    obtain ⟨z, hz, _, hw⟩ := DataW.trod_int he h1
    simp only [List.cons.injEq, and_true] at hz
    exact ⟨z, by rw [List.getElem?_eq_getElem (by omega), hz]⟩
  match cs, hl', hone with
  | [u, v], _, hone =>
    obtain ⟨a, ha⟩ := hone 0 (by omega)
    obtain ⟨b, hb⟩ := hone 1 (by omega)
    simp only [List.getElem?_cons_zero, List.getElem?_cons_succ, Option.some.injEq] at ha hb
    exact ⟨a, b, by rw [ha, hb]⟩

section
variable {H : Type} {enc : TypeId × Value → H} {P : Program} {w : World} {base : Nat} {spare : Nat → Bool} {held : Bool}
theorem open_str_arg {r : Reach} {b0 : Nat} {t : TypeId} {v : Value} {d : DataW H} {ps : List MemPlace} (ht : P.underlying t = some .string) (hval : Value.okWide P w r b0 t v) (hd : DataW.Trod enc P w base spare held t v d ps) :
    ∃ s : ByteArray, v = .string s ∧ d = .lit (.string s.data.toList) ∧ ps = [] ∧ s.size ≤ maxLen := by
  obtain ⟨s, rfl⟩ := okWide_string ht hval
  obtain ⟨fuel, hf⟩ := hd
  obtain ⟨s', h, hx, hw⟩ := DataW.trod_string ht hf
  simp [Value.cells] at h
  subst h
  simp only [Prod.mk.injEq] at hx
  exact ⟨s, rfl, hx.1, hx.2, hw⟩
theorem shut_string {t : TypeId} {s : ByteArray} (ht : P.underlying t = some .string) (hs : s.size ≤ maxLen) : DataW.Trod enc P w base spare held t (.string s) (.lit (.string s.data.toList)) [] :=
  ⟨1, by simp [DataW.trod, Value.cells, ht, hs]⟩
end

theorem opensStr : Opens Tryd.prog 9 RowRel.str := opens_str Tryd.underlying9 (by kernel_rfl)
theorem str_small {H : Type} {enc : TypeId × Value → H} {w : World} {base : Nat} {held : Bool} {s : ByteArray} {d : DataW H} {p : List MemPlace}
    (h : DataW.Trod enc Tryd.prog w base (fun _ => true) held 9 (.string s) d p) (hz : (d.weights Tryd.prog 9).all (· ≤ reachBytes) = true) : s.size ≤ 140737488355328 := by
  obtain ⟨a, e, h2⟩ := opensStr.arg h hz
  simp [Value.cells] at e
  subst e
  exact h2

/-! ### Ranges and numbers -/
def rgRel : RowRel Rg where
  k := 2
  R := fun _ _ cs r => cs = rgC r
  len := fun h => by rw [h]; rfl
  keep := fun h _ => h
  more := fun h _ => h
theorem rg_types : (match Tryd.prog.underlying 43 with | some (.struct fs) => fs.toList.map (fun f => (f.type, f.offset)) | _ => []) = [(3, 0), (3, 1)] := by kernel_rfl
theorem list2 {α : Type} {l : List α} (h : l.length = 2) : ∃ a b, l = [a, b] := by
  match l, h with
  | [a, b], _ => exact ⟨a, b, rfl⟩
set_option maxRecDepth 20000 in
theorem opensRg : Opens Tryd.prog 43 rgRel := by
  refine ⟨by kernel_rfl, fun H enc w base held fuel cs x h hz => ?_⟩
  obtain ⟨xs, m, hfu, hx, hl, hxl, hf⟩ := DataW.trod_struct Tryd.underlying43 h
  replace hxl : xs.length = 2 := hxl
  have hl2 : cs.length = 2 := hl.trans (by kernel_rfl)
  have h0 : DataW.trod enc Tryd.prog w base (fun _ => true) held m 3 ((cs.drop 0).take (Tryd.prog.cellsOf 3)) = xs[0]? := hf 0 _ rfl
  have h1 : DataW.trod enc Tryd.prog w base (fun _ => true) held m 3 ((cs.drop 1).take (Tryd.prog.cellsOf 3)) = xs[1]? := hf 1 _ rfl
  have c0 : Tryd.prog.cellsOf 3 = 1 := by kernel_rfl
  rw [c0] at h0 h1
  obtain ⟨v0, v1, rfl⟩ := list2 hl2
  obtain ⟨y0, y1, rfl⟩ := list2 hxl
  simp only [List.drop_zero, List.drop_succ_cons, List.take_succ_cons, List.take_zero, List.getElem?_cons_zero, List.getElem?_cons_succ] at h0 h1
  obtain ⟨a, ha, _, _⟩ := DataW.trod_int Tryd.underlying3 h0
  obtain ⟨b, hb, _, _⟩ := DataW.trod_int Tryd.underlying3 h1
  simp only [List.cons.injEq, and_true] at ha hb
  exact ⟨(a, b), by rw [ha, hb]; rfl⟩
theorem opensRgs : Opens Tryd.prog 22 rgRel.slice := opens_slice Tryd.underlying22 (by kernel_rfl) (by decide) (by rw [show Tryd.prog.bytesOf 43 = 16 from by kernel_rfl]; omega) opensRg
theorem opensInts : Opens Tryd.prog 32 (RowRel.int .i64).slice := opens_slice Tryd.underlying32 (by kernel_rfl) (by decide) (by rw [show Tryd.prog.bytesOf 3 = 8 from by kernel_rfl]; omega) (opens_int Tryd.underlying3 (by kernel_rfl))
theorem ColK.of_rgs {w : World} {B : Nat} {A : Option Addr} {n c : Nat} {l : List Rg} (h : rgRel.slice.R w B [.slice A n c] l) : ColK 2 rgC w B A n l ∧ n ≤ 140737488355328 := by
  obtain ⟨A1, n1, c1, e, h1, h2, h3, h4, h5⟩ := h
  injection e with e _
  injection e with e1 e2 e3
  subst e1; subst e2; subst e3
  refine ⟨⟨h4, fun hn => ?_⟩, h3⟩
  obtain ⟨b, o, e, hb, hr⟩ := h5 hn
  refine ⟨b, o, e, hb, fun i a ha => ?_⟩
  obtain ⟨cs, hc, hcs⟩ := hr i a ha
  rw [show cs = rgC a from hcs] at hc
  exact hc

/-! ### What the rows list -/
theorem laid_iface {P : Program} {n nm : String} {d : DataW Unit} {r : List (String × DataW Unit)} {W : World} {g : Nat} {ti : TypeId} {ms : Array (String × TypeId)}
    (h : laidMet P ((n, .iface nm d) :: r) W) (hg : P.globalNamed n = some g) (ht : (P.globals[g]?).map (·.type) = some ti) (hi : P.underlying ti = some (.interface ms)) : ∃ t p, W.cell? ⟨g, 0, none⟩ = some (.iface t p) := by
  obtain ⟨ps, ⟨g0, t0, cs0, f0, p0, q0, hg0, ht0, hv0, hd0, _, _⟩, _, _⟩ := h
  obtain rfl := Option.some.inj (hg.symm.trans hg0)
  obtain rfl := Option.some.inj (ht.symm.trans ht0)
  obtain ⟨_, u, v, hcs, _, _⟩ := iface_of_trod hi hd0
  refine ⟨u, v, ?_⟩
  rw [World.var?_cell hg0 hv0 0, ← Array.getElem?_toList, hcs]
  rfl
theorem laid_ints {P : Program} {n : String} {vals : List Int} {r : List (String × DataW Unit)} {W : World} {g k : Nat} {t e : TypeId} {ki : IntKind}
    (h : laidMet P ((n, .agg (vals.map fun z => .lit (.int ki z))) :: r) W) (hg : P.globalNamed n = some g) (htt : (P.globals[g]?).map (·.type) = some t)
    (ht : P.underlying t = some (.array k e)) (he : P.underlying e = some (.int ki)) (hc : P.cellsOf e = 1) (hct : P.cellsOf t = k) : W.var? P n = some (vals.map (Value.int ki)).toArray := by
  obtain ⟨ps, ⟨g0, t0, cs0, f0, p0, q0, hg0, ht0, hv0, hd0, _, _⟩, _, _⟩ := h
  obtain rfl := Option.some.inj (hg.symm.trans hg0)
  obtain rfl := Option.some.inj (htt.symm.trans ht0)
  have hp := trod_ints ht he hc hct hd0
  rw [hv0, ← hp]
end Go.Proofs.YtiophifilikajaaDoor
