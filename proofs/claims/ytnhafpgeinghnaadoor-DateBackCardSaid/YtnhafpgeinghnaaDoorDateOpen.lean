/-
  Package date's table of months and the library's powers of ten off what the rows list; three numbers that come in as an array.
-/
import Derived.Test.YtnhafpgeinghnaaDoorDateLib
import Derived.Test.YtnhafpgeinghnaaDoorDateMonth
import Derived.Test.YtnhafpgeinghnaaDoorLaid
namespace Go.Proofs.YtnhafpgeinghnaaDoor
set_option linter.unusedVariables false
set_option linter.unusedSimpArgs false
open Go.ChangeShapes Go.WideShapes Go.ChangeAt Go.RowKit

/-- an array of pairs, a text and a number each -/
theorem trod_pairs {H : Type} {enc : TypeId × Value → H} {P : Program} {w : World} {base : Nat} {sp : Nat → Bool} {held : Bool} {fuel n : Nat} {t e ts ti : TypeId} {k : IntKind} {fs : Array Field} {f0 f1 : Field} {cs : List Value} {L : List (List UInt8 × Int)} {p : List MemPlace}
    (ht : P.underlying t = some (.array n e)) (he : P.underlying e = some (.struct fs)) (hc : P.cellsOf e = 2) (h0 : fs[0]? = some f0) (h1 : fs[1]? = some f1) (o0 : f0.offset = 0) (o1 : f1.offset = 1) (t0 : f0.type = ts) (t1 : f1.type = ti)
    (hs : P.underlying ts = some .string) (hi : P.underlying ti = some (.int k)) (c0 : P.cellsOf ts = 1) (c1 : P.cellsOf ti = 1)
    (h : DataW.trod enc P w base sp held fuel t cs = some (.agg (L.map fun x => .agg [.lit (.string x.1), .lit (.int k x.2)]), p)) :
    ∀ i s z, L[i]? = some (s, z) → cs[i * 2]? = some (.string ⟨s.toArray⟩) ∧ cs[i * 2 + 1]? = some (.int k z) := by
  obtain ⟨xs, m, rfl, hx, hl, hxl, hel⟩ := DataW.trod_array ht h
  simp only [Prod.mk.injEq, DataW.agg.injEq] at hx
  intro i s z hi2
  have hlen : L.length = n := by
    have := congrArg List.length hx.1
    simp only [List.length_map] at this
    rw [this, hxl]
  have hin : i < n := by rw [← hlen]; exact (List.getElem?_eq_some_iff.1 hi2).1
  have e1 := hel i hin
  rw [hc] at e1
  have hxi := congrArg (·[i]?) hx.1
  simp only [List.getElem?_map, hi2, Option.map_some] at hxi
  obtain ⟨x, hxe⟩ : ∃ x, xs[i]? = some x := ⟨xs[i]'(by omega), List.getElem?_eq_getElem (by omega)⟩
  rw [hxe] at e1 hxi
  simp only [Option.map_some, Option.some.injEq] at hxi
  obtain ⟨ys, q, hm, hy, hyl, hyn, hye⟩ := DataW.trod_struct he e1
  have hy1 : x.1 = .agg (ys.map (·.1)) := by rw [hy]
  rw [hy1] at hxi
  injection hxi with hxi
  have a0 := hye 0 f0 h0
  have a1 := hye 1 f1 h1
  rw [o0, t0, c0] at a0
  rw [o1, t1, c1] at a1
  have b0 := congrArg (·[0]?) hxi
  have b1 := congrArg (·[1]?) hxi
  simp only [List.getElem?_map, List.getElem?_cons_zero, List.getElem?_cons_succ] at b0 b1
  obtain ⟨y0, hy0⟩ : ∃ y, ys[0]? = some y := by cases hq : ys[0]? with
    | none => rw [hq] at b0; cases b0
    | some y => exact ⟨y, rfl⟩
  obtain ⟨y1, hy1'⟩ : ∃ y, ys[1]? = some y := by cases hq : ys[1]? with
    | none => rw [hq] at b1; cases b1
    | some y => exact ⟨y, rfl⟩
  rw [hy0] at a0 b0
  rw [hy1'] at a1 b1
  obtain ⟨sb, hsb, hsx, _⟩ := DataW.trod_string hs a0
  obtain ⟨zb, hzb, hzx, _⟩ := DataW.trod_int hi a1
  rw [hsx] at b0
  rw [hzx] at b1
  simp only [Option.map_some, Option.some.injEq, DataW.lit.injEq, Lit.string.injEq, Lit.int.injEq, true_and] at b0 b1
  have g0 := congrArg (·[0]?) hsb
  have g1 := congrArg (·[0]?) hzb
  simp only [List.getElem?_take, List.getElem?_drop, List.getElem?_cons_zero, Nat.zero_lt_one, if_true, Nat.zero_add, Nat.add_zero] at g0 g1
  refine ⟨?_, ?_⟩
  · rw [b0]
    simpa using g0
  · rw [b1]
    simpa using g1

theorem open_int3 {H : Type} {enc : TypeId × Value → H} {P : Program} {w : World} {base : Nat} {sp : Nat → Bool} {held : Bool} {fuel : Nat} {t e : TypeId} {k : IntKind} {cs : Array Value} {x : DataW H × List MemPlace}
    (ht : P.underlying t = some (.array 3 e)) (he : P.underlying e = some (.int k)) (hc : P.cellsOf e = 1) (hct : P.cellsOf t = 3)
    (h : DataW.trod enc P w base sp held fuel t cs.toList = some x) : ∃ a b c : Int, cs = #[.int k a, .int k b, .int k c] := by
  obtain ⟨cs⟩ := cs
  obtain ⟨xs, m, rfl, _, hl, hxl, hel⟩ := DataW.trod_array ht h
  have hl' : cs.length = 3 := hl.trans hct
  have hone : ∀ i, i < 3 → ∃ z : Int, cs[i]? = some (.int k z) := by
    intro i hi
    have h1 := hel i hi
    rw [hc, Nat.mul_one, List.getElem?_eq_getElem (by rw [hxl]; exact hi)] at h1
    have h2 : (cs.drop i).take 1 = [cs[i]'(by omega)] := by
      rw [List.drop_eq_getElem_cons (by omega)]
      rfl
    rw [show (({ toList := cs } : Array Value).toList) = cs from rfl, h2] at h1
    obtain ⟨z, hz, _, hw⟩ := DataW.trod_int he h1
    simp only [List.cons.injEq, and_true] at hz
    exact ⟨z, by rw [List.getElem?_eq_getElem (by omega), hz]⟩
  match cs, hl', hone with
  | [u, v, q], _, hone =>
    obtain ⟨a, ha⟩ := hone 0 (by omega)
    obtain ⟨b, hb⟩ := hone 1 (by omega)
    obtain ⟨c, hc⟩ := hone 2 (by omega)
    simp only [List.getElem?_cons_zero, List.getElem?_cons_succ, Option.some.injEq] at ha hb hc
    exact ⟨a, b, c, by rw [ha, hb, hc]⟩

def monD : List (List UInt8 × Int) := [([74, 97, 110], 31), ([70, 101, 98], 28), ([77, 97, 114], 31), ([65, 112, 114], 30), ([77, 97, 121], 31), ([74, 117, 110], 30), ([74, 117, 108], 31), ([65, 117, 103], 31), ([83, 101, 112], 30), ([79, 99, 116], 31), ([78, 111, 118], 30), ([68, 101, 99], 31)]
theorem mon_at : ∀ i, i < 12 → monD[i]? = some ((monS (i + 1)).map UInt8.ofNat, ((mDays 1970 (i + 1) : Nat) : Int)) := by decide +kernel
theorem strOf_mk (l : List Nat) : (⟨(l.map UInt8.ofNat).toArray⟩ : ByteArray) = strOf l := by
  refine data_inj ?_
  rw [strOf_data]
theorem mon_of_cells {w : World} {cs : List Value} (hw : ∀ r, w.cell? ⟨0, r, none⟩ = cs[r]?) (h : ∀ i s z, monD[i]? = some (s, z) → cs[i * 2]? = some (.string ⟨s.toArray⟩) ∧ cs[i * 2 + 1]? = some (.int .i64 z)) : Mon w := by
  intro i hi
  obtain ⟨h1, h2⟩ := h i _ _ (mon_at i hi)
  rw [hw, hw, h1, h2, strOf_mk]
  exact ⟨rfl, rfl⟩
end Go.Proofs.YtnhafpgeinghnaaDoor
