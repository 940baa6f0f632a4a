/-
  Package variables that lie as the text lays them: an array of numbers, off its datum. Of any program.
-/
import Derived.ProofKit
import Derived.LaidMore
import Derived.OpenShut
import Derived.Stop.Joined
import Derived.Test.YtoiffchhfnbooaaDoorQRowRel
import Derived.Test.YtoiffchhfnbooaaDoorQEventB
import Derived.Test.YtoiffchhfnbooaaDoorQRecRows
import Derived.Test.YtoiffchhfnbooaaDoorQEventF
namespace Go.Proofs.YtoiffchhfnbooaaDoor
set_option linter.unusedVariables false
set_option linter.unusedSimpArgs false
set_option linter.unusedVariables false
set_option linter.unusedSimpArgs false
open Go.ChangeShapes Go.WideShapes Go.ChangeAt Go.RowKit

theorem trod_ints {H : Type} {enc : TypeId × Value → H} {P : Program} {w : World} {base : Nat} {sp : Nat → Bool} {held : Bool} {fuel n : Nat} {t e : TypeId} {k : IntKind} {cs : List Value} {vals : List Int} {p : List MemPlace}
    (ht : P.underlying t = some (.array n e)) (he : P.underlying e = some (.int k)) (hc : P.cellsOf e = 1) (hct : P.cellsOf t = n)
    (h : DataW.trod enc P w base sp held fuel t cs = some (.agg (vals.map fun z => .lit (.int k z)), p)) : cs = vals.map (Value.int k) := by
  obtain ⟨xs, m, rfl, hx, hl, hxl, hel⟩ := DataW.trod_array ht h
  simp only [Prod.mk.injEq, DataW.agg.injEq] at hx
  have hvl : vals.length = n := by
    have := congrArg List.length hx.1
    simp only [List.length_map] at this
    rw [this, hxl]
  apply List.ext_getElem?
  intro i
  by_cases hi : i < n
  · have h1 := hel i hi
    rw [hc, Nat.mul_one, List.getElem?_eq_getElem (by rw [hxl]; exact hi)] at h1
    have h2 : (cs.drop i).take 1 = [cs[i]'(by rw [hl, hct]; exact hi)] := by
      rw [List.drop_eq_getElem_cons (by rw [hl, hct]; exact hi)]
      rfl
    rw [h2] at h1
    obtain ⟨z, hz, hx2, _⟩ := DataW.trod_int he h1
    have h3 := congrArg (·[i]?) hx.1
    simp only [List.getElem?_map, List.getElem?_eq_getElem (show i < vals.length by omega), List.getElem?_eq_getElem (show i < xs.length by omega), Option.map_some, Option.some.injEq] at h3
    rw [hx2] at h3
    injection h3 with h3
    injection h3 with _ h3
    injection hz with hz _
    rw [List.getElem?_eq_getElem (by rw [hl, hct]; exact hi), hz, List.getElem?_map, List.getElem?_eq_getElem (by omega), ← h3]
    rfl
  · rw [List.getElem?_eq_none (by omega), List.getElem?_eq_none (by simp; omega)]
end Go.Proofs.YtoiffchhfnbooaaDoor

/-
  Layer 12's arguments, opened: events; the table of kinds off what the rows list.
-/
namespace Go.Proofs.YtoiffchhfnbooaaDoor
set_option linter.unusedVariables false
set_option linter.unusedSimpArgs false
set_option linter.unusedVariables false
set_option linter.unusedSimpArgs false
open Go.ChangeShapes Go.WideShapes Go.ChangeAt Go.RowKit Go.Deep

/-- an array of pairs, a number and a text each -/
theorem trod_pairs {H : Type} {enc : TypeId × Value → H} {P : Program} {w : World} {base : Nat} {sp : Nat → Bool} {held : Bool} {fuel n : Nat} {t e ts ti : TypeId} {k : IntKind} {fs : Array Field} {f0 f1 : Field} {cs : List Value} {L : List (Int × List UInt8)} {p : List MemPlace}
    (ht : P.underlying t = some (.array n e)) (he : P.underlying e = some (.struct fs)) (hc : P.cellsOf e = 2) (h0 : fs[0]? = some f0) (h1 : fs[1]? = some f1) (o0 : f0.offset = 0) (o1 : f1.offset = 1) (t0 : f0.type = ti) (t1 : f1.type = ts)
    (hs : P.underlying ts = some .string) (hi : P.underlying ti = some (.int k)) (c0 : P.cellsOf ts = 1) (c1 : P.cellsOf ti = 1)
    (h : DataW.trod enc P w base sp held fuel t cs = some (.agg (L.map fun x => .agg [.lit (.int k x.1), .lit (.string x.2)]), p)) :
    ∀ i z s, L[i]? = some (z, s) → cs[i * 2]? = some (.int k z) ∧ cs[i * 2 + 1]? = some (.string ⟨s.toArray⟩) := by
  obtain ⟨xs, m, rfl, hx, hl, hxl, hel⟩ := DataW.trod_array ht h
  simp only [Prod.mk.injEq, DataW.agg.injEq] at hx
  intro i z s hi2
  have hlen : L.length = n := by
    have := congrArg List.length hx.1
    simp only [List.length_map] at this
    rw [this, hxl]
  have hin : i < n := by rw [← hlen]; exact (List.getElem?_eq_some_iff.1 hi2).1
  have e1 := hel i hin
  rw [hc] at e1
  have hxi := congrArg (·[i]?) hx.1
  simp only [List.getElem?_map, hi2, Option.map_some] at hxi
  obtain ⟨x, hxe⟩ : ∃ x, xs[i]? = some x := ⟨xs[i]'(by omega), List.getElem?_eq_getElem (by omega)⟩
  rw [hxe] at e1 hxi
  simp only [Option.map_some, Option.some.injEq] at hxi
  obtain ⟨ys, q, hm, hy, hyl, hyn, hye⟩ := DataW.trod_struct he e1
  have hy1 : x.1 = .agg (ys.map (·.1)) := by rw [hy]
  rw [hy1] at hxi
  injection hxi with hxi
  have a0 := hye 0 f0 h0
  have a1 := hye 1 f1 h1
  rw [o0, t0, c1] at a0
  rw [o1, t1, c0] at a1
  have b0 := congrArg (·[0]?) hxi
  have b1 := congrArg (·[1]?) hxi
  simp only [List.getElem?_map, List.getElem?_cons_zero, List.getElem?_cons_succ] at b0 b1
  obtain ⟨y0, hy0⟩ : ∃ y, ys[0]? = some y := by cases hq : ys[0]? with
    | none => rw [hq] at b0; cases b0
    | some y => exact ⟨y, rfl⟩
  obtain ⟨y1, hy1'⟩ : ∃ y, ys[1]? = some y := by cases hq : ys[1]? with
    | none => rw [hq] at b1; cases b1
    | some y => exact ⟨y, rfl⟩
  rw [hy0] at a0 b0
  rw [hy1'] at a1 b1
  obtain ⟨zb, hzb, hzx, _⟩ := DataW.trod_int hi a0
  obtain ⟨sb, hsb, hsx, _⟩ := DataW.trod_string hs a1
  rw [hzx] at b0
  rw [hsx] at b1
  simp only [Option.map_some, Option.some.injEq, DataW.lit.injEq, Lit.string.injEq, Lit.int.injEq, true_and] at b0 b1
  have g0 := congrArg (·[0]?) hzb
  have g1 := congrArg (·[0]?) hsb
  simp only [List.getElem?_take, List.getElem?_drop, List.getElem?_cons_zero, Nat.zero_lt_one, if_true, Nat.zero_add, Nat.add_zero] at g0 g1
  refine ⟨?_, ?_⟩
  · rw [b0]
    simpa using g0
  · rw [b1]
    simpa using g1

/-- field j of a struct that came in -/
theorem opens_field {α : Type} {P : Program} {t : TypeId} {fs : Array Field} {r : RowRel α} {H : Type} {enc : TypeId × Value → H} {w : World} {base : Nat} {held : Bool} {fuel : Nat} {cs : List Value} {x : DataW H × List MemPlace}
    (ht : P.underlying t = some (.struct fs)) (h : DataW.trod enc P w base (fun _ => true) held fuel t cs = some x) (hz : (x.1.weights P t).all (· ≤ reachBytes) = true)
    (j off : Nat) (ft : TypeId) (hj0 : (fs[j]?).map (fun f => (f.type, f.offset)) = some (ft, off)) (ho : Opens P ft r) : cs.length = P.cellsOf t ∧ ∃ a, r.R w w.heap.size ((cs.drop off).take r.k) a := by
  obtain ⟨f, hj, he⟩ := Option.map_eq_some_iff.1 hj0
  simp only [Prod.mk.injEq] at he
  obtain ⟨rfl, rfl⟩ := he
  obtain ⟨xs, m, hfu, hx, hl, hxl, hf⟩ := DataW.trod_struct ht h
  have h0 := hf j f hj
  have hjl : j < xs.length := by rw [hxl]; exact (Array.getElem?_eq_some_iff.1 hj).1
  rw [List.getElem?_eq_getElem hjl, ho.1] at h0
  refine ⟨hl, ho.2 H enc w base held m _ _ h0 ?_⟩
  rw [List.all_eq_true]
  intro q hq
  refine List.all_eq_true.1 hz q ?_
  rw [hx]
  simp only [DataW.weights, ht]
  exact DataW.weights_mem_each (j := j) (by rw [List.getElem?_map, Array.getElem?_toList, hj]; rfl) (by rw [List.getElem?_map, List.getElem?_eq_getElem hjl]; rfl) q hq

def rgRel : RowRel Rg where
  k := 2
  R := fun _ _ cs r => cs = rgC r
  len := fun h => by rw [h]; rfl
  keep := fun h _ => h
  more := fun h _ => h
theorem rg_types : (match Tryd.prog.underlying 65 with | some (.struct fs) => fs.toList.map (fun f => (f.type, f.offset)) | _ => []) = [(3, 0), (3, 1)] := by kernel_rfl
theorem list2 {α : Type} {l : List α} (h : l.length = 2) : ∃ a b, l = [a, b] := by
  match l, h with
  | [a, b], _ => exact ⟨a, b, rfl⟩
set_option maxRecDepth 20000 in
theorem opensRg : Opens Tryd.prog 65 rgRel := by
  refine ⟨by kernel_rfl, fun H enc w base held fuel cs x h hz => ?_⟩
  obtain ⟨xs, m, hfu, hx, hl, hxl, hf⟩ := DataW.trod_struct Tryd.underlying65 h
  replace hxl : xs.length = 2 := hxl
  have hl2 : cs.length = 2 := hl.trans (by kernel_rfl)
  have h0 : DataW.trod enc Tryd.prog w base (fun _ => true) held m 3 ((cs.drop 0).take (Tryd.prog.cellsOf 3)) = xs[0]? := hf 0 _ rfl
  have h1 : DataW.trod enc Tryd.prog w base (fun _ => true) held m 3 ((cs.drop 1).take (Tryd.prog.cellsOf 3)) = xs[1]? := hf 1 _ rfl
  have c0 : Tryd.prog.cellsOf 3 = 1 := by kernel_rfl
  rw [c0] at h0 h1
  obtain ⟨v0, v1, rfl⟩ := list2 hl2
  obtain ⟨y0, y1, rfl⟩ := list2 hxl
  simp only [List.drop_zero, List.drop_succ_cons, List.take_succ_cons, List.take_zero, List.getElem?_cons_zero, List.getElem?_cons_succ] at h0 h1
  obtain ⟨a, ha, _, _⟩ := DataW.trod_int Tryd.underlying3 h0
  obtain ⟨b, hb, _, _⟩ := DataW.trod_int Tryd.underlying3 h1
  simp only [List.cons.injEq, and_true] at ha hb
  exact ⟨(a, b), by rw [ha, hb]; rfl⟩
theorem opensRgs : Opens Tryd.prog 31 rgRel.slice := opens_slice Tryd.underlying31 (by kernel_rfl) (by decide) (by rw [show Tryd.prog.bytesOf 65 = 16 from by kernel_rfl]; omega) opensRg
theorem opensInts : Opens Tryd.prog 30 (RowRel.int .i64).slice := opens_slice Tryd.underlying30 (by kernel_rfl) (by decide) (by rw [show Tryd.prog.bytesOf 3 = 8 from by kernel_rfl]; omega) (opens_int Tryd.underlying3 (by kernel_rfl))
theorem ColK.of_rgs {w : World} {B : Nat} {A : Option Addr} {n c : Nat} {l : List Rg} (h : rgRel.slice.R w B [.slice A n c] l) : ColK 2 rgC w B A n l ∧ n ≤ 140737488355328 := by
  obtain ⟨A1, n1, c1, e, h1, h2, h3, h4, h5⟩ := h
  injection e with e _
  injection e with e1 e2 e3
  subst e1; subst e2; subst e3
  refine ⟨⟨h4, fun hn => ?_⟩, h3⟩
  obtain ⟨b, o, e, hb, hr⟩ := h5 hn
  refine ⟨b, o, e, hb, fun i a ha => ?_⟩
  obtain ⟨cs, hc, hcs⟩ := hr i a ha
  rw [show cs = rgC a from hcs] at hc
  exact hc


theorem listB11 {α : Type} {l : List α} (h : l.length = 11) : ∃ a b c d e f g i j k m, l = [a, b, c, d, e, f, g, i, j, k, m] := by
  match l, h with
  | [a, b, c, d, e, f, g, i, j, k, m], _ => exact ⟨a, b, c, d, e, f, g, i, j, k, m, rfl⟩
theorem opensBB : Opens Tryd.prog 32 RowRel.bytes := opens_bytes Tryd.underlying32 Tryd.underlying5 (by kernel_rfl) (by kernel_rfl) (by rw [show Tryd.prog.bytesOf 5 = 1 from by kernel_rfl]; omega)
theorem opensEI : Opens Tryd.prog 3 (RowRel.int .i64) := opens_int Tryd.underlying3 (by kernel_rfl)
theorem opensEStr : Opens Tryd.prog 9 RowRel.str := opens_str Tryd.underlying9 (by kernel_rfl)
def evRel : RowRel Eh where
  k := 11
  R := fun w B cs h => cs = (evC h).toList ∧ EvIn w B h
  len := fun h => by rw [h.1]; rfl
  keep := fun h hk => ⟨h.1, h.2.1.keep hk, h.2.2.1.keep hk, h.2.2.2.1.keep hk, h.2.2.2.2⟩
  more := fun h hB => ⟨h.1, h.2.more hB⟩
theorem slice_of {α : Type} {r : RowRel α} {w : World} {B : Nat} {v : Value} {l : List α} (h : r.slice.R w B [v] l) : ∃ A n c, v = .slice A n c := by
  obtain ⟨A, n, c, e, _⟩ := h
  injection e with e _
  exact ⟨A, n, c, e⟩
theorem bytes_of3 {w : World} {B : Nat} {A : Option Addr} {n c : Nat} {l : List Nat} (h : RowRel.bytes.R w B [.slice A n c] l) : Bytes w B A n l ∧ n ≤ 140737488355328 ∧ n ≤ c ∧ c ≤ maxLen := by
  obtain ⟨A1, n1, c1, e, h1, h2, h3, h4⟩ := h
  injection e with e _
  injection e with e1 e2 e3
  subst e1; subst e2; subst e3
  exact ⟨h4, h3, h1, h2⟩
set_option maxRecDepth 20000 in
theorem opensEv : Opens Tryd.prog 34 evRel := by
  refine ⟨by kernel_rfl, fun H enc w base held fuel cs x h hz => ?_⟩
  obtain ⟨hl, a0, h0⟩ := opens_field Tryd.underlying34 h hz 0 0 3 rfl opensEI
  obtain ⟨_, a1, h1⟩ := opens_field Tryd.underlying34 h hz 1 1 3 rfl opensEI
  obtain ⟨_, a2, h2⟩ := opens_field Tryd.underlying34 h hz 2 2 9 rfl opensEStr
  obtain ⟨_, a3, h3⟩ := opens_field Tryd.underlying34 h hz 3 3 9 rfl opensEStr
  obtain ⟨_, a4, h4⟩ := opens_field Tryd.underlying34 h hz 4 4 30 rfl opensInts
  obtain ⟨_, a5, h5⟩ := opens_field Tryd.underlying34 h hz 5 5 31 rfl opensRgs
  obtain ⟨_, a6, h6⟩ := opens_field Tryd.underlying34 h hz 6 6 3 rfl opensEI
  obtain ⟨_, a7, h7⟩ := opens_field Tryd.underlying34 h hz 7 7 3 rfl opensEI
  obtain ⟨_, a8, h8⟩ := opens_field Tryd.underlying34 h hz 8 8 3 rfl opensEI
  obtain ⟨_, a9, h9⟩ := opens_field Tryd.underlying34 h hz 9 9 3 rfl opensEI
  obtain ⟨_, a10, h10⟩ := opens_field Tryd.underlying34 h hz 10 10 32 rfl opensBB
  have hl11 : cs.length = 11 := hl.trans (by kernel_rfl)
  obtain ⟨v0, v1, v2, v3, v4, v5, v6, v7, v8, v9, v10, rfl⟩ := listB11 hl11
  replace h0 : [v0] = [Value.int .i64 a0] := h0.1
  replace h1 : [v1] = [Value.int .i64 a1] := h1.1
  have s2 := h2.2
  have s3 := h3.2
  replace h2 : [v2] = [Value.string a2] := h2.1
  replace h3 : [v3] = [Value.string a3] := h3.1
  replace h4 : (RowRel.int .i64).slice.R w w.heap.size [v4] a4 := h4
  replace h5 : rgRel.slice.R w w.heap.size [v5] a5 := h5
  replace h6 : [v6] = [Value.int .i64 a6] := h6.1
  replace h7 : [v7] = [Value.int .i64 a7] := h7.1
  replace h8 : [v8] = [Value.int .i64 a8] := h8.1
  replace h9 : [v9] = [Value.int .i64 a9] := h9.1
  replace h10 : RowRel.bytes.R w w.heap.size [v10] a10 := h10
  simp only [List.cons.injEq, and_true] at h0 h1 h2 h3 h6 h7 h8 h9
  subst h0; subst h1; subst h2; subst h3; subst h6; subst h7; subst h8; subst h9
  obtain ⟨A1, n1, c1, rfl⟩ := slice_of h4
  obtain ⟨A2, n2, c2, rfl⟩ := slice_of h5
  have h10' := h10
  obtain ⟨A3, n3, c3, e10, _⟩ := h10'
  injection e10 with e10 _
  subst e10
  exact ⟨⟨⟨a0, a1, a2, a3, a4, a5, a6, a7, a8, a9, a10⟩, A1, n1, c1, A2, n2, c2, A3, n3, c3⟩, rfl, (Col.of_ints h4).1, (ColK.of_rgs h5).1, (bytes_of3 h10).1, (Col.of_ints h4).2.2, (ColK.of_rgs h5).2, (bytes_of3 h10).2.1, s2, s3⟩
theorem ev_of {w : World} {B : Nat} {cs : Array Value} {h : Eh} (H : evRel.R w B cs.toList h) : cs = evC h ∧ EvIn w B h := ⟨Array.ext' H.1, H.2⟩

/-! ### The table of kinds -/
def kindD : List (Int × List UInt8) := (List.range 14).map fun j => (((j : Nat) : Int) + 1, (letK j).map UInt8.ofNat)
theorem kindD_at : ∀ i, i < 14 → kindD[i]? = some (((i : Nat) : Int) + 1, (letK i).map UInt8.ofNat) := by decide +kernel
theorem strOf_mkE (l : List Nat) : (⟨(l.map UInt8.ofNat).toArray⟩ : ByteArray) = strOf l := by
  refine data_inj ?_
  rw [strOf_data]
theorem kindC_at (i : Nat) (hi : i < 14) : kindC[i * 2]? = some (.int .i64 (((i : Nat) : Int) + 1)) ∧ kindC[i * 2 + 1]? = some (.string (strOf (letK i))) := by
  rcases (by omega : i = 0 ∨ i = 1 ∨ i = 2 ∨ i = 3 ∨ i = 4 ∨ i = 5 ∨ i = 6 ∨ i = 7 ∨ i = 8 ∨ i = 9 ∨ i = 10 ∨ i = 11 ∨ i = 12 ∨ i = 13) with rfl | rfl | rfl | rfl | rfl | rfl | rfl | rfl | rfl | rfl | rfl | rfl | rfl | rfl <;> exact ⟨rfl, rfl⟩
theorem kinds_of_cells {w : World} {cs : List Value} (hw : ∀ r, w.cell? ⟨0, r, none⟩ = cs[r]?) (h : ∀ i z s, kindD[i]? = some (z, s) → cs[i * 2]? = some (.int .i64 z) ∧ cs[i * 2 + 1]? = some (.string ⟨s.toArray⟩)) : Kinds w := by
  intro j v hv
  have hj : j < 28 := (List.getElem?_eq_some_iff.1 hv).1
  obtain ⟨h1, h2⟩ := h (j / 2) _ _ (kindD_at (j / 2) (by omega))
  rw [strOf_mkE] at h2
  have hi := kindC_at (j / 2) (by omega)
  rw [Nat.zero_add, hw]
  rcases (by omega : j = j / 2 * 2 ∨ j = j / 2 * 2 + 1) with e | e
  · rw [e] at hv ⊢
    rw [hi.1] at hv
    rw [h1, hv]
  · rw [e] at hv ⊢
    rw [hi.2] at hv
    rw [h2, hv]
end Go.Proofs.YtoiffchhfnbooaaDoor

/-
  Layer 15's arguments, opened: chains; lists of events.
-/
namespace Go.Proofs.YtoiffchhfnbooaaDoor
set_option linter.unusedVariables false
set_option linter.unusedSimpArgs false
set_option linter.unusedVariables false
set_option linter.unusedSimpArgs false
open Go.ChangeShapes Go.WideShapes Go.ChangeAt Go.RowKit Go.Deep

/-- an array of numbers that comes in, as a list -/
theorem open_nats15 {H : Type} {enc : TypeId × Value → H} {P : Program} {w : World} {base : Nat} {sp : Nat → Bool} {held : Bool} {fuel n M : Nat} {t e : TypeId} {k : IntKind} {cs : Array Value} {x : DataW H × List MemPlace}
    (ht : P.underlying t = some (.array n e)) (he : P.underlying e = some (.int k)) (hc : P.cellsOf e = 1) (hct : P.cellsOf t = n) (hk : ∀ z, (Lit.int k z).wf = true → 0 ≤ z ∧ z < (M : Int))
    (h : DataW.trod enc P w base sp held fuel t cs.toList = some x) : ∃ l : List Nat, cs = (l.map fun x : Nat => Value.int k (x : Int)).toArray ∧ l.length = n ∧ ∀ x ∈ l, x < M := by
  obtain ⟨cs⟩ := cs
  obtain ⟨xs, m, rfl, _, hl, hxl, hel⟩ := DataW.trod_array ht h
  have hl' : cs.length = n := hl.trans hct
  have hone : ∀ i, i < n → ∃ z : Nat, cs[i]? = some (.int k (z : Int)) ∧ z < M := by
    intro i hi
    have h1 := hel i hi
    rw [hc, Nat.mul_one, List.getElem?_eq_getElem (by rw [hxl]; exact hi)] at h1
    have h2 : (cs.drop i).take 1 = [cs[i]'(by omega)] := by
      rw [List.drop_eq_getElem_cons (by omega)]
      rfl
    rw [show (({ toList := cs } : Array Value).toList) = cs from rfl, h2] at h1
    obtain ⟨z, hz, _, hw⟩ := DataW.trod_int he h1
    obtain ⟨hz0, hz1⟩ := hk z hw
    obtain ⟨y, rfl⟩ := Int.eq_ofNat_of_zero_le hz0
    simp only [List.cons.injEq, and_true] at hz
    exact ⟨y, by rw [List.getElem?_eq_getElem (by omega), hz], by omega⟩
  refine ⟨(List.range n).map (fun i => match (cs[i]? : Option Value) with | some (.int _ z) => z.toNat | _ => 0), ?_, by simp, ?_⟩
  · congr 1
    apply List.ext_getElem?
    intro i
    by_cases hi : i < n
    · obtain ⟨z, hz, _⟩ := hone i hi
      rw [hz]
      simp [hi, hz]
    · rw [List.getElem?_eq_none (by omega), List.getElem?_eq_none (by simp; omega)]
  · intro z hz
    simp only [List.mem_map, List.mem_range] at hz
    obtain ⟨i, hi, rfl⟩ := hz
    obtain ⟨z, hz, hb⟩ := hone i hi
    rw [hz]
    exact hb

def arrRel : RowRel (List Nat) where
  k := 32
  R := fun _ _ cs l => cs = l.map bv ∧ l.length = 32 ∧ ∀ x ∈ l, x < 256
  len := fun h => by rw [h.1, List.length_map, h.2.1]
  keep := fun h _ => h
  more := fun h _ => h
theorem opensArr : Opens Tryd.prog 24 arrRel := by
  refine ⟨by kernel_rfl, fun H enc w base held fuel cs x h hz => ?_⟩
  obtain ⟨l, hc, hl, hb⟩ := open_nats15 (cs := cs.toArray) (M := 256) Tryd.underlying24 Tryd.underlying5 (by kernel_rfl) (by kernel_rfl) (fun z hz => by have := bounds_u8 hz; omega) h
  refine ⟨l, ?_, hl, hb⟩
  have := congrArg Array.toList hc
  exact this
def chRel : RowRel Ch where
  k := 33
  R := fun _ _ cs c => cs = (chC c).toList ∧ c.Ok
  len := fun h => by rw [h.1, Array.length_toList, chC_size h.2]
  keep := fun h _ => h
  more := fun h _ => h
theorem opensCh : Opens Tryd.prog 26 chRel := by
  refine ⟨by kernel_rfl, fun H enc w base held fuel cs x h hz => ?_⟩
  obtain ⟨hl, l, h0⟩ := opens_field Tryd.underlying26 h hz 0 0 24 rfl opensArr
  obtain ⟨_, z, h1⟩ := opens_field Tryd.underlying26 h hz 1 32 3 rfl opensEI
  have hl33 : cs.length = 33 := hl.trans (by kernel_rfl)
  obtain ⟨h0, hl32, hb⟩ := h0
  replace h1 : (cs.drop 32).take 1 = [Value.int .i64 z] := h1.1
  replace h0 : cs.take 32 = l.map bv := by rw [← h0, List.drop_zero]; rfl
  refine ⟨⟨l, z⟩, ?_, ⟨hl32, hb⟩⟩
  show cs = l.map bv ++ [Value.int .i64 z]
  have h2 : (cs.drop 32).take 1 = cs.drop 32 := List.take_of_length_le (by rw [List.length_drop]; omega)
  rw [h2] at h1
  rw [← h0, ← h1, List.take_append_drop]
theorem ch_of {w : World} {B : Nat} {cs : Array Value} {c : Ch} (H : chRel.R w B cs.toList c) : cs = chC c ∧ c.Ok := ⟨Array.ext' H.1, H.2⟩
theorem cellsCh : Tryd.prog.cellsOf 26 = 33 := by kernel_rfl
end Go.Proofs.YtoiffchhfnbooaaDoor

/-
  Contracts over package pack's reader, and the document's own: what is wrong is noted (where a program calls it).
-/
namespace Go.Proofs.YtoiffchhfnbooaaDoor
set_option linter.unusedVariables false
set_option linter.unusedSimpArgs false
open Go.RowKit
set_option linter.unusedVariables false
set_option linter.unusedSimpArgs false

set_option maxHeartbeats 400000 in
theorem pFailK_any (g e : Nat) (b : Bool) (l : List Nat) (w : World) (h : RdP w g l e) :
    Calls Tryd.prog 25 #[.pointer (some ⟨g, 0, none⟩), .bool b] w (Gave (.tuple #[]) g l (failE e b) w) := by
  have HE : Hid (failE e b = if e = 0 ∧ b = true then 3 else e) := hide rfl
  cases b with
  | true =>
    have HI : Hid (failE e true = noteE e 3) := hide (by rw [HE.out]; simp; rfl)
    rw [HI.out]
    clear HI HE
    have HH := hide h
    clear h
    go_enter Tryd.func25, Tryd.ntmps25
    go_wp2_with fail
    refine (note_any g e 3 l w HH.out).mono ?_
    rintro e' w1 ⟨rfl, hs1⟩
    go_wp2
    go_end0
    exact ⟨rfl, hs1⟩
  | false =>
    have HI : Hid (failE e false = e) := hide (by rw [HE.out]; simp)
    rw [HI.out]
    clear HI HE
    go_enter Tryd.func25, Tryd.ntmps25
    go_wp2
    go_end0
    exact ⟨rfl, h, World.grownBy.refl _ _⟩

end Go.Proofs.YtoiffchhfnbooaaDoor
