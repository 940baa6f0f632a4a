/-
 A part of the proof: see the last text.
-/
import Derived.Test.YtcdehejgnnnimaaGreatDoorSBytes
import Derived.Test.YtcdehejgnnnimaaGreatDoorSPackMath
import Derived.Test.YtcdehejgnnnimaaGreatDoorChecked
import Derived.ProofKit
import Derived.LaidMore
import Derived.OpenShut
import Derived.Stop.Joined
import Derived.Test.YtcdehejgnnnimaaGreatDoorSKvSmall
namespace Go.Proofs.YtcdehejgnnnimaaGreatDoor
set_option linter.unusedVariables false
set_option linter.unusedSimpArgs false
open Go.ChangeShapes Go.WideShapes Go.ChangeAt Go.RowKit
section
variable {H : Type} {enc : TypeId × Value → H} {P : Program} {w : World} {base : Nat} {spare : Nat → Bool} {held : Bool}
end
theorem opensStr : Opens Tryz.prog 9 RowRel.str := opens_str Tryz.underlying9 (by kernel_rfl)
end Go.Proofs.YtcdehejgnnnimaaGreatDoor
namespace Go.Proofs.YtcdehejgnnnimaaGreatDoor
set_option linter.unusedVariables false
set_option linter.unusedSimpArgs false
open Go.ChangeShapes Go.WideShapes Go.ChangeAt Go.RowKit
theorem trod_ints {H : Type} {enc : TypeId × Value → H} {P : Program} {w : World} {base : Nat} {sp : Nat → Bool} {held : Bool} {fuel n : Nat} {t e : TypeId} {k : IntKind} {cs : List Value} {vals : List Int} {p : List MemPlace}
 (ht : P.underlying t = some (.array n e)) (he : P.underlying e = some (.int k)) (hc : P.cellsOf e = 1) (hct : P.cellsOf t = n)
 (h : DataW.trod enc P w base sp held fuel t cs = some (.agg (vals.map fun z => .lit (.int k z)), p)) : cs = vals.map (Value.int k) := by
 obtain ⟨xs, m, rfl, hx, hl, hxl, hel⟩ := DataW.trod_array ht h
 simp only [Prod.mk.injEq, DataW.agg.injEq] at hx
 have hvl : vals.length = n := by
  have := congrArg List.length hx.1
  simp only [List.length_map] at this
  rw [this, hxl]
 apply List.ext_getElem?
 intro i
 by_cases hi : i < n
 ·have h1 := hel i hi
  rw [hc, Nat.mul_one, List.getElem?_eq_getElem (by rw [hxl]; exact hi)] at h1
  have h2 : (cs.drop i).take 1 = [cs[i]'(by rw [hl, hct]; exact hi)] := by
   rw [List.drop_eq_getElem_cons (by rw [hl, hct]; exact hi)]
   rfl
  rw [h2] at h1
  obtain ⟨z, hz, hx2, _⟩ := DataW.trod_int he h1
  have h3 := congrArg (·[i]?) hx.1
  simp only [List.getElem?_map, List.getElem?_eq_getElem (show i < vals.length by omega), List.getElem?_eq_getElem (show i < xs.length by omega), Option.map_some, Option.some.injEq] at h3
  rw [hx2] at h3
  injection h3 with h3
  injection h3 with _ h3
  injection hz with hz _
  rw [List.getElem?_eq_getElem (by rw [hl, hct]; exact hi), hz, List.getElem?_map, List.getElem?_eq_getElem (by omega), ← h3]
  rfl
 ·rw [List.getElem?_eq_none (by omega), List.getElem?_eq_none (by simp; omega)]
end Go.Proofs.YtcdehejgnnnimaaGreatDoor
namespace Go.Proofs.YtcdehejgnnnimaaGreatDoor
set_option linter.unusedVariables false
set_option linter.unusedSimpArgs false
open Go.ChangeShapes Go.WideShapes Go.ChangeAt Go.RowKit
def chRel : RowRel Chg where
 k := 3
 R := fun _ _ cs r => cs = chgC r ∧ r.1.size ≤ 140737488355328 ∧ r.2.1.size ≤ 140737488355328
 len := fun h => by rw [h.1]; rfl
 keep := fun h _ => h
 more := fun h _ => h
theorem listP3 {α : Type} {l : List α} (h : l.length = 3) : ∃ a b c, l = [a, b, c] := by
 match l, h with
 | [a, b, c], _ => exact ⟨a, b, c, rfl⟩
set_option maxRecDepth 20000 in
theorem opensCh : Opens Tryz.prog 52 chRel := by
 refine ⟨by kernel_rfl, fun H enc w base held fuel cs x h hz => ?_⟩
 obtain ⟨xs, m, hfu, hx, hl, hxl, hf⟩ := DataW.trod_struct Tryz.underlying52 h
 replace hxl : xs.length = 3 := hxl
 have hl2 : cs.length = 3 := hl.trans (by kernel_rfl)
 have h0 : DataW.trod enc Tryz.prog w base (fun _ => true) held m 9 ((cs.drop 0).take (Tryz.prog.cellsOf 9)) = xs[0]? := hf 0 _ rfl
 have h1 : DataW.trod enc Tryz.prog w base (fun _ => true) held m 9 ((cs.drop 1).take (Tryz.prog.cellsOf 9)) = xs[1]? := hf 1 _ rfl
 have h2 : DataW.trod enc Tryz.prog w base (fun _ => true) held m 4 ((cs.drop 2).take (Tryz.prog.cellsOf 4)) = xs[2]? := hf 2 _ rfl
 have c0 : Tryz.prog.cellsOf 9 = 1 := by kernel_rfl
 have c1 : Tryz.prog.cellsOf 4 = 1 := by kernel_rfl
 rw [c0] at h0 h1
 rw [c1] at h2
 obtain ⟨v0, v1, v2, rfl⟩ := listP3 hl2
 obtain ⟨y0, y1, y2, rfl⟩ := listP3 hxl
 simp only [List.drop_zero, List.drop_succ_cons, List.take_succ_cons, List.take_zero, List.getElem?_cons_zero, List.getElem?_cons_succ] at h0 h1 h2
 have hw0 : (y0.1.weights Tryz.prog 9).all (· ≤ reachBytes) = true := by
  rw [List.all_eq_true]
  intro q hq
  refine List.all_eq_true.1 hz q ?_
  rw [hx]
  simp only [DataW.weights, Tryz.underlying52]
  exact DataW.weights_mem_each (j := 0) rfl rfl q hq
 have hw1 : (y1.1.weights Tryz.prog 9).all (· ≤ reachBytes) = true := by
  rw [List.all_eq_true]
  intro q hq
  refine List.all_eq_true.1 hz q ?_
  rw [hx]
  simp only [DataW.weights, Tryz.underlying52]
  exact DataW.weights_mem_each (j := 1) rfl rfl q hq
 obtain ⟨a, ha, hsa⟩ := opensStr.2 H enc w base held m [v0] y0 h0 hw0
 obtain ⟨b, hb, hsb⟩ := opensStr.2 H enc w base held m [v1] y1 h1 hw1
 obtain ⟨c, hc, _⟩ := DataW.trod_bool Tryz.underlying4 h2
 simp only [List.cons.injEq, and_true] at ha hb hc
 exact ⟨(a, b, c), by rw [ha, hb, hc]; rfl, hsa, hsb⟩
theorem opensChs : Opens Tryz.prog 39 chRel.slice := opens_slice Tryz.underlying39 (by kernel_rfl) (by decide) (by rw [show Tryz.prog.bytesOf 52 = 40 from by kernel_rfl]; omega) opensCh
theorem ColK.of_chs {w : World} {B : Nat} {A : Option Addr} {n c : Nat} {l : List Chg} (h : chRel.slice.R w B [.slice A n c] l) : ColK 3 chgC w B A n l ∧ (∀ x ∈ l, x.1.size ≤ 140737488355328 ∧ x.2.1.size ≤ 140737488355328) ∧ n ≤ 140737488355328 := by
 obtain ⟨A1, n1, c1, e, h1, h2, h3, h4, h5⟩ := h
 injection e with e _
 injection e with e1 e2 e3
 subst e1; subst e2; subst e3
 refine ⟨⟨h4, fun hn => ?_⟩, fun x hx => ?_, h3⟩
 ·obtain ⟨b, o, e, hb, hr⟩ := h5 hn
  refine ⟨b, o, e, hb, fun i a ha => ?_⟩
  obtain ⟨cs, hc, hcs⟩ := hr i a ha
  rw [hcs.1] at hc
  exact hc
 ·obtain ⟨i, hi, rfl⟩ := List.mem_iff_getElem.1 hx
  obtain ⟨b, o, e, hb, hr⟩ := h5 (by omega)
  obtain ⟨cs, hc, hcs⟩ := hr i _ (List.getElem?_eq_getElem hi)
  exact hcs.2
end Go.Proofs.YtcdehejgnnnimaaGreatDoor
namespace Go.Proofs.YtcdehejgnnnimaaGreatDoor
set_option linter.unusedVariables false
set_option linter.unusedSimpArgs false
open Go.RowKit Go.ChangeShapes Go.WideShapes Go.Deep
set_option linter.unusedVariables false
set_option linter.unusedSimpArgs false
abbrev TurnM := List Chg × Int × Int
abbrev turnRel : RowRel TurnM := chRel.slice.pair ((RowRel.int .i8).pair (RowRel.int .u64))
theorem turnF : Opens Tryz.prog 40 (RowRel.int .i8) := opens_int Tryz.underlying40 (by kernel_rfl)
theorem turnM : Opens Tryz.prog 41 (RowRel.int .u64) := opens_int Tryz.underlying41 (by kernel_rfl)
set_option maxRecDepth 20000 in
theorem opensTurn : Opens Tryz.prog 43 turnRel := by
 refine ⟨by kernel_rfl, fun H enc w base held fuel cs x h hz => ?_⟩
 obtain ⟨xs, m, hfu, hx, hl, hxl, hf⟩ := DataW.trod_struct Tryz.underlying43 h
 subst hx
 replace hxl : xs.length = 3 := hxl
 have hl3 : cs.length = 3 := hl.trans (by kernel_rfl)
 have h0 : DataW.trod enc Tryz.prog w base (fun _ => true) held m 39 ((cs.drop 0).take (Tryz.prog.cellsOf 39)) = xs[0]? := hf 0 _ rfl
 have h1 : DataW.trod enc Tryz.prog w base (fun _ => true) held m 40 ((cs.drop 1).take (Tryz.prog.cellsOf 40)) = xs[1]? := hf 1 _ rfl
 have h2 : DataW.trod enc Tryz.prog w base (fun _ => true) held m 41 ((cs.drop 2).take (Tryz.prog.cellsOf 41)) = xs[2]? := hf 2 _ rfl
 have c0 : Tryz.prog.cellsOf 39 = 1 := by kernel_rfl
 have c1 : Tryz.prog.cellsOf 40 = 1 := by kernel_rfl
 have c2 : Tryz.prog.cellsOf 41 = 1 := by kernel_rfl
 rw [c0] at h0
 rw [c1] at h1
 rw [c2] at h2
 obtain ⟨v0, v1, v2, rfl⟩ := listP3 hl3
 obtain ⟨y0, y1, y2, rfl⟩ := listP3 hxl
 have hz0 : (y0.1.weights Tryz.prog 39).all (· ≤ reachBytes) = true := by
  rw [List.all_eq_true]
  intro q hq
  refine List.all_eq_true.1 hz q ?_
  simp only [DataW.weights, Tryz.underlying43]
  exact DataW.weights_mem_each (j := 0) rfl rfl q hq
 have hz1 : (y1.1.weights Tryz.prog 40).all (· ≤ reachBytes) = true := by
  rw [List.all_eq_true]
  intro q hq
  refine List.all_eq_true.1 hz q ?_
  simp only [DataW.weights, Tryz.underlying43]
  exact DataW.weights_mem_each (j := 1) rfl rfl q hq
 have hz2 : (y2.1.weights Tryz.prog 41).all (· ≤ reachBytes) = true := by
  rw [List.all_eq_true]
  intro q hq
  refine List.all_eq_true.1 hz q ?_
  simp only [DataW.weights, Tryz.underlying43]
  exact DataW.weights_mem_each (j := 2) rfl rfl q hq
 obtain ⟨a0, r0⟩ := opensChs.2 H enc w base held m [v0] y0 h0 hz0
 obtain ⟨a1, r1⟩ := turnF.2 H enc w base held m [v1] y1 h1 hz1
 obtain ⟨a2, r2⟩ := turnM.2 H enc w base held m [v2] y2 h2 hz2
 exact ⟨(a0, a1, a2), [v0], [v1, v2], rfl, r0, [v1], [v2], rfl, r1, r2⟩
theorem opensTurns : Opens Tryz.prog 22 turnRel.slice := opens_slice Tryz.underlying22 (by kernel_rfl) (by decide) (by rw [show Tryz.prog.bytesOf 43 = 40 from by kernel_rfl]; omega) opensTurn
def TurnsAt (w : World) (B : Nat) (A : Option Addr) (n : Nat) (l : List TurnM) : Prop :=
 l.length = n ∧ (0 < n → ∃ b o, A = some ⟨b, o, none⟩ ∧ b < B ∧ ∀ (i : Nat) (t : TurnM), l[i]? = some t → (-128 ≤ t.2.1 ∧ t.2.1 ≤ 127 ∧ 0 ≤ t.2.2 ∧ t.2.2 < 18446744073709551616) ∧
  ∃ A' n' c', ColK 3 chgC w B A' n' t.1 ∧ (∀ x ∈ t.1, x.1.size ≤ 140737488355328 ∧ x.2.1.size ≤ 140737488355328) ∧ n' ≤ 140737488355328 ∧ w.rangeAt b (o + i * 3) [.slice A' n' c', .int .i8 t.2.1, .int .u64 t.2.2])
theorem TurnsAt.keep {w w' : World} {B : Nat} {A : Option Addr} {n : Nat} {l : List TurnM} (h : TurnsAt w B A n l) (hk : ∀ p : Addr, p.block < B → w'.cell? p = w.cell? p) : TurnsAt w' B A n l :=
 ⟨h.1, fun hn => by
  obtain ⟨b, o, e, hb, hr⟩ := h.2 hn
  refine ⟨b, o, e, hb, fun i t ht => ?_⟩
  obtain ⟨h1, A', n', c', h2, h3, h4, h5⟩ := hr i t ht
  exact ⟨h1, A', n', c', h2.keep hk, h3, h4, rangeAtK_keep h5 fun j => hk _ hb⟩⟩
theorem TurnsAt.below {w w' : World} {B B' : Nat} {A : Option Addr} {n : Nat} {l : List TurnM} (h : TurnsAt w B A n l) (hb : Below B' w w') (hB : B ≤ B') : TurnsAt w' B A n l := h.keep fun p hp => hb.cell (p := p) (by omega)
theorem turns_of_rel {w : World} {B : Nat} {A : Option Addr} {n c : Nat} {l : List TurnM} (h : turnRel.slice.R w B [.slice A n c] l) : TurnsAt w B A n l ∧ n ≤ c ∧ c ≤ maxLen ∧ n ≤ 140737488355328 := by
 obtain ⟨A1, n1, c1, e, h1, h2, h3, h4, h5⟩ := h
 injection e with e _
 injection e with e1 e2 e3
 subst e1; subst e2; subst e3
 refine ⟨⟨h4, fun hn => ?_⟩, h1, h2, h3⟩
 obtain ⟨b, o, e, hb, hr⟩ := h5 hn
 refine ⟨b, o, e, hb, fun i t ht => ?_⟩
 obtain ⟨cs, hc, k1, k2, rfl, hch, k3, k4, rfl, ⟨rfl, q1⟩, ⟨rfl, q2⟩⟩ := hr i t ht
 obtain ⟨A', n', c', rfl, hch2⟩ := id hch
 obtain ⟨g1, g2, g3⟩ := ColK.of_chs hch
 have w1 : -128 ≤ t.2.1 ∧ t.2.1 ≤ 127 := by
  have := q1
  have e1 : IntKind.i8.min = -128 := by decide
  have e2 : IntKind.i8.max = 127 := by decide
  simp [Lit.wf] at this
  omega
 have w2 : 0 ≤ t.2.2 ∧ t.2.2 < 18446744073709551616 := by
  have := q2
  have e1 : IntKind.u64.min = 0 := by decide
  have e2 : IntKind.u64.max = 18446744073709551615 := by decide
  simp [Lit.wf] at this
  omega
 exact ⟨⟨w1.1, w1.2, w2.1, w2.2⟩, A', n', c', g1, g2, g3, hc⟩
end Go.Proofs.YtcdehejgnnnimaaGreatDoor
