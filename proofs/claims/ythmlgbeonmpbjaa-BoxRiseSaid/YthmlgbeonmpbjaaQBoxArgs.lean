/-
  Package box's arguments, opened: messages, mailboxes, turns, two numbers.
-/
import Derived.Test.YthmlgbeonmpbjaaQBoxRows
import Derived.Test.YthmlgbeonmpbjaaQBoxR
import Derived.Test.YthmlgbeonmpbjaaQLaid
import Derived.Test.YthmlgbeonmpbjaaQBytes
import Derived.Test.YthmlgbeonmpbjaaQCols
import Derived.Test.YthmlgbeonmpbjaaQUidsA
namespace Go.Proofs.Ythmlgbeonmpbjaa
set_option linter.unusedVariables false
set_option linter.unusedSimpArgs false
set_option linter.unusedVariables false
set_option linter.unusedSimpArgs false
open Go.ChangeShapes Go.WideShapes Go.ChangeAt Go.RowKit Go.Deep

/-- field j of a struct that came in -/
theorem opens_field {α : Type} {P : Program} {t : TypeId} {fs : Array Field} {r : RowRel α} {H : Type} {enc : TypeId × Value → H} {w : World} {base : Nat} {held : Bool} {fuel : Nat} {cs : List Value} {x : DataW H × List MemPlace}
    (ht : P.underlying t = some (.struct fs)) (h : DataW.trod enc P w base (fun _ => true) held fuel t cs = some x) (hz : (x.1.weights P t).all (· ≤ reachBytes) = true)
    (j off : Nat) (ft : TypeId) (hj0 : (fs[j]?).map (fun f => (f.type, f.offset)) = some (ft, off)) (ho : Opens P ft r) : cs.length = P.cellsOf t ∧ ∃ a, r.R w w.heap.size ((cs.drop off).take r.k) a := by
  obtain ⟨f, hj, he⟩ := Option.map_eq_some_iff.1 hj0
  simp only [Prod.mk.injEq] at he
  obtain ⟨rfl, rfl⟩ := he
  obtain ⟨xs, m, hfu, hx, hl, hxl, hf⟩ := DataW.trod_struct ht h
  have h0 := hf j f hj
  have hjl : j < xs.length := by rw [hxl]; exact (Array.getElem?_eq_some_iff.1 hj).1
  rw [List.getElem?_eq_getElem hjl, ho.1] at h0
  refine ⟨hl, ho.2 H enc w base held m _ _ h0 ?_⟩
  rw [List.all_eq_true]
  intro q hq
  refine List.all_eq_true.1 hz q ?_
  rw [hx]
  simp only [DataW.weights, ht]
  exact DataW.weights_mem_each (j := j) (by rw [List.getElem?_map, Array.getElem?_toList, hj]; rfl) (by rw [List.getElem?_map, List.getElem?_eq_getElem hjl]; rfl) q hq

def mgRel : RowRel Hd where
  k := 4
  R := fun w B cs h => cs = hdC h ∧ HdIn w B h
  len := fun h => by rw [h.1]; rfl
  keep := fun h hk => ⟨h.1, h.2.keep hk⟩
  more := fun h hB => ⟨h.1, h.2.more hB⟩
structure BxAt where
  name : ByteArray
  valid : Int
  next : Int
  A : Option Addr
  n : Nat
  c : Nat
  l : List Mg
def bxRel : RowRel BxAt where
  k := 4
  R := fun w B cs b => cs = [.string b.name, .int .i64 b.valid, .int .i64 b.next, .slice b.A b.n b.c] ∧ MsgsIn w B b.A b.n b.l ∧ b.n ≤ 140737488355328
  len := fun h => by rw [h.1]; rfl
  keep := fun h hk => ⟨h.1, h.2.1.keep hk, h.2.2⟩
  more := fun h hB => ⟨h.1, h.2.1.more hB, h.2.2⟩
def tnRel : RowRel Tn where
  k := 6
  R := fun w B cs t => cs = tnC t ∧ HdIn w B t.h ∧ t.pick < 256
  len := fun h => by rw [h.1]; rfl
  keep := fun h hk => ⟨h.1, h.2.1.keep hk, h.2.2⟩
  more := fun h hB => ⟨h.1, h.2.1.more hB, h.2.2⟩
theorem listB4 {α : Type} {l : List α} (h : l.length = 4) : ∃ a b c d, l = [a, b, c, d] := by
  match l, h with
  | [a, b, c, d], _ => exact ⟨a, b, c, d, rfl⟩
theorem listB6 {α : Type} {l : List α} (h : l.length = 6) : ∃ a b c d e f, l = [a, b, c, d, e, f] := by
  match l, h with
  | [a, b, c, d, e, f], _ => exact ⟨a, b, c, d, e, f, rfl⟩
theorem opensBB : Opens Try.prog 25 RowRel.bytes := opens_bytes Try.underlying25 Try.underlying5 (by kernel_rfl) (by kernel_rfl) (by rw [show Try.prog.bytesOf 5 = 1 from by kernel_rfl]; omega)
theorem opensI : Opens Try.prog 3 (RowRel.int .i64) := opens_int Try.underlying3 (by kernel_rfl)
theorem opensBool : Opens Try.prog 4 RowRel.bool := opens_bool Try.underlying4 (by kernel_rfl)
theorem opensByte : Opens Try.prog 5 RowRel.byte := opens_byte Try.underlying5 (by kernel_rfl)
theorem opensBStr : Opens Try.prog 9 RowRel.str := opens_str Try.underlying9 (by kernel_rfl)
theorem opensNums : Opens Try.prog 36 (RowRel.int .i64).slice := opens_slice Try.underlying36 (by kernel_rfl) (by decide) (by rw [show Try.prog.bytesOf 3 = 8 from by kernel_rfl]; omega) opensI
set_option maxRecDepth 20000 in
theorem opensMg : Opens Try.prog 27 mgRel := by
  refine ⟨by kernel_rfl, fun H enc w base held fuel cs x h hz => ?_⟩
  obtain ⟨hl, a, ha⟩ := opens_field Try.underlying27 h hz 0 0 3 rfl opensI
  obtain ⟨_, b, hb⟩ := opens_field Try.underlying27 h hz 1 1 3 rfl opensI
  obtain ⟨_, c, hc⟩ := opens_field Try.underlying27 h hz 2 2 3 rfl opensI
  obtain ⟨_, d, hd⟩ := opens_field Try.underlying27 h hz 3 3 25 rfl opensBB
  have hl4 : cs.length = 4 := hl.trans (by kernel_rfl)
  obtain ⟨v0, v1, v2, v3, rfl⟩ := listB4 hl4
  obtain ⟨ha, _⟩ := ha
  obtain ⟨hb, _⟩ := hb
  obtain ⟨hc, _⟩ := hc
  obtain ⟨A, n, cc, hd, h1, h2, h3, h4⟩ := hd
  simp only [RowRel.int, RowRel.bytes, List.drop_zero, List.drop_succ_cons, List.take_succ_cons, List.take_zero, List.cons.injEq, and_true] at ha hb hc hd
  subst ha; subst hb; subst hc; subst hd
  exact ⟨⟨⟨a, b, c, d⟩, A, n, cc⟩, rfl, h4, h3⟩
theorem opensMgs : Opens Try.prog 22 mgRel.slice := opens_slice Try.underlying22 (by kernel_rfl) (by decide) (by rw [show Try.prog.bytesOf 27 = 48 from by kernel_rfl]; omega) opensMg
theorem ColK.of_mgs {w : World} {B : Nat} {A : Option Addr} {n c : Nat} {l : List Hd} (h : mgRel.slice.R w B [.slice A n c] l) : MsgsIn w B A n (l.map Hd.m) ∧ n ≤ 140737488355328 := by
  obtain ⟨A1, n1, c1, e, h1, h2, h3, h4, h5⟩ := h
  injection e with e _
  injection e with e1 e2 e3
  subst e1; subst e2; subst e3
  refine ⟨⟨l, ⟨h4, fun hn => ?_⟩, fun x hx => ?_, rfl⟩, h3⟩
  · obtain ⟨b, o, e, hb, hr⟩ := h5 hn
    refine ⟨b, o, e, hb, fun i a ha => ?_⟩
    obtain ⟨cs, hc, hcs⟩ := hr i a ha
    rw [hcs.1] at hc
    exact hc
  · obtain ⟨i, hi, rfl⟩ := List.mem_iff_getElem.1 hx
    obtain ⟨b, o, e, hb, hr⟩ := h5 (by omega)
    obtain ⟨cs, hc, hcs⟩ := hr i _ (List.getElem?_eq_getElem hi)
    exact hcs.2
set_option maxRecDepth 20000 in
theorem opensBx : Opens Try.prog 24 bxRel := by
  refine ⟨by kernel_rfl, fun H enc w base held fuel cs x h hz => ?_⟩
  obtain ⟨hl, a, ha⟩ := opens_field Try.underlying24 h hz 0 0 9 rfl opensBStr
  obtain ⟨_, b, hb⟩ := opens_field Try.underlying24 h hz 1 1 3 rfl opensI
  obtain ⟨_, c, hc⟩ := opens_field Try.underlying24 h hz 2 2 3 rfl opensI
  obtain ⟨_, d, hd⟩ := opens_field Try.underlying24 h hz 3 3 22 rfl opensMgs
  have hl4 : cs.length = 4 := hl.trans (by kernel_rfl)
  obtain ⟨v0, v1, v2, v3, rfl⟩ := listB4 hl4
  obtain ⟨ha, _⟩ := ha
  obtain ⟨hb, _⟩ := hb
  obtain ⟨hc, _⟩ := hc
  have hd' := hd
  obtain ⟨A, n, cc, he, _⟩ := hd'
  simp only [RowRel.int, RowRel.slice, RowRel.str, List.drop_zero, List.drop_succ_cons, List.take_succ_cons, List.take_zero, List.cons.injEq, and_true] at ha hb hc he
  subst ha; subst hb; subst hc; subst he
  obtain ⟨h1, h2⟩ := ColK.of_mgs hd
  exact ⟨⟨a, b, c, A, n, cc, d.map Hd.m⟩, rfl, h1, h2⟩
set_option maxRecDepth 20000 in
theorem opensTn : Opens Try.prog 54 tnRel := by
  refine ⟨by kernel_rfl, fun H enc w base held fuel cs x h hz => ?_⟩
  obtain ⟨hl, a, ha⟩ := opens_field Try.underlying54 h hz 0 0 27 rfl opensMg
  obtain ⟨_, b, hb⟩ := opens_field Try.underlying54 h hz 1 4 4 rfl opensBool
  obtain ⟨_, c, hc⟩ := opens_field Try.underlying54 h hz 2 5 5 rfl opensByte
  have hl6 : cs.length = 6 := hl.trans (by kernel_rfl)
  obtain ⟨v0, v1, v2, v3, v4, v5, rfl⟩ := listB6 hl6
  obtain ⟨ha, hh⟩ := ha
  obtain ⟨hc, hlt⟩ := hc
  simp only [RowRel.bool, RowRel.byte, mgRel, hdC, List.drop_zero, List.drop_succ_cons, List.take_succ_cons, List.take_zero, List.cons.injEq, and_true] at ha hb hc
  obtain ⟨e0, e1, e2, e3⟩ := ha
  subst e0; subst e1; subst e2; subst e3; subst hb; subst hc
  exact ⟨⟨a, b, c⟩, rfl, hh, hlt⟩
theorem opensTns : Opens Try.prog 51 tnRel.slice := opens_slice Try.underlying51 (by kernel_rfl) (by decide) (by rw [show Try.prog.bytesOf 54 = 56 from by kernel_rfl]; omega) opensTn
theorem ColK.of_tns {w : World} {B : Nat} {A : Option Addr} {n c : Nat} {l : List Tn} (h : tnRel.slice.R w B [.slice A n c] l) : TurnsIn w B A n l ∧ n ≤ 140737488355328 := by
  obtain ⟨A1, n1, c1, e, h1, h2, h3, h4, h5⟩ := h
  injection e with e _
  injection e with e1 e2 e3
  subst e1; subst e2; subst e3
  refine ⟨⟨⟨h4, fun hn => ?_⟩, fun x hx => ?_⟩, h3⟩
  · obtain ⟨b, o, e, hb, hr⟩ := h5 hn
    refine ⟨b, o, e, hb, fun i a ha => ?_⟩
    obtain ⟨cs, hc, hcs⟩ := hr i a ha
    rw [hcs.1] at hc
    exact hc
  · obtain ⟨i, hi, rfl⟩ := List.mem_iff_getElem.1 hx
    obtain ⟨b, o, e, hb, hr⟩ := h5 (by omega)
    obtain ⟨cs, hc, hcs⟩ := hr i _ (List.getElem?_eq_getElem hi)
    exact hcs.2
theorem box_of {w : World} {B : Nat} {cs : Array Value} {b : BxAt} (h : bxRel.R w B cs.toList b) : cs = #[.string b.name, .int .i64 b.valid, .int .i64 b.next, .slice b.A b.n b.c] ∧ MsgsIn w B b.A b.n b.l ∧ b.n ≤ 140737488355328 := ⟨Array.ext' h.1, h.2⟩
theorem msg_of {w : World} {B : Nat} {cs : Array Value} {h : Hd} (H : mgRel.R w B cs.toList h) : cs = #[.int .i64 h.m.uid, .int .i64 h.m.flags, .int .i64 h.m.date, .slice h.A h.n h.c] ∧ Bytes w B h.A h.n h.m.body ∧ h.n ≤ 140737488355328 := ⟨Array.ext' H.1, H.2⟩

theorem open_int2 {H : Type} {enc : TypeId × Value → H} {P : Program} {w : World} {base : Nat} {sp : Nat → Bool} {held : Bool} {fuel : Nat} {t e : TypeId} {k : IntKind} {cs : Array Value} {x : DataW H × List MemPlace}
    (ht : P.underlying t = some (.array 2 e)) (he : P.underlying e = some (.int k)) (hc : P.cellsOf e = 1) (hct : P.cellsOf t = 2)
    (h : DataW.trod enc P w base sp held fuel t cs.toList = some x) : ∃ a b : Int, cs = #[.int k a, .int k b] := by
  obtain ⟨cs⟩ := cs
  obtain ⟨xs, m, rfl, _, hl, hxl, hel⟩ := DataW.trod_array ht h
  have hl' : cs.length = 2 := hl.trans hct
  have hone : ∀ i, i < 2 → ∃ z : Int, cs[i]? = some (.int k z) := by
    intro i hi
    have h1 := hel i hi
    rw [hc, Nat.mul_one, List.getElem?_eq_getElem (by rw [hxl]; exact hi)] at h1
    have h2 : (cs.drop i).take 1 = [cs[i]'(by omega)] := by
      rw [List.drop_eq_getElem_cons (by omega)]
      rfl
    rw [show (({ toList := cs } : Array Value).toList) = cs from rfl, h2] at h1
    obtain ⟨z, hz, _, hw⟩ := DataW.trod_int he h1
    simp only [List.cons.injEq, and_true] at hz
    exact ⟨z, by rw [List.getElem?_eq_getElem (by omega), hz]⟩
  match cs, hl', hone with
  | [u, v], _, hone =>
    obtain ⟨a, ha⟩ := hone 0 (by omega)
    obtain ⟨b, hb⟩ := hone 1 (by omega)
    simp only [List.getElem?_cons_zero, List.getElem?_cons_succ, Option.some.injEq] at ha hb
    exact ⟨a, b, by rw [ha, hb]⟩
end Go.Proofs.Ythmlgbeonmpbjaa
