/-
  Layer 13's arguments, opened: rules, holds, tombs, the law.
-/
import Derived.Test.YtkalnaidccgbiaaRuleM
import Derived.Test.YtkalnaidccgbiaaLaid
import Derived.Test.YtkalnaidccgbiaaRowRel
import Derived.Test.YtkalnaidccgbiaaCols
import Derived.Test.YtkalnaidccgbiaaTextOpen
namespace Go.Proofs.Ytkalnaidccgbiaa
set_option linter.unusedVariables false
set_option linter.unusedSimpArgs false
open Go.ChangeShapes Go.WideShapes Go.ChangeAt Go.RowKit Go.Deep

/-- field j of a struct that came in -/
theorem opens_field {α : Type} {P : Program} {t : TypeId} {fs : Array Field} {r : RowRel α} {H : Type} {enc : TypeId × Value → H} {w : World} {base : Nat} {held : Bool} {fuel : Nat} {cs : List Value} {x : DataW H × List MemPlace}
    (ht : P.underlying t = some (.struct fs)) (h : DataW.trod enc P w base (fun _ => true) held fuel t cs = some x) (hz : (x.1.weights P t).all (· ≤ reachBytes) = true)
    (j off : Nat) (ft : TypeId) (hj0 : (fs[j]?).map (fun f => (f.type, f.offset)) = some (ft, off)) (ho : Opens P ft r) : cs.length = P.cellsOf t ∧ ∃ a, r.R w w.heap.size ((cs.drop off).take r.k) a := by
  obtain ⟨f, hj, he⟩ := Option.map_eq_some_iff.1 hj0
  simp only [Prod.mk.injEq] at he
  obtain ⟨rfl, rfl⟩ := he
  obtain ⟨xs, m, hfu, hx, hl, hxl, hf⟩ := DataW.trod_struct ht h
  have h0 := hf j f hj
  have hjl : j < xs.length := by rw [hxl]; exact (Array.getElem?_eq_some_iff.1 hj).1
  rw [List.getElem?_eq_getElem hjl, ho.1] at h0
  refine ⟨hl, ho.2 H enc w base held m _ _ h0 ?_⟩
  rw [List.all_eq_true]
  intro q hq
  refine List.all_eq_true.1 hz q ?_
  rw [hx]
  simp only [DataW.weights, ht]
  exact DataW.weights_mem_each (j := j) (by rw [List.getElem?_map, Array.getElem?_toList, hj]; rfl) (by rw [List.getElem?_map, List.getElem?_eq_getElem hjl]; rfl) q hq

def rgRel : RowRel Rg where
  k := 2
  R := fun _ _ cs r => cs = rgC r
  len := fun h => by rw [h]; rfl
  keep := fun h _ => h
  more := fun h _ => h
theorem rg_types : (match Try.prog.underlying 48 with | some (.struct fs) => fs.toList.map (fun f => (f.type, f.offset)) | _ => []) = [(3, 0), (3, 1)] := by kernel_rfl
theorem list2 {α : Type} {l : List α} (h : l.length = 2) : ∃ a b, l = [a, b] := by
  match l, h with
  | [a, b], _ => exact ⟨a, b, rfl⟩
set_option maxRecDepth 20000 in
theorem opensRg : Opens Try.prog 48 rgRel := by
  refine ⟨by kernel_rfl, fun H enc w base held fuel cs x h hz => ?_⟩
  obtain ⟨xs, m, hfu, hx, hl, hxl, hf⟩ := DataW.trod_struct Try.underlying48 h
  replace hxl : xs.length = 2 := hxl
  have hl2 : cs.length = 2 := hl.trans (by kernel_rfl)
  have h0 : DataW.trod enc Try.prog w base (fun _ => true) held m 3 ((cs.drop 0).take (Try.prog.cellsOf 3)) = xs[0]? := hf 0 _ rfl
  have h1 : DataW.trod enc Try.prog w base (fun _ => true) held m 3 ((cs.drop 1).take (Try.prog.cellsOf 3)) = xs[1]? := hf 1 _ rfl
  have c0 : Try.prog.cellsOf 3 = 1 := by kernel_rfl
  rw [c0] at h0 h1
  obtain ⟨v0, v1, rfl⟩ := list2 hl2
  obtain ⟨y0, y1, rfl⟩ := list2 hxl
  simp only [List.drop_zero, List.drop_succ_cons, List.take_succ_cons, List.take_zero, List.getElem?_cons_zero, List.getElem?_cons_succ] at h0 h1
  obtain ⟨a, ha, _, _⟩ := DataW.trod_int Try.underlying3 h0
  obtain ⟨b, hb, _, _⟩ := DataW.trod_int Try.underlying3 h1
  simp only [List.cons.injEq, and_true] at ha hb
  exact ⟨(a, b), by rw [ha, hb]; rfl⟩
theorem opensRgs : Opens Try.prog 49 rgRel.slice := opens_slice Try.underlying49 (by kernel_rfl) (by decide) (by rw [show Try.prog.bytesOf 48 = 16 from by kernel_rfl]; omega) opensRg
theorem ColK.of_rgs {w : World} {B : Nat} {A : Option Addr} {n c : Nat} {l : List Rg} (h : rgRel.slice.R w B [.slice A n c] l) : ColK 2 rgC w B A n l ∧ n ≤ 140737488355328 := by
  obtain ⟨A1, n1, c1, e, h1, h2, h3, h4, h5⟩ := h
  injection e with e _
  injection e with e1 e2 e3
  subst e1; subst e2; subst e3
  refine ⟨⟨h4, fun hn => ?_⟩, h3⟩
  obtain ⟨b, o, e, hb, hr⟩ := h5 hn
  refine ⟨b, o, e, hb, fun i a ha => ?_⟩
  obtain ⟨cs, hc, hcs⟩ := hr i a ha
  rw [show cs = rgC a from hcs] at hc
  exact hc



theorem list13_3 {α : Type} {l : List α} (h : l.length = 3) : ∃ a b c, l = [a, b, c] := by
  match l, h with
  | [a, b, c], _ => exact ⟨a, b, c, rfl⟩
theorem list13_4 {α : Type} {l : List α} (h : l.length = 4) : ∃ a b c d, l = [a, b, c, d] := by
  match l, h with
  | [a, b, c, d], _ => exact ⟨a, b, c, d, rfl⟩
theorem list13_7 {α : Type} {l : List α} (h : l.length = 7) : ∃ a b c d e f g, l = [a, b, c, d, e, f, g] := by
  match l, h with
  | [a, b, c, d, e, f, g], _ => exact ⟨a, b, c, d, e, f, g, rfl⟩
theorem slice_of {α : Type} {r : RowRel α} {w : World} {B : Nat} {v : Value} {l : List α} (h : r.slice.R w B [v] l) : ∃ A n c, v = .slice A n c := by
  obtain ⟨A, n, c, e, _⟩ := h
  injection e with e _
  exact ⟨A, n, c, e⟩
theorem wf_lt {z : Int} (h : (Lit.int .i64 z).wf = true) : z < 9223372036854775808 := by have := (bounds_i64 h).2; omega
theorem opensI13 : Opens Try.prog 3 (RowRel.int .i64) := opens_int Try.underlying3 (by kernel_rfl)
theorem opensBB13 : Opens Try.prog 29 RowRel.bytes := opens_bytes Try.underlying29 Try.underlying5 (by kernel_rfl) (by kernel_rfl) (by rw [show Try.prog.bytesOf 5 = 1 from by kernel_rfl]; omega)

/-! ### rules -/
def ruRel : RowRel Rul where
  k := 2
  R := fun _ _ cs r => cs = rulC r ∧ r.2 < 9223372036854775808
  len := fun h => by rw [h.1]; rfl
  keep := fun h _ => h
  more := fun h _ => h
set_option maxRecDepth 20000 in
theorem opensRu : Opens Try.prog 54 ruRel := by
  refine ⟨by kernel_rfl, fun H enc w base held fuel cs x h hz => ?_⟩
  obtain ⟨hl, a, ha⟩ := opens_field Try.underlying54 h hz 0 0 9 rfl opensStr
  obtain ⟨_, b, hb⟩ := opens_field Try.underlying54 h hz 1 1 3 rfl opensI13
  have hl2 : cs.length = 2 := hl.trans (by kernel_rfl)
  obtain ⟨v0, v1, rfl⟩ := list2 hl2
  obtain ⟨ha, _⟩ := ha
  obtain ⟨hb, hwf⟩ := hb
  simp only [RowRel.int, RowRel.str, List.drop_zero, List.drop_succ_cons, List.take_succ_cons, List.take_zero, List.cons.injEq, and_true] at ha hb
  subst ha; subst hb
  exact ⟨(a, b), rfl, wf_lt hwf⟩
theorem opensRus : Opens Try.prog 22 ruRel.slice := opens_slice Try.underlying22 (by kernel_rfl) (by decide) (by rw [show Try.prog.bytesOf 54 = 24 from by kernel_rfl]; omega) opensRu
theorem ColK.of_rus {w : World} {B : Nat} {A : Option Addr} {n c : Nat} {l : List Rul} (h : ruRel.slice.R w B [.slice A n c] l) : ColK 2 rulC w B A n l ∧ n ≤ 140737488355328 ∧ ∀ r ∈ l, r.2 < 9223372036854775808 := by
  obtain ⟨A1, n1, c1, e, h1, h2, h3, h4, h5⟩ := h
  injection e with e _
  injection e with e1 e2 e3
  subst e1; subst e2; subst e3
  refine ⟨⟨h4, fun hn => ?_⟩, h3, fun x hx => ?_⟩
  · obtain ⟨b, o, e, hb, hr⟩ := h5 hn
    refine ⟨b, o, e, hb, fun i a ha => ?_⟩
    obtain ⟨cs, hc, hcs⟩ := hr i a ha
    rw [hcs.1] at hc
    exact hc
  · obtain ⟨i, hi, rfl⟩ := List.mem_iff_getElem.1 hx
    obtain ⟨b, o, e, hb, hr⟩ := h5 (by omega)
    obtain ⟨cs, hc, hcs⟩ := hr i _ (List.getElem?_eq_getElem hi)
    exact hcs.2
theorem rule_of {w : World} {B : Nat} {cs : Array Value} {r : Rul} (h : ruRel.R w B cs.toList r) : cs = #[.string r.1, .int .i64 r.2] := Array.ext' h.1

/-! ### holds -/
def hoRel : RowRel Hh where
  k := 3
  R := fun w B cs h => cs = hhC h ∧ HhIn w B h
  len := fun h => by rw [h.1]; rfl
  keep := fun h hk => ⟨h.1, h.2.keep hk⟩
  more := fun h hB => ⟨h.1, h.2.more hB⟩
set_option maxRecDepth 20000 in
theorem opensHo : Opens Try.prog 51 hoRel := by
  refine ⟨by kernel_rfl, fun H enc w base held fuel cs x h hz => ?_⟩
  obtain ⟨hl, a, ha⟩ := opens_field Try.underlying51 h hz 0 0 3 rfl opensI13
  obtain ⟨_, b, hb⟩ := opens_field Try.underlying51 h hz 1 1 9 rfl opensStr
  obtain ⟨_, d, hd⟩ := opens_field Try.underlying51 h hz 2 2 49 rfl opensRgs
  have hl3 : cs.length = 3 := hl.trans (by kernel_rfl)
  obtain ⟨v0, v1, v2, rfl⟩ := list13_3 hl3
  obtain ⟨ha, _⟩ := ha
  obtain ⟨hb, _⟩ := hb
  simp only [RowRel.int, RowRel.str, List.drop_zero, List.drop_succ_cons, List.take_succ_cons, List.take_zero, List.cons.injEq, and_true] at ha hb
  subst ha; subst hb
  have hd' : rgRel.slice.R w w.heap.size [v2] d := hd
  obtain ⟨A, n, c, rfl⟩ := slice_of hd'
  obtain ⟨h1, h2⟩ := ColK.of_rgs hd'
  exact ⟨⟨a, b, A, n, c, d⟩, rfl, h1, h2⟩
theorem opensHos : Opens Try.prog 23 hoRel.slice := opens_slice Try.underlying23 (by kernel_rfl) (by decide) (by rw [show Try.prog.bytesOf 51 = 48 from by kernel_rfl]; omega) opensHo
theorem HoldsIn.of_hos {w : World} {B : Nat} {A : Option Addr} {n c : Nat} {l : List Hh} (h : hoRel.slice.R w B [.slice A n c] l) : HoldsIn w B A n l ∧ n ≤ 140737488355328 := by
  obtain ⟨A1, n1, c1, e, h1, h2, h3, h4, h5⟩ := h
  injection e with e _
  injection e with e1 e2 e3
  subst e1; subst e2; subst e3
  refine ⟨⟨⟨h4, fun hn => ?_⟩, fun x hx => ?_⟩, h3⟩
  · obtain ⟨b, o, e, hb, hr⟩ := h5 hn
    refine ⟨b, o, e, hb, fun i a ha => ?_⟩
    obtain ⟨cs, hc, hcs⟩ := hr i a ha
    rw [hcs.1] at hc
    exact hc
  · obtain ⟨i, hi, rfl⟩ := List.mem_iff_getElem.1 hx
    obtain ⟨b, o, e, hb, hr⟩ := h5 (by omega)
    obtain ⟨cs, hc, hcs⟩ := hr i _ (List.getElem?_eq_getElem hi)
    exact hcs.2

/-! ### the law -/
structure LawAt where
  A : Option Addr
  n : Nat
  c : Nat
  B : Option Addr
  m : Nat
  d : Nat
  rs : List Rul
  hs : List Hh
def lawRel : RowRel LawAt where
  k := 2
  R := fun w B x l => x = [.slice l.A l.n l.c, .slice l.B l.m l.d] ∧ (ColK 2 rulC w B l.A l.n l.rs ∧ l.n ≤ 140737488355328 ∧ ∀ r ∈ l.rs, r.2 < 9223372036854775808) ∧ HoldsIn w B l.B l.m l.hs ∧ l.m ≤ 140737488355328
  len := fun h => by rw [h.1]; rfl
  keep := fun h hk => ⟨h.1, ⟨h.2.1.1.keep hk, h.2.1.2⟩, h.2.2.1.keep hk, h.2.2.2⟩
  more := fun h hB => ⟨h.1, ⟨h.2.1.1.more hB, h.2.1.2⟩, h.2.2.1.more hB, h.2.2.2⟩
set_option maxRecDepth 20000 in
theorem opensLaw : Opens Try.prog 25 lawRel := by
  refine ⟨by kernel_rfl, fun H enc w base held fuel cs x h hz => ?_⟩
  obtain ⟨hl, a, ha⟩ := opens_field Try.underlying25 h hz 0 0 22 rfl opensRus
  obtain ⟨_, b, hb⟩ := opens_field Try.underlying25 h hz 1 1 23 rfl opensHos
  have hl2 : cs.length = 2 := hl.trans (by kernel_rfl)
  obtain ⟨v0, v1, rfl⟩ := list2 hl2
  have ha' : ruRel.slice.R w w.heap.size [v0] a := ha
  have hb' : hoRel.slice.R w w.heap.size [v1] b := hb
  obtain ⟨A, n, c, rfl⟩ := slice_of ha'
  obtain ⟨B, m, d, rfl⟩ := slice_of hb'
  exact ⟨⟨A, n, c, B, m, d, a, b⟩, rfl, ColK.of_rus ha', HoldsIn.of_hos hb'⟩
theorem law_of {w : World} {B : Nat} {cs : Array Value} {l : LawAt} (h : lawRel.R w B cs.toList l) : cs = #[.slice l.A l.n l.c, .slice l.B l.m l.d] ∧ (ColK 2 rulC w B l.A l.n l.rs ∧ l.n ≤ 140737488355328 ∧ ∀ r ∈ l.rs, r.2 < 9223372036854775808) ∧ HoldsIn w B l.B l.m l.hs ∧ l.m ≤ 140737488355328 := ⟨Array.ext' h.1, h.2⟩

/-! ### tombs -/
structure MsAt where
  uid : Int
  flags : Int
  date : Int
  A : Option Addr
  n : Nat
  c : Nat
def msRel : RowRel MsAt where
  k := 4
  R := fun _ _ cs m => cs = [.int .i64 m.uid, .int .i64 m.flags, .int .i64 m.date, .slice m.A m.n m.c]
  len := fun h => by rw [h]; rfl
  keep := fun h _ => h
  more := fun h _ => h
set_option maxRecDepth 20000 in
theorem opensMs : Opens Try.prog 31 msRel := by
  refine ⟨by kernel_rfl, fun H enc w base held fuel cs x h hz => ?_⟩
  obtain ⟨hl, a, ha⟩ := opens_field Try.underlying31 h hz 0 0 3 rfl opensI13
  obtain ⟨_, b, hb⟩ := opens_field Try.underlying31 h hz 1 1 3 rfl opensI13
  obtain ⟨_, c, hc⟩ := opens_field Try.underlying31 h hz 2 2 3 rfl opensI13
  obtain ⟨_, d, hd⟩ := opens_field Try.underlying31 h hz 3 3 29 rfl opensBB13
  have hl4 : cs.length = 4 := hl.trans (by kernel_rfl)
  obtain ⟨v0, v1, v2, v3, rfl⟩ := list13_4 hl4
  obtain ⟨ha, _⟩ := ha
  obtain ⟨hb, _⟩ := hb
  obtain ⟨hc, _⟩ := hc
  obtain ⟨A, n, cc, hd, h1, h2, h3, h4⟩ := hd
  simp only [RowRel.int, RowRel.bytes, List.drop_zero, List.drop_succ_cons, List.take_succ_cons, List.take_zero, List.cons.injEq, and_true] at ha hb hc hd
  subst ha; subst hb; subst hc; subst hd
  exact ⟨⟨a, b, c, A, n, cc⟩, rfl⟩
def tmRel : RowRel Tm where
  k := 7
  R := fun _ _ cs t => cs = tmC t ∧ t.at_ < 9223372036854775808
  len := fun h => by rw [h.1]; rfl
  keep := fun h _ => h
  more := fun h _ => h
set_option maxRecDepth 20000 in
theorem opensTm : Opens Try.prog 33 tmRel := by
  refine ⟨by kernel_rfl, fun H enc w base held fuel cs x h hz => ?_⟩
  obtain ⟨hl, a, ha⟩ := opens_field Try.underlying33 h hz 0 0 3 rfl opensI13
  obtain ⟨_, b, hb⟩ := opens_field Try.underlying33 h hz 1 1 9 rfl opensStr
  obtain ⟨_, c, hc⟩ := opens_field Try.underlying33 h hz 2 2 3 rfl opensI13
  obtain ⟨_, d, hd⟩ := opens_field Try.underlying33 h hz 3 3 31 rfl opensMs
  have hl7 : cs.length = 7 := hl.trans (by kernel_rfl)
  obtain ⟨v0, v1, v2, v3, v4, v5, v6, rfl⟩ := list13_7 hl7
  obtain ⟨ha, _⟩ := ha
  obtain ⟨hb, _⟩ := hb
  obtain ⟨hc, hwf⟩ := hc
  simp only [RowRel.int, RowRel.str, msRel, List.drop_zero, List.drop_succ_cons, List.take_succ_cons, List.take_zero, List.cons.injEq, and_true] at ha hb hc hd
  obtain ⟨e3, e4, e5, e6⟩ := hd
  subst ha; subst hb; subst hc; subst e3; subst e4; subst e5; subst e6
  exact ⟨⟨a, b, c, d.uid, d.flags, d.date, d.A, d.n, d.c⟩, rfl, wf_lt hwf⟩
theorem opensTms : Opens Try.prog 26 tmRel.slice := opens_slice Try.underlying26 (by kernel_rfl) (by decide) (by rw [show Try.prog.bytesOf 33 = 80 from by kernel_rfl]; omega) opensTm
theorem ColK.of_tms {w : World} {B : Nat} {A : Option Addr} {n c : Nat} {l : List Tm} (h : tmRel.slice.R w B [.slice A n c] l) : ColK 7 tmC w B A n l ∧ n ≤ 140737488355328 ∧ ∀ t ∈ l, t.at_ < 9223372036854775808 := by
  obtain ⟨A1, n1, c1, e, h1, h2, h3, h4, h5⟩ := h
  injection e with e _
  injection e with e1 e2 e3
  subst e1; subst e2; subst e3
  refine ⟨⟨h4, fun hn => ?_⟩, h3, fun x hx => ?_⟩
  · obtain ⟨b, o, e, hb, hr⟩ := h5 hn
    refine ⟨b, o, e, hb, fun i a ha => ?_⟩
    obtain ⟨cs, hc, hcs⟩ := hr i a ha
    rw [hcs.1] at hc
    exact hc
  · obtain ⟨i, hi, rfl⟩ := List.mem_iff_getElem.1 hx
    obtain ⟨b, o, e, hb, hr⟩ := h5 (by omega)
    obtain ⟨cs, hc, hcs⟩ := hr i _ (List.getElem?_eq_getElem hi)
    exact hcs.2
theorem tomb_of {w : World} {B : Nat} {cs : Array Value} {t : Tm} (h : tmRel.R w B cs.toList t) : cs = tmA t ∧ t.at_ < 9223372036854775808 := ⟨Array.ext' h.1, h.2⟩

theorem open_int3 {H : Type} {enc : TypeId × Value → H} {P : Program} {w : World} {base : Nat} {sp : Nat → Bool} {held : Bool} {fuel : Nat} {t e : TypeId} {k : IntKind} {cs : Array Value} {x : DataW H × List MemPlace}
    (ht : P.underlying t = some (.array 3 e)) (he : P.underlying e = some (.int k)) (hc : P.cellsOf e = 1) (hct : P.cellsOf t = 3)
    (h : DataW.trod enc P w base sp held fuel t cs.toList = some x) : ∃ a b c : Int, cs = #[.int k a, .int k b, .int k c] := by
  obtain ⟨cs⟩ := cs
  obtain ⟨xs, m, rfl, _, hl, hxl, hel⟩ := DataW.trod_array ht h
  have hl' : cs.length = 3 := hl.trans hct
  have hone : ∀ i, i < 3 → ∃ z : Int, cs[i]? = some (.int k z) := by
    intro i hi
    have h1 := hel i hi
    rw [hc, Nat.mul_one, List.getElem?_eq_getElem (by rw [hxl]; exact hi)] at h1
    have h2 : (cs.drop i).take 1 = [cs[i]'(by omega)] := by
      rw [List.drop_eq_getElem_cons (by omega)]
      rfl
    rw [show (({ toList := cs } : Array Value).toList) = cs from rfl, h2] at h1
    obtain ⟨z, hz, _, hw⟩ := DataW.trod_int he h1
    simp only [List.cons.injEq, and_true] at hz
    exact ⟨z, by rw [List.getElem?_eq_getElem (by omega), hz]⟩
  match cs, hl', hone with
  | [u, v, q], _, hone =>
    obtain ⟨a, ha⟩ := hone 0 (by omega)
    obtain ⟨b, hb⟩ := hone 1 (by omega)
    obtain ⟨c, hc⟩ := hone 2 (by omega)
    simp only [List.getElem?_cons_zero, List.getElem?_cons_succ, Option.some.injEq] at ha hb hc
    exact ⟨a, b, c, by rw [ha, hb, hc]⟩
end Go.Proofs.Ytkalnaidccgbiaa
