/-
 A part of the proof: see the last text.
-/
import Derived.ProofKit
import Derived.LaidMore
import Derived.OpenShut
import Derived.Stop.Joined
import Derived.Test.YtbogjfbfgbhdbaaGreatDoorSBytesOwn
import Derived.Test.YtbogjfbfgbhdbaaGreatDoorChecked
import Derived.Test.YtbogjfbfgbhdbaaGreatDoorSStKSt
import Derived.Test.YtbogjfbfgbhdbaaGreatDoorSEventB
namespace Go.Proofs.YtbogjfbfgbhdbaaGreatDoor
set_option linter.unusedVariables false
set_option linter.unusedSimpArgs false
open Go.ChangeShapes Go.WideShapes Go.ChangeAt Go.RowKit
end Go.Proofs.YtbogjfbfgbhdbaaGreatDoor
namespace Go.Proofs.YtbogjfbfgbhdbaaGreatDoor
set_option linter.unusedVariables false
set_option linter.unusedSimpArgs false
open Go.ChangeShapes Go.WideShapes Go.ChangeAt Go.RowKit
section
variable {H : Type} {enc : TypeId × Value → H} {P : Program} {w : World} {base : Nat} {spare : Nat → Bool} {held : Bool}
end
end Go.Proofs.YtbogjfbfgbhdbaaGreatDoor
namespace Go.Proofs.YtbogjfbfgbhdbaaGreatDoor
set_option linter.unusedVariables false
set_option linter.unusedSimpArgs false
open Go.ChangeShapes Go.WideShapes Go.ChangeAt Go.RowKit Go.Deep
theorem opens_field14 {α : Type} {P : Program} {t : TypeId} {fs : Array Field} {r : RowRel α} {H : Type} {enc : TypeId × Value → H} {w : World} {base : Nat} {held : Bool} {fuel : Nat} {cs : List Value} {x : DataW H × List MemPlace}
 (ht : P.underlying t = some (.struct fs)) (h : DataW.trod enc P w base (fun _ => true) held fuel t cs = some x) (hz : (x.1.weights P t).all (· ≤ reachBytes) = true)
 (j off : Nat) (ft : TypeId) (hj0 : (fs[j]?).map (fun f => (f.type, f.offset)) = some (ft, off)) (ho : Opens P ft r) : cs.length = P.cellsOf t ∧ ∃ a, r.R w w.heap.size ((cs.drop off).take r.k) a := by
 obtain ⟨f, hj, he⟩ := Option.map_eq_some_iff.1 hj0
 simp only [Prod.mk.injEq] at he
 obtain ⟨rfl, rfl⟩ := he
 obtain ⟨xs, m, hfu, hx, hl, hxl, hf⟩ := DataW.trod_struct ht h
 have h0 := hf j f hj
 have hjl : j < xs.length := by rw [hxl]; exact (Array.getElem?_eq_some_iff.1 hj).1
 rw [List.getElem?_eq_getElem hjl, ho.1] at h0
 refine ⟨hl, ho.2 H enc w base held m _ _ h0 ?_⟩
 rw [List.all_eq_true]
 intro q hq
 refine List.all_eq_true.1 hz q ?_
 rw [hx]
 simp only [DataW.weights, ht]
 exact DataW.weights_mem_each (j := j) (by rw [List.getElem?_map, Array.getElem?_toList, hj]; rfl) (by rw [List.getElem?_map, List.getElem?_eq_getElem hjl]; rfl) q hq
theorem list14_2 {α : Type} {l : List α} (h : l.length = 2) : ∃ a b, l = [a, b] := by
 match l, h with
 | [a, b], _ => exact ⟨a, b, rfl⟩
theorem list14_3 {α : Type} {l : List α} (h : l.length = 3) : ∃ a b c, l = [a, b, c] := by
 match l, h with
 | [a, b, c], _ => exact ⟨a, b, c, rfl⟩
theorem list14_4 {α : Type} {l : List α} (h : l.length = 4) : ∃ a b c d, l = [a, b, c, d] := by
 match l, h with
 | [a, b, c, d], _ => exact ⟨a, b, c, d, rfl⟩
theorem list14_7 {α : Type} {l : List α} (h : l.length = 7) : ∃ a b c d e f g, l = [a, b, c, d, e, f, g] := by
 match l, h with
 | [a, b, c, d, e, f, g], _ => exact ⟨a, b, c, d, e, f, g, rfl⟩
theorem list14_9 {α : Type} {l : List α} (h : l.length = 9) : ∃ a b c d e f g i j, l = [a, b, c, d, e, f, g, i, j] := by
 match l, h with
 | [a, b, c, d, e, f, g, i, j], _ => exact ⟨a, b, c, d, e, f, g, i, j, rfl⟩
theorem slice_of14 {α : Type} {r : RowRel α} {w : World} {B : Nat} {v : Value} {l : List α} (h : r.slice.R w B [v] l) : ∃ A n c, v = .slice A n c := by
 obtain ⟨A, n, c, e, _⟩ := h
 injection e with e _
 exact ⟨A, n, c, e⟩
theorem nest_of14 {α β : Type} {r : RowRel α} {k : Nat} {f : α → List Value} {P : World → Nat → α → Prop} {Q : α → Prop} {g : α → β} {w : World} {B : Nat} {A : Option Addr} {n c : Nat} {l : List α} (h : r.slice.R w B [.slice A n c] l)
 (hk : r.k = k) (hr : ∀ cs a, r.R w B cs a → cs = f a ∧ P w B a ∧ Q a) : Nest k f P g w B A n (l.map g) ∧ n ≤ 140737488355328 ∧ ∀ a ∈ l, Q a := by
 obtain ⟨A1, n1, c1, e, h1, h2, h3, h4, h5⟩ := h
 injection e with e _
 injection e with e1 e2 e3
 subst e1; subst e2; subst e3
 have hall : ∀ x ∈ l, P w B x ∧ Q x := fun x hx => by
  obtain ⟨i, hi, rfl⟩ := List.mem_iff_getElem.1 hx
  obtain ⟨b, o, e, hb, hq⟩ := h5 (by omega)
  obtain ⟨cs, hc, hcs⟩ := hq i _ (List.getElem?_eq_getElem hi)
  exact (hr _ _ hcs).2
 refine ⟨⟨l, ⟨h4, fun hn => ?_⟩, fun x hx => (hall x hx).1, rfl⟩, h3, fun x hx => (hall x hx).2⟩
 obtain ⟨b, o, e, hb, hq⟩ := h5 hn
 refine ⟨b, o, e, hb, fun i a ha => ?_⟩
 obtain ⟨cs, hc, hcs⟩ := hq i a ha
 rw [(hr _ _ hcs).1, hk] at hc
 exact hc
theorem nest_col14 {α : Type} {k : Nat} {f : α → List Value} {w : World} {B n : Nat} {A : Option Addr} {l : List α} (h : Nest k f TrueP (id : α → α) w B A n l) : ColK k f w B A n l := by
 obtain ⟨hs, h1, _, h3⟩ := h
 rw [List.map_id] at h3
 rw [← h3]; exact h1
theorem opensI14 : Opens Tryz.prog 3 (RowRel.int .i64) := opens_int Tryz.underlying3 (by kernel_rfl)
theorem opensS14 : Opens Tryz.prog 9 RowRel.str := opens_str Tryz.underlying9 (by kernel_rfl)
theorem opensBB14 : Opens Tryz.prog 31 RowRel.bytes := opens_bytes Tryz.underlying31 Tryz.underlying5 (by kernel_rfl) (by kernel_rfl) (by rw [show Tryz.prog.bytesOf 5 = 1 from by kernel_rfl]; omega)
theorem opensSs14 : Opens Tryz.prog 23 RowRel.str.slice := opens_slice Tryz.underlying23 (by kernel_rfl) (by decide) (by rw [show Tryz.prog.bytesOf 9 = 16 from by kernel_rfl]; omega) opensS14
def rgRel14 : RowRel Rg where
 k := 2
 R := fun _ _ cs r => cs = rgC r
 len := fun h => by rw [h]; rfl
 keep := fun h _ => h
 more := fun h _ => h
set_option maxRecDepth 20000 in
theorem opensRg14 : Opens Tryz.prog 131 rgRel14 := by
 refine ⟨by kernel_rfl, fun H enc w base held fuel cs x h hz => ?_⟩
 obtain ⟨hl, a, ha⟩ := opens_field14 Tryz.underlying131 h hz 0 0 3 rfl opensI14
 obtain ⟨_, b, hb⟩ := opens_field14 Tryz.underlying131 h hz 1 1 3 rfl opensI14
 have hl2 : cs.length = 2 := hl.trans (by kernel_rfl)
 obtain ⟨v0, v1, rfl⟩ := list14_2 hl2
 obtain ⟨ha, _⟩ := ha
 obtain ⟨hb, _⟩ := hb
 simp only [RowRel.int, List.drop_zero, List.drop_succ_cons, List.take_succ_cons, List.take_zero, List.cons.injEq, and_true] at ha hb
 subst ha; subst hb
 exact ⟨(a, b), rfl⟩
theorem opensRgs14 : Opens Tryz.prog 30 rgRel14.slice := opens_slice Tryz.underlying30 (by kernel_rfl) (by decide) (by rw [show Tryz.prog.bytesOf 131 = 16 from by kernel_rfl]; omega) opensRg14
def ruRel14 : RowRel Rul where
 k := 2
 R := fun _ _ cs r => cs = rulC r ∧ r.1.size ≤ 140737488355328
 len := fun h => by rw [h.1]; rfl
 keep := fun h _ => h
 more := fun h _ => h
set_option maxRecDepth 20000 in
theorem opensRu14 : Opens Tryz.prog 83 ruRel14 := by
 refine ⟨by kernel_rfl, fun H enc w base held fuel cs x h hz => ?_⟩
 obtain ⟨hl, a, ha⟩ := opens_field14 Tryz.underlying83 h hz 0 0 9 rfl opensS14
 obtain ⟨_, b, hb⟩ := opens_field14 Tryz.underlying83 h hz 1 1 3 rfl opensI14
 have hl2 : cs.length = 2 := hl.trans (by kernel_rfl)
 obtain ⟨v0, v1, rfl⟩ := list14_2 hl2
 obtain ⟨ha, hs⟩ := ha
 obtain ⟨hb, _⟩ := hb
 simp only [RowRel.int, RowRel.str, List.drop_zero, List.drop_succ_cons, List.take_succ_cons, List.take_zero, List.cons.injEq, and_true] at ha hb
 subst ha; subst hb
 exact ⟨(a, b), rfl, hs⟩
theorem opensRus14 : Opens Tryz.prog 24 ruRel14.slice := opens_slice Tryz.underlying24 (by kernel_rfl) (by decide) (by rw [show Tryz.prog.bytesOf 83 = 24 from by kernel_rfl]; omega) opensRu14
def mgRel14 : RowRel Hd where
 k := 4
 R := fun w B cs h => cs = hdC h ∧ HdIn w B h
 len := fun h => by rw [h.1]; rfl
 keep := fun h hk => ⟨h.1, h.2.keep hk⟩
 more := fun h hB => ⟨h.1, h.2.more hB⟩
set_option maxRecDepth 20000 in
theorem opensMg14 : Opens Tryz.prog 49 mgRel14 := by
 refine ⟨by kernel_rfl, fun H enc w base held fuel cs x h hz => ?_⟩
 obtain ⟨hl, a, ha⟩ := opens_field14 Tryz.underlying49 h hz 0 0 3 rfl opensI14
 obtain ⟨_, b, hb⟩ := opens_field14 Tryz.underlying49 h hz 1 1 3 rfl opensI14
 obtain ⟨_, c, hc⟩ := opens_field14 Tryz.underlying49 h hz 2 2 3 rfl opensI14
 obtain ⟨_, d, hd⟩ := opens_field14 Tryz.underlying49 h hz 3 3 31 rfl opensBB14
 have hl4 : cs.length = 4 := hl.trans (by kernel_rfl)
 obtain ⟨v0, v1, v2, v3, rfl⟩ := list14_4 hl4
 obtain ⟨ha, _⟩ := ha
 obtain ⟨hb, _⟩ := hb
 obtain ⟨hc, _⟩ := hc
 obtain ⟨A, n, cc, hd, h1, h2, h3, h4⟩ := hd
 simp only [RowRel.int, RowRel.bytes, List.drop_zero, List.drop_succ_cons, List.take_succ_cons, List.take_zero, List.cons.injEq, and_true] at ha hb hc hd
 subst ha; subst hb; subst hc; subst hd
 exact ⟨⟨⟨a, b, c, d⟩, A, n, cc⟩, rfl, h4, h3⟩
theorem opensMgs14 : Opens Tryz.prog 42 mgRel14.slice := opens_slice Tryz.underlying42 (by kernel_rfl) (by decide) (by rw [show Tryz.prog.bytesOf 49 = 48 from by kernel_rfl]; omega) opensMg14
def bxRel14 : RowRel Bh where
 k := 4
 R := fun w B cs h => cs = bhC h ∧ BhIn w B h ∧ h.b.name.size ≤ 140737488355328
 len := fun h => by rw [h.1]; rfl
 keep := fun h hk => ⟨h.1, bhStays.keep h.2.1 hk, h.2.2⟩
 more := fun h hB => ⟨h.1, bhStays.more h.2.1 hB, h.2.2⟩
set_option maxRecDepth 20000 in
theorem opensBx14 : Opens Tryz.prog 44 bxRel14 := by
 refine ⟨by kernel_rfl, fun H enc w base held fuel cs x h hz => ?_⟩
 obtain ⟨hl, a, ha⟩ := opens_field14 Tryz.underlying44 h hz 0 0 9 rfl opensS14
 obtain ⟨_, b, hb⟩ := opens_field14 Tryz.underlying44 h hz 1 1 3 rfl opensI14
 obtain ⟨_, c, hc⟩ := opens_field14 Tryz.underlying44 h hz 2 2 3 rfl opensI14
 obtain ⟨_, d, hd⟩ := opens_field14 Tryz.underlying44 h hz 3 3 42 rfl opensMgs14
 have hl4 : cs.length = 4 := hl.trans (by kernel_rfl)
 obtain ⟨v0, v1, v2, v3, rfl⟩ := list14_4 hl4
 obtain ⟨ha, hs⟩ := ha
 obtain ⟨hb, _⟩ := hb
 obtain ⟨hc, _⟩ := hc
 simp only [RowRel.int, RowRel.str, List.drop_zero, List.drop_succ_cons, List.take_succ_cons, List.take_zero, List.cons.injEq, and_true] at ha hb hc
 subst ha; subst hb; subst hc
 have hd' : mgRel14.slice.R w w.heap.size [v3] d := hd
 obtain ⟨A, n, cc, rfl⟩ := slice_of14 hd'
 obtain ⟨h1, h2, _⟩ := nest_of14 (f := hdC) (P := HdIn) (Q := fun _ => True) (g := Hd.m) hd' rfl (fun cs a q => ⟨q.1, q.2, trivial⟩)
 exact ⟨⟨⟨a, b, c, d.map Hd.m⟩, A, n, cc⟩, rfl, ⟨h1, h2⟩, hs⟩
theorem opensBxs14 : Opens Tryz.prog 22 bxRel14.slice := opens_slice Tryz.underlying22 (by kernel_rfl) (by decide) (by rw [show Tryz.prog.bytesOf 44 = 56 from by kernel_rfl]; omega) opensBx14
def tbRel14 : RowRel Th where
 k := 7
 R := fun w B cs h => cs = thC h ∧ ThIn w B h ∧ h.t.box.size ≤ 140737488355328
 len := fun h => by rw [h.1]; rfl
 keep := fun h hk => ⟨h.1, thStays.keep h.2.1 hk, h.2.2⟩
 more := fun h hB => ⟨h.1, thStays.more h.2.1 hB, h.2.2⟩
set_option maxRecDepth 20000 in
theorem opensTb14 : Opens Tryz.prog 51 tbRel14 := by
 refine ⟨by kernel_rfl, fun H enc w base held fuel cs x h hz => ?_⟩
 obtain ⟨hl, a, ha⟩ := opens_field14 Tryz.underlying51 h hz 0 0 3 rfl opensI14
 obtain ⟨_, b, hb⟩ := opens_field14 Tryz.underlying51 h hz 1 1 9 rfl opensS14
 obtain ⟨_, c, hc⟩ := opens_field14 Tryz.underlying51 h hz 2 2 3 rfl opensI14
 obtain ⟨_, d, hd⟩ := opens_field14 Tryz.underlying51 h hz 3 3 49 rfl opensMg14
 have hl7 : cs.length = 7 := hl.trans (by kernel_rfl)
 obtain ⟨v0, v1, v2, v3, v4, v5, v6, rfl⟩ := list14_7 hl7
 obtain ⟨ha, _⟩ := ha
 obtain ⟨hb, hs⟩ := hb
 obtain ⟨hc, _⟩ := hc
 obtain ⟨hd, hdi⟩ := hd
 simp only [RowRel.int, RowRel.str, List.drop_zero, List.drop_succ_cons, List.take_succ_cons, List.take_zero, List.cons.injEq, and_true] at ha hb hc
 have hd2 : [v3, v4, v5, v6] = hdC d := hd
 unfold hdC at hd2
 simp only [List.cons.injEq, and_true] at hd2
 obtain ⟨e3, e4, e5, e6⟩ := hd2
 subst ha; subst hb; subst hc; subst e3; subst e4; subst e5; subst e6
 exact ⟨⟨⟨a, b, c, d.m⟩, d.A, d.n, d.c⟩, rfl, hdi, hs⟩
theorem opensTbs14 : Opens Tryz.prog 25 tbRel14.slice := opens_slice Tryz.underlying25 (by kernel_rfl) (by decide) (by rw [show Tryz.prog.bytesOf 51 = 80 from by kernel_rfl]; omega) opensTb14
def hoRel14 : RowRel Hh where
 k := 3
 R := fun w B cs h => cs = hhC h ∧ HhIn w B h ∧ h.box.size ≤ 140737488355328
 len := fun h => by rw [h.1]; rfl
 keep := fun h hk => ⟨h.1, h.2.1.keep hk, h.2.2⟩
 more := fun h hB => ⟨h.1, h.2.1.more hB, h.2.2⟩
set_option maxRecDepth 20000 in
theorem opensHo14 : Opens Tryz.prog 71 hoRel14 := by
 refine ⟨by kernel_rfl, fun H enc w base held fuel cs x h hz => ?_⟩
 obtain ⟨hl, a, ha⟩ := opens_field14 Tryz.underlying71 h hz 0 0 3 rfl opensI14
 obtain ⟨_, b, hb⟩ := opens_field14 Tryz.underlying71 h hz 1 1 9 rfl opensS14
 obtain ⟨_, d, hd⟩ := opens_field14 Tryz.underlying71 h hz 2 2 30 rfl opensRgs14
 have hl3 : cs.length = 3 := hl.trans (by kernel_rfl)
 obtain ⟨v0, v1, v2, rfl⟩ := list14_3 hl3
 obtain ⟨ha, _⟩ := ha
 obtain ⟨hb, hs⟩ := hb
 simp only [RowRel.int, RowRel.str, List.drop_zero, List.drop_succ_cons, List.take_succ_cons, List.take_zero, List.cons.injEq, and_true] at ha hb
 subst ha; subst hb
 have hd' : rgRel14.slice.R w w.heap.size [v2] d := hd
 obtain ⟨A, n, c, rfl⟩ := slice_of14 hd'
 obtain ⟨h1, h2, _⟩ := nest_of14 (f := rgC) (P := TrueP) (Q := fun _ => True) (g := (id : Rg → Rg)) hd' rfl (fun cs a q => ⟨q, trivial, trivial⟩)
 rw [List.map_id] at h1
 exact ⟨⟨a, b, A, n, c, d⟩, rfl, ⟨nest_col14 h1, h2⟩, hs⟩
theorem opensHos14 : Opens Tryz.prog 26 hoRel14.slice := opens_slice Tryz.underlying26 (by kernel_rfl) (by decide) (by rw [show Tryz.prog.bytesOf 71 = 48 from by kernel_rfl]; omega) opensHo14
theorem big_map14 {α β : Type} {g : α → β} {l : List α} {Q : β → Prop} (h : ∀ a ∈ l, Q (g a)) : ∀ b ∈ l.map g, Q b := by
 intro b hb
 obtain ⟨a, ha, rfl⟩ := List.mem_map.1 hb
 exact h a ha
structure StArg where
 s : Sta
 p : StaAt
def staRel : RowRel StArg where
 k := 9
 R := fun w B cs x => cs = (staA x.s x.p).toList ∧ StaIn w B x.s x.p ∧ BigS x.s
 len := fun h => by rw [h.1]; rfl
 keep := fun h hk => ⟨h.1, h.2.1.keep hk, h.2.2⟩
 more := fun h hB => ⟨h.1, h.2.1.more hB, h.2.2⟩
set_option maxRecDepth 20000 in
set_option maxHeartbeats 2000000 in
theorem opensSta : Opens Tryz.prog 28 staRel := by
 refine ⟨by kernel_rfl, fun H enc w base held fuel cs x h hz => ?_⟩
 obtain ⟨hl, cl, hcl⟩ := opens_field14 Tryz.underlying28 h hz 0 0 3 rfl opensI14
 obtain ⟨_, bx, hbx⟩ := opens_field14 Tryz.underlying28 h hz 1 1 22 rfl opensBxs14
 obtain ⟨_, sb, hsb⟩ := opens_field14 Tryz.underlying28 h hz 2 2 23 rfl opensSs14
 obtain ⟨_, ru, hru⟩ := opens_field14 Tryz.underlying28 h hz 3 3 24 rfl opensRus14
 obtain ⟨_, tb, htb⟩ := opens_field14 Tryz.underlying28 h hz 4 4 25 rfl opensTbs14
 obtain ⟨_, ho, hho⟩ := opens_field14 Tryz.underlying28 h hz 5 5 26 rfl opensHos14
 obtain ⟨_, nv, hnv⟩ := opens_field14 Tryz.underlying28 h hz 6 6 3 rfl opensI14
 obtain ⟨_, nt, hnt⟩ := opens_field14 Tryz.underlying28 h hz 7 7 3 rfl opensI14
 obtain ⟨_, nh, hnh⟩ := opens_field14 Tryz.underlying28 h hz 8 8 3 rfl opensI14
 have hl9 : cs.length = 9 := hl.trans (by kernel_rfl)
 obtain ⟨v0, v1, v2, v3, v4, v5, v6, v7, v8, rfl⟩ := list14_9 hl9
 obtain ⟨hcl, _⟩ := hcl
 obtain ⟨hnv, _⟩ := hnv
 obtain ⟨hnt, _⟩ := hnt
 obtain ⟨hnh, _⟩ := hnh
 simp only [RowRel.int, List.drop_zero, List.drop_succ_cons, List.take_succ_cons, List.take_zero, List.cons.injEq, and_true] at hcl hnv hnt hnh
 subst hcl; subst hnv; subst hnt; subst hnh
 have hbx' : bxRel14.slice.R w w.heap.size [v1] bx := hbx
 have hsb' : RowRel.str.slice.R w w.heap.size [v2] sb := hsb
 have hru' : ruRel14.slice.R w w.heap.size [v3] ru := hru
 have htb' : tbRel14.slice.R w w.heap.size [v4] tb := htb
 have hho' : hoRel14.slice.R w w.heap.size [v5] ho := hho
 obtain ⟨A1, n1, c1, rfl⟩ := slice_of14 hbx'
 obtain ⟨A2, n2, c2, rfl⟩ := slice_of14 hsb'
 obtain ⟨A3, n3, c3, rfl⟩ := slice_of14 hru'
 obtain ⟨A4, n4, c4, rfl⟩ := slice_of14 htb'
 obtain ⟨A5, n5, c5, rfl⟩ := slice_of14 hho'
 obtain ⟨a1, a2, a3⟩ := nest_of14 (f := bhC) (P := BhIn) (Q := fun h => h.b.name.size ≤ 140737488355328) (g := Bh.b) hbx' rfl (fun cs a q => q)
 obtain ⟨b1, b2, b3⟩ := nest_of14 (f := strC) (P := TrueP) (Q := fun h => h.size ≤ 140737488355328) (g := (id : ByteArray → ByteArray)) hsb' rfl (fun cs a q => ⟨q.1, trivial, q.2⟩)
 obtain ⟨d1, d2, d3⟩ := nest_of14 (f := rulC) (P := TrueP) (Q := fun h => h.1.size ≤ 140737488355328) (g := (id : Rul → Rul)) hru' rfl (fun cs a q => ⟨q.1, trivial, q.2⟩)
 obtain ⟨e1, e2, e3⟩ := nest_of14 (f := thC) (P := ThIn) (Q := fun h => h.t.box.size ≤ 140737488355328) (g := Th.t) htb' rfl (fun cs a q => q)
 obtain ⟨f1, f2, f3⟩ := nest_of14 (f := hhC) (P := HhIn) (Q := fun h => h.box.size ≤ 140737488355328) (g := Hh.hol) hho' rfl (fun cs a q => q)
 rw [List.map_id] at b1 d1
 exact ⟨⟨⟨cl, bx.map Bh.b, sb, ru, tb.map Th.t, ho.map Hh.hol, nv, nt, nh⟩, ⟨⟨A1, n1, c1⟩, ⟨A2, n2, c2⟩, ⟨A3, n3, c3⟩, ⟨A4, n4, c4⟩, ⟨A5, n5, c5⟩⟩⟩, rfl,
  ⟨a1, nest_col14 b1, nest_col14 d1, e1, f1, ⟨a2, b2, d2, e2, f2⟩⟩, ⟨big_map14 a3, b3, d3, big_map14 e3, big_map14 f3⟩⟩
theorem sta_of {w : World} {B : Nat} {cs : Array Value} {x : StArg} (h : staRel.R w B cs.toList x) : cs = staA x.s x.p ∧ StaIn w B x.s x.p ∧ BigS x.s := ⟨Array.ext' h.1, h.2⟩
end Go.Proofs.YtbogjfbfgbhdbaaGreatDoor
namespace Go.Proofs.YtbogjfbfgbhdbaaGreatDoor
set_option linter.unusedVariables false
set_option linter.unusedSimpArgs false
open Go.ChangeShapes Go.WideShapes Go.ChangeAt Go.RowKit Go.Deep
theorem trod_pairs {H : Type} {enc : TypeId × Value → H} {P : Program} {w : World} {base : Nat} {sp : Nat → Bool} {held : Bool} {fuel n : Nat} {t e ts ti : TypeId} {k : IntKind} {fs : Array Field} {f0 f1 : Field} {cs : List Value} {L : List (Int × List UInt8)} {p : List MemPlace}
 (ht : P.underlying t = some (.array n e)) (he : P.underlying e = some (.struct fs)) (hc : P.cellsOf e = 2) (h0 : fs[0]? = some f0) (h1 : fs[1]? = some f1) (o0 : f0.offset = 0) (o1 : f1.offset = 1) (t0 : f0.type = ti) (t1 : f1.type = ts)
 (hs : P.underlying ts = some .string) (hi : P.underlying ti = some (.int k)) (c0 : P.cellsOf ts = 1) (c1 : P.cellsOf ti = 1)
 (h : DataW.trod enc P w base sp held fuel t cs = some (.agg (L.map fun x => .agg [.lit (.int k x.1), .lit (.string x.2)]), p)) :
 ∀ i z s, L[i]? = some (z, s) → cs[i * 2]? = some (.int k z) ∧ cs[i * 2 + 1]? = some (.string ⟨s.toArray⟩) := by
 obtain ⟨xs, m, rfl, hx, hl, hxl, hel⟩ := DataW.trod_array ht h
 simp only [Prod.mk.injEq, DataW.agg.injEq] at hx
 intro i z s hi2
 have hlen : L.length = n := by
  have := congrArg List.length hx.1
  simp only [List.length_map] at this
  rw [this, hxl]
 have hin : i < n := by rw [← hlen]; exact (List.getElem?_eq_some_iff.1 hi2).1
 have e1 := hel i hin
 rw [hc] at e1
 have hxi := congrArg (·[i]?) hx.1
 simp only [List.getElem?_map, hi2, Option.map_some] at hxi
 obtain ⟨x, hxe⟩ : ∃ x, xs[i]? = some x := ⟨xs[i]'(by omega), List.getElem?_eq_getElem (by omega)⟩
 rw [hxe] at e1 hxi
 simp only [Option.map_some, Option.some.injEq] at hxi
 obtain ⟨ys, q, hm, hy, hyl, hyn, hye⟩ := DataW.trod_struct he e1
 have hy1 : x.1 = .agg (ys.map (·.1)) := by rw [hy]
 rw [hy1] at hxi
 injection hxi with hxi
 have a0 := hye 0 f0 h0
 have a1 := hye 1 f1 h1
 rw [o0, t0, c1] at a0
 rw [o1, t1, c0] at a1
 have b0 := congrArg (·[0]?) hxi
 have b1 := congrArg (·[1]?) hxi
 simp only [List.getElem?_map, List.getElem?_cons_zero, List.getElem?_cons_succ] at b0 b1
 obtain ⟨y0, hy0⟩ : ∃ y, ys[0]? = some y := by cases hq : ys[0]? with
  | none => rw [hq] at b0; cases b0
  | some y => exact ⟨y, rfl⟩
 obtain ⟨y1, hy1'⟩ : ∃ y, ys[1]? = some y := by cases hq : ys[1]? with
  | none => rw [hq] at b1; cases b1
  | some y => exact ⟨y, rfl⟩
 rw [hy0] at a0 b0
 rw [hy1'] at a1 b1
 obtain ⟨zb, hzb, hzx, _⟩ := DataW.trod_int hi a0
 obtain ⟨sb, hsb, hsx, _⟩ := DataW.trod_string hs a1
 rw [hzx] at b0
 rw [hsx] at b1
 simp only [Option.map_some, Option.some.injEq, DataW.lit.injEq, Lit.string.injEq, Lit.int.injEq, true_and] at b0 b1
 have g0 := congrArg (·[0]?) hzb
 have g1 := congrArg (·[0]?) hsb
 simp only [List.getElem?_take, List.getElem?_drop, List.getElem?_cons_zero, Nat.zero_lt_one, if_true, Nat.zero_add, Nat.add_zero] at g0 g1
 refine ⟨?_, ?_⟩
 ·rw [b0]
  simpa using g0
 ·rw [b1]
  simpa using g1
def kindD : List (Int × List UInt8) := (List.range 14).map fun j => (((j : Nat) : Int) + 1, (letK j).map UInt8.ofNat)
theorem kindD_at : ∀ i, i < 14 → kindD[i]? = some (((i : Nat) : Int) + 1, (letK i).map UInt8.ofNat) := by decide +kernel
theorem strOf_mkE (l : List Nat) : (⟨(l.map UInt8.ofNat).toArray⟩ : ByteArray) = strOf l := by
 refine data_inj ?_
 rw [strOf_data]
theorem kindC_at (i : Nat) (hi : i < 14) : kindC[i * 2]? = some (.int .i64 (((i : Nat) : Int) + 1)) ∧ kindC[i * 2 + 1]? = some (.string (strOf (letK i))) := by
 rcases (by omega : i = 0 ∨ i = 1 ∨ i = 2 ∨ i = 3 ∨ i = 4 ∨ i = 5 ∨ i = 6 ∨ i = 7 ∨ i = 8 ∨ i = 9 ∨ i = 10 ∨ i = 11 ∨ i = 12 ∨ i = 13) with rfl | rfl | rfl | rfl | rfl | rfl | rfl | rfl | rfl | rfl | rfl | rfl | rfl | rfl <;> exact ⟨rfl, rfl⟩
theorem kinds_of_cells {w : World} {cs : List Value} (hw : ∀ r, w.cell? ⟨0, r, none⟩ = cs[r]?) (h : ∀ i z s, kindD[i]? = some (z, s) → cs[i * 2]? = some (.int .i64 z) ∧ cs[i * 2 + 1]? = some (.string ⟨s.toArray⟩)) : Kinds w := by
 intro j v hv
 have hj : j < 28 := (List.getElem?_eq_some_iff.1 hv).1
 obtain ⟨h1, h2⟩ := h (j / 2) _ _ (kindD_at (j / 2) (by omega))
 rw [strOf_mkE] at h2
 have hi := kindC_at (j / 2) (by omega)
 rw [Nat.zero_add, hw]
 rcases (by omega : j = j / 2 * 2 ∨ j = j / 2 * 2 + 1) with e | e
 ·rw [e] at hv ⊢
  rw [hi.1] at hv
  rw [h1, hv]
 ·rw [e] at hv ⊢
  rw [hi.2] at hv
  rw [h2, hv]
end Go.Proofs.YtbogjfbfgbhdbaaGreatDoor
