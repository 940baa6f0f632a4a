/-
 A part of the proof: see the last text.
-/
import Derived.Test.YtcdehejgnnnimaaGreatDoorSKvSmall
import Derived.Test.YtcdehejgnnnimaaGreatDoorSKvShelf
import Derived.Test.YtcdehejgnnnimaaGreatDoorSKvRise
import Derived.Deep.QuietTactic
import Derived.Test.YtcdehejgnnnimaaGreatDoorSRowK
import Derived.Test.YtcdehejgnnnimaaGreatDoorChecked
namespace Go.Proofs.YtcdehejgnnnimaaGreatDoor
set_option linter.unusedVariables false
set_option linter.unusedSimpArgs false
open Go.RowKit
set_option linter.unusedVariables false
set_option linter.unusedSimpArgs false
theorem text_eqb (a b : ByteArray) : (a.toList == b.toList) = decide (a = b) := by
 rw [ByteArray.toList_eq, ByteArray.toList_eq]
 by_cases h : a = b
 ·subst h; simp
 ·have : ¬ a.data.toList = b.data.toList := fun e => h (data_eq e)
  have h2 : ¬ a.data = b.data := fun e => this (by rw [e])
  simp [h, h2]
theorem fnOf_hit {l : List Pr} {k : Nat} {p : Pr} {key : ByteArray} (h : ∀ q ∈ l.take k, q.1 ≠ key) (hk : l[k]? = some p) (he : p.1 = key) : fnOf l key = some p.2 := by
 unfold fnOf
 have e : l = l.take k ++ p :: l.drop (k + 1) := by
  have hkl := (List.getElem?_eq_some_iff.1 hk).1
  have : l.drop k = p :: l.drop (k + 1) := by
   rw [List.drop_eq_getElem_cons hkl]
   rw [List.getElem?_eq_getElem hkl] at hk
   rw [Option.some.inj hk]
  rw [← this, List.take_append_drop]
 rw [e, List.find?_append, List.find?_eq_none.2 (fun q hq => by simpa using h q hq)]
 rw [Option.none_or, List.find?_cons, decide_eq_true he]
 rfl
theorem fnOf_none {l : List Pr} {key : ByteArray} (h : ∀ q ∈ l, q.1 ≠ key) : fnOf l key = none := by
 unfold fnOf
 rw [List.find?_eq_none.2 (fun q hq => by simpa using h q hq)]
 rfl
def getR (f : Fn) (key : ByteArray) : Value := .tuple #[.string ((f key).getD ⟨#[]⟩), .bool (f key).isSome]
set_option maxRecDepth 20000 in
set_option maxHeartbeats 2000000 in
theorem get_any (x0 x1 x2 x3 : Value) (A : Option Addr) (n c : Nat) (l : List Pr) (key : ByteArray) (w : World) (h0 : x0.oneCell' = true) (h1 : x1.oneCell' = true) (h2 : x2.oneCell' = true) (h3 : x3.oneCell' = true) (hl : ColK 2 pairC w w.heap.size A n l) (hn : n ≤ 140737488355328) :
 Calls Tryz.prog 15 #[.agg #[x0, x1, x2, x3, .slice A n c], .string key] w fun e w' => e = .returned (getR (fnOf l) key) ∧ Below w.heap.size w w' := by
 have hb0 : Below w.heap.size w (w.alloc (.cells #[x0, x1, x2, x3, .slice A n c] 35)) := (Below.refl _ _).alloc (Nat.le_refl _) _
 have c4 := cell_of_row (w.alloc (.cells #[x0, x1, x2, x3, .slice A n c] 35)) w.heap.size 4 _ _ (0, 0) (heap_alloc_new w _)
 have HL := Lib.hid hl
 have HB0 := Lib.hid hb0
 clear hl hb0
 go_enter Tryz.func15, Tryz.ntmps15
 go_wp2_with fail
 generalize w.alloc (.cells #[x0, x1, x2, x3, .slice A n c] 35) = w1 at *
 go_loopw [11] (fun i wx => ∃ k : Nat, k ≤ n ∧ i = .int .i64 (k : Int) ∧ (∀ q ∈ l.take k, q.1 ≠ key) ∧ Below w.heap.size w wx) (fun i _ => n - (intOf i).toNat)
 case atStart => exact ⟨0, Nat.zero_le _, rfl, fun q hq => (by cases hq), HB0.out⟩
 case round =>
  obtain ⟨k, hk, rfl, hu, hb⟩ := hrel
  have HB := Lib.hid hb
  have HU := Lib.hid hu
  clear hb hu c4
  by_cases hlt : k < n
  ·obtain ⟨b, o, a, rfl, hbb, hla, htk, hrow⟩ := (HL.out.below HB.out (Nat.le_refl _)).at_ hlt
   have HLA := Lib.hid hla
   have HTK := Lib.hid htk
   have HROW := Lib.hid hrow
   have hk0 : (0 : Int) ≤ (k : Int) := by omega
   have hkn : (k : Int) < (n : Int) := by omega
   clear hla htk hrow
   go_wp2_with ((with_reducible show wpList _ _ _ (⟨some 14, _, _, _, _, _⟩ :: _) _ _); refine holdK ?_)
   refine heldK (wpList_load_mid rfl 60 (.tmp 13) rfl b (o + k * 2) rfl (pairC a) _ HROW.out Tryz.underlying60 rfl (by kernel_rfl) ?_)
   obtain ⟨ck, cv⟩ := a
   unfold pairC
   have heq := text_eqb ck key
   have HB2 := Lib.hid (HB.out.alloc HB.out.size (.cells #[.string ck, .string cv] 60))
   by_cases he : ck = key
   ·rw [decide_eq_true he] at heq
    have HF := Lib.hid (fnOf_hit HU.out HLA.out he)
    clear he
    go_wp2_with fail
    go_ret2
    exact ⟨by unfold getR; rw [HF.out] <;> rfl, HB2.out⟩
   ·rw [decide_eq_false he] at heq
    have HU2 : Hid (∀ q ∈ l.take (k + 1), q.1 ≠ key) := Lib.hid (fun q hq => by
     rw [HTK.out] at hq
     rcases List.mem_append.1 hq with h1 | h1
     ·exact HU.out q h1
     ·rw [List.mem_singleton.1 h1]; exact he)
    clear he
    go_wp2_with fail
    go_roundw
    case rel => exact ⟨k + 1, by omega, by go_num, HU2.out, HB2.out⟩
    case measure => simp [intOf]; omega
  ·have hkn : ¬ (k : Int) < (n : Int) := by omega
   have HF : Hid (fnOf l key = none) := Lib.hid (fnOf_none (by have := HU.out; rwa [List.take_of_length_le (by rw [HL.out.1]; omega)] at this))
   go_wp2_with fail
   go_ret2
   exact ⟨by unfold getR; rw [HF.out] <;> rfl, HB.out⟩
end Go.Proofs.YtcdehejgnnnimaaGreatDoor
namespace Go.Proofs.YtcdehejgnnnimaaGreatDoor
set_option linter.unusedVariables false
set_option linter.unusedSimpArgs false
open Go.RowKit
set_option linter.unusedVariables false
set_option linter.unusedSimpArgs false
theorem drewN_twiceK (w : World) (a b : Nat) : (w.drewN a).drewN b = w.drewN (a + b) := by unfold World.drewN; simp [Nat.add_assoc]
end Go.Proofs.YtcdehejgnnnimaaGreatDoor
namespace Go.Proofs.YtcdehejgnnnimaaGreatDoor
set_option linter.unusedVariables false
set_option linter.unusedSimpArgs false
open Go.RowKit
set_option linter.unusedVariables false
set_option linter.unusedSimpArgs false
theorem text_eqbS (a b : ByteArray) : (a.toList == b.toList) = decide (a = b) := by
 rw [ByteArray.toList_eq, ByteArray.toList_eq]
 by_cases h : a = b
 ·subst h; simp
 ·have : ¬ a.data.toList = b.data.toList := fun e => h (data_eq e)
  have h2 : ¬ a.data = b.data := fun e => this (by rw [e])
  simp [h, h2]
theorem drewN_twiceS (w : World) (a b : Nat) : (w.drewN a).drewN b = w.drewN (a + b) := by unfold World.drewN; simp [Nat.add_assoc]
theorem ne_atS {l r : List Pr} {k : Nat} {x y : Pr} (hx : l[k]? = some x) (hy : r[k]? = some y) (h : x ≠ y) : l ≠ r := fun e => by
 rw [e, hy] at hx; exact h (Option.some.inj hx).symm
set_option maxRecDepth 20000 in
set_option maxHeartbeats 4000000 in
theorem x6samePairsS_any (A B : Option Addr) (n c m d : Nat) (l r : List Pr) (w : World) (hl : ColK 2 pairC w w.heap.size A n l) (hr : ColK 2 pairC w w.heap.size B m r) (hn : n ≤ 140737488355328) (hm : m ≤ 140737488355328) :
 Calls Tryz.prog 14 #[.slice A n c, .slice B m d] w fun e w' => e = .returned (.bool (decide (l = r))) ∧ ∃ q, w' = w.drewN q := by
 have HL := Lib.hid hl
 have HR := Lib.hid hr
 by_cases hnm : n = m
 ·subst hnm
  have hne : ((n : Int) != (n : Int)) = false := by simp
  clear hl hr
  go_enter Tryz.func14, Tryz.ntmps14
  go_wp2_with fail
  go_loopw [5] (fun i wx => ∃ k q : Nat, k ≤ n ∧ i = .int .i64 (k : Int) ∧ l.take k = r.take k ∧ wx = w.drewN q) (fun i _ => n - (intOf i).toNat)
  case atStart => exact ⟨0, 0, Nat.zero_le _, rfl, rfl, rfl⟩
  case round =>
   obtain ⟨k, q, hk, rfl, hm, hw⟩ := hrel
   have HM := Lib.hid hm
   have HW := Lib.hid hw
   clear hm hw
   by_cases hlt : k < n
   ·obtain ⟨b, o, x, rfl, hbb, hla, htk, hrow⟩ := HL.out.at_ hlt
    obtain ⟨b2, o2, y, rfl, hbb2, hla2, htk2, hrow2⟩ := HR.out.at_ hlt
    rw [show w.rangeAt b (o + k * 2) (pairC x) = wr.rangeAt b (o + k * 2) (pairC x) by rw [HW.out]; rfl] at hrow
    rw [show w.rangeAt b2 (o2 + k * 2) (pairC y) = wr.rangeAt b2 (o2 + k * 2) (pairC y) by rw [HW.out]; rfl] at hrow2
    obtain ⟨x1, x2⟩ := x
    obtain ⟨y1, y2⟩ := y
    have r0 := hrow 0 _ rfl
    have r1 := hrow 1 _ rfl
    have s0 := hrow2 0 _ rfl
    have s1 := hrow2 1 _ rfl
    rw [Nat.add_zero] at r0 s0
    have hk0 : (0 : Int) ≤ (k : Int) := by omega
    have hkn : (k : Int) < (n : Int) := by omega
    have HA1 := Lib.hid hla
    have HA2 := Lib.hid hla2
    have HT1 := Lib.hid htk
    have HT2 := Lib.hid htk2
    have q1 := text_eqbS x1 y1
    have q2 := text_eqbS x2 y2
    clear hla hla2 htk htk2 hrow hrow2
    by_cases he1 : x1 = y1
    ·rw [decide_eq_true he1] at q1
     by_cases he2 : x2 = y2
     ·rw [decide_eq_true he2] at q2
      have HN : Hid (l.take (k + 1) = r.take (k + 1)) := Lib.hid (by rw [HT1.out, HT2.out, HM.out, he1, he2])
      clear he1 he2
      go_wp2_with fail
      go_quiet (fail)
      go_wp2_with fail
      go_roundw
      case rel => exact ⟨k + 1, _, by omega, by go_num, HN.out, by rw [HW.out]; exact drewN_twiceS _ _ _⟩
      case measure => simp [intOf]; omega
     ·rw [decide_eq_false he2] at q2
      have HN : Hid (decide (l = r) = false) := Lib.hid (decide_eq_false (ne_atS HA1.out HA2.out (fun e => he2 (Prod.mk.inj e).2)))
      clear he1 he2
      go_wp2_with fail
      go_quiet (fail)
      go_wp2_with fail
      go_ret
      exact ⟨by rw [HN.out] <;> rfl, _, by rw [HW.out]; exact drewN_twiceS _ _ _⟩
    ·rw [decide_eq_false he1] at q1
     have HN : Hid (decide (l = r) = false) := Lib.hid (decide_eq_false (ne_atS HA1.out HA2.out (fun e => he1 (Prod.mk.inj e).1)))
     clear he1 q2
     go_wp2_with fail
     go_quiet (fail)
     go_wp2_with fail
     go_ret
     exact ⟨by rw [HN.out] <;> rfl, _, by rw [HW.out]; exact drewN_twiceS _ _ _⟩
   ·have hkn : ¬ (k : Int) < (n : Int) := by omega
    have HN : Hid (decide (l = r) = true) := Lib.hid (decide_eq_true (by
     have h := HM.out
     rwa [List.take_of_length_le (by rw [HL.out.1]; omega), List.take_of_length_le (by rw [HR.out.1]; omega)] at h))
    go_wp2_with fail
    go_ret
    exact ⟨by rw [HN.out] <;> rfl, _, HW.out⟩
 ·have hne : ((n : Int) != (m : Int)) = true := by simp; omega
  have HN : Hid (decide (l = r) = false) := Lib.hid (decide_eq_false (fun e => hnm (by rw [← hl.1, ← hr.1, e])))
  clear hl hr
  go_enter Tryz.func14, Tryz.ntmps14
  go_wp2_with fail
  go_ret
  exact ⟨by rw [HN.out] <;> rfl, 0, rfl⟩
set_option maxRecDepth 20000 in
set_option maxHeartbeats 4000000 in
theorem x6same_any (h g u k : Int) (A B : Option Addr) (n c m d : Nat) (l r : List Pr) (w : World) (hl : ColK 2 pairC w w.heap.size A n l) (hr : ColK 2 pairC w w.heap.size B m r) (hn : n ≤ 140737488355328) (hm : m ≤ 140737488355328) :
 Calls Tryz.prog 11 #[.agg #[.int .i64 h, .int .i64 g, .int .i64 u, .int .i64 k, .slice A n c], .agg #[.int .i64 h, .int .i64 g, .int .i64 u, .int .i64 k, .slice B m d]] w fun e w' => e = .returned (.bool (decide (l = r))) ∧ Below w.heap.size w w' := by
 have hb1 : Below w.heap.size w (w.alloc (.cells #[.int .i64 h, .int .i64 g, .int .i64 u, .int .i64 k, .slice A n c] 35)) := (Below.refl _ _).alloc (Nat.le_refl _) _
 have HL := Lib.hid hl
 have HR := Lib.hid hr
 clear hl hr hb1
 go_enter Tryz.func11, Tryz.ntmps11
 go_wp2_with fail
 have hb1 : Below w.heap.size w ((w.alloc (.cells #[.int .i64 h, .int .i64 g, .int .i64 u, .int .i64 k, .slice A n c] 35)).alloc (.cells #[.int .i64 h, .int .i64 g, .int .i64 u, .int .i64 k, .slice B m d] 35)) := ((Below.refl _ _).alloc (Nat.le_refl _) _).alloc (by simp) _
 refine (x6samePairsS_any A B n c m d l r _ (HL.out.later hb1) (HR.out.later hb1) hn hm).mono ?_
 rintro e w2 ⟨rfl, q, rfl⟩
 go_wp2_with fail
 go_ret
 exact ⟨rfl, belowK_drewN hb1 q⟩
end Go.Proofs.YtcdehejgnnnimaaGreatDoor
namespace Go.Proofs.YtcdehejgnnnimaaGreatDoor
set_option linter.unusedVariables false
set_option linter.unusedSimpArgs false
open Go.RowKit
set_option linter.unusedVariables false
set_option linter.unusedSimpArgs false
def wP (p : Pr) : Nat := p.1.size + p.2.size
def wC (c : Chg) : Nat := c.1.size + c.2.1.size
def sumW {α : Type} (f : α → Nat) (l : List α) : Nat := (l.map f).sum
theorem sumW_snoc {α : Type} (f : α → Nat) {l : List α} {k : Nat} {a : α} (h : l.take (k + 1) = l.take k ++ [a]) : sumW f (l.take (k + 1)) = sumW f (l.take k) + f a := by
 unfold sumW; rw [h]; simp
theorem sumW_take {α : Type} (f : α → Nat) (l : List α) (k : Nat) : sumW f (l.take k) ≤ sumW f l := by
 conv => rhs; rw [← List.take_append_drop k l]
 unfold sumW; rw [List.map_append, List.sum_append]; omega
def great6B (l : List Pr) (cs : List Chg) : Bool := decide (20000 < l.length + cs.length + sumW wP l + sumW wC cs)
def GreatAt (l : List Pr) (cs : List Chg) (n m j y : Nat) : Prop := (y = n + m + sumW wP l + sumW wC (cs.take j)) ∨ (20000 < y ∧ great6B l cs = true)
set_option maxRecDepth 20000 in
set_option maxHeartbeats 4000000 in
theorem great06_any (A B : Option Addr) (n c m d : Nat) (l : List Pr) (cs : List Chg) (w : World) (hl : ColK 2 pairC w w.heap.size A n l) (hr : ColK 3 chgC w w.heap.size B m cs) (hn : n ≤ 140737488355328) (hm : m ≤ 140737488355328)
 (hs : ∀ x ∈ l, x.1.size ≤ 140737488355328 ∧ x.2.size ≤ 140737488355328) (hs2 : ∀ x ∈ cs, x.1.size ≤ 140737488355328 ∧ x.2.1.size ≤ 140737488355328) :
 Calls Tryz.prog 7 #[.slice A n c, .slice B m d] w fun e w' => e = .returned (.bool (great6B l cs)) ∧ ∃ q, w' = w.drewN q := by
 have HL := Lib.hid hl
 have HR := Lib.hid hr
 have HS := Lib.hid hs
 have HS2 := Lib.hid hs2
 have HG : Hid (great6B l cs = decide (20000 < n + m + sumW wP l + sumW wC cs)) := Lib.hid (by unfold great6B; rw [hl.1, hr.1])
 clear hl hr hs hs2
 go_enter Tryz.func7, Tryz.ntmps7
 go_wp2_with fail
 go_loopw [5, 6] (fun t i wx => ∃ k q x : Nat, k ≤ n ∧ i = .int .i64 (k : Int) ∧ t = .int .i64 (x : Int) ∧ (x = n + m + sumW wP (l.take k)) ∧ x ≤ 900000000000000 ∧ wx = w.drewN q) (fun _ i _ => n - (intOf i).toNat)
 case atStart => exact ⟨0, 0, n + m, Nat.zero_le _, rfl, by first | rfl | (simp; done), rfl, by omega, rfl⟩
 case round =>
  obtain ⟨k, q, x, hk, rfl, rfl, hx, hx2, hw⟩ := hrel
  have HX := Lib.hid hx
  have HW := Lib.hid hw
  clear hx hw
  by_cases hgr : x ≤ 20000
  ·have hgr' : (x : Int) ≤ 20000 := by omega
   by_cases hlt : k < n
   ·obtain ⟨b, o, a, rfl, hbb, hla, htk, hrow⟩ := HL.out.at_ hlt
    rw [show w.rangeAt b (o + k * 2) (pairC a) = wr.rangeAt b (o + k * 2) (pairC a) by rw [HW.out]; rfl] at hrow
    have hsz := HS.out a (List.mem_of_getElem? hla)
    obtain ⟨a1, a2⟩ := a
    have r0 := hrow 0 _ rfl
    have r1 := hrow 1 _ rfl
    rw [Nat.add_zero] at r0
    have hk0 : (0 : Int) ≤ (k : Int) := by omega
    have hkn : (k : Int) < (n : Int) := by omega
    have HSN : Hid (x + a1.size + a2.size = n + m + sumW wP (l.take (k + 1))) := Lib.hid (by rw [sumW_snoc wP htk, HX.out]; unfold wP; simp only; omega)
    obtain ⟨hz1, hz2⟩ := hsz
    simp only at hz1 hz2
    have w1 : IntKind.i64.wrap ((x : Int) + (a1.size : Int)) = (x : Int) + (a1.size : Int) := IntWalk.i64_in _ (by omega)
    have w2 : IntKind.i64.wrap ((x : Int) + (a1.size : Int) + (a2.size : Int)) = (x : Int) + (a1.size : Int) + (a2.size : Int) := IntWalk.i64_in _ (by omega)
    clear hla htk hrow
    go_wp2_with fail
    go_quiet (fail)
    go_wp2_with fail
    go_roundw
    case rel => exact ⟨k + 1, _, x + a1.size + a2.size, by omega, by go_num, by first | rfl | (simp; done), HSN.out, by omega, by rw [HW.out]; exact drewN_twiceK _ _ _⟩
    case measure => simp [intOf]; omega
   ·have hkn : ¬ (k : Int) < (n : Int) := by omega
    have GA : Hid (GreatAt l cs n m 0 x) := Lib.hid (.inl (by
     have := HX.out
     rw [List.take_of_length_le (by rw [HL.out.1]; omega)] at this
     rw [this]; simp [sumW]))
    go_wp2_with fail
    go_loopw [5, 7] (fun t i wx => ∃ j q y : Nat, j ≤ m ∧ i = .int .i64 (j : Int) ∧ t = .int .i64 (y : Int) ∧ GreatAt l cs n m j y ∧ y ≤ 1800000000000000 ∧ wx = w.drewN q) (fun _ i _ => m - (intOf i).toNat)
    case atStart => exact ⟨0, q, x, Nat.zero_le _, rfl, rfl, GA.out, by omega, HW.out⟩
    case round =>
     obtain ⟨j, q2, y, hj, rfl, rfl, hga, hy2, hw2⟩ := hrel
     have HGA := Lib.hid hga
     have HW2 := Lib.hid hw2
     clear hga hw2
     by_cases hgr2 : y ≤ 20000
     ·have hgr2' : (y : Int) ≤ 20000 := by omega
      by_cases hlt2 : j < m
      ·obtain ⟨b, o, a, rfl, hbb, hla, htk, hrow⟩ := HR.out.at_ hlt2
       rw [show w.rangeAt b (o + j * 3) (chgC a) = wr.rangeAt b (o + j * 3) (chgC a) by rw [HW2.out]; rfl] at hrow
       have hsz := HS2.out a (List.mem_of_getElem? hla)
       obtain ⟨a1, a2, a3⟩ := a
       have r0 := hrow 0 _ rfl
       have r1 := hrow 1 _ rfl
       rw [Nat.add_zero] at r0
       have hj0 : (0 : Int) ≤ (j : Int) := by omega
       have hjm : (j : Int) < (m : Int) := by omega
       have HSN : Hid (GreatAt l cs n m (j + 1) (y + a1.size + a2.size)) := Lib.hid (by
        rcases HGA.out with h | ⟨h, _⟩
        ·left; rw [sumW_snoc wC htk, h]; unfold wC; simp only; omega
        ·omega)
       obtain ⟨hz1, hz2⟩ := hsz
       simp only at hz1 hz2
       have w1 : IntKind.i64.wrap ((y : Int) + (a1.size : Int)) = (y : Int) + (a1.size : Int) := IntWalk.i64_in _ (by omega)
       have w2 : IntKind.i64.wrap ((y : Int) + (a1.size : Int) + (a2.size : Int)) = (y : Int) + (a1.size : Int) + (a2.size : Int) := IntWalk.i64_in _ (by omega)
       clear hla htk hrow
       go_wp2_with fail
       go_quiet (fail)
       go_wp2_with fail
       go_roundw
       case rel => exact ⟨j + 1, _, y + a1.size + a2.size, by omega, by go_num, by first | rfl | (simp; done), HSN.out, by omega, by rw [HW2.out]; exact drewN_twiceK _ _ _⟩
       case measure => simp [intOf]; omega
      ·have hjm : ¬ (j : Int) < (m : Int) := by omega
       have hbig : ¬ (20000 : Int) < (y : Int) := by omega
       have HN : Hid (great6B l cs = false) := Lib.hid (by
        rw [HG.out]
        rcases HGA.out with h | ⟨h, _⟩
        ·rw [List.take_of_length_le (by rw [HR.out.1]; omega)] at h
         exact decide_eq_false (by omega)
        ·omega)
       go_wp2_with fail
       go_ret
       exact ⟨by rw [HN.out] <;> rfl, _, HW2.out⟩
     ·have hgr2' : ¬ (y : Int) ≤ 20000 := by omega
      have hbig : (20000 : Int) < (y : Int) := by omega
      have HN : Hid (great6B l cs = true) := Lib.hid (by
       rcases HGA.out with h | ⟨_, h⟩
       ·rw [HG.out]
        have := sumW_take wC cs j
        exact decide_eq_true (by omega)
       ·exact h)
      by_cases hlt2 : j < m
      ·have hjm : (j : Int) < (m : Int) := by omega
       go_wp2_with fail
       go_ret
       exact ⟨by rw [HN.out] <;> rfl, _, HW2.out⟩
      ·have hjm : ¬ (j : Int) < (m : Int) := by omega
       go_wp2_with fail
       go_ret
       exact ⟨by rw [HN.out] <;> rfl, _, HW2.out⟩
  ·have hgr' : ¬ (x : Int) ≤ 20000 := by omega
   have GA : Hid (GreatAt l cs n m 0 x) := Lib.hid (.inr ⟨by omega, by
    rw [HG.out]
    have := HX.out
    have := sumW_take wP l k
    exact decide_eq_true (by omega)⟩)
   by_cases hlt : k < n
   ·have hkn : (k : Int) < (n : Int) := by omega
    go_wp2_with fail
    go_loopw [5, 7] (fun t i wx => ∃ j q y : Nat, j ≤ m ∧ i = .int .i64 (j : Int) ∧ t = .int .i64 (y : Int) ∧ GreatAt l cs n m j y ∧ y ≤ 1800000000000000 ∧ wx = w.drewN q) (fun _ i _ => m - (intOf i).toNat)
    case atStart => exact ⟨0, q, x, Nat.zero_le _, rfl, rfl, GA.out, by omega, HW.out⟩
    case round =>
     obtain ⟨j, q2, y, hj, rfl, rfl, hga, hy2, hw2⟩ := hrel
     have HGA := Lib.hid hga
     have HW2 := Lib.hid hw2
     clear hga hw2
     by_cases hgr2 : y ≤ 20000
     ·have hgr2' : (y : Int) ≤ 20000 := by omega
      by_cases hlt2 : j < m
      ·obtain ⟨b, o, a, rfl, hbb, hla, htk, hrow⟩ := HR.out.at_ hlt2
       rw [show w.rangeAt b (o + j * 3) (chgC a) = wr.rangeAt b (o + j * 3) (chgC a) by rw [HW2.out]; rfl] at hrow
       have hsz := HS2.out a (List.mem_of_getElem? hla)
       obtain ⟨a1, a2, a3⟩ := a
       have r0 := hrow 0 _ rfl
       have r1 := hrow 1 _ rfl
       rw [Nat.add_zero] at r0
       have hj0 : (0 : Int) ≤ (j : Int) := by omega
       have hjm : (j : Int) < (m : Int) := by omega
       have HSN : Hid (GreatAt l cs n m (j + 1) (y + a1.size + a2.size)) := Lib.hid (by
        rcases HGA.out with h | ⟨h, _⟩
        ·left; rw [sumW_snoc wC htk, h]; unfold wC; simp only; omega
        ·omega)
       obtain ⟨hz1, hz2⟩ := hsz
       simp only at hz1 hz2
       have w1 : IntKind.i64.wrap ((y : Int) + (a1.size : Int)) = (y : Int) + (a1.size : Int) := IntWalk.i64_in _ (by omega)
       have w2 : IntKind.i64.wrap ((y : Int) + (a1.size : Int) + (a2.size : Int)) = (y : Int) + (a1.size : Int) + (a2.size : Int) := IntWalk.i64_in _ (by omega)
       clear hla htk hrow
       go_wp2_with fail
       go_quiet (fail)
       go_wp2_with fail
       go_roundw
       case rel => exact ⟨j + 1, _, y + a1.size + a2.size, by omega, by go_num, by first | rfl | (simp; done), HSN.out, by omega, by rw [HW2.out]; exact drewN_twiceK _ _ _⟩
       case measure => simp [intOf]; omega
      ·have hjm : ¬ (j : Int) < (m : Int) := by omega
       have hbig : ¬ (20000 : Int) < (y : Int) := by omega
       have HN : Hid (great6B l cs = false) := Lib.hid (by
        rw [HG.out]
        rcases HGA.out with h | ⟨h, _⟩
        ·rw [List.take_of_length_le (by rw [HR.out.1]; omega)] at h
         exact decide_eq_false (by omega)
        ·omega)
       go_wp2_with fail
       go_ret
       exact ⟨by rw [HN.out] <;> rfl, _, HW2.out⟩
     ·have hgr2' : ¬ (y : Int) ≤ 20000 := by omega
      have hbig : (20000 : Int) < (y : Int) := by omega
      have HN : Hid (great6B l cs = true) := Lib.hid (by
       rcases HGA.out with h | ⟨_, h⟩
       ·rw [HG.out]
        have := sumW_take wC cs j
        exact decide_eq_true (by omega)
       ·exact h)
      by_cases hlt2 : j < m
      ·have hjm : (j : Int) < (m : Int) := by omega
       go_wp2_with fail
       go_ret
       exact ⟨by rw [HN.out] <;> rfl, _, HW2.out⟩
      ·have hjm : ¬ (j : Int) < (m : Int) := by omega
       go_wp2_with fail
       go_ret
       exact ⟨by rw [HN.out] <;> rfl, _, HW2.out⟩
   ·have hkn : ¬ (k : Int) < (n : Int) := by omega
    go_wp2_with fail
    go_loopw [5, 7] (fun t i wx => ∃ j q y : Nat, j ≤ m ∧ i = .int .i64 (j : Int) ∧ t = .int .i64 (y : Int) ∧ GreatAt l cs n m j y ∧ y ≤ 1800000000000000 ∧ wx = w.drewN q) (fun _ i _ => m - (intOf i).toNat)
    case atStart => exact ⟨0, q, x, Nat.zero_le _, rfl, rfl, GA.out, by omega, HW.out⟩
    case round =>
     obtain ⟨j, q2, y, hj, rfl, rfl, hga, hy2, hw2⟩ := hrel
     have HGA := Lib.hid hga
     have HW2 := Lib.hid hw2
     clear hga hw2
     by_cases hgr2 : y ≤ 20000
     ·have hgr2' : (y : Int) ≤ 20000 := by omega
      by_cases hlt2 : j < m
      ·obtain ⟨b, o, a, rfl, hbb, hla, htk, hrow⟩ := HR.out.at_ hlt2
       rw [show w.rangeAt b (o + j * 3) (chgC a) = wr.rangeAt b (o + j * 3) (chgC a) by rw [HW2.out]; rfl] at hrow
       have hsz := HS2.out a (List.mem_of_getElem? hla)
       obtain ⟨a1, a2, a3⟩ := a
       have r0 := hrow 0 _ rfl
       have r1 := hrow 1 _ rfl
       rw [Nat.add_zero] at r0
       have hj0 : (0 : Int) ≤ (j : Int) := by omega
       have hjm : (j : Int) < (m : Int) := by omega
       have HSN : Hid (GreatAt l cs n m (j + 1) (y + a1.size + a2.size)) := Lib.hid (by
        rcases HGA.out with h | ⟨h, _⟩
        ·left; rw [sumW_snoc wC htk, h]; unfold wC; simp only; omega
        ·omega)
       obtain ⟨hz1, hz2⟩ := hsz
       simp only at hz1 hz2
       have w1 : IntKind.i64.wrap ((y : Int) + (a1.size : Int)) = (y : Int) + (a1.size : Int) := IntWalk.i64_in _ (by omega)
       have w2 : IntKind.i64.wrap ((y : Int) + (a1.size : Int) + (a2.size : Int)) = (y : Int) + (a1.size : Int) + (a2.size : Int) := IntWalk.i64_in _ (by omega)
       clear hla htk hrow
       go_wp2_with fail
       go_quiet (fail)
       go_wp2_with fail
       go_roundw
       case rel => exact ⟨j + 1, _, y + a1.size + a2.size, by omega, by go_num, by first | rfl | (simp; done), HSN.out, by omega, by rw [HW2.out]; exact drewN_twiceK _ _ _⟩
       case measure => simp [intOf]; omega
      ·have hjm : ¬ (j : Int) < (m : Int) := by omega
       have hbig : ¬ (20000 : Int) < (y : Int) := by omega
       have HN : Hid (great6B l cs = false) := Lib.hid (by
        rw [HG.out]
        rcases HGA.out with h | ⟨h, _⟩
        ·rw [List.take_of_length_le (by rw [HR.out.1]; omega)] at h
         exact decide_eq_false (by omega)
        ·omega)
       go_wp2_with fail
       go_ret
       exact ⟨by rw [HN.out] <;> rfl, _, HW2.out⟩
     ·have hgr2' : ¬ (y : Int) ≤ 20000 := by omega
      have hbig : (20000 : Int) < (y : Int) := by omega
      have HN : Hid (great6B l cs = true) := Lib.hid (by
       rcases HGA.out with h | ⟨_, h⟩
       ·rw [HG.out]
        have := sumW_take wC cs j
        exact decide_eq_true (by omega)
       ·exact h)
      by_cases hlt2 : j < m
      ·have hjm : (j : Int) < (m : Int) := by omega
       go_wp2_with fail
       go_ret
       exact ⟨by rw [HN.out] <;> rfl, _, HW2.out⟩
      ·have hjm : ¬ (j : Int) < (m : Int) := by omega
       go_wp2_with fail
       go_ret
       exact ⟨by rw [HN.out] <;> rfl, _, HW2.out⟩
end Go.Proofs.YtcdehejgnnnimaaGreatDoor
