/-
 A part of the proof: see the last text.
-/
import Derived.Test.YtcdehejgnnnimaaGreatDoorSPackMath
import Derived.Test.YtcdehejgnnnimaaGreatDoorSRowK
import Derived.Test.YtcdehejgnnnimaaGreatDoorChecked
import Derived.ProofKit
import Derived.BigQuiet
import Derived.IntWalk
import Derived.OwnWalk
import Derived.Deep.QuietTactic
import Derived.Laws.Cover1
namespace Go.Proofs.YtcdehejgnnnimaaGreatDoor
set_option linter.unusedVariables false
set_option linter.unusedSimpArgs false
open Go.RowKit
set_option linter.unusedVariables false
set_option linter.unusedSimpArgs false
theorem holdK {p : Prop} (h : Hid p) : p := h
theorem heldK {p : Prop} (h : p) : Hid p := h
abbrev Chg := ByteArray × ByteArray × Bool
def pairC (p : Pr) : List Value := [.string p.1, .string p.2]
def chgC (c : Chg) : List Value := [.string c.1, .string c.2.1, .bool c.2.2]
theorem pairC_len (p : Pr) : (pairC p).length = 2 := rfl
theorem chgC_len (c : Chg) : (chgC c).length = 3 := rfl
theorem pairC_one (p : Pr) : ∀ u ∈ pairC p, u.oneCell' = true := by
 intro u hu
 simp [pairC] at hu
 rcases hu with rfl | rfl <;> rfl
theorem chgC_one (c : Chg) : ∀ u ∈ chgC c, u.oneCell' = true := by
 intro u hu
 simp [chgC] at hu
 rcases hu with rfl | rfl | rfl <;> rfl
def keyB (k : ByteArray) : Bool := decide (1 ≤ k.size ∧ k.size ≤ 64)
def mayB (k v : ByteArray) : Bool := keyB k && decide (v.size ≤ 4096)
def okC (c : Chg) : Bool := mayB c.1 c.2.1 && !(c.2.2 && decide (c.2.1.size ≠ 0))
def changesB (l : List Chg) : Bool := decide (l.length ≤ 400) && l.all okC
set_option maxHeartbeats 400000 in
theorem keyMayBe_any (k : ByteArray) (w : World) : Calls Tryz.prog 41 #[.string k] w fun e w' => e = .returned (.bool (keyB k)) ∧ w = w' := by
 by_cases h1 : 1 ≤ k.size
 ·have h1' : (1 : Int) ≤ (k.size : Int) := by omega
  by_cases h2 : k.size ≤ 64
  ·have h2' : (k.size : Int) ≤ 64 := by omega
   have HR : Hid (keyB k = true) := Lib.hid (decide_eq_true ⟨h1, h2⟩)
   go_enter Tryz.func41, Tryz.ntmps41
   go_wp2
   go_ret
   exact ⟨by rw [HR.out] <;> rfl, rfl⟩
  ·have h2' : ¬ (k.size : Int) ≤ 64 := by omega
   have HR : Hid (keyB k = false) := Lib.hid (decide_eq_false (fun e => h2 e.2))
   go_enter Tryz.func41, Tryz.ntmps41
   go_wp2
   go_ret
   exact ⟨by rw [HR.out] <;> rfl, rfl⟩
 ·have h1' : ¬ (1 : Int) ≤ (k.size : Int) := by omega
  have HR : Hid (keyB k = false) := Lib.hid (decide_eq_false (fun e => h1 e.1))
  go_enter Tryz.func41, Tryz.ntmps41
  go_wp2
  go_ret
  exact ⟨by rw [HR.out] <;> rfl, rfl⟩
theorem text_ne {v : ByteArray} (h : v.size ≠ 0) : (v.toList != []) = true ∧ (!v.toList.isEmpty) = true := by
 have : v.toList ≠ [] := by
  rw [ByteArray.toList_eq]
  intro e
  apply h
  have := congrArg List.length e
  rw [Array.length_toList] at this
  exact this
 have h1 : (v.toList != []) = true := by simp [this]
 refine ⟨h1, ?_⟩
 cases hq : v.toList.isEmpty
 ·rfl
 ·exact absurd (List.isEmpty_iff.1 hq) this
theorem text_empty {v : ByteArray} (h : v.size = 0) : v = ⟨#[]⟩ := by
 obtain ⟨⟨l⟩⟩ := v
 cases l with
 | nil => rfl
 | cons a l => exact absurd h (by simp [ByteArray.size])
set_option maxRecDepth 20000 in
set_option maxHeartbeats 1000000 in
theorem wrong_any (c : Chg) (w : World) : Calls Tryz.prog 68 #[.agg #[.string c.1, .string c.2.1, .bool c.2.2]] w fun e w' => e = .returned (.bool (!okC c)) ∧ Below w.heap.size w w' := by
 obtain ⟨k, v, g⟩ := c
 have hb0 : Below w.heap.size w (w.alloc (.cells #[.string k, .string v, .bool g] 52)) := (Below.refl _ _).alloc (Nat.le_refl _) _
 have hc := fun (i : Nat) => cell_of_row (w.alloc (.cells #[.string k, .string v, .bool g] 52)) w.heap.size i _ _ (0, 0) (heap_alloc_new w _)
 have c0 := hc 0
 have c1 := hc 1
 have c2 := hc 2
 have HB := Lib.hid hb0
 clear hb0 hc
 cases hk : keyB k
 ·have HR : Hid (okC (k, v, g) = false) := Lib.hid (by unfold okC mayB; simp only; rw [hk]; rfl)
  go_enter Tryz.func68, Tryz.ntmps68
  go_wp2_with fail
  generalize w.alloc (.cells #[.string k, .string v, .bool g] 52) = w1 at *
  refine (keyMayBe_any k w1).mono ?_
  rintro e w' ⟨rfl, rfl⟩
  rw [hk]
  go_wp2_with fail
  go_ret
  exact ⟨by rw [HR.out] <;> rfl, HB.out⟩
 ·by_cases hv : v.size ≤ 4096
  ·have hv' : ¬ (4096 : Int) < (v.size : Int) := by omega
   cases g
   ·have HR : Hid (okC (k, v, false) = true) := Lib.hid (by unfold okC mayB; simp only; rw [hk, decide_eq_true hv]; rfl)
    go_enter Tryz.func68, Tryz.ntmps68
    go_wp2_with fail
    generalize w.alloc (.cells #[.string k, .string v, .bool false] 52) = w1 at *
    refine (keyMayBe_any k w1).mono ?_
    rintro e w' ⟨rfl, rfl⟩
    rw [hk]
    go_wp2_with fail
    go_ret
    exact ⟨by rw [HR.out]; exact congrArg (fun b => Ending.returned (.bool b)) (decide_eq_false (by omega)), HB.out⟩
   ·by_cases h0 : v.size = 0
    ·have HR : Hid (okC (k, v, true) = true) := Lib.hid (by unfold okC mayB; simp only; rw [hk, decide_eq_true hv, h0]; rfl)
     have hve := text_empty h0
     subst hve
     clear hv h0 hv'
     go_enter Tryz.func68, Tryz.ntmps68
     go_wp2_with fail
     generalize w.alloc (.cells #[.string k, .string ⟨#[]⟩, .bool true] 52) = w1 at *
     refine (keyMayBe_any k w1).mono ?_
     rintro e w' ⟨rfl, rfl⟩
     rw [hk]
     go_wp2_with fail
     go_ret
     exact ⟨by rw [HR.out] <;> rfl, HB.out⟩
    ·have HR : Hid (okC (k, v, true) = false) := Lib.hid (by unfold okC mayB; simp only; rw [hk, decide_eq_true hv, decide_eq_true h0]; rfl)
     obtain ⟨n1, n2⟩ := text_ne h0
     go_enter Tryz.func68, Tryz.ntmps68
     go_wp2_with fail
     generalize w.alloc (.cells #[.string k, .string v, .bool true] 52) = w1 at *
     refine (keyMayBe_any k w1).mono ?_
     rintro e w' ⟨rfl, rfl⟩
     rw [hk]
     go_wp2_with fail
     go_ret
     exact ⟨by rw [HR.out] <;> rfl, HB.out⟩
  ·have hv' : (4096 : Int) < (v.size : Int) := by omega
   have HR : Hid (okC (k, v, g) = false) := Lib.hid (by unfold okC mayB; simp only; rw [hk, decide_eq_false hv]; rfl)
   go_enter Tryz.func68, Tryz.ntmps68
   go_wp2_with fail
   generalize w.alloc (.cells #[.string k, .string v, .bool g] 52) = w1 at *
   refine (keyMayBe_any k w1).mono ?_
   rintro e w' ⟨rfl, rfl⟩
   rw [hk]
   go_wp2_with fail
   go_ret
   exact ⟨by rw [HR.out] <;> rfl, HB.out⟩
theorem all_snoc {α : Type} {p : α → Bool} {l : List α} {k : Nat} {a : α} (h : (l.take k).all p = true) (hk : l.take (k + 1) = l.take k ++ [a]) (ha : p a = true) : (l.take (k + 1)).all p = true := by
 rw [hk, List.all_append, h]; simp [ha]
theorem all_stop {α : Type} {p : α → Bool} {l : List α} {k : Nat} {a : α} (hk : l[k]? = some a) (ha : p a = false) : l.all p = false := by
 cases h : l.all p
 ·rfl
 ·rw [List.all_eq_true.1 h a (List.mem_of_getElem? hk)] at ha; cases ha
set_option maxRecDepth 20000 in
set_option maxHeartbeats 2000000 in
theorem index_any (A : Option Addr) (n c : Nat) (l : List Chg) (w : World) (hl : ColK 3 chgC w w.heap.size A n l) (hn : n ≤ 1000000) :
 Calls Tryz.prog 84 #[.slice A n c, .func (.func 68) #[] #[]] w fun e w' => ∃ z : Int, e = .returned (.int .i64 z) ∧ (decide (0 ≤ z) = !l.all okC) ∧ Below w.heap.size w w' := by
 have HL := Lib.hid hl
 clear hl
 go_enter Tryz.func84, Tryz.ntmps84
 go_wp2_with fail
 go_loopw [8] (fun i wx => ∃ k : Nat, k ≤ n ∧ i = .int .i64 (k : Int) ∧ (l.take k).all okC = true ∧ Below w.heap.size w wx) (fun i _ => n - (intOf i).toNat)
 case atStart => exact ⟨0, Nat.zero_le _, rfl, rfl, Below.refl _ _⟩
 case round =>
  obtain ⟨k, hk, rfl, ha, hb⟩ := hrel
  have HB := Lib.hid hb
  have HA := Lib.hid ha
  clear ha hb
  by_cases hlt : k < n
  ·obtain ⟨b, o, a, rfl, hbb, hla, htk, hrow⟩ := (HL.out.below HB.out (Nat.le_refl _)).at_ hlt
   have HLA := Lib.hid hla
   have HTK := Lib.hid htk
   have HROW := Lib.hid hrow
   have hk0 : (0 : Int) ≤ (k : Int) := by omega
   have hkn : (k : Int) < (n : Int) := by omega
   clear hla htk hrow
   go_wp2_with ((with_reducible show wpList _ _ _ (⟨some 15, _, _, _, _, _⟩ :: _) _ _); refine holdK ?_)
   refine heldK (wpList_load_mid rfl 52 (.tmp 14) rfl b (o + k * 3) rfl (chgC a) _ HROW.out Tryz.underlying52 rfl (by kernel_rfl) ?_)
   unfold chgC
   go_wp2_with fail
   refine (wrong_any a wr).mono ?_
   rintro e w' ⟨rfl, hb2⟩
   have HB2 := Lib.hid (HB.out.trans (hb2.mono HB.out.size))
   clear hb2
   cases hok : okC a
   ·have HS := Lib.hid (all_stop HLA.out hok)
    clear hok
    go_wp2_with fail
    go_ret
    exact ⟨(k : Int), rfl, by rw [HS.out, decide_eq_true hk0]; rfl, HB2.out⟩
   ·have HS := Lib.hid (all_snoc HA.out HTK.out hok)
    clear hok
    go_wp2_with fail
    go_roundw
    case rel => exact ⟨k + 1, by omega, by go_num, HS.out, HB2.out⟩
    case measure => simp [intOf]; omega
  ·have hkn : ¬ (k : Int) < (n : Int) := by omega
   have HS : Hid (l.all okC = true) := Lib.hid (by have := HA.out; rwa [List.take_of_length_le (by rw [HL.out.1]; omega)] at this)
   go_wp2_with fail
   go_ret
   exact ⟨-1, rfl, by rw [HS.out]; rfl, HB.out⟩
set_option maxHeartbeats 1000000 in
theorem contains_any (A : Option Addr) (n c : Nat) (l : List Chg) (w : World) (hl : ColK 3 chgC w w.heap.size A n l) (hn : n ≤ 1000000) :
 Calls Tryz.prog 69 #[.slice A n c, .func (.func 68) #[] #[]] w fun e w' => e = .returned (.bool (!l.all okC)) ∧ Below w.heap.size w w' := by
 have ci := index_any A n c l w hl hn
 clear hl
 go_enter Tryz.func69, Tryz.ntmps69
 go_wp2_with fail
 refine ci.mono ?_
 rintro e w' ⟨z, rfl, hz, hb⟩
 have HZ := Lib.hid hz
 have HB := Lib.hid hb
 clear hz hb ci
 by_cases h0 : 0 ≤ z
 ·have HR : Hid (l.all okC = false) := Lib.hid (by have := HZ.out; rw [decide_eq_true h0] at this; cases h : l.all okC <;> rw [h] at this <;> first | rfl | cases this)
  go_wp2_with fail
  go_ret
  exact ⟨by rw [HR.out] <;> rfl, HB.out⟩
 ·have HR : Hid (l.all okC = true) := Lib.hid (by have := HZ.out; rw [decide_eq_false h0] at this; cases h : l.all okC <;> rw [h] at this <;> first | rfl | cases this)
  go_wp2_with fail
  go_ret
  exact ⟨by rw [HR.out]; exact congrArg (fun b => Ending.returned (.bool b)) (decide_eq_false (by omega)), HB.out⟩
set_option maxHeartbeats 1000000 in
theorem changesMayBe_any (A : Option Addr) (n c : Nat) (l : List Chg) (w : World) (hl : ColK 3 chgC w w.heap.size A n l) (hn : n ≤ 140737488355328) :
 Calls Tryz.prog 40 #[.slice A n c] w fun e w' => e = .returned (.bool (changesB l)) ∧ Below w.heap.size w w' := by
 have HL := Lib.hid hl.1
 by_cases h4 : n ≤ 400
 ·have cc := contains_any A n c l w hl (by omega)
  have h4' : (n : Int) ≤ 400 := by omega
  have HR : Hid (changesB l = l.all okC) := Lib.hid (by unfold changesB; rw [HL.out, decide_eq_true h4]; rfl)
  clear hl
  go_enter Tryz.func40, Tryz.ntmps40
  go_wp2_with fail
  refine cc.mono ?_
  rintro e w' ⟨rfl, hb⟩
  have HB := Lib.hid hb
  clear hb cc
  go_wp2_with fail
  go_ret
  exact ⟨by rw [HR.out] <;> simp, HB.out⟩
 ·have h4' : ¬ (n : Int) ≤ 400 := by omega
  have HR : Hid (changesB l = false) := Lib.hid (by unfold changesB; rw [HL.out, decide_eq_false h4]; rfl)
  clear hl
  go_enter Tryz.func40, Tryz.ntmps40
  go_wp2_with fail
  go_ret
  exact ⟨by rw [HR.out] <;> rfl, Below.refl _ _⟩
end Go.Proofs.YtcdehejgnnnimaaGreatDoor
namespace Go.Proofs.YtcdehejgnnnimaaGreatDoor
set_option linter.unusedVariables false
set_option linter.unusedSimpArgs false
open Go.RowKit
set_option linter.unusedVariables false
set_option linter.unusedSimpArgs false
theorem less_iff : ∀ (a b : List UInt8), Op.bytesLess a b = true ↔ a < b
 | a, [] => by
   unfold Op.bytesLess
   simp
 | [], b :: l => by
   unfold Op.bytesLess
   simp
 | a :: l, b :: m => by
   unfold Op.bytesLess
   rw [List.cons_lt_cons_iff, ← less_iff l m]
   simp
theorem lessK_iff (a b : ByteArray) : Op.bytesLess a.toList b.toList = true ↔ ltK a b := by
 rw [less_iff, ByteArray.toList_eq, ByteArray.toList_eq]; rfl
def Says (p : Prop) (e : Ending) : Prop := ∃ b : Bool, e = .returned (.bool b) ∧ (b = true ↔ p)
theorem Says.yes {p : Prop} (h : p) : Says p (.returned (.bool true)) := ⟨true, rfl, fun _ => h, fun _ => rfl⟩
theorem Says.no {p : Prop} (h : ¬ p) : Says p (.returned (.bool false)) := ⟨false, rfl, fun e => (by cases e), fun e => absurd e h⟩
def PairsOk (l : List Pr) : Prop := l.length ≤ 400 ∧ (∀ p ∈ l, mayB p.1 p.2 = true) ∧ Rising l
theorem belowK_drewN {B : Nat} {a w : World} (h : Below B a w) (q : Nat) : Below B a (w.drewN q) := ⟨h.os, h.tape, h.output, h.size, h.block⟩
theorem rising_snoc {m : List Pr} {b a : Pr} (h : Rising (m ++ [b])) (hl : ltK b.1 a.1) : Rising (m ++ [b] ++ [a]) := by
 unfold Rising at h ⊢
 rw [List.pairwise_append]
 refine ⟨h, List.pairwise_singleton .., fun p hp q hq => ?_⟩
 rw [List.mem_singleton.1 hq]
 rcases List.mem_append.1 hp with h1 | h1
 ·exact ltK_trans ((List.pairwise_append.1 h).2.2 p h1 b (List.mem_singleton_self b)) hl
 ·rw [List.mem_singleton.1 h1]; exact hl
theorem rising_next {l : List Pr} {j : Nat} {b a : Pr} (h : Rising (l.take (j + 1))) (hb : l[j]? = some b) (ha : l[j + 1]? = some a) (hl : ltK b.1 a.1) : Rising (l.take (j + 2)) := by
 rw [List.take_add_one, ha]
 rw [List.take_add_one, hb] at h ⊢
 exact rising_snoc h hl
theorem rising_not {l : List Pr} {j : Nat} {b a : Pr} (hb : l[j]? = some b) (ha : l[j + 1]? = some a) (hl : ¬ ltK b.1 a.1) : ¬ Rising l := fun h => by
 refine hl ?_
 have h1 : j + 1 < l.length := (List.getElem?_eq_some_iff.1 ha).1
 have := List.pairwise_iff_getElem.1 h j (j + 1) (by omega) h1 (by omega)
 rw [List.getElem?_eq_getElem (by omega)] at hb
 rw [List.getElem?_eq_getElem h1] at ha
 rwa [Option.some.inj hb, Option.some.inj ha] at this
def UpTo (l : List Pr) (k : Nat) : Prop := (∀ p ∈ l.take k, mayB p.1 p.2 = true) ∧ Rising (l.take k)
theorem upTo_0 (l : List Pr) : UpTo l 0 := ⟨fun p h => (by cases h), List.Pairwise.nil⟩
theorem upTo_may {l : List Pr} {k : Nat} {a : Pr} (h : UpTo l k) (ht : l.take (k + 1) = l.take k ++ [a]) (ha : mayB a.1 a.2 = true) : ∀ p ∈ l.take (k + 1), mayB p.1 p.2 = true := by
 intro p hp
 rw [ht] at hp
 rcases List.mem_append.1 hp with h1 | h1
 ·exact h.1 p h1
 ·rw [List.mem_singleton.1 h1]; exact ha
theorem upTo_all {l : List Pr} {k : Nat} (h : UpTo l k) (hk : l.length ≤ k) (h4 : l.length ≤ 400) : PairsOk l := by
 unfold UpTo at h
 rw [List.take_of_length_le hk] at h
 exact ⟨h4, h.1, h.2⟩
set_option maxRecDepth 20000 in
set_option maxHeartbeats 4000000 in
theorem pairsMayBe_any (A : Option Addr) (n c : Nat) (l : List Pr) (w : World) (hl : ColK 2 pairC w w.heap.size A n l) (hn : n ≤ 140737488355328) :
 Calls Tryz.prog 22 #[.slice A n c] w fun e w' => Says (PairsOk l) e ∧ Below w.heap.size w w' := by
 have HL := Lib.hid hl
 have HLN := Lib.hid hl.1
 clear hl
 by_cases h4 : 400 < n
 ·have h4' : (400 : Int) < (n : Int) := by omega
  have HR : Hid (¬ PairsOk l) := Lib.hid (fun h => by have := h.1; rw [HLN.out] at this; omega)
  go_enter Tryz.func22, Tryz.ntmps22
  go_wp2_with fail
  go_ret
  exact ⟨Says.no HR.out, Below.refl _ _⟩
 have h4' : ¬ (400 : Int) < (n : Int) := by omega
 go_enter Tryz.func22, Tryz.ntmps22
 go_wp2_with fail
 go_loopw [10] (fun i wx => ∃ k : Nat, k ≤ n ∧ i = .int .i64 (k : Int) ∧ UpTo l k ∧ Below w.heap.size w wx) (fun i _ => n - (intOf i).toNat)
 case atStart => exact ⟨0, Nat.zero_le _, rfl, upTo_0 l, Below.refl _ _⟩
 case round =>
  obtain ⟨k, hk, rfl, hu, hb⟩ := hrel
  have HB := Lib.hid hb
  have HU := Lib.hid hu
  clear hb hu
  by_cases hlt : k < n
  ·obtain ⟨b, o, a, rfl, hbb, hla, htk, hrow⟩ := (HL.out.below HB.out (Nat.le_refl _)).at_ hlt
   have HLA := Lib.hid hla
   have HTK := Lib.hid htk
   have HROW := Lib.hid hrow
   have hk0 : (0 : Int) ≤ (k : Int) := by omega
   have hkn : (k : Int) < (n : Int) := by omega
   have hbr : b < wr.heap.size := Nat.lt_of_lt_of_le hbb HB.out.size
   clear hla htk hrow
   go_wp2_with ((with_reducible show wpList _ _ _ (⟨some 14, _, _, _, _, _⟩ :: _) _ _); refine holdK ?_)
   refine heldK (wpList_load_mid rfl 60 (.tmp 13) rfl b (o + k * 2) rfl (pairC a) _ HROW.out Tryz.underlying60 rfl (by kernel_rfl) ?_)
   unfold pairC
   go_wp2_with fail
   have HB1 := Lib.hid (HB.out.alloc HB.out.size (.cells #[.string a.1, .string a.2] 60))
   have hbn : Below wr.heap.size wr (wr.alloc (.cells #[.string a.1, .string a.2] 60)) := (Below.refl _ _).alloc (Nat.le_refl _) _
   have hc := fun (i : Nat) => cell_of_row (wr.alloc (.cells #[.string a.1, .string a.2] 60)) wr.heap.size i _ _ (0, 0) (heap_alloc_new wr _)
   have c0 := hc 0
   have c1 := hc 1
   have hprev : 0 < k → ∃ p : Pr, l[k - 1]? = some p ∧ (wr.alloc (.cells #[.string a.1, .string a.2] 60)).cell? ⟨b, o + (k - 1) * 2, none⟩ = some (.string p.1) := by
    intro hk1
    obtain ⟨b', o', p, e, _, hp, _, hr⟩ := (HL.out.below HB.out (Nat.le_refl _)).at_ (j := k - 1) (by omega)
    injection e with e
    injection e with e1 e2
    subst e1 e2
    refine ⟨p, hp, ?_⟩
    exact (hbn.cell (p := ⟨b, o + (k - 1) * 2, none⟩) hbr).trans (hr 0 _ rfl)
   have HPV := Lib.hid hprev
   clear hprev hc hbn
   generalize wr.alloc (.cells #[.string a.1, .string a.2] 60) = W1 at *
   refine (keyMayBe_any a.1 W1).mono ?_
   rintro e w' ⟨rfl, rfl⟩
   cases hkb : keyB a.1
   ·have HR : Hid (¬ PairsOk l) := Lib.hid (fun h => by have := h.2.1 a (List.mem_of_getElem? HLA.out); unfold mayB at this; rw [hkb] at this; cases this)
    clear hkb
    go_wp2_with fail
    go_ret
    exact ⟨Says.no HR.out, HB1.out⟩
   by_cases hv : a.2.size ≤ 4096
   ·have hv' : ¬ (4096 : Int) < (a.2.size : Int) := by omega
    have hmay : mayB a.1 a.2 = true := by unfold mayB; rw [hkb, decide_eq_true hv]; rfl
    have HMAY := Lib.hid (upTo_may HU.out HTK.out hmay)
    clear hkb hmay hv
    by_cases h0 : k = 0
    ·subst h0
     have HN : Hid (UpTo l 1) := Lib.hid ⟨HMAY.out, by rw [HTK.out]; exact List.pairwise_singleton ..⟩
     go_wp2_with fail
     go_quiet (fail)
     go_wp2_with fail
     go_roundw
     case rel => exact ⟨1, by omega, by go_num, HN.out, belowK_drewN HB1.out _⟩
     case measure => simp [intOf]; omega
    ·obtain ⟨j, hj⟩ : ∃ j, k = j + 1 := ⟨k - 1, by omega⟩
     obtain ⟨p, hp, hcp⟩ := HPV.out (by omega)
     rw [show k - 1 = j by omega] at hp hcp
     have hsub : IntKind.i64.wrap (j : Int) = (j : Int) := IntWalk.i64_in _ (by omega)
     have hsub2 : (k : Int) - 1 = (j : Int) := by omega
     have hg : decide (0 < k) = true := decide_eq_true (by omega)
     have hj0 : (0 : Int) ≤ (j : Int) := by omega
     have hjn : (j : Int) < (n : Int) := by omega
     have HJ := Lib.hid hj
     clear hj
     cases hle : Op.bytesLess p.1.toList a.1.toList
     ·have HR : Hid (¬ PairsOk l) := Lib.hid (fun h => rising_not (j := j) hp (by rw [← HJ.out]; exact HLA.out) (fun q => by rw [(lessK_iff _ _).2 q] at hle; cases hle) h.2.2)
      clear hp
      go_wp2_with fail
      go_quiet (fail)
      go_wp2_with fail
      go_ret
      exact ⟨Says.no HR.out, belowK_drewN HB1.out _⟩
     ·have HN : Hid (UpTo l (k + 1)) := Lib.hid ⟨HMAY.out, by
       have h1 := HU.out.2
       have h2 := HLA.out
       rw [HJ.out] at h1 h2 ⊢
       exact rising_next h1 hp h2 ((lessK_iff _ _).1 hle)⟩
      clear hp
      go_wp2_with fail
      go_quiet (fail)
      go_wp2_with fail
      go_roundw
      case rel => exact ⟨k + 1, by omega, by go_num, HN.out, belowK_drewN HB1.out _⟩
      case measure => simp [intOf]; omega
   ·have hv' : (4096 : Int) < (a.2.size : Int) := by omega
    have HR : Hid (¬ PairsOk l) := Lib.hid (fun h => by have := h.2.1 a (List.mem_of_getElem? HLA.out); unfold mayB at this; rw [hkb, decide_eq_false hv] at this; cases this)
    clear hkb hv
    go_wp2_with fail
    go_ret
    exact ⟨Says.no HR.out, HB1.out⟩
  ·have hkn : ¬ (k : Int) < (n : Int) := by omega
   have HR := Lib.hid (upTo_all HU.out (by rw [HLN.out]; omega) (by rw [HLN.out]; omega))
   go_wp2_with fail
   go_ret
   exact ⟨Says.yes HR.out, HB.out⟩
end Go.Proofs.YtcdehejgnnnimaaGreatDoor
namespace Go.Proofs.YtcdehejgnnnimaaGreatDoor
set_option linter.unusedVariables false
set_option linter.unusedSimpArgs false
open Go.RowKit Go.Maps
set_option linter.unusedVariables false
set_option linter.unusedSimpArgs false
theorem lawS : Keyed Tryz.prog 9 := string_keyed Tryz.underlying9
theorem keyOf_text {s : ByteArray} (h : s.size ≤ maxLen) : keyOf Tryz.prog 9 (.string s) = some (keyL s) := WideMaps.keyOf_string_mk Tryz.underlying9 h
def MapIs (w : World) (b n : Nat) (f : Fn) : Prop := ∃ D : DataW Unit, w.ownsMap Tryz.prog 9 pairElem b n D ∧ Reads D f
theorem MapIs.lt {w : World} {b n : Nat} {f : Fn} (h : MapIs w b n f) : b < w.heap.size := by obtain ⟨D, h, _⟩ := h; exact h.lt
theorem MapIs.mono {w : World} {b n m : Nat} {f : Fn} (h : MapIs w b n f) (hm : n ≤ m) : MapIs w b m f := by obtain ⟨D, h, r⟩ := h; exact ⟨D, h.mono hm, r⟩
theorem MapIs.kept {w w' : World} {b n : Nat} {f : Fn} {row : Option Nat} (h : MapIs w b n f) (hg : w.grownBy w' row) (hne : some b ≠ row) : MapIs w' b n f := by obtain ⟨D, h, r⟩ := h; exact ⟨D, h.kept hg hne, r⟩
theorem MapIs.made (w : World) : MapIs (w.alloc (.map #[] 0)) w.heap.size 0 (fun _ => none) := ⟨_, World.ownsMap_made _ _ _ _, Reads.empty⟩
theorem ColK.grown {α : Type} {k : Nat} {f : α → List Value} {w w' : World} {B n b : Nat} {A : Option Addr} {l : List α} (h : ColK k f w B A n l) (hg : w.grownBy w' (some b)) (hB : B ≤ w.heap.size) (hne : 0 < n → ∀ p, A = some p → p.block ≠ b) : ColK k f w' B A n l := by
 refine ⟨h.1, fun hn => ?_⟩
 obtain ⟨b', o, rfl, hb, hc⟩ := h.2 hn
 refine ⟨b', o, rfl, hb, fun i a ha => rangeAtK_keep (hc i a ha) (fun j => ?_)⟩
 have := hg.block b' (by omega) (fun e => hne hn _ rfl (Option.some.inj e))
 unfold World.cell?
 simp only [this]
theorem grownK_trans {a w w' : World} {row : Option Nat} (h : a.grownBy w row) (k : w.grownBy w' row) : a.grownBy w' row :=
 ⟨k.os.trans h.os, k.tape.trans h.tape, k.output.trans h.output, Nat.le_trans h.size k.size, fun j hj hr => (k.block j (Nat.lt_of_lt_of_le hj h.size) hr).trans (h.block j hj hr)⟩
def stepF (f : Fn) (c : Chg) : Fn := updF f c.1 (if c.2.2 then none else some c.2.1)
def runF (f : Fn) (l : List Chg) : Fn := l.foldl stepF f
theorem runF_snoc (f : Fn) {l : List Chg} {k : Nat} {c : Chg} (h : l.take (k + 1) = l.take k ++ [c]) : runF f (l.take (k + 1)) = stepF (runF f (l.take k)) c := by
 unfold runF; rw [h, List.foldl_append]; rfl
set_option maxRecDepth 20000 in
set_option maxHeartbeats 4000000 in
theorem change_any (b n0 : Nat) (f : Fn) (A : Option Addr) (n c : Nat) (l : List Chg) (w : World) (hm : MapIs w b n0 f) (hl : ColK 3 chgC w w.heap.size A n l) (hne : 0 < n → ∀ p, A = some p → p.block ≠ b) (hs : ∀ x ∈ l, x.1.size ≤ 140737488355328) (hn : n ≤ 1000000) (hn0 : n0 ≤ 1000000) :
 Calls Tryz.prog 28 #[.map (some b), .slice A n c] w fun e w' => e = .returned (.tuple #[]) ∧ MapIs w' b (n0 + n) (runF f l) ∧ w.grownBy w' (some b) := by
 have HL := Lib.hid hl
 have HS := Lib.hid hs
 have HM := Lib.hid hm
 have HNE := Lib.hid hne
 clear hl hs hm hne
 go_enter Tryz.func28, Tryz.ntmps28
 go_wp2_with fail
 go_loopw [8] (fun i wx => ∃ k : Nat, k ≤ n ∧ i = .int .i64 (k : Int) ∧ MapIs wx b (n0 + k) (runF f (l.take k)) ∧ w.grownBy wx (some b)) (fun i _ => n - (intOf i).toNat)
 case atStart => exact ⟨0, Nat.zero_le _, rfl, HM.out, World.grownBy.refl _ _⟩
 case round =>
  obtain ⟨k, hk, rfl, hmr, hg⟩ := hrel
  have HG := Lib.hid hg
  have HMR := Lib.hid hmr
  clear hg hmr
  by_cases hlt : k < n
  ·obtain ⟨b', o, a, rfl, hbb, hla, htk, hrow⟩ := (HL.out.grown HG.out (Nat.le_refl _) HNE.out).at_ hlt
   have hsz := HS.out a (List.mem_of_getElem? hla)
   have HRF := Lib.hid (runF_snoc f htk)
   have HROW := Lib.hid hrow
   have hk0 : (0 : Int) ≤ (k : Int) := by omega
   have hkn : (k : Int) < (n : Int) := by omega
   clear hla htk hrow
   go_wp2_with ((with_reducible show wpList _ _ _ (⟨some 11, _, _, _, _, _⟩ :: _) _ _); refine holdK ?_)
   refine heldK (wpList_load_mid rfl 52 (.tmp 10) rfl b' (o + k * 3) rfl (chgC a) _ HROW.out Tryz.underlying52 rfl (by kernel_rfl) ?_)
   obtain ⟨ck, cv, cg⟩ := a
   unfold chgC
   simp only at hsz
   have hbn : wr.grownBy (wr.alloc (.cells #[.string ck, .string cv, .bool cg] 52)) none := World.grownBy_alloc _ _ _
   have hcc := fun (i : Nat) => cell_of_row (wr.alloc (.cells #[.string ck, .string cv, .bool cg] 52)) wr.heap.size i _ _ (0, 0) (heap_alloc_new wr _)
   have c0 := hcc 0
   have c1 := hcc 1
   have c2 := hcc 2
   have HM1 := Lib.hid (HMR.out.kept hbn (by simp))
   have HG1 := Lib.hid (grownK_trans HG.out (hbn.but (some b)))
   clear hcc hbn HMR
   cases cg
   ·go_wp2_with ((with_reducible show wpList _ _ _ (⟨none, Op.mapUpdate _ _ _ _, _, _, _, _⟩ :: _) _ _); refine holdK ?_)
    generalize wr.alloc (.cells #[.string ck, .string cv, .bool false] 52) = W1 at *
    obtain ⟨D, hD, hR⟩ := HM1.out
    refine heldK (wpList_mapUpdate_own _ rfl _ _ _ 72 rfl 9 60 lawS Tryz.underlying72 _ b (n0 + k) D rfl hD (by unfold maxLen; omega) (.string ck) (pairV ck cv) (keyL ck) rfl rfl (keyOf_text (by unfold maxLen; omega)) (pairD ck cv) [] (pairElem_mk ck cv) ?_)
    intro W2 hown hg2
    have HM2 : Hid (MapIs W2 b (n0 + (k + 1)) (runF f (l.take (k + 1)))) := Lib.hid ⟨_, hown, by rw [HRF.out]; exact hR.put ck cv⟩
    have HG2 := Lib.hid (grownK_trans HG1.out hg2)
    clear hown hg2 hD hR c0 c1 c2 HM1 HG1
    go_wp2_with fail
    go_roundw
    case rel => exact ⟨k + 1, by omega, by go_num, HM2.out, HG2.out⟩
    case measure => simp [intOf]; omega
   ·go_wp2_with ((with_reducible show wpList _ _ _ (⟨none, Op.call { callee := Callee.builtin Builtin.delete, args := _, argTypes := _ }, _, _, _, _⟩ :: _) _ _); refine holdK ?_)
    generalize wr.alloc (.cells #[.string ck, .string cv, .bool true] 52) = W1 at *
    obtain ⟨D, hD, hR⟩ := HM1.out
    refine heldK (wpList_delete_own _ rfl _ _ 72 9 rfl 60 lawS Tryz.underlying72 _ b (n0 + k) D rfl hD (.string ck) (keyL ck) rfl (keyOf_text (by unfold maxLen; omega)) ?_)
    intro W2 hown hg2
    have HM2 : Hid (MapIs W2 b (n0 + (k + 1)) (runF f (l.take (k + 1)))) := Lib.hid ⟨_, hown.mono (by omega), by rw [HRF.out]; exact hR.del ck⟩
    have HG2 := Lib.hid (grownK_trans HG1.out hg2.grown)
    clear hown hg2 hD hR c0 c1 c2 HM1 HG1
    go_wp2_with fail
    go_roundw
    case rel => exact ⟨k + 1, by omega, by go_num, HM2.out, HG2.out⟩
    case measure => simp [intOf]; omega
  ·have hkn : ¬ (k : Int) < (n : Int) := by omega
   obtain rfl : k = n := by omega
   have HR : Hid (l.take k = l) := Lib.hid (List.take_of_length_le (by rw [HL.out.1]; exact Nat.le_refl _))
   go_wp2_with fail
   go_end0
   refine ⟨rfl, ?_, HG.out⟩
   have := HMR.out
   rwa [HR.out] at this
end Go.Proofs.YtcdehejgnnnimaaGreatDoor
