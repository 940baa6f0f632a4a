/-
  Contracts over package rule: is a message held?
-/
import Derived.Test.YtkalnaidccgbiaaRuleB
import Derived.Test.YtkalnaidccgbiaaUidsB3
namespace Go.Proofs.Ytkalnaidccgbiaa
open Go.RowKit
set_option linter.unusedVariables false
set_option linter.unusedSimpArgs false

def nmbB (s : List Rg) (uid : Int) : Bool := decide (s = []) || hasZ s uid 4294967295
theorem nmbB_nil {s : List Rg} {uid : Int} (h : s = []) : nmbB s uid = true := by unfold nmbB; simp [h]
theorem nmbB_has {s : List Rg} {uid : Int} (h : s ≠ []) : nmbB s uid = hasZ s uid 4294967295 := by unfold nmbB; simp [h]
set_option maxHeartbeats 1000000 in
theorem rlhasNumber_any (A : Option Addr) (m c : Nat) (s : List Rg) (uid : Int) (w : World) (hl : ColK 2 rgC w w.heap.size A m s) (hm : m ≤ 1000000) :
    Calls Try.prog 26 #[.slice A m c, .int .i64 uid] w fun e w' => e = .returned (.bool (nmbB s uid)) ∧ Below w.heap.size w w' := by
  by_cases h0 : m = 0
  · subst h0
    have HR := Lib.hid (nmbB_nil (uid := uid) (List.eq_nil_of_length_eq_zero hl.1))
    clear hl
    go_enter Try.func26, Try.ntmps26
    go_wp2_with fail
    go_ret
    exact ⟨by rw [HR.out] <;> rfl, Below.refl _ _⟩
  · have h0b : ((m : Int) == 0) = false := by simp; omega
    have HR := Lib.hid (nmbB_has (s := s) (uid := uid) (fun e => h0 (by rw [← hl.1, e]; rfl)))
    have CU := Lib.hid (uHas_any A m c 4294967295 uid s w hl hm)
    clear hl h0
    go_enter Try.func26, Try.ntmps26
    go_wp2_with fail
    refine CU.out.mono ?_
    rintro e w' ⟨rfl, hb⟩
    have HB := Lib.hid hb
    clear hb
    go_wp2_with fail
    go_ret
    exact ⟨by rw [HR.out] <;> rfl, HB.out⟩

/-- the boxes of a question: the mailbox, the number -/
def AskIn (w : World) (bb bu : Nat) (box : ByteArray) (uid : Int) : Prop := w.cell? ⟨bb, 0, none⟩ = some (.string box) ∧ w.cell? ⟨bu, 0, none⟩ = some (.int .i64 uid)
theorem AskIn.below {w w' : World} {bb bu : Nat} {box : ByteArray} {uid : Int} (h : AskIn w bb bu box uid) (hb : Below w.heap.size w w') : AskIn w' bb bu box uid :=
  ⟨(hb.cell (p := ⟨bb, 0, none⟩) (World.block_lt_of_cell? _ _ h.1)).trans h.1, (hb.cell (p := ⟨bu, 0, none⟩) (World.block_lt_of_cell? _ _ h.2)).trans h.2⟩
def hhA (h : Hh) : Array Value := #[.int .i64 h.id, .string h.box, .slice h.A h.n h.c]
theorem hhC_A (h : Hh) : (hhC h).toArray = hhA h := rfl
set_option maxRecDepth 20000 in
set_option maxHeartbeats 2000000 in
theorem rlheld1_any (x : Hh) (bb bu : Nat) (box : ByteArray) (uid : Int) (w : World) (hx : HhIn w w.heap.size x) (hm : x.n ≤ 1000000) (hA : AskIn w bb bu box uid) :
    Calls Try.prog 25 #[.agg (hhA x), .pointer (some ⟨bb, 0, none⟩), .pointer (some ⟨bu, 0, none⟩)] w fun e w' => e = .returned (.bool (oneB x box uid)) ∧ Below w.heap.size w w' := by
  have hb : Below w.heap.size w (w.alloc (.cells (hhA x) 51)) := (Below.refl _ _).alloc (Nat.le_refl _) _
  obtain ⟨a1, a2⟩ := hA.below hb
  have HS := Lib.hid (hx.1.later hb)
  have HB := Lib.hid hb
  have x1 : (hhA x)[1]? = some (.string x.box) := rfl
  have x2 : (hhA x)[2]? = some (.slice x.A x.n x.c) := rfl
  have heq := str_eq13 x.box box
  have HL := Lib.hid hx.1.1
  clear hb hA
  by_cases he : x.box = box
  · rw [decide_eq_true he] at heq
    have HR : Hid (oneB x box uid = nmbB x.set uid) := Lib.hid (by unfold oneB nmbB; rw [decide_eq_true he]; rfl)
    have CN := Lib.hid (rlhasNumber_any x.A x.n x.c x.set uid _ HS.out hm)
    clear he hx hm
    go_enter Try.func25, Try.ntmps25
    go_wp2_with fail
    refine CN.out.mono ?_
    rintro e w' ⟨rfl, hb2⟩
    have HB2 := Lib.hid (HB.out.trans (hb2.mono HB.out.size))
    clear hb2
    go_wp2_with fail
    go_ret
    exact ⟨by rw [HR.out] <;> rfl, HB2.out⟩
  · rw [decide_eq_false he] at heq
    have HR := Lib.hid (oneB_other (uid := uid) he)
    clear he hx hm
    go_enter Try.func25, Try.ntmps25
    go_wp2_with fail
    go_ret
    exact ⟨by rw [HR.out] <;> rfl, HB.out⟩

set_option maxRecDepth 20000 in
set_option maxHeartbeats 2000000 in
theorem rlindexH_any (A : Option Addr) (m c bb bu : Nat) (box : ByteArray) (uid : Int) (l : List Hh) (w : World) (hl : HoldsIn w w.heap.size A m l) (hm : m ≤ 140737488355328) (hsm : ∀ h ∈ l, h.n ≤ 1000000) (hA : AskIn w bb bu box uid) :
    Calls Try.prog 36 #[.slice A m c, .func (.func 25) #[] #[.pointer (some ⟨bb, 0, none⟩), .pointer (some ⟨bu, 0, none⟩)]] w fun e w' => ∃ z : Int, e = .returned (.int .i64 z) ∧ (decide (0 ≤ z) = heldR l box uid) ∧ Below w.heap.size w w' := by
  have HL := Lib.hid hl
  have HA := Lib.hid hA
  have HSM := Lib.hid hsm
  clear hl hA hsm
  go_enter Try.func36, Try.ntmps36
  go_wp2_with fail
  go_loopw [8] (fun i wx => ∃ k : Nat, k ≤ m ∧ i = .int .i64 (k : Int) ∧ heldR (l.take k) box uid = false ∧ Below w.heap.size w wx) (fun i _ => m - (intOf i).toNat)
  case atStart => exact ⟨0, Nat.zero_le _, rfl, rfl, Below.refl _ _⟩
  case round =>
    obtain ⟨k, hk, rfl, ha, hb⟩ := hrel
    have HB := Lib.hid hb
    have HU := Lib.hid ha
    clear ha hb
    by_cases hlt : k < m
    · obtain ⟨b, o, x, rfl, hbb, hla, htk, hrow, hin⟩ := (HL.out.below HB.out (Nat.le_refl _)).at_ hlt
      have HLA := Lib.hid hla
      have HTK := Lib.hid htk
      have HROW := Lib.hid hrow
      have hk0 : (0 : Int) ≤ (k : Int) := by omega
      have hkn : (k : Int) < (m : Int) := by omega
      have CI := Lib.hid (rlheld1_any x bb bu box uid wr (hin.more HB.out.size) (HSM.out x (List.mem_of_getElem? hla)) (HA.out.below HB.out))
      clear hla htk hrow hin
      go_wp2_with ((with_reducible show wpList _ _ _ (⟨some 15, _, _, _, _, _⟩ :: _) _ _); refine hold ?_)
      refine held (wpList_load_mid rfl 51 (.tmp 14) rfl b (o + k * 3) rfl (hhC x) _ HROW.out Try.underlying51 rfl (by kernel_rfl) ?_)
      rw [hhC_A]
      go_wp2_with fail
      refine CI.out.mono ?_
      rintro e w' ⟨rfl, hb2⟩
      have HB2 := Lib.hid (HB.out.trans (hb2.mono HB.out.size))
      clear hb2 CI
      cases hok : oneB x box uid
      · have HS := Lib.hid (held_next HU.out HTK.out hok)
        clear hok
        go_wp2_with fail
        go_roundw
        case rel => exact ⟨k + 1, by omega, by go_num, HS.out, HB2.out⟩
        case measure => simp [intOf]; omega
      · have HS := Lib.hid (held_hit HLA.out hok)
        clear hok
        go_wp2_with fail
        go_ret
        exact ⟨(k : Int), rfl, by rw [HS.out, decide_eq_true hk0], HB2.out⟩
    · have hkn : ¬ (k : Int) < (m : Int) := by omega
      have HS : Hid (heldR l box uid = false) := Lib.hid (by have := HU.out; rwa [List.take_of_length_le (by rw [HL.out.len]; omega)] at this)
      go_wp2_with fail
      go_ret
      exact ⟨-1, rfl, by rw [HS.out]; rfl, HB.out⟩

set_option maxHeartbeats 1000000 in
theorem rlcontainsH_any (A : Option Addr) (m c bb bu : Nat) (box : ByteArray) (uid : Int) (l : List Hh) (w : World) (hl : HoldsIn w w.heap.size A m l) (hm : m ≤ 140737488355328) (hsm : ∀ h ∈ l, h.n ≤ 1000000) (hA : AskIn w bb bu box uid) :
    Calls Try.prog 24 #[.slice A m c, .func (.func 25) #[] #[.pointer (some ⟨bb, 0, none⟩), .pointer (some ⟨bu, 0, none⟩)]] w fun e w' => e = .returned (.bool (heldR l box uid)) ∧ Below w.heap.size w w' := by
  have CI := Lib.hid (rlindexH_any A m c bb bu box uid l w hl hm hsm hA)
  clear hl hsm hA
  go_enter Try.func24, Try.ntmps24
  go_wp2_with fail
  refine CI.out.mono ?_
  rintro e w' ⟨z, rfl, hz, hb⟩
  have HZ := Lib.hid hz
  have HB := Lib.hid hb
  clear hz hb CI
  by_cases h0 : 0 ≤ z
  · have HR : Hid (heldR l box uid = true) := Lib.hid (by rw [← HZ.out]; exact decide_eq_true h0)
    go_wp2_with fail
    go_ret
    exact ⟨by rw [HR.out] <;> rfl, HB.out⟩
  · have HR : Hid (heldR l box uid = false) := Lib.hid (by rw [← HZ.out]; exact decide_eq_false h0)
    go_wp2_with fail
    go_ret
    exact ⟨ret_bool (by rw [HR.out] <;> first | rfl | exact decide_eq_false (by omega)), HB.out⟩

set_option maxHeartbeats 1000000 in
theorem rlHeld_any (A : Option Addr) (m c : Nat) (box : ByteArray) (uid : Int) (l : List Hh) (w : World) (hl : HoldsIn w w.heap.size A m l) (hm : m ≤ 140737488355328) (hsm : ∀ h ∈ l, h.n ≤ 1000000) :
    Calls Try.prog 11 #[.slice A m c, .string box, .int .i64 uid] w fun e w' => e = .returned (.bool (heldR l box uid)) ∧ Below w.heap.size w w' := by
  have HL := Lib.hid hl
  have HSM := Lib.hid hsm
  clear hl hsm
  go_enter Try.func11, Try.ntmps11
  go_wp2_with fail
  have hb : Below w.heap.size w ((w.alloc (.cells #[.string box] 9)).alloc (.cells #[.int .i64 uid] 3)) := ((Below.refl _ _).alloc (Nat.le_refl _) _).alloc (by simp) _
  refine (rlcontainsH_any A m c w.heap.size (w.heap.size + 1) box uid l _ (HL.out.later hb) hm HSM.out ⟨?_, ?_⟩).mono ?_
  · rw [cell_of_row _ w.heap.size 0 _ _ (0, 0) ((Below.heap_alloc _ _ _ (by simp)).trans (heap_alloc_new w _))]; rfl
  · have := heap_alloc_new (w.alloc (.cells #[.string box] 9)) (.cells #[.int .i64 uid] 3)
    rw [World.size_alloc] at this
    rw [cell_of_row _ (w.heap.size + 1) 0 _ _ (0, 0) this]; rfl
  · rintro e w' ⟨rfl, hb2⟩
    have HB2 := Lib.hid (hb.trans (hb2.mono hb.size))
    clear hb2 hb
    go_wp2_with fail
    go_ret
    exact ⟨rfl, HB2.out⟩
end Go.Proofs.Ytkalnaidccgbiaa
