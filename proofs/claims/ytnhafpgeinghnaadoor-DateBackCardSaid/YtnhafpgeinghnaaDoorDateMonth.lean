/-
  Contracts over package date: letters, months' names, the day that three texts tell.
-/
import Derived.Test.YtnhafpgeinghnaaDoorDateRead
import Derived.Test.YtnhafpgeinghnaaDoorBytesOwn
import Derived.Deep.MidRow
namespace Go.Proofs.YtnhafpgeinghnaaDoor
open Go.RowKit
set_option linter.unusedVariables false
set_option linter.unusedSimpArgs false

theorem hold {p : Prop} (h : Hid p) : p := h
theorem held {p : Prop} (h : p) : Hid p := h

theorem drewN_twice (w : World) (a b : Nat) : (w.drewN a).drewN b = w.drewN (a + b) := by unfold World.drewN; simp [Nat.add_assoc]
theorem smallN_lt {x : Nat} (h : x < 256) : smallN x < 256 := by unfold smallN; split <;> omega
set_option maxHeartbeats 400000 in
theorem dsmall_any (c : Nat) (hc : c < 256) (w : World) : Calls Tryd.prog 70 #[.int .u8 (c : Int)] w fun e w' => e = .returned (.int .u8 (smallN c : Nat)) ∧ w = w' := by
  by_cases h1 : 65 ≤ c
  · by_cases h2 : c ≤ 90
    · have HR : Hid (smallN c = c + 32) := Lib.hid (if_pos ⟨h1, h2⟩)
      go_enter Tryd.func70, Tryd.ntmps70
      go_wp2
      go_ret
      exact ⟨ret_int (by rw [HR.out]; omega), rfl⟩
    · have HR : Hid (smallN c = c) := Lib.hid (if_neg (by omega))
      go_enter Tryd.func70, Tryd.ntmps70
      go_wp2
      go_ret
      exact ⟨by rw [HR.out] <;> rfl, rfl⟩
  · have HR : Hid (smallN c = c) := Lib.hid (if_neg (by omega))
    go_enter Tryd.func70, Tryd.ntmps70
    go_wp2
    go_ret
    exact ⟨by rw [HR.out] <;> rfl, rfl⟩

theorem sameB_at {a b : List Nat} {k x y : Nat} (hx : a[k]? = some x) (hy : b[k]? = some y) (h : smallN x ≠ smallN y) : sameB a b = false := by
  unfold sameB
  refine decide_eq_false fun e => h ?_
  have := congrArg (·[k]?) e
  simpa [hx, hy] using this
set_option maxRecDepth 20000 in
set_option maxHeartbeats 800000 in
theorem same_letters (a b : ByteArray) (ha : a.size ≤ 4294967296) (hb : b.size ≤ 4294967296) (w : World) :
    Calls Tryd.prog 63 #[.string a, .string b] w fun e w' => e = .returned (.bool (sameB (nats a) (nats b))) ∧ ∃ n, w' = w.drewN n := by
  by_cases hl : a.size = b.size
  · have HL := Lib.hid hl
    have h64 : a.size ≤ 9223372036854775807 := by omega
    have h65 : b.size ≤ 9223372036854775807 := by omega
    have hle : ((a.size : Int) != b.size) = false := by simp; omega
    clear hl
    go_enter Tryd.func63, Tryd.ntmps63
    go_wp2_with fail
    go_loopw [13] (fun i wx => ∃ k n : Nat, k ≤ a.size ∧ i = .int .i64 (k : Int) ∧ ((nats a).take k).map smallN = ((nats b).take k).map smallN ∧ wx = w.drewN n) (fun i _ => a.size - (intOf i).toNat)
    case atStart => exact ⟨0, 0, Nat.zero_le _, rfl, by simp, rfl⟩
    case round =>
      obtain ⟨k, n, hk, rfl, hm, hw⟩ := hrel
      have HM := Lib.hid hm
      have HW := Lib.hid hw
      clear hm hw
      by_cases hlt : k < a.size
      · have hlb : k < b.size := by have := HL.out; omega
        have hx := nats_byte a k hlt
        have hy := nats_byte b k hlb
        have hxa : a[k].toNat < 256 := a[k].toNat_lt
        have hxb : b[k].toNat < 256 := b[k].toNat_lt
        have HX := Lib.hid hx
        have HY := Lib.hid hy
        have HTA := Lib.hid (take_snoc_n _ _ _ hx)
        have HTB := Lib.hid (take_snoc_n _ _ _ hy)
        have ca := fun W => (dsmall_any a[k].toNat hxa W).mono (fun _ _ h => (⟨h.1, h.2.symm⟩ : _ ∧ _))
        have cb := fun W => (dsmall_any b[k].toNat hxb W).mono (fun _ _ h => (⟨h.1, h.2.symm⟩ : _ ∧ _))
        clear hx hy
        by_cases he : smallN a[k].toNat = smallN b[k].toNat
        · have hne : ((smallN a[k].toNat : Int) != smallN b[k].toNat) = false := by simp; omega
          have HE := Lib.hid he
          clear he
          go_wp2_with fail
          go_quiet ((go_at_call 70; first | (with_reducible exact Calls.quiet_of_same (ca _)) | (with_reducible exact Calls.quiet_of_same (cb _))))
          go_wp2_with fail
          go_roundw
          case rel => exact ⟨k + 1, _, by omega, by go_num, by rw [HTA.out, HTB.out, List.map_append, List.map_append, HM.out, List.map_singleton, List.map_singleton, HE.out], by rw [HW.out]; exact drewN_twice _ _ _⟩
          case measure => simp [intOf]; omega
        · have hne : ((smallN a[k].toNat : Int) != smallN b[k].toNat) = true := by simp; omega
          have HE := Lib.hid he
          clear he
          go_wp2_with fail
          go_quiet ((go_at_call 70; first | (with_reducible exact Calls.quiet_of_same (ca _)) | (with_reducible exact Calls.quiet_of_same (cb _))))
          go_wp2_with fail
          go_ret
          exact ⟨by rw [sameB_at HX.out HY.out HE.out] <;> rfl, _, by rw [HW.out]; exact drewN_twice _ _ _⟩
      · have HR : Hid (sameB (nats a) (nats b) = true) := Lib.hid (by
          have := HM.out
          rw [List.take_of_length_le (by rw [nats_length]; omega), List.take_of_length_le (by rw [nats_length, ← HL.out]; omega)] at this
          exact decide_eq_true this)
        go_wp2_with fail
        go_ret
        exact ⟨by rw [HR.out] <;> rfl, _, HW.out⟩
  · have HR : Hid (sameB (nats a) (nats b) = false) := Lib.hid (by
      cases h : sameB (nats a) (nats b)
      · rfl
      · have := sameB_len h
        rw [nats_length, nats_length] at this
        exact absurd this hl)
    have hle : ((a.size : Int) != b.size) = true := by simp; omega
    clear hl
    go_enter Tryd.func63, Tryd.ntmps63
    go_wp2_with fail
    go_ret
    exact ⟨by rw [HR.out] <;> rfl, 0, rfl⟩

theorem monS_lt (m : Nat) : ∀ x ∈ monS m, x < 256 := by
  unfold monS
  split <;> decide
theorem below_drewN {B : Nat} {a w : World} (h : Below B a w) (q : Nat) : Below B a (w.drewN q) := ⟨h.os, h.tape, h.output, h.size, h.block⟩
theorem hbw_grown {w w' : World} {g : Nat} (h : Below w.heap.size w w') (hg : g < w.heap.size) : w.grownBy w' (some g) := ⟨h.os, h.tape, h.output, h.size, fun k hk _ => h.block k hk⟩
/-- the months' cells -/
def monC : List Value := [.string (strOf (monS 1)), .int .i64 31, .string (strOf (monS 2)), .int .i64 28, .string (strOf (monS 3)), .int .i64 31, .string (strOf (monS 4)), .int .i64 30, .string (strOf (monS 5)), .int .i64 31, .string (strOf (monS 6)), .int .i64 30,
  .string (strOf (monS 7)), .int .i64 31, .string (strOf (monS 8)), .int .i64 31, .string (strOf (monS 9)), .int .i64 30, .string (strOf (monS 10)), .int .i64 31, .string (strOf (monS 11)), .int .i64 30, .string (strOf (monS 12)), .int .i64 31]
theorem monC_at (i : Nat) (hi : i < 12) : monC[i * 2]? = some (.string (strOf (monS (i + 1)))) ∧ monC[i * 2 + 1]? = some (.int .i64 (mDays 1970 (i + 1) : Nat)) := by
  rcases (by omega : i = 0 ∨ i = 1 ∨ i = 2 ∨ i = 3 ∨ i = 4 ∨ i = 5 ∨ i = 6 ∨ i = 7 ∨ i = 8 ∨ i = 9 ∨ i = 10 ∨ i = 11) with rfl | rfl | rfl | rfl | rfl | rfl | rfl | rfl | rfl | rfl | rfl | rfl <;> exact ⟨rfl, rfl⟩
theorem Mon.range {w : World} (h : Mon w) : w.rangeAt 0 0 monC := by
  intro j v hv
  have hj : j < 24 := (List.getElem?_eq_some_iff.1 hv).1
  have hi := monC_at (j / 2) (by omega)
  have hm := h (j / 2) (by omega)
  rcases (by omega : j = j / 2 * 2 ∨ j = j / 2 * 2 + 1) with e | e
  · rw [e] at hv ⊢
    rw [hi.1] at hv
    rw [Nat.zero_add, hm.1, hv]
  · rw [e] at hv ⊢
    rw [hi.2] at hv
    rw [Nat.zero_add, hm.2, hv]

theorem index_mon (k : Nat) (hk : k < 12) (W : World) : (Instr.index 59 (.agg monC.toArray) (.int .i64 (k : Int))).run Tryd.prog W = .ok (.agg #[.string (strOf (monS (k + 1))), .int .i64 (mDays 1970 (k + 1) : Nat)]) W := by
  rcases (by omega : k = 0 ∨ k = 1 ∨ k = 2 ∨ k = 3 ∨ k = 4 ∨ k = 5 ∨ k = 6 ∨ k = 7 ∨ k = 8 ∨ k = 9 ∨ k = 10 ∨ k = 11) with rfl | rfl | rfl | rfl | rfl | rfl | rfl | rfl | rfl | rfl | rfl | rfl
  all_goals
    simp [Instr.index, asIntOf, Sem.run_bind, run_underlying Tryd.underlying59, part, Tryd.isAgg58, Tryd.sizeOf58, monC]
    rfl

set_option maxRecDepth 20000 in
set_option maxHeartbeats 4000000 in
theorem month_any (g : Nat) (s : ByteArray) (b : Bool) (w : World) (h : Rd w g b) (hs : s.size ≤ 4294967296) (hM : Mon w) :
    Calls Tryd.prog 48 #[.pointer (some ⟨g, 0, none⟩), .string s] w (Gave (.int .i64 (monN (nats s) : Nat)) g (b || decide (monN (nats s) = 0)) w) := by
  have hrng := hM.range
  have HH := Lib.hid h
  have HM := Lib.hid hM
  have HRG := Lib.hid hrng
  have hg := h.lt
  clear h hM hrng
  go_enter Tryd.func48, Tryd.ntmps48
  go_wp2_with ((with_reducible show wpList _ _ _ (⟨some 7, _, _, _, _, _⟩ :: _) _ _); refine hold ?_)
  refine held (wpList_load_mid rfl 59 (.global 0) rfl 0 0 rfl monC (.array 12 58) HRG.out Tryd.underlying59 rfl (by kernel_rfl) ?_)
  go_wp2_with fail
  go_loopw [8] (fun i wx => ∃ k : Nat, k ≤ 12 ∧ i = .int .i64 (k : Int) ∧ monUp (nats s) k = 0 ∧ Below w.heap.size w wx) (fun i _ => 12 - (intOf i).toNat)
  case atStart => exact ⟨0, by omega, rfl, rfl, Below.refl _ _⟩
  case round =>
    obtain ⟨k, hk, rfl, hm, hb⟩ := hrel
    have HB := Lib.hid hb
    have HU := Lib.hid hm
    clear hb hm
    by_cases hlt : k < 12
    · have hix := index_mon k hlt wr
      have hsz : (strOf (monS (k + 1))).size ≤ 4294967296 := by rw [strOf_size, monS_len (by omega) (by omega)]; omega
      have HNS : Hid (nats (strOf (monS (k + 1))) = monS (k + 1)) := Lib.hid (nats_strOf _ (monS_lt _))
      go_wp2_with fail
      refine (same_letters s (strOf (monS (k + 1))) hs hsz _).mono ?_
      rintro e w' ⟨rfl, nq, hw⟩
      rw [HNS.out]
      have HW := Lib.hid hw
      have hbw : Below w.heap.size w w' := by
        rw [hw]
        exact below_drewN (HB.out.alloc HB.out.size _) nq
      have HBW := Lib.hid hbw
      clear hw hbw hix
      cases hsm : sameB (nats s) (monS (k + 1))
      · have HSM := Lib.hid hsm
        clear hsm
        go_wp2_with fail
        go_roundw
        case rel => exact ⟨k + 1, by omega, by go_num, monUp_miss HU.out HSM.out, HBW.out⟩
        case measure => simp [intOf]; omega
      · have HSM := Lib.hid hsm
        clear hsm
        go_wp2_with fail
        go_ret
        have hmn := monN_hit hlt HU.out HSM.out
        refine ⟨by rw [hmn] <;> rfl, ?_, hbw_grown HBW.out hg⟩
        rw [hmn, show decide (k + 1 = 0) = false from rfl, Bool.or_false]
        exact HH.out.below HBW.out hg
    · have hmn : monN (nats s) = 0 := by obtain rfl : k = 12 := by omega
                                         exact HU.out
      have hr := HH.out.below HB.out hg
      have hcell := hr.cell
      have hfrz := hr.frz
      have HMN := Lib.hid hmn
      have HPUT := Lib.hid (hr.put true)
      clear hr hmn
      go_wp2_with fail
      go_ret
      refine ⟨by rw [HMN.out] <;> rfl, ?_, grown_trans (hbw_grown HB.out hg) (grownBy_setCell _ _ _ _)⟩
      rw [HMN.out, show decide (0 = 0) = true from rfl, Bool.or_true]
      exact HPUT.out
end Go.Proofs.YtnhafpgeinghnaaDoor
