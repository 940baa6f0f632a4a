/-
  Contracts over packages ascii and flag: letters, names; the table of flags as it lies; a name's flag; names together; flags changed.
-/
import Derived.Test.YtloghgfcgkfefaaDoorFlagMath
import Derived.Test.YtloghgfcgkfefaaDoorChecked
import Derived.Test.YtloghgfcgkfefaaDoorOwnV
import Derived.Test.YtloghgfcgkfefaaDoorBytesOwn
import Derived.Lib.IndexBytes
import Derived.IntWalk
import Derived.OwnWalk
import Derived.Test.YtloghgfcgkfefaaDoorBytes
import Derived.Test.YtloghgfcgkfefaaDoorCols
import Derived.BigQuiet
import Derived.Deep.MidRow
namespace Go.Proofs.YtloghgfcgkfefaaDoor
open Go.RowKit
set_option linter.unusedVariables false
set_option linter.unusedSimpArgs false

theorem hold {p : Prop} (h : Hid p) : p := h
theorem held {p : Prop} (h : p) : Hid p := h

theorem nats_byte (s : ByteArray) (i : Nat) (h : i < s.size) : (nats s)[i]? = some s[i].toNat := by
  unfold nats
  rw [List.getElem?_map, Lib.data_getElem? s i h]
  rfl
theorem take_snoc_l {α : Type} (l : List α) (k : Nat) (x : α) (hx : l[k]? = some x) : l.take (k + 1) = l.take k ++ [x] := by
  rw [List.take_add_one, hx]; rfl
theorem take_snoc_n (l : List Nat) (k x : Nat) (hx : l[k]? = some x) : l.take (k + 1) = l.take k ++ [x] := by
  rw [List.take_add_one, hx]; rfl
theorem drewN_twice (w : World) (a b : Nat) : (w.drewN a).drewN b = w.drewN (a + b) := by unfold World.drewN; simp [Nat.add_assoc]
theorem smallN_lt {x : Nat} (h : x < 256) : smallN x < 256 := by unfold smallN; split <;> omega
set_option maxHeartbeats 400000 in
theorem dsmall_any (c : Nat) (hc : c < 256) (w : World) : Calls Tryd.prog 21 #[.int .u8 (c : Int)] w fun e w' => e = .returned (.int .u8 (smallN c : Nat)) ∧ w = w' := by
  by_cases h1 : 65 ≤ c
  · by_cases h2 : c ≤ 90
    · have HR : Hid (smallN c = c + 32) := Lib.hid (if_pos ⟨h1, h2⟩)
      go_enter Tryd.func21, Tryd.ntmps21
      go_wp2
      go_ret
      exact ⟨ret_int (by rw [HR.out]; omega), rfl⟩
    · have HR : Hid (smallN c = c) := Lib.hid (if_neg (by omega))
      go_enter Tryd.func21, Tryd.ntmps21
      go_wp2
      go_ret
      exact ⟨by rw [HR.out] <;> rfl, rfl⟩
  · have HR : Hid (smallN c = c) := Lib.hid (if_neg (by omega))
    go_enter Tryd.func21, Tryd.ntmps21
    go_wp2
    go_ret
    exact ⟨by rw [HR.out] <;> rfl, rfl⟩

theorem sameB_at {a b : List Nat} {k x y : Nat} (hx : a[k]? = some x) (hy : b[k]? = some y) (h : smallN x ≠ smallN y) : sameB a b = false := by
  unfold sameB
  refine decide_eq_false fun e => h ?_
  have := congrArg (·[k]?) e
  simpa [hx, hy] using this
set_option maxRecDepth 20000 in
set_option maxHeartbeats 800000 in
theorem same_letters (a b : ByteArray) (ha : a.size ≤ 140737488355328) (hb : b.size ≤ 140737488355328) (w : World) :
    Calls Tryd.prog 17 #[.string a, .string b] w fun e w' => e = .returned (.bool (sameB (nats a) (nats b))) ∧ ∃ n, w' = w.drewN n := by
  by_cases hl : a.size = b.size
  · have HL := Lib.hid hl
    have h64 : a.size ≤ 9223372036854775807 := by omega
    have h65 : b.size ≤ 9223372036854775807 := by omega
    have hle : ((a.size : Int) != b.size) = false := by simp; omega
    clear hl
    go_enter Tryd.func17, Tryd.ntmps17
    go_wp2_with fail
    go_loopw [13] (fun i wx => ∃ k n : Nat, k ≤ a.size ∧ i = .int .i64 (k : Int) ∧ ((nats a).take k).map smallN = ((nats b).take k).map smallN ∧ wx = w.drewN n) (fun i _ => a.size - (intOf i).toNat)
    case atStart => exact ⟨0, 0, Nat.zero_le _, rfl, by simp, rfl⟩
    case round =>
      obtain ⟨k, n, hk, rfl, hm, hw⟩ := hrel
      have HM := Lib.hid hm
      have HW := Lib.hid hw
      clear hm hw
      by_cases hlt : k < a.size
      · have hlb : k < b.size := by have := HL.out; omega
        have hx := nats_byte a k hlt
        have hy := nats_byte b k hlb
        have hxa : a[k].toNat < 256 := a[k].toNat_lt
        have hxb : b[k].toNat < 256 := b[k].toNat_lt
        have HX := Lib.hid hx
        have HY := Lib.hid hy
        have HTA := Lib.hid (take_snoc_n _ _ _ hx)
        have HTB := Lib.hid (take_snoc_n _ _ _ hy)
        have ca := fun W => (dsmall_any a[k].toNat hxa W).mono (fun _ _ h => (⟨h.1, h.2.symm⟩ : _ ∧ _))
        have cb := fun W => (dsmall_any b[k].toNat hxb W).mono (fun _ _ h => (⟨h.1, h.2.symm⟩ : _ ∧ _))
        clear hx hy
        by_cases he : smallN a[k].toNat = smallN b[k].toNat
        · have hne : ((smallN a[k].toNat : Int) != smallN b[k].toNat) = false := by simp; omega
          have HE := Lib.hid he
          clear he
          go_wp2_with fail
          go_quiet ((go_at_call 21; first | (with_reducible exact Calls.quiet_of_same (ca _)) | (with_reducible exact Calls.quiet_of_same (cb _))))
          go_wp2_with fail
          go_roundw
          case rel => exact ⟨k + 1, _, by omega, by go_num, by rw [HTA.out, HTB.out, List.map_append, List.map_append, HM.out, List.map_singleton, List.map_singleton, HE.out], by rw [HW.out]; exact drewN_twice _ _ _⟩
          case measure => simp [intOf]; omega
        · have hne : ((smallN a[k].toNat : Int) != smallN b[k].toNat) = true := by simp; omega
          have HE := Lib.hid he
          clear he
          go_wp2_with fail
          go_quiet ((go_at_call 21; first | (with_reducible exact Calls.quiet_of_same (ca _)) | (with_reducible exact Calls.quiet_of_same (cb _))))
          go_wp2_with fail
          go_ret
          exact ⟨by rw [sameB_at HX.out HY.out HE.out] <;> rfl, _, by rw [HW.out]; exact drewN_twice _ _ _⟩
      · have HR : Hid (sameB (nats a) (nats b) = true) := Lib.hid (by
          have := HM.out
          rw [List.take_of_length_le (by rw [nats_length]; omega), List.take_of_length_le (by rw [nats_length, ← HL.out]; omega)] at this
          exact decide_eq_true this)
        go_wp2_with fail
        go_ret
        exact ⟨by rw [HR.out] <;> rfl, _, HW.out⟩
  · have HR : Hid (sameB (nats a) (nats b) = false) := Lib.hid (by
      cases h : sameB (nats a) (nats b)
      · rfl
      · have := sameB_len h
        rw [nats_length, nats_length] at this
        exact absurd this hl)
    have hle : ((a.size : Int) != b.size) = true := by simp; omega
    clear hl
    go_enter Tryd.func17, Tryd.ntmps17
    go_wp2_with fail
    go_ret
    exact ⟨by rw [HR.out] <;> rfl, 0, rfl⟩


theorem below_drewN {B : Nat} {a w : World} (h : Below B a w) (q : Nat) : Below B a (w.drewN q) := ⟨h.os, h.tape, h.output, h.size, h.block⟩

/-- the flags' cells, as the program's text lays them -/
def allC : List Value := [.int .i64 (bitN 0 : Nat), .string (strOf (flagS 0)), .int .i64 (bitN 1 : Nat), .string (strOf (flagS 1)), .int .i64 (bitN 2 : Nat), .string (strOf (flagS 2)), .int .i64 (bitN 3 : Nat), .string (strOf (flagS 3)), .int .i64 (bitN 4 : Nat), .string (strOf (flagS 4))]
/-- the package's flags lie as the text lays them -/
def All (w : World) : Prop := w.rangeAt 0 0 allC
theorem All.lt {w : World} (h : All w) : 0 < w.heap.size := World.block_lt_of_cell? _ _ (h 0 _ rfl)
theorem All.keep {w w' : World} (h : All w) (hk : ∀ o, w'.cell? ⟨0, o, none⟩ = w.cell? ⟨0, o, none⟩) : All w' := fun j v hv => by rw [hk]; exact h j v hv
theorem All.below {w w' : World} (h : All w) (hb : Below w.heap.size w w') : All w' := h.keep fun o => hb.cell (p := ⟨0, o, none⟩) h.lt
theorem All.below' {w w' : World} {B : Nat} (h : All w) (hb : Below B w w') (hB : 0 < B) : All w' := h.keep fun o => hb.cell (p := ⟨0, o, none⟩) hB
theorem index_all (k : Nat) (hk : k < 5) (W : World) : (Instr.index 39 (.agg allC.toArray) (.int .i64 (k : Int))).run Tryd.prog W = .ok (.agg #[.int .i64 (bitN k : Nat), .string (strOf (flagS k))]) W := by
  rcases (by omega : k = 0 ∨ k = 1 ∨ k = 2 ∨ k = 3 ∨ k = 4) with rfl | rfl | rfl | rfl | rfl
  all_goals
    simp [Instr.index, asIntOf, Sem.run_bind, run_underlying Tryd.underlying39, part, Tryd.isAgg38, Tryd.sizeOf38, allC]
    try rfl

/-- the two results of a function: a number and an error -/
def Two (z e : Int) : Ending := .returned (.tuple #[.int .i64 z, .int .i64 e])

set_option maxRecDepth 20000 in
set_option maxHeartbeats 4000000 in
theorem one_any (s : ByteArray) (hs : s.size ≤ 140737488355328) (w : World) (hA : All w) :
    Calls Tryd.prog 7 #[.string s] w fun e w' => ∃ z d : Int, e = .returned (.tuple #[.int .i64 z, .int .i64 d]) ∧ z = (oneN (nats s) : Nat) ∧ d = oneE (oneN (nats s)) ∧ Below w.heap.size w w' := by
  have HRG := Lib.hid hA
  go_enter Tryd.func7, Tryd.ntmps7
  go_wp2_with ((with_reducible show wpList _ _ _ (⟨some 6, _, _, _, _, _⟩ :: _) _ _); refine hold ?_)
  refine held (wpList_load_mid rfl 39 (.global 0) rfl 0 0 rfl allC (.array 5 38) HRG.out Tryd.underlying39 rfl (by kernel_rfl) ?_)
  go_wp2_with fail
  go_loopw [7] (fun i wx => ∃ k : Nat, k ≤ 5 ∧ i = .int .i64 (k : Int) ∧ oneUp (nats s) k = 0 ∧ Below w.heap.size w wx) (fun i _ => 5 - (intOf i).toNat)
  case atStart => exact ⟨0, by omega, rfl, rfl, Below.refl _ _⟩
  case round =>
    obtain ⟨k, hk, rfl, hm, hb⟩ := hrel
    have HB := Lib.hid hb
    have HU := Lib.hid hm
    clear hb hm
    by_cases hlt : k < 5
    · have hix := index_all k hlt wr
      have hsz : (strOf (flagS k)).size ≤ 140737488355328 := by rw [strOf_size]; have := flagS_le k; omega
      have HNS : Hid (nats (strOf (flagS k)) = flagS k) := Lib.hid (nats_strOf _ (flagS_lt _))
      go_wp2_with fail
      refine (same_letters s (strOf (flagS k)) hs hsz _).mono ?_
      rintro e w' ⟨rfl, nq, hw⟩
      rw [HNS.out]
      have hbw : Below w.heap.size w w' := by
        rw [hw]
        exact below_drewN (HB.out.alloc HB.out.size _) nq
      have HBW := Lib.hid hbw
      have hc0 : w'.cell? ⟨wr.heap.size, 0, none⟩ = some (.int .i64 (bitN k : Nat)) := by
        rw [hw]
        exact (cell_of_row (wr.alloc (.cells #[.int .i64 (bitN k : Nat), .string (strOf (flagS k))] 38)) wr.heap.size 0 _ _ (0, 0) (heap_alloc_new wr _)).trans rfl
      clear hw hbw hix
      cases hsm : sameB (nats s) (flagS k)
      · have HSM := Lib.hid hsm
        clear hsm
        go_wp2_with fail
        go_roundw
        case rel => exact ⟨k + 1, by omega, by go_num, oneUp_miss HU.out HSM.out, HBW.out⟩
        case measure => simp [intOf]; omega
      · have HSM := Lib.hid hsm
        clear hsm
        go_wp2_with fail
        go_ret2
        have hmn := oneN_hit hlt HU.out HSM.out
        have hb1 := (bitN_lt hlt).1
        exact ⟨_, _, rfl, by rw [hmn], by rw [hmn]; unfold oneE; rw [if_neg (by omega)], HBW.out⟩
    · have hmn : oneN (nats s) = 0 := by obtain rfl : k = 5 := by omega
                                         exact HU.out
      have HMN := Lib.hid hmn
      clear hmn
      go_wp2_with fail
      go_ret2
      exact ⟨_, _, rfl, by rw [HMN.out]; rfl, by rw [HMN.out]; rfl, HB.out⟩
end Go.Proofs.YtloghgfcgkfefaaDoor
