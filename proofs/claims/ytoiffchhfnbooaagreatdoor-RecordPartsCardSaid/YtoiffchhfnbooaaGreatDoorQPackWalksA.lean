/-
  Contracts over package pack: copies of bytes, a number laid behind bytes, numbers and texts laid; and of the document's own answers.
-/
import Derived.Test.YtoiffchhfnbooaaGreatDoorProg
import Derived.Test.YtoiffchhfnbooaaGreatDoorQRowRel
import Derived.Laws.BitsAllLaws
import Derived.Lib.SliceRun
import Derived.Test.YtoiffchhfnbooaaGreatDoorQWide
namespace Go.Proofs.YtoiffchhfnbooaaGreatDoor
set_option linter.unusedVariables false
set_option linter.unusedSimpArgs false
open Go.RowKit

theorem info_u8 : (Tryz.prog.info? 5).map (fun i => (i.zero, i.size, i.bytes)) = some (some (.int .u8 0), 1, 1) := by kernel_rfl
/-- a new slice of bytes -/
def Made (base : Nat) (w0 : World) (n : Nat) (l : List Nat) (e : Ending) (w' : World) : Prop :=
  ∃ A' c', e = .returned (.slice A' n c') ∧ OwnB w' base 5 A' n c' l ∧ Below base w0 w'
theorem Bytes.one (w : World) {b : Nat} (hb : b < 256) (t : TypeId) : Bytes (w.alloc (.cells #[.int .u8 (b : Int)] t)) (w.heap.size + 1) (some ⟨w.heap.size, 0, none⟩) 1 [b] := by
  refine ⟨rfl, by simpa using hb, fun _ => ⟨w.heap.size, 0, rfl, by omega, fun i hi => ?_⟩⟩
  obtain rfl : i = 0 := by omega
  rw [cell_of_row _ _ _ _ _ _ (heap_alloc_new w _)]
  rfl
theorem OwnB.alloc {w : World} {base n c : Nat} {e : TypeId} {A : Option Addr} {l : List Nat} (h : OwnB w base e A n c l) (o : Obj) : OwnB (w.alloc o) base e A n c l := h.below ((Below.refl _ _).alloc (Nat.le_refl _) _)

set_option maxHeartbeats 400000 in
theorem cloneB_any (A : Option Addr) (n c : Nat) (l : List Nat) (w : World) (hl : Bytes w w.heap.size A n l) (hn : n ≤ 1000000000) :
    Calls Tryz.prog 41 #[.slice A n c] w (Made w.heap.size w n l) := by
  cases A with
  | none =>
    have h0 : n = 0 := by
      rcases Nat.eq_zero_or_pos n with h | h
      · exact h
      · obtain ⟨b, o, h', _⟩ := hl.2.2 h; cases h'
    subst h0
    have hl' : l = [] := List.eq_nil_of_length_eq_zero hl.1
    subst hl'
    have heq := fun W => Lib.run_eql_slice_nil (P := Tryz.prog) W 27 5 none 0 c 0 0 Tryz.underlying27
    go_enter Tryz.func41, Tryz.ntmps41
    go_wp2
    go_ret
    exact ⟨_, _, rfl, OwnB.nil, Below.refl _ _⟩
  | some a =>
    have heq := fun W => Lib.run_eql_slice_nil (P := Tryz.prog) W 27 5 (some a) n c 0 0 Tryz.underlying27
    go_enter Tryz.func41, Tryz.ntmps41
    go_wp2_with ((with_reducible show wpList _ _ _ (⟨some 7, _, _, _, _, _⟩ :: _) _ _); refine holdB ?_)
    refine heldB (wpList_append_bytes rfl (.tmp 5) (.tmp 6) 27 rfl Tryz.underlying27 info_u8 w.heap.size (some ⟨w.heap.size, 0, none⟩) 0 0 [] rfl (OwnB.empty w 5) w.heap.size (some a) n c l rfl
      (hl.below ((Below.refl _ _).alloc (Nat.le_refl _) _) (Nat.le_refl _)) (by omega) (by simp) ?_)
    intro A3 c3 w3 ho3 hb3 hg3
    clear hg3
    have hb3' : Below w.heap.size w w3 := ((Below.refl _ _).alloc (Nat.le_refl _) _).trans hb3
    rw [Nat.zero_add, List.nil_append] at ho3
    rw [Nat.zero_add]
    go_wp2
    go_ret
    exact ⟨_, _, rfl, ho3, hb3'⟩

set_option maxHeartbeats 400000 in
theorem lay_any (A : Option Addr) (n c k v base : Nat) (l : List Nat) (w : World) (hl : OwnB w base 5 A n c l) (hn : n + k ≤ 1000000000) (hk : k ≤ 8) (hv : v < 18446744073709551616) (hbase : base ≤ w.heap.size) :
    Calls Tryz.prog 42 #[.slice A n c, .int .i64 (k : Int), .int .u64 (v : Int)] w (Made base w (n + k) (l ++ encB k v)) := by
  have HV := hide hv
  clear hv
  go_enter Tryz.func42, Tryz.ntmps42
  go_wp2
  go_loopw [0, 7] (fun s t wr => ∃ m A' c', m ≤ k ∧ s = .slice A' (n + (k - m)) c' ∧ OwnB wr base 5 A' (n + (k - m)) c' (l ++ encB (k - m) (v / 256 ^ m)) ∧ t = .int .i64 (8 * (m : Int) - 8) ∧ Below base w wr) (fun _ t _ => (intOf t + 8).toNat)
  case atStart => exact ⟨k, A, c, Nat.le_refl _, by simp, by rw [Nat.sub_self]; simpa [encB] using hl, by go_num, Below.refl _ _⟩
  case round =>
    obtain ⟨m, A', c', hm, rfl, ho, rfl, hb⟩ := hrel
    by_cases h0 : m = 0
    · subst h0
      go_wp2
      go_ret
      refine ⟨A', c', rfl, ?_, hb⟩
      simpa using ho
    · obtain ⟨j, rfl⟩ : ∃ j, m = j + 1 := ⟨m - 1, by omega⟩
      have e1 : (8 * ((j + 1 : Nat) : Int) - 8) = 8 * (j : Int) := by omega
      rw [e1]
      have hbyte : (v : Int) / 2 ^ (8 * j) % 256 = ((v / 256 ^ j % 256 : Nat) : Int) := by
        rw [show (2 : Int) ^ (8 * j) = ((256 ^ j : Nat) : Int) by rw [Int.pow_mul]; simp]
        omega
      have HB := hide hbyte
      clear hbyte
      go_wp2_with ((with_reducible show wpList _ _ _ (⟨some 21, _, _, _, _, _⟩ :: _) _ _); refine holdB ?_)
      rw [HB.out]
      refine heldB (wpList_append_bytes rfl (.tmp 15) (.tmp 20) 27 rfl Tryz.underlying27 info_u8 base A' (n + (k - (j + 1))) c' _ rfl (ho.alloc _) _ _ 1 1 _ rfl (Bytes.one wr (Nat.mod_lt _ (by omega)) _) (by omega) (by have := hb.size; simp; omega) ?_)
      intro A3 c3 w3 ho3 hb3 hg3
      clear hg3
      have hbb : Below base w w3 := (hb.alloc (Nat.le_trans hbase hb.size) _).trans hb3
      have HL := hide (show k - j = k - (j + 1) + 1 by omega)
      go_wp2
      go_roundw
      case rel => exact ⟨j, A3, c3, by omega, by rw [HL.out]; rfl, by
        rw [HL.out, encB, Nat.div_div_eq_div_mul, ← Nat.pow_succ, ← List.append_assoc]
        exact ho3, by go_num, hbb⟩
      case measure => simp [intOf]; omega

theorem run_make_u8 (W : World) (k : Nat) (hk : k ≤ 1000000000) : (Instr.makeSlice 27 (.int .i64 (k : Int)) (.int .i64 (k : Int))).run Tryz.prog W = .ok (.slice (some ⟨W.heap.size, 0, none⟩) k k) (W.alloc (.cells (madeCells #[.int .u8 0] k) 5)) := by
  obtain ⟨i, hi, hz, hs, hby⟩ := info_parts info_u8
  have := run_make (P := Tryz.prog) W 27 5 i (.int .u8 0) Tryz.underlying27 hi hz .i64 .i64 (k : Int) (k : Int) (by omega) (by omega) (by rw [hby]; omega) (by omega)
  rw [hs, show (Value.int .u8 0).cells = #[.int .u8 0] from rfl] at this
  simpa using this
theorem OwnB.made (w : World) (k : Nat) (hk : k ≤ 1000000000) (e : TypeId) : OwnB (w.alloc (.cells (madeCells #[.int .u8 0] k) e)) w.heap.size e (some ⟨w.heap.size, 0, none⟩) k k (List.replicate k 0) := by
  refine ⟨⟨by simp, .inr ⟨w.heap.size, k, madeCells #[.int .u8 0] k, rfl, Nat.le_refl _, heap_alloc_new w _, Nat.le_refl _, by unfold maxLen; omega, ?_, ?_⟩⟩, ?_⟩
  · simp [size_madeCells]
  · apply List.ext_getElem?
    intro i
    by_cases hi : i < k
    · simp [madeCells, hi, bv, List.getElem?_take, Nat.mod_one]
    · rw [List.getElem?_eq_none (by simp [size_madeCells]; omega), List.getElem?_eq_none (by simp; omega)]
  · intro x hx
    rw [(List.mem_replicate.1 hx).2]
    omega
theorem set_front (j r v x : Nat) (hx : x = v / 256 ^ r % 256) : (List.replicate (j + 1) 0 ++ encB r v).set j x = List.replicate j 0 ++ encB (r + 1) v := by
  rw [encB_front, hx, List.replicate_succ', List.append_assoc, List.set_append_right _ _ (by simp)]
  simp

set_option maxHeartbeats 400000 in
theorem bytes_any (k v : Nat) (w : World) (hk : k ≤ 8) (hv : v ≤ 4611686018427387904) :
    Calls Tryz.prog 44 #[.int .i64 (v : Int), .int .i64 (k : Int)] w (Made w.heap.size w k (encB k v)) := by
  have hmk := fun W => run_make_u8 W k (by omega)
  have HV := hide hv
  go_enter Tryz.func44, Tryz.ntmps44
  go_wp2
  clear hmk
  go_loopw [0, 6] (fun s t wr => ∃ m : Nat, m ≤ k ∧ s = .int .i64 ((v / 256 ^ (k - m) : Nat) : Int) ∧ OwnB wr w.heap.size 5 (some ⟨w.heap.size, 0, none⟩) k k (List.replicate m 0 ++ encB (k - m) v) ∧ t = .int .i64 ((m : Int) - 1) ∧ Below w.heap.size w wr) (fun _ t _ => (intOf t + 1).toNat)
  case atStart => exact ⟨k, Nat.le_refl _, by simp, by simpa [encB] using OwnB.made w k (by omega) 5, by go_num, (Below.refl _ _).alloc (Nat.le_refl _) _⟩
  case round =>
    obtain ⟨m, hm, rfl, ho, rfl, hb⟩ := hrel
    by_cases h0 : m = 0
    · subst h0
      go_wp2
      go_ret
      exact ⟨_, _, rfl, by simpa using ho, hb⟩
    · obtain ⟨j, rfl⟩ : ∃ j, m = j + 1 := ⟨m - 1, by omega⟩
      have e1 : (((j + 1 : Nat) : Int) - 1) = (j : Int) := by omega
      have hx : v / 256 ^ (k - (j + 1)) ≤ 4611686018427387904 := Nat.le_trans (Nat.div_le_self _ _) hv
      have HX := hide (show v / 256 ^ (k - j) = v / 256 ^ (k - (j + 1)) / 256 by rw [Nat.div_div_eq_div_mul, ← Nat.pow_succ, show (k - (j + 1)).succ = k - j by omega])
      have HS := hide (set_front j (k - (j + 1)) v (v / 256 ^ (k - (j + 1)) % 256) rfl)
      have HL := hide (show k - (j + 1) + 1 = k - j by omega)
      have hp := ho.put (i := j) (by omega) (v / 256 ^ (k - (j + 1)) % 256) (Nat.mod_lt _ (by omega)) rfl
      obtain ⟨g, hA, hg1, hg2, hfz, hcl⟩ := ho.cells (by omega)
      injection hA with hA
      injection hA with hA
      subst hA
      have hc := hcl j (by omega)
      have hf := hfz j
      clear hcl hfz
      generalize v / 256 ^ (k - (j + 1)) = x at *
      rw [e1]
      go_wp2
      go_roundw
      case rel => exact ⟨j, by omega, by rw [HX.out]; rfl, by rw [← HL.out, ← HS.out]; exact hp, by go_num, hb.setCell (Nat.le_refl _) _⟩
      case measure => simp [intOf]

theorem decB_take (l : List Nat) (k : Nat) (h : k < l.length) : decB (l.take (k + 1)) = decB (l.take k) * 256 + byteAt l k := by rw [take_snoc' l k h, decB_snoc]
set_option maxRecDepth 20000 in
set_option maxHeartbeats 400000 in
theorem number_any (A : Option Addr) (n c B : Nat) (l : List Nat) (w : World) (hl : Bytes w B A n l) (hn : n ≤ maxLen) :
    Calls Tryz.prog 53 #[.slice A n c] w fun e w' => e = .returned (.int .i64 (numB l)) ∧ w = w' := by
  unfold maxLen at hn
  go_enter Tryz.func53, Tryz.ntmps53
  go_wp2
  go_loop [3, 4] (fun t i => ∃ k : Nat, k ≤ n ∧ i = .int .i64 k ∧ t = .int .i64 ((decB (l.take k) : Nat) : Int)) (fun _ i => n - (intOf i).toNat)
  case atStart => exact ⟨0, Nat.zero_le _, rfl, rfl⟩
  case round =>
    obtain ⟨k, hk, rfl, rfl⟩ := hrel
    by_cases hlt : k < n
    · obtain ⟨b, o, rfl, _, hc⟩ := hl.at_ hlt
      have hb := hl.lt k
      have HG := hide (decB_great l k (by rw [hl.1]; exact hlt))
      have HT := hide (decB_take l k (by rw [hl.1]; exact hlt))
      generalize decB (l.take k) = x at *
      by_cases hg : 36028797018963968 ≤ x
      · have HN := hide (show numB l = -1 by unfold numB; rw [if_pos (HG.out hg)])
        have hgi : (36028797018963968 : Int) ≤ (x : Int) := by omega
        clear hg HG HT
        go_wp2
        go_ret
        exact ⟨ret_int HN.out.symm, rfl⟩
      · have hgi : ¬ (36028797018963968 : Int) ≤ (x : Int) := by omega
        have hgi2 : (x : Int) < 36028797018963968 := by omega
        clear hg HG
        go_wp2
        go_round
        case rel => exact ⟨k + 1, by omega, by go_num, by rw [HT.out]; go_num⟩
        case measure => simp [intOf]; omega
    · have HK := hide (show l.take k = l from List.take_of_length_le (by rw [hl.1]; omega))
      rw [HK.out]
      have HN : Hid (numB l = if 4611686018427387904 < decB l then -1 else (decB l : Int)) := hide rfl
      by_cases hg : 4611686018427387904 < decB l
      · have HN2 := hide (HN.out.trans (if_pos hg))
        generalize decB l = x at *
        have hgi : (4611686018427387904 : Int) < (x : Int) := by omega
        clear hg
        go_wp2
        go_ret
        exact ⟨ret_int HN2.out.symm, rfl⟩
      · have HN2 := hide (HN.out.trans (if_neg hg))
        generalize decB l = x at *
        have hgi : ¬ (4611686018427387904 : Int) < (x : Int) := by omega
        clear hg
        go_wp2
        go_ret
        exact ⟨ret_int HN2.out.symm, rfl⟩

theorem clampB_neg {z : Int} (h : z < 0) : clampB z = 0 := by unfold clampB; omega
theorem clampB_mid {z : Int} (h0 : 0 ≤ z) (h1 : z ≤ 4611686018427387904) : clampB z = z.toNat := by unfold clampB; omega
theorem clampB_top {z : Int} (h : 4611686018427387904 < z) : clampB z = 4611686018427387904 := by unfold clampB; omega

set_option maxRecDepth 20000 in
set_option maxHeartbeats 400000 in
/-- a number's bytes behind others, the document's -/
theorem rnum_any (A : Option Addr) (n c : Nat) (z : Int) (l : List Nat) (w : World) (hl : Bytes w w.heap.size A n l) (hn : n ≤ 100000000) :
    Calls Tryz.prog 22 #[.slice A n c, .int .i64 z] w (Made w.heap.size w (n + 8) (l ++ encB 8 (clampB z))) := by
  go_enter Tryz.func22, Tryz.ntmps22
  go_wp2_with ((with_reducible show wpList _ _ _ (⟨some 7, _, _, _, _, _⟩ :: _) _ _); refine holdB ?_)
  refine heldB (wpList_append_bytes rfl (.tmp 5) (.tmp 6) 27 rfl Tryz.underlying27 info_u8 w.heap.size (some ⟨w.heap.size, 0, none⟩) 0 0 [] rfl (OwnB.empty w 5) w.heap.size A n c l rfl
    (hl.below ((Below.refl _ _).alloc (Nat.le_refl _) _) (Nat.le_refl _)) (by omega) (by simp) ?_)
  intro A3 c3 w3 ho3 hb3 hg3
  clear hg3
  have hb3' : Below w.heap.size w w3 := ((Below.refl _ _).alloc (Nat.le_refl _) _).trans hb3
  rw [Nat.zero_add, List.nil_append] at ho3
  rw [Nat.zero_add]
  have hc : clampB z ≤ 4611686018427387904 := clampB_le z
  have hmm : (if (4611686018427387904 : Int) < (if z < 0 then 0 else z) then 4611686018427387904 else (if z < 0 then 0 else z)) = ((clampB z : Nat) : Int) := by
    unfold clampB
    split <;> split at * <;> omega
  go_wp2_with fail
  all_goals
    refine (bytes_any 8 (clampB z) w3 (by omega) hc).mono ?_
    rintro e w4 ⟨A4, c4, rfl, ho4, hb4⟩
    have hb34 := hb3'.trans (hb4.mono hb3'.size)
    have ho3' := ho3.below hb4
    go_wp2_with ((with_reducible show wpList _ _ _ (⟨some 12, _, _, _, _, _⟩ :: _) _ _); refine holdB ?_)
    refine heldB (wpList_append_bytes rfl (.tmp 7) (.tmp 11) 27 rfl Tryz.underlying27 info_u8 w.heap.size A3 n c3 l rfl ho3' w4.heap.size A4 8 c4 _ rfl ho4.bytes (by omega) hb34.size ?_)
    intro A5 c5 w5 ho5 hb5 hg5
    clear hg5
    have hb5' := hb34.trans hb5
    go_wp2
    go_ret
    exact ⟨_, _, rfl, ho5, hb5'⟩

/-- the first 4096 bytes of a text -/
def cutS (z : ByteArray) : ByteArray := z.extract 0 4096
theorem cutS_nats (z : ByteArray) : nats (cutS z) = (nats z).take 4096 := by
  have h := strOf_to (nats z) 4096
  rw [strOf_nats] at h
  unfold cutS
  rw [h, nats_strOf _ (fun x hx => nats_lt z x (List.mem_of_mem_take hx))]
theorem cutS_short {z : ByteArray} (h : z.size ≤ 4096) : cutS z = z := by
  rw [← strOf_nats (cutS z), cutS_nats, List.take_of_length_le (by rw [nats_length]; exact h), strOf_nats]
theorem cutS_size (z : ByteArray) : (cutS z).size = min 4096 z.size := by rw [← nats_length, cutS_nats, List.length_take, nats_length]
theorem textB_cut (z : ByteArray) : textB (nats z) = encB 4 (cutS z).size ++ nats (cutS z) := by unfold textB; rw [← cutS_nats, nats_length]

set_option maxRecDepth 20000 in
set_option maxHeartbeats 400000 in
/-- a text's bytes behind others, the document's -/
theorem rtext_any (A : Option Addr) (n c : Nat) (z : ByteArray) (l : List Nat) (w : World) (hl : Bytes w w.heap.size A n l) (hn : n ≤ 100000000) (hz : z.size ≤ 140737488355328) :
    Calls Tryz.prog 37 #[.slice A n c, .string z] w (Made w.heap.size w (n + (textB (nats z)).length) (l ++ textB (nats z))) := by
  have HB := hide (textB_cut z)
  have HL : Hid ((textB (nats z)).length = 4 + (cutS z).size) := hide (by rw [HB.out, List.length_append, encB_length, nats_length])
  have hq : (cutS z).size ≤ 4096 := by rw [cutS_size]; omega
  have HC : Hid (z.extract 0 4096 = cutS z) := hide rfl
  by_cases hs : z.size ≤ 4096
  all_goals
    first
      | (have HS := hide (cutS_short hs)
         have hsI : ¬ (4096 : Int) < (z.size : Int) := by omega)
      | (have hsI : (4096 : Int) < (z.size : Int) := by omega)
    go_enter Tryz.func37, Tryz.ntmps37
    go_wp2_with ((with_reducible show wpList _ _ _ (⟨some 12, _, _, _, _, _⟩ :: _) _ _); refine holdB ?_)
    first
      | (rw [HC.out]; clear HC; generalize cutS z = q at *)
      | (rw [HS.out] at HB HL hq)
    refine heldB (wpList_append_bytes rfl (.tmp 10) (.tmp 11) 27 rfl Tryz.underlying27 info_u8 w.heap.size (some ⟨w.heap.size, 0, none⟩) 0 0 [] rfl (OwnB.empty w 5) w.heap.size A n c l rfl
      (hl.below ((Below.refl _ _).alloc (Nat.le_refl _) _) (Nat.le_refl _)) (by omega) (by simp) ?_)
    intro A3 c3 w3 ho3 hb3 hg3
    clear hg3
    have hb3' : Below w.heap.size w w3 := ((Below.refl _ _).alloc (Nat.le_refl _) _).trans hb3
    rw [Nat.zero_add, List.nil_append] at ho3
    rw [Nat.zero_add]
    go_wp2_with fail
    refine (bytes_any 4 _ w3 (by omega) (by omega)).mono ?_
    rintro e w4 ⟨A4, c4, rfl, ho4, hb4⟩
    have hb34 := hb3'.trans (hb4.mono hb3'.size)
    have ho3' := ho3.below hb4
    go_wp2_with ((with_reducible show wpList _ _ _ (⟨some 16, _, _, _, _, _⟩ :: _) _ _); refine holdB ?_)
    refine heldB (wpList_append_bytes rfl (.tmp 12) (.tmp 15) 27 rfl Tryz.underlying27 info_u8 w.heap.size A3 n c3 l rfl ho3' w4.heap.size A4 4 c4 _ rfl ho4.bytes (by omega) hb34.size ?_)
    intro A5 c5 w5 ho5 hb5 hg5
    clear hg5
    have hb5' := hb34.trans hb5
    go_wp2_with ((with_reducible show wpList _ _ _ (⟨some 18, _, _, _, _, _⟩ :: _) _ _); refine holdB ?_)
    refine heldB (wpList_append_str rfl (.tmp 16) (.tmp 17) 27 9 rfl Tryz.underlying27 Tryz.underlying9 info_u8 w.heap.size A5 (n + 4) c5 _ rfl ho5 _ rfl (by omega) hb5'.size ?_)
    intro A6 c6 w6 ho6 hb6 hg6
    clear hg6
    have hb6' := hb5'.trans hb6
    have ho7 : OwnB w6 w.heap.size 5 A6 (n + (textB (nats z)).length) c6 (l ++ textB (nats z)) := by rw [HL.out, HB.out, ← List.append_assoc, ← Nat.add_assoc]; exact ho6
    rw [Nat.add_assoc, ← HL.out]
    go_wp2
    go_ret
    exact ⟨_, _, rfl, ho7, hb6'⟩

set_option maxHeartbeats 400000 in
/-- the same bytes? -/
theorem same3_any (A : Option Addr) (n c B : Nat) (l : List Nat) (A' : Option Addr) (n' c' B' : Nat) (l' : List Nat) (w : World) (hl : Bytes w B A n l) (hl' : Bytes w B' A' n' l') :
    Calls Tryz.prog 10 #[.slice A n c, .slice A' n' c'] w fun e w' => e = .returned (.bool (decide (l = l'))) ∧ w = w' := by
  have h1 := run_str_of_bytes (P := Tryz.prog) (c := c) hl Tryz.underlying27 Tryz.underlying5 Tryz.underlying9
  have h2 := run_str_of_bytes (P := Tryz.prog) (c := c') hl' Tryz.underlying27 Tryz.underlying5 Tryz.underlying9
  have he := strOf_eqb l l' hl.2.1 hl'.2.1
  generalize decide (l = l') = b at *
  go_enter Tryz.func10, Tryz.ntmps10
  go_wp2
  go_ret
  exact ⟨rfl, rfl⟩
end Go.Proofs.YtoiffchhfnbooaaGreatDoor

/-
  Contracts over package sha: padded bytes; and of the document's own answer.
-/
namespace Go.Proofs.YtoiffchhfnbooaaGreatDoor
set_option linter.unusedVariables false
set_option linter.unusedSimpArgs false
set_option linter.unusedVariables false
set_option linter.unusedSimpArgs false
open Go.RowKit

/-- how many of 0 padding wants -/
def zerosN (n : Nat) : Nat := (119 - n % 64) % 64
def padN (l : List Nat) : List Nat := l ++ 128 :: List.replicate (zerosN l.length) 0 ++ encB 8 (8 * l.length)
theorem padN_length (l : List Nat) : (padN l).length = l.length + 9 + zerosN l.length := by
  unfold padN
  rw [List.length_append, List.length_append, List.length_cons, List.length_replicate, encB_length]
  omega
theorem padN_64 (l : List Nat) : (padN l).length % 64 = 0 := by rw [padN_length]; unfold zerosN; omega
theorem zerosN_lt (n : Nat) : zerosN n < 64 := Nat.mod_lt _ (by omega)
theorem padN_lt {l : List Nat} (h : ∀ x ∈ l, x < 256) : ∀ x ∈ padN l, x < 256 := by
  intro x hx
  unfold padN at hx
  rcases List.mem_append.1 hx with hx | hx
  · rcases List.mem_append.1 hx with hx | hx
    · exact h x hx
    · rcases List.mem_cons.1 hx with rfl | hx
      · omega
      · rw [(List.mem_replicate.1 hx).2]; omega
  · exact encB_lt _ _ x hx
theorem rep_snoc (l : List Nat) (j : Nat) : l ++ 128 :: List.replicate j 0 ++ [0] = l ++ 128 :: List.replicate (j + 1) 0 := by
  rw [List.append_assoc, List.cons_append, ← List.replicate_succ']

theorem run_make_0 (W : World) (k : Nat) (hk : k ≤ 1000000000) : (Instr.makeSlice 27 (.int .i64 0) (.int .i64 (k : Int))).run Tryz.prog W = .ok (.slice (some ⟨W.heap.size, 0, none⟩) 0 k) (W.alloc (.cells (madeCells #[.int .u8 0] k) 5)) := by
  obtain ⟨i, hi, hz, hs, hby⟩ := info_parts info_u8
  have := run_make (P := Tryz.prog) W 27 5 i (.int .u8 0) Tryz.underlying27 hi hz .i64 .i64 0 (k : Int) (by omega) (by omega) (by rw [hby]; omega) (by omega)
  rw [hs, show (Value.int .u8 0).cells = #[.int .u8 0] from rfl] at this
  simpa using this
theorem OwnB.made0 (w : World) (k : Nat) (hk : k ≤ 1000000000) (e : TypeId) : OwnB (w.alloc (.cells (madeCells #[.int .u8 0] k) e)) w.heap.size e (some ⟨w.heap.size, 0, none⟩) 0 k [] := by
  refine ⟨⟨by simp, .inr ⟨w.heap.size, k, madeCells #[.int .u8 0] k, rfl, Nat.le_refl _, heap_alloc_new w _, Nat.zero_le _, by unfold maxLen; omega, ?_, ?_⟩⟩, by simp⟩
  · simp [size_madeCells]
  · simp

theorem byte_of {v j : Nat} : (v : Int) / 2 ^ (8 * j) % 256 = ((v / 256 ^ j % 256 : Nat) : Int) := by
  rw [show (2 : Int) ^ (8 * j) = ((256 ^ j : Nat) : Int) by rw [Int.pow_mul]; simp]
  omega

set_option maxRecDepth 20000 in
set_option maxHeartbeats 1000000 in
theorem pad_any (A : Option Addr) (n c B : Nat) (l : List Nat) (w : World) (hl : Bytes w B A n l) (hB : B ≤ w.heap.size) (hn : n ≤ 1000000) :
    Calls Tryz.prog 69 #[.slice A n c] w (Made w.heap.size w (n + 9 + zerosN n) (padN l)) := by
  have hlen := hl.1
  have HLEN := hide hlen
  clear hlen
  have hmk := fun W => run_make_0 W (n + 72) (by omega)
  have hmi : ((n + 72 : Nat) : Int) = (n : Int) + 72 := by omega
  simp only [hmi] at hmk
  clear hmi
  go_enter Tryz.func69, Tryz.ntmps69
  go_wp2_with ((with_reducible show wpList _ _ _ (⟨some 11, _, _, _, _, _⟩ :: _) _ _); refine holdB ?_)
  clear hmk
  refine heldB (wpList_append_bytes rfl (.tmp 9) (.tmp 10) 27 rfl Tryz.underlying27 info_u8 w.heap.size (some ⟨w.heap.size, 0, none⟩) 0 (n + 72) [] rfl (OwnB.made0 w (n + 72) (by omega) 5) B A n c l rfl
    (hl.below ((Below.refl B w).alloc hB _) (Nat.le_refl _)) (by omega) (by simp) ?_)
  intro A1 c1 w1 ho1 hb1 hg1
  clear hg1
  rw [Nat.zero_add, List.nil_append] at ho1
  rw [Nat.zero_add]
  have hb1' : Below w.heap.size w w1 := ((Below.refl _ _).alloc (Nat.le_refl _) _).trans hb1
  clear hb1
  go_wp2_with ((with_reducible show wpList _ _ _ (⟨some 14, _, _, _, _, _⟩ :: _) _ _); refine holdB ?_)
  refine heldB (wpList_append_bytes rfl (.tmp 12) (.tmp 13) 27 rfl Tryz.underlying27 info_u8 w.heap.size A1 n c1 l rfl (ho1.alloc _) _ _ 1 1 _ rfl (Bytes.one w1 (show 128 < 256 by omega) _) (by omega) (by have := hb1'.size; simp; omega) ?_)
  intro A2 c2 w2 ho2 hb2 hg2
  clear hg2
  have hb2' : Below w.heap.size w w2 := (hb1'.alloc hb1'.size _).trans hb2
  clear hb2 ho1
  go_wp2
  go_loopw [3] (fun s wr => ∃ j A' c', j ≤ zerosN n ∧ s = .slice A' (n + 1 + j) c' ∧ OwnB wr w.heap.size 5 A' (n + 1 + j) c' (l ++ 128 :: List.replicate j 0) ∧ Below w.heap.size w wr) (fun s _ => match s with | .slice _ k _ => n + 100 - k | _ => 0)
  case atStart => exact ⟨0, A2, c2, Nat.zero_le _, rfl, ho2, hb2'⟩
  case round =>
    obtain ⟨j, A', c', hj, rfl, ho, hb⟩ := hrel
    have hz : zerosN n = (119 - n % 64) % 64 := rfl
    have hz64 := zerosN_lt n
    by_cases hlt : j < zerosN n
    · have hne : (((n : Int) + 1 + (j : Int)) % 64 == 56) = false := by simp; omega
      have hne2 : (((n : Int) + 1 + (j : Int)) % 64 != 56) = true := by simp; omega
      have HZ := hide hz
      clear hz
      go_wp2_with ((with_reducible show wpList _ _ _ (⟨some 21, _, _, _, _, _⟩ :: _) _ _); refine holdB ?_)
      refine heldB (wpList_append_bytes rfl (.tmp 19) (.tmp 20) 27 rfl Tryz.underlying27 info_u8 w.heap.size A' (n + 1 + j) c' _ rfl (ho.alloc _) _ _ 1 1 _ rfl (Bytes.one wr (show 0 < 256 by omega) _) (by omega) (by have := hb.size; simp; omega) ?_)
      intro A3 c3 w3 ho3 hb3 hg3
      clear hg3
      have hb3' : Below w.heap.size w w3 := (hb.alloc hb.size _).trans hb3
      rw [rep_snoc] at ho3
      go_wp2
      go_roundw
      case rel => exact ⟨j + 1, A3, c3, by omega, rfl, ho3, hb3'⟩
      case measure => simp; omega
    · have hjz : j = zerosN n := by omega
      have hne : (((n : Int) + 1 + (j : Int)) % 64 != 56) = false := by simp; omega
      have HJZ := hide hjz
      have hj64 : j < 64 := by omega
      clear hz hz64 hlt hj hjz
      obtain ⟨v, hv⟩ : ∃ v, v = 8 * n := ⟨_, rfl⟩
      have hvi : 8 * (n : Int) = (v : Int) := by omega
      have hvl : v ≤ 8000000 := by omega
      obtain ⟨N, hN⟩ : ∃ N, N = n + 1 + j := ⟨_, rfl⟩
      obtain ⟨L, hL⟩ : ∃ L, L = l ++ 128 :: List.replicate j 0 := ⟨_, rfl⟩
      rw [← hN, ← hL] at ho
      have hNI : (n : Int) + 1 + (j : Int) = (N : Int) := by omega
      rw [hNI] at hne
      rw [← hN]
      have HV := hide hv; have HN := hide hN; have HL := hide hL
      have hNl : N ≤ 2000000 := by omega
      clear hv hN hL hNI
      go_wp2
      clear hvi
      go_loopw [3, 5] (fun s t wr => ∃ m A' c', m ≤ 8 ∧ s = .slice A' (N + (8 - m)) c' ∧ OwnB wr w.heap.size 5 A' (N + (8 - m)) c' (L ++ encB (8 - m) (v / 256 ^ m)) ∧ t = .int .i64 (8 * (m : Int) - 8) ∧ Below w.heap.size w wr) (fun _ t _ => (intOf t + 8).toNat)
      case atStart => exact ⟨8, A', c', Nat.le_refl _, rfl, by rw [Nat.sub_self]; simpa [encB] using ho, by go_num, hb⟩
      case round =>
        obtain ⟨m, A', c', hm, rfl, ho, rfl, hb⟩ := hrel
        by_cases h0 : m = 0
        · subst h0
          have HW := hide (show N + (8 - 0) = n + 9 + zerosN n by rw [HN.out, HJZ.out]; omega)
          have HP := hide (show L ++ encB (8 - 0) (v / 256 ^ 0) = padN l by rw [HL.out, HJZ.out, HV.out, Nat.pow_zero, Nat.div_one]; unfold padN; rw [HLEN.out])
          rw [HP.out, HW.out] at ho
          rw [HW.out]
          go_wp2
          go_ret
          exact ⟨A', c', rfl, ho, hb⟩
        · obtain ⟨q, rfl⟩ : ∃ q, m = q + 1 := ⟨m - 1, by omega⟩
          have e1 : (8 * ((q + 1 : Nat) : Int) - 8) = 8 * (q : Int) := by omega
          rw [e1]
          have HB := hide (byte_of (v := v) (j := q))
          have HE := hide (show encB (8 - q) (v / 256 ^ q) = encB (8 - (q + 1)) (v / 256 ^ (q + 1)) ++ [v / 256 ^ q % 256] by
            rw [show 8 - q = (8 - (q + 1)) + 1 by omega, encB, Nat.div_div_eq_div_mul, ← Nat.pow_succ])
          have hqi : (q : Int) < 8 := by omega
          go_wp2_with ((with_reducible show wpList _ _ _ (⟨some 36, _, _, _, _, _⟩ :: _) _ _); refine holdB ?_)
          rw [HB.out]
          refine heldB (wpList_append_bytes rfl (.tmp 30) (.tmp 35) 27 rfl Tryz.underlying27 info_u8 w.heap.size A' (N + (8 - (q + 1))) c' _ rfl (ho.alloc _) _ _ 1 1 _ rfl (Bytes.one wr (Nat.mod_lt _ (by omega)) _) (by omega) (by have := hb.size; simp; omega) ?_)
          intro A3 c3 w3 ho3 hb3 hg3
          clear hg3
          have hb3' : Below w.heap.size w w3 := (hb.alloc hb.size _).trans hb3
          have HL8 := hide (show N + (8 - q) = N + (8 - (q + 1)) + 1 by omega)
          go_wp2
          go_roundw
          case rel => exact ⟨q, A3, c3, by omega, congrArg (fun z => Value.slice A3 z c3) (by omega), by rw [HL8.out, HE.out, ← List.append_assoc]; exact ho3, by go_num, hb3'⟩
          case measure => first | (simp [intOf]; done) | (simp [intOf]; omega)
set_option maxRecDepth 20000 in
set_option maxHeartbeats 1000000 in
theorem rpad_any (A : Option Addr) (n c B : Nat) (l : List Nat) (w : World) (hl : Bytes w B A n l) (hB : B ≤ w.heap.size) (hn : n ≤ 1000000) :
    Calls Tryz.prog 47 #[.slice A n c] w (Made w.heap.size w (n + 9 + zerosN n) (padN l)) := by
  have hlen := hl.1
  have HLEN := hide hlen
  clear hlen
  go_enter Tryz.func47, Tryz.ntmps47
  go_wp2_with ((with_reducible show wpList _ _ _ (⟨some 8, _, _, _, _, _⟩ :: _) _ _); refine holdB ?_)
  refine heldB (wpList_append_bytes rfl (.tmp 6) (.tmp 7) 27 rfl Tryz.underlying27 info_u8 w.heap.size (some ⟨w.heap.size, 0, none⟩) 0 0 [] rfl (OwnB.empty w 5) B A n c l rfl
    (hl.below ((Below.refl B w).alloc hB _) (Nat.le_refl _)) (by omega) (by simp) ?_)
  intro A1 c1 w1 ho1 hb1 hg1
  clear hg1
  rw [Nat.zero_add, List.nil_append] at ho1
  rw [Nat.zero_add]
  have hb1' : Below w.heap.size w w1 := ((Below.refl _ _).alloc (Nat.le_refl _) _).trans hb1
  clear hb1
  go_wp2_with ((with_reducible show wpList _ _ _ (⟨some 10, _, _, _, _, _⟩ :: _) _ _); refine holdB ?_)
  refine heldB (wpList_append_bytes rfl (.tmp 8) (.tmp 9) 27 rfl Tryz.underlying27 info_u8 w.heap.size A1 n c1 l rfl (ho1.alloc _) _ _ 1 1 _ rfl (Bytes.one w1 (show 128 < 256 by omega) _) (by omega) (by have := hb1'.size; simp; omega) ?_)
  intro A2 c2 w2 ho2 hb2 hg2
  clear hg2
  have hb2' : Below w.heap.size w w2 := (hb1'.alloc hb1'.size _).trans hb2
  clear hb2 ho1
  go_wp2
  go_loopw [3] (fun s wr => ∃ j A' c', j ≤ zerosN n ∧ s = .slice A' (n + 1 + j) c' ∧ OwnB wr w.heap.size 5 A' (n + 1 + j) c' (l ++ 128 :: List.replicate j 0) ∧ Below w.heap.size w wr) (fun s _ => match s with | .slice _ k _ => n + 100 - k | _ => 0)
  case atStart => exact ⟨0, A2, c2, Nat.zero_le _, rfl, ho2, hb2'⟩
  case round =>
    obtain ⟨j, A', c', hj, rfl, ho, hb⟩ := hrel
    have hz : zerosN n = (119 - n % 64) % 64 := rfl
    have hz64 := zerosN_lt n
    by_cases hlt : j < zerosN n
    · have hne : (((n : Int) + 1 + (j : Int)) % 64 == 56) = false := by simp; omega
      have hne2 : (((n : Int) + 1 + (j : Int)) % 64 != 56) = true := by simp; omega
      have HZ := hide hz
      clear hz
      go_wp2_with ((with_reducible show wpList _ _ _ (⟨some 17, _, _, _, _, _⟩ :: _) _ _); refine holdB ?_)
      refine heldB (wpList_append_bytes rfl (.tmp 15) (.tmp 16) 27 rfl Tryz.underlying27 info_u8 w.heap.size A' (n + 1 + j) c' _ rfl (ho.alloc _) _ _ 1 1 _ rfl (Bytes.one wr (show 0 < 256 by omega) _) (by omega) (by have := hb.size; simp; omega) ?_)
      intro A3 c3 w3 ho3 hb3 hg3
      clear hg3
      have hb3' : Below w.heap.size w w3 := (hb.alloc hb.size _).trans hb3
      rw [rep_snoc] at ho3
      go_wp2
      go_roundw
      case rel => exact ⟨j + 1, A3, c3, by omega, rfl, ho3, hb3'⟩
      case measure => simp; omega
    · have hjz : j = zerosN n := by omega
      have hne : (((n : Int) + 1 + (j : Int)) % 64 != 56) = false := by simp; omega
      have HJZ := hide hjz
      have hj64 : j < 64 := by omega
      clear hz hz64 hlt hj hjz
      obtain ⟨v, hv⟩ : ∃ v, v = 8 * n := ⟨_, rfl⟩
      have hvi : (n : Int) * 8 = (v : Int) := by omega
      have hvl : v ≤ 8000000 := by omega
      obtain ⟨N, hN⟩ : ∃ N, N = n + 1 + j := ⟨_, rfl⟩
      obtain ⟨L, hL⟩ : ∃ L, L = l ++ 128 :: List.replicate j 0 := ⟨_, rfl⟩
      rw [← hN, ← hL] at ho
      have hNI : (n : Int) + 1 + (j : Int) = (N : Int) := by omega
      rw [hNI] at hne
      rw [← hN]
      have HV := hide hv; have HN := hide hN; have HL := hide hL
      have hNl : N ≤ 2000000 := by omega
      clear hv hN hL hNI
      go_wp2
      clear hvi
      go_loopw [3, 5] (fun s t wr => ∃ m A' c', m ≤ 8 ∧ s = .slice A' (N + (8 - m)) c' ∧ OwnB wr w.heap.size 5 A' (N + (8 - m)) c' (L ++ encB (8 - m) (v / 256 ^ m)) ∧ t = .int .i64 ((m : Int) - 1) ∧ Below w.heap.size w wr) (fun _ t _ => (intOf t + 1).toNat)
      case atStart => exact ⟨8, A', c', Nat.le_refl _, rfl, by rw [Nat.sub_self]; simpa [encB] using ho, by go_num, hb⟩
      case round =>
        obtain ⟨m, A', c', hm, rfl, ho, rfl, hb⟩ := hrel
        by_cases h0 : m = 0
        · subst h0
          have HW := hide (show N + (8 - 0) = n + 9 + zerosN n by rw [HN.out, HJZ.out]; omega)
          have HP := hide (show L ++ encB (8 - 0) (v / 256 ^ 0) = padN l by rw [HL.out, HJZ.out, HV.out, Nat.pow_zero, Nat.div_one]; unfold padN; rw [HLEN.out])
          rw [HP.out, HW.out] at ho
          rw [HW.out]
          go_wp2
          go_ret
          exact ⟨A', c', rfl, ho, hb⟩
        · obtain ⟨q, rfl⟩ : ∃ q, m = q + 1 := ⟨m - 1, by omega⟩
          have e1 : (((q + 1 : Nat) : Int) - 1) = (q : Int) := by omega
          rw [e1]
          have HB := hide (byte_of (v := v) (j := q))
          have HE := hide (show encB (8 - q) (v / 256 ^ q) = encB (8 - (q + 1)) (v / 256 ^ (q + 1)) ++ [v / 256 ^ q % 256] by
            rw [show 8 - q = (8 - (q + 1)) + 1 by omega, encB, Nat.div_div_eq_div_mul, ← Nat.pow_succ])
          have hqi : (q : Int) < 8 := by omega
          go_wp2_with ((with_reducible show wpList _ _ _ (⟨some 34, _, _, _, _, _⟩ :: _) _ _); refine holdB ?_)
          rw [HB.out]
          refine heldB (wpList_append_bytes rfl (.tmp 26) (.tmp 33) 27 rfl Tryz.underlying27 info_u8 w.heap.size A' (N + (8 - (q + 1))) c' _ rfl (ho.alloc _) _ _ 1 1 _ rfl (Bytes.one wr (Nat.mod_lt _ (by omega)) _) (by omega) (by have := hb.size; simp; omega) ?_)
          intro A3 c3 w3 ho3 hb3 hg3
          clear hg3
          have hb3' : Below w.heap.size w w3 := (hb.alloc hb.size _).trans hb3
          have HL8 := hide (show N + (8 - q) = N + (8 - (q + 1)) + 1 by omega)
          go_wp2
          go_roundw
          case rel => exact ⟨q, A3, c3, by omega, congrArg (fun z => Value.slice A3 z c3) (by omega), by rw [HL8.out, HE.out, ← List.append_assoc]; exact ho3, by go_num, hb3'⟩
          case measure => first | (simp [intOf]; done) | (simp [intOf]; omega)

end Go.Proofs.YtoiffchhfnbooaaGreatDoor
