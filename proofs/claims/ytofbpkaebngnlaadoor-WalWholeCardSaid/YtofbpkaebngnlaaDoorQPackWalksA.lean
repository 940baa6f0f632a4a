/-
  Contracts over package pack: copies of bytes, a number laid behind bytes, numbers and texts laid; and of the document's own answers.
-/
import Derived.Test.YtofbpkaebngnlaaDoorProg
import Derived.Test.YtofbpkaebngnlaaDoorQCols
import Derived.Laws.BitsAllLaws
import Derived.Lib.SliceRun
namespace Go.Proofs.YtofbpkaebngnlaaDoor
set_option linter.unusedVariables false
set_option linter.unusedSimpArgs false
open Go.RowKit

theorem info_u8 : (Tryd.prog.info? 5).map (fun i => (i.zero, i.size, i.bytes)) = some (some (.int .u8 0), 1, 1) := by kernel_rfl
/-- a new slice of bytes -/
def Made (base : Nat) (w0 : World) (n : Nat) (l : List Nat) (e : Ending) (w' : World) : Prop :=
  ∃ A' c', e = .returned (.slice A' n c') ∧ OwnB w' base 5 A' n c' l ∧ Below base w0 w'
theorem Bytes.one (w : World) {b : Nat} (hb : b < 256) (t : TypeId) : Bytes (w.alloc (.cells #[.int .u8 (b : Int)] t)) (w.heap.size + 1) (some ⟨w.heap.size, 0, none⟩) 1 [b] := by
  refine ⟨rfl, by simpa using hb, fun _ => ⟨w.heap.size, 0, rfl, by omega, fun i hi => ?_⟩⟩
  obtain rfl : i = 0 := by omega
  rw [cell_of_row _ _ _ _ _ _ (heap_alloc_new w _)]
  rfl
theorem OwnB.alloc {w : World} {base n c : Nat} {e : TypeId} {A : Option Addr} {l : List Nat} (h : OwnB w base e A n c l) (o : Obj) : OwnB (w.alloc o) base e A n c l := h.below ((Below.refl _ _).alloc (Nat.le_refl _) _)

set_option maxHeartbeats 400000 in
theorem cloneB_any (A : Option Addr) (n c : Nat) (l : List Nat) (w : World) (hl : Bytes w w.heap.size A n l) (hn : n ≤ 1000000000) :
    Calls Tryd.prog 50 #[.slice A n c] w (Made w.heap.size w n l) := by
  cases A with
  | none =>
    have h0 : n = 0 := by
      rcases Nat.eq_zero_or_pos n with h | h
      · exact h
      · obtain ⟨b, o, h', _⟩ := hl.2.2 h; cases h'
    subst h0
    have hl' : l = [] := List.eq_nil_of_length_eq_zero hl.1
    subst hl'
    have heq := fun W => Lib.run_eql_slice_nil (P := Tryd.prog) W 32 5 none 0 c 0 0 Tryd.underlying32
    go_enter Tryd.func50, Tryd.ntmps50
    go_wp2
    go_ret
    exact ⟨_, _, rfl, OwnB.nil, Below.refl _ _⟩
  | some a =>
    have heq := fun W => Lib.run_eql_slice_nil (P := Tryd.prog) W 32 5 (some a) n c 0 0 Tryd.underlying32
    go_enter Tryd.func50, Tryd.ntmps50
    go_wp2_with ((with_reducible show wpList _ _ _ (⟨some 7, _, _, _, _, _⟩ :: _) _ _); refine holdB ?_)
    refine heldB (wpList_append_bytes rfl (.tmp 5) (.tmp 6) 32 rfl Tryd.underlying32 info_u8 w.heap.size (some ⟨w.heap.size, 0, none⟩) 0 0 [] rfl (OwnB.empty w 5) w.heap.size (some a) n c l rfl
      (hl.below ((Below.refl _ _).alloc (Nat.le_refl _) _) (Nat.le_refl _)) (by omega) (by simp) ?_)
    intro A3 c3 w3 ho3 hb3 hg3
    clear hg3
    have hb3' : Below w.heap.size w w3 := ((Below.refl _ _).alloc (Nat.le_refl _) _).trans hb3
    rw [Nat.zero_add, List.nil_append] at ho3
    rw [Nat.zero_add]
    go_wp2
    go_ret
    exact ⟨_, _, rfl, ho3, hb3'⟩

set_option maxHeartbeats 400000 in
theorem lay_any (A : Option Addr) (n c k v base : Nat) (l : List Nat) (w : World) (hl : OwnB w base 5 A n c l) (hn : n + k ≤ 1000000000) (hk : k ≤ 8) (hv : v < 18446744073709551616) (hbase : base ≤ w.heap.size) :
    Calls Tryd.prog 51 #[.slice A n c, .int .i64 (k : Int), .int .u64 (v : Int)] w (Made base w (n + k) (l ++ encB k v)) := by
  have HV := hide hv
  clear hv
  go_enter Tryd.func51, Tryd.ntmps51
  go_wp2
  go_loopw [0, 7] (fun s t wr => ∃ m A' c', m ≤ k ∧ s = .slice A' (n + (k - m)) c' ∧ OwnB wr base 5 A' (n + (k - m)) c' (l ++ encB (k - m) (v / 256 ^ m)) ∧ t = .int .i64 (8 * (m : Int) - 8) ∧ Below base w wr) (fun _ t _ => (intOf t + 8).toNat)
  case atStart => exact ⟨k, A, c, Nat.le_refl _, by simp, by rw [Nat.sub_self]; simpa [encB] using hl, by go_num, Below.refl _ _⟩
  case round =>
    obtain ⟨m, A', c', hm, rfl, ho, rfl, hb⟩ := hrel
    by_cases h0 : m = 0
    · subst h0
      go_wp2
      go_ret
      refine ⟨A', c', rfl, ?_, hb⟩
      simpa using ho
    · obtain ⟨j, rfl⟩ : ∃ j, m = j + 1 := ⟨m - 1, by omega⟩
      have e1 : (8 * ((j + 1 : Nat) : Int) - 8) = 8 * (j : Int) := by omega
      rw [e1]
      have hbyte : (v : Int) / 2 ^ (8 * j) % 256 = ((v / 256 ^ j % 256 : Nat) : Int) := by
        rw [show (2 : Int) ^ (8 * j) = ((256 ^ j : Nat) : Int) by rw [Int.pow_mul]; simp]
        omega
      have HB := hide hbyte
      clear hbyte
      go_wp2_with ((with_reducible show wpList _ _ _ (⟨some 21, _, _, _, _, _⟩ :: _) _ _); refine holdB ?_)
      rw [HB.out]
      refine heldB (wpList_append_bytes rfl (.tmp 15) (.tmp 20) 32 rfl Tryd.underlying32 info_u8 base A' (n + (k - (j + 1))) c' _ rfl (ho.alloc _) _ _ 1 1 _ rfl (Bytes.one wr (Nat.mod_lt _ (by omega)) _) (by omega) (by have := hb.size; simp; omega) ?_)
      intro A3 c3 w3 ho3 hb3 hg3
      clear hg3
      have hbb : Below base w w3 := (hb.alloc (Nat.le_trans hbase hb.size) _).trans hb3
      have HL := hide (show k - j = k - (j + 1) + 1 by omega)
      go_wp2
      go_roundw
      case rel => exact ⟨j, A3, c3, by omega, by rw [HL.out]; rfl, by
        rw [HL.out, encB, Nat.div_div_eq_div_mul, ← Nat.pow_succ, ← List.append_assoc]
        exact ho3, by go_num, hbb⟩
      case measure => simp [intOf]; omega

theorem run_make_u8 (W : World) (k : Nat) (hk : k ≤ 1000000000) : (Instr.makeSlice 32 (.int .i64 (k : Int)) (.int .i64 (k : Int))).run Tryd.prog W = .ok (.slice (some ⟨W.heap.size, 0, none⟩) k k) (W.alloc (.cells (madeCells #[.int .u8 0] k) 5)) := by
  obtain ⟨i, hi, hz, hs, hby⟩ := info_parts info_u8
  have := run_make (P := Tryd.prog) W 32 5 i (.int .u8 0) Tryd.underlying32 hi hz .i64 .i64 (k : Int) (k : Int) (by omega) (by omega) (by rw [hby]; omega) (by omega)
  rw [hs, show (Value.int .u8 0).cells = #[.int .u8 0] from rfl] at this
  simpa using this
theorem OwnB.made (w : World) (k : Nat) (hk : k ≤ 1000000000) (e : TypeId) : OwnB (w.alloc (.cells (madeCells #[.int .u8 0] k) e)) w.heap.size e (some ⟨w.heap.size, 0, none⟩) k k (List.replicate k 0) := by
  refine ⟨⟨by simp, .inr ⟨w.heap.size, k, madeCells #[.int .u8 0] k, rfl, Nat.le_refl _, heap_alloc_new w _, Nat.le_refl _, by unfold maxLen; omega, ?_, ?_⟩⟩, ?_⟩
  · simp [size_madeCells]
  · apply List.ext_getElem?
    intro i
    by_cases hi : i < k
    · simp [madeCells, hi, bv, List.getElem?_take, Nat.mod_one]
    · rw [List.getElem?_eq_none (by simp [size_madeCells]; omega), List.getElem?_eq_none (by simp; omega)]
  · intro x hx
    rw [(List.mem_replicate.1 hx).2]
    omega
theorem set_front (j r v x : Nat) (hx : x = v / 256 ^ r % 256) : (List.replicate (j + 1) 0 ++ encB r v).set j x = List.replicate j 0 ++ encB (r + 1) v := by
  rw [encB_front, hx, List.replicate_succ', List.append_assoc, List.set_append_right _ _ (by simp)]
  simp

theorem decB_take (l : List Nat) (k : Nat) (h : k < l.length) : decB (l.take (k + 1)) = decB (l.take k) * 256 + byteAt l k := by rw [take_snoc' l k h, decB_snoc]
theorem clampB_neg {z : Int} (h : z < 0) : clampB z = 0 := by unfold clampB; omega
theorem clampB_mid {z : Int} (h0 : 0 ≤ z) (h1 : z ≤ 4611686018427387904) : clampB z = z.toNat := by unfold clampB; omega
theorem clampB_top {z : Int} (h : 4611686018427387904 < z) : clampB z = 4611686018427387904 := by unfold clampB; omega

/-- the first 4096 bytes of a text -/
def cutS (z : ByteArray) : ByteArray := z.extract 0 4096
theorem cutS_nats (z : ByteArray) : nats (cutS z) = (nats z).take 4096 := by
  have h := strOf_to (nats z) 4096
  rw [strOf_nats] at h
  unfold cutS
  rw [h, nats_strOf _ (fun x hx => nats_lt z x (List.mem_of_mem_take hx))]
theorem cutS_short {z : ByteArray} (h : z.size ≤ 4096) : cutS z = z := by
  rw [← strOf_nats (cutS z), cutS_nats, List.take_of_length_le (by rw [nats_length]; exact h), strOf_nats]
theorem cutS_size (z : ByteArray) : (cutS z).size = min 4096 z.size := by rw [← nats_length, cutS_nats, List.length_take, nats_length]
theorem textB_cut (z : ByteArray) : textB (nats z) = encB 4 (cutS z).size ++ nats (cutS z) := by unfold textB; rw [← cutS_nats, nats_length]

set_option maxHeartbeats 400000 in
/-- the same bytes? -/
theorem same3_any (A : Option Addr) (n c B : Nat) (l : List Nat) (A' : Option Addr) (n' c' B' : Nat) (l' : List Nat) (w : World) (hl : Bytes w B A n l) (hl' : Bytes w B' A' n' l') :
    Calls Tryd.prog 33 #[.slice A n c, .slice A' n' c'] w fun e w' => e = .returned (.bool (decide (l = l'))) ∧ w = w' := by
  have h1 := run_str_of_bytes (P := Tryd.prog) (c := c) hl Tryd.underlying32 Tryd.underlying5 Tryd.underlying9
  have h2 := run_str_of_bytes (P := Tryd.prog) (c := c') hl' Tryd.underlying32 Tryd.underlying5 Tryd.underlying9
  have he := strOf_eqb l l' hl.2.1 hl'.2.1
  generalize decide (l = l') = b at *
  go_enter Tryd.func33, Tryd.ntmps33
  go_wp2
  go_ret
  exact ⟨rfl, rfl⟩
end Go.Proofs.YtofbpkaebngnlaaDoor

/-
  Contracts over package pack: its reader, as the bytes that are left and the error.
-/
namespace Go.Proofs.YtofbpkaebngnlaaDoor
set_option linter.unusedVariables false
set_option linter.unusedSimpArgs false
open Go.RowKit

/-- the program's reader in block g -/
def RdP (w : World) (g : Nat) (l : List Nat) (e : Nat) : Prop := w.heap[g]? = some (.cells #[.string (strOf l), .int .i64 (e : Int)] 112)
section
variable {w w' : World} {g e : Nat} {l : List Nat}
theorem RdP.lt (h : RdP w g l e) : g < w.heap.size := (Array.getElem?_eq_some_iff.1 h).1
theorem RdP.c0 (h : RdP w g l e) : w.cell? ⟨g, 0, none⟩ = some (.string (strOf l)) := by rw [cell_of_row w g 0 _ _ (0, 0) h]; rfl
theorem RdP.c1 (h : RdP w g l e) : w.cell? ⟨g, 1, none⟩ = some (.int .i64 (e : Int)) := by rw [cell_of_row w g 1 _ _ (0, 0) h]; rfl
theorem RdP.f0 (h : RdP w g l e) : w.frozen? ⟨g, 0, none⟩ = false := frozen_of_row w g 0 _ _ h
theorem RdP.f1 (h : RdP w g l e) : w.frozen? ⟨g, 1, none⟩ = false := frozen_of_row w g 1 _ _ h
theorem RdP.grown (h : RdP w g l e) {row : Option Nat} (hg : w.grownBy w' row) (hr : some g ≠ row) : RdP w' g l e := (hg.block g h.lt hr).trans h
theorem RdP.below (h : RdP w g l e) {B : Nat} (hb : Below B w w') (hB : g < B) : RdP w' g l e := (hb.block g hB).trans h
theorem RdP.put0 (h : RdP w g l e) (l' : List Nat) : RdP (w.setCell ⟨g, 0, none⟩ (.string (strOf l'))) g l' e := by
  have := heap_setCell_same w g 0 _ _ (.string (strOf l')) h
  exact this
theorem RdP.put1 (h : RdP w g l e) (e' : Nat) : RdP (w.setCell ⟨g, 1, none⟩ (.int .i64 (e' : Int))) g l e' := by
  have := heap_setCell_same w g 1 _ _ (.int .i64 (e' : Int)) h
  exact this
theorem RdP.new (w : World) (l : List Nat) : RdP (w.alloc (.cells #[.string (strOf l), .int .i64 0] 112)) w.heap.size l 0 := heap_alloc_new w _
end
theorem grownBy_setCell (w : World) (b i : Nat) (v : Value) : w.grownBy (w.setCell ⟨b, i, none⟩ v) (some b) :=
  ⟨rfl, rfl, rfl, by simp, fun k _ hr => Below.heap_setCell w _ v k (fun e => hr (by rw [e]))⟩

/-- behind a call of a method: the reader stands so, and all else is as it was -/
def Stood (g : Nat) (l : List Nat) (e : Nat) (w w' : World) : Prop := RdP w' g l e ∧ w.grownBy w' (some g)
def Gave (v : Value) (g : Nat) (l : List Nat) (e : Nat) (w : World) (x : Ending) (w' : World) : Prop := x = .returned v ∧ Stood g l e w w'

/-- the error behind a note -/
def noteE (e k : Nat) : Nat := if e = 0 then k else e
theorem noteE_0 (k : Nat) : noteE 0 k = k := rfl
theorem noteE_ne {e : Nat} (k : Nat) (h : e ≠ 0) : noteE e k = e := if_neg h

set_option maxHeartbeats 400000 in
theorem note_any (g e k : Nat) (l : List Nat) (w : World) (h : RdP w g l e) :
    Calls Tryd.prog 63 #[.pointer (some ⟨g, 0, none⟩), .int .i64 (k : Int)] w (Gave (.tuple #[]) g l (noteE e k) w) := by
  have h1 := h.c1
  have h2 := h.f1
  have hp := h.put1 k
  by_cases he : e = 0
  · subst he
    rw [noteE_0]
    have H := hide h
    clear h
    go_enter Tryd.func63, Tryd.ntmps63
    go_wp2
    go_end0
    exact ⟨rfl, hp, grownBy_setCell _ _ _ _⟩
  · rw [noteE_ne k he]
    have heb : ((e : Int) == 0) = false := by simp; omega
    have H := hide h
    clear h
    go_enter Tryd.func63, Tryd.ntmps63
    go_wp2
    go_end0
    exact ⟨rfl, H.out, World.grownBy.refl _ _⟩

/-- a nil reader has nothing to note -/
theorem note_nil (k : Int) (w : World) : Calls Tryd.prog 63 #[.pointer none, .int .i64 k] w fun e w' => e = .returned (.tuple #[]) ∧ w = w' := by
  go_enter Tryd.func63, Tryd.ntmps63
  go_wp2
  go_end0
  exact ⟨rfl, rfl⟩

theorem takeV_ok {l : List Nat} {n : Nat} (h : n ≤ l.length) : takeV l 0 n = l.take n := if_pos ⟨rfl, h⟩
theorem takeL_ok {l : List Nat} {n : Nat} (h : n ≤ l.length) : takeL l 0 n = l.drop n := if_pos ⟨rfl, h⟩
theorem takeE_ok {l : List Nat} {n : Nat} (h : n ≤ l.length) : takeE l 0 n = 0 := if_neg (by omega)
theorem takeV_short {l : List Nat} {n : Nat} (h : l.length < n) : takeV l 0 n = [] := if_neg (by omega)
theorem takeL_short {l : List Nat} {n : Nat} (h : l.length < n) : takeL l 0 n = l := if_neg (by omega)
theorem takeE_short {l : List Nat} {n : Nat} (h : l.length < n) : takeE l 0 n = 2 := if_pos ⟨rfl, h⟩
theorem strOf_nil : strOf [] = ⟨#[]⟩ := rfl

set_option maxRecDepth 20000 in
set_option maxHeartbeats 400000 in
theorem ptake_any (g e n : Nat) (l : List Nat) (w : World) (h : RdP w g l e) (hl : l.length ≤ 140737488355328) (hn : n ≤ 18446744073709551615 / 2) :
    Calls Tryd.prog 64 #[.pointer (some ⟨g, 0, none⟩), .int .i64 (n : Int)] w (Gave (.string (strOf (takeV l e n))) g (takeL l e n) (takeE l e n) w) := by
  have h0 := h.c0
  have h1 := h.c1
  have h2 := h.f0
  have hsz := strOf_size l
  by_cases he : e = 0
  · subst he
    have HP := hide (h.put0 (l.drop n))
    have HT := hide (strOf_to l n)
    have HF := hide (strOf_from l n l.length (Nat.le_refl _))
    by_cases hlt : l.length < n
    · rw [takeV_short hlt, takeL_short hlt, takeE_short hlt, strOf_nil]
      have H := hide h
      clear h
      generalize strOf l = s at *
      go_enter Tryd.func64, Tryd.ntmps64
      go_wp2_with fail
      refine (note_any g 0 2 l w H.out).mono ?_
      rintro e' w1 ⟨rfl, hr1, hg1⟩
      rw [noteE_0] at hr1
      go_wp2
      go_ret
      exact ⟨rfl, hr1, hg1⟩
    · have hle : n ≤ l.length := by omega
      rw [takeV_ok hle, takeL_ok hle, takeE_ok hle]
      have H := hide h
      clear h
      generalize strOf l = s at *
      go_enter Tryd.func64, Tryd.ntmps64
      go_wp2
      rw [HT.out, HF.out]
      go_ret
      exact ⟨rfl, HP.out, grownBy_setCell _ _ _ _⟩
  · rw [takeV_stays he, takeL_stays he, takeE_stays he, strOf_nil]
    have heb : ((e : Int) == 0) = false := by simp; omega
    have H := hide h
    clear h
    generalize strOf l = s at *
    go_enter Tryd.func64, Tryd.ntmps64
    go_wp2
    go_ret
    exact ⟨rfl, H.out, World.grownBy.refl _ _⟩

theorem or8 (x y : Nat) (hx : x < 72057594037927936) (hy : y < 256) : bits .or .u64 ((x : Int) * 256) (y : Int) = ((x * 256 + y : Nat) : Int) := by
  have h := u64_or_nat (x * 256) y (by omega) (by omega)
  rw [nat_join 8 (x * 256) y (by omega) (by omega)] at h
  exact h
theorem pow256_le {k m : Nat} (h : k ≤ m) : 256 ^ k ≤ 256 ^ m := Nat.pow_le_pow_right (by omega) h

set_option maxRecDepth 20000 in
set_option maxHeartbeats 400000 in
theorem praw_any (g e n : Nat) (l : List Nat) (w : World) (h : RdP w g l e) (hl : l.length ≤ 140737488355328) (hb : ∀ x ∈ l, x < 256) (hn : n ≤ 8) :
    Calls Tryd.prog 62 #[.pointer (some ⟨g, 0, none⟩), .int .i64 (n : Int)] w (Gave (.int .u64 ((decB (takeV l e n) : Nat) : Int)) g (takeL l e n) (takeE l e n) w) := by
  have kc := fun W s => Lib.run_convert_string_bytes (P := Tryd.prog) W 9 32 5 s Tryd.underlying9 Tryd.underlying32 Tryd.underlying5
  go_enter Tryd.func62, Tryd.ntmps62
  go_wp2_with fail
  refine (ptake_any g e n l w h hl (by omega)).mono ?_
  rintro e' w1 ⟨rfl, hr1, hg1⟩
  have hv : ∀ x ∈ takeV l e n, x < 256 := takeV_lt hb
  have hvl : (takeV l e n).length ≤ n := takeV_len
  generalize takeV l e n = v at *
  generalize takeL l e n = l' at *
  generalize takeE l e n = e2 at *
  have hS : (strOf v).size = v.length := strOf_size v
  have HNS := hide (nats_strOf v hv)
  generalize strOf v = s at *
  go_wp2
  clear kc
  have hB := bytesWorld_bytes w1 5 s
  rw [HNS.out, hS] at hB
  have hgW := grownBy_trans hg1 (bytesWorld_grown w1 5 s (some g))
  have hrW := hr1.grown (bytesWorld_grown w1 5 s none) (by simp)
  generalize Lib.bytesWorld w1 5 s = W at *
  generalize w1.heap.size = bb at *
  clear hr1 hg1 hS HNS
  have HP := hide hrW
  clear hrW h
  go_loop [5, 13] (fun t i => ∃ k : Nat, k ≤ v.length ∧ i = .int .i64 k ∧ t = .int .u64 ((decB (v.take k) : Nat) : Int)) (fun _ i => v.length - (intOf i).toNat)
  case atStart => exact ⟨0, Nat.zero_le _, rfl, rfl⟩
  case round =>
    obtain ⟨k, hk, rfl, rfl⟩ := hrel
    by_cases hlt : k < v.length
    · obtain ⟨b, o, hA, _, hc⟩ := hB.at_ hlt
      injection hA with hA
      injection hA with hA1 hA2
      subst hA1; subst hA2
      rw [Nat.zero_add] at hc
      have hby := hB.lt k
      have hx : decB (v.take k) < 72057594037927936 := by
        have h1 := decB_lt (v.take k) (fun x hx => hv x (List.mem_of_mem_take hx))
        have h2 : 256 ^ (v.take k).length ≤ 256 ^ 7 := pow256_le (by rw [List.length_take]; omega)
        omega
      have HT := hide (decB_take v k hlt)
      have HO := fun hx => hide (or8 (decB (v.take k)) (byteAt v k) hx hby)
      have HO := HO hx
      generalize decB (v.take k) = x at *
      generalize byteAt v k = y at *
      go_wp2
      go_round
      case rel => exact ⟨k + 1, by omega, by go_num, by rw [HO.out, HT.out]⟩
      case measure => simp [intOf]; omega
    · have HK := hide (show v.take k = v from List.take_of_length_le (by omega))
      rw [HK.out]
      go_wp2
      go_ret
      exact ⟨rfl, HP.out, hgW⟩

theorem Stood.trans {g : Nat} {l l' : List Nat} {e e' : Nat} {w w' w'' : World} (h : Stood g l e w w') (h' : Stood g l' e' w' w'') : Stood g l' e' w w'' := ⟨h'.1, grownBy_trans h.2 h'.2⟩

set_option maxRecDepth 20000 in
set_option maxHeartbeats 400000 in
theorem pNum_any (g e : Nat) (l : List Nat) (w : World) (h : RdP w g l e) (hl : l.length ≤ 140737488355328) (hb : ∀ x ∈ l, x < 256) :
    Calls Tryd.prog 58 #[.pointer (some ⟨g, 0, none⟩)] w (Gave (.int .i64 ((numV l e : Nat) : Int)) g (takeL l e 8) (numE l e) w) := by
  have HV : Hid (numV l e = if 4611686018427387904 < decB (takeV l e 8) then 0 else decB (takeV l e 8)) := hide rfl
  have HE : Hid (numE l e = if 4611686018427387904 < decB (takeV l e 8) then 3 else takeE l e 8) := hide rfl
  have HX : Hid (takeE l e 8 ≠ 0 → takeV l e 8 = []) := hide takeV_err
  go_enter Tryd.func58, Tryd.ntmps58
  go_wp2_with fail
  refine (praw_any g e 8 l w h hl hb (by omega)).mono ?_
  rintro e' w1 ⟨rfl, hs1⟩
  generalize takeV l e 8 = v at *
  generalize takeE l e 8 = e1 at *
  generalize takeL l e 8 = l1 at *
  by_cases hg : 4611686018427387904 < decB v
  · have he : e1 = 0 := by
      rcases Nat.eq_zero_or_pos e1 with h0 | h0
      · exact h0
      · have := HX.out (by omega); subst this; rw [decB_nil] at hg; omega
    subst he
    have HV2 := hide (HV.out.trans (if_pos hg))
    have HE2 := hide (HE.out.trans (if_pos hg))
    have hgi : (4611686018427387904 : Int) < ((decB v : Nat) : Int) := by omega
    clear hg HV HE HX
    generalize decB v = x at *
    go_wp2_with fail
    refine (note_any g 0 3 l1 w1 hs1.1).mono ?_
    rintro e' w2 ⟨rfl, hs2⟩
    rw [noteE_0] at hs2
    go_wp2
    go_ret
    rw [HV2.out, HE2.out]
    exact ⟨rfl, hs1.trans hs2⟩
  · have HV2 := hide (HV.out.trans (if_neg hg))
    have HE2 := hide (HE.out.trans (if_neg hg))
    have hgi : ¬ (4611686018427387904 : Int) < ((decB v : Nat) : Int) := by omega
    clear hg HV HE HX
    generalize decB v = x at *
    go_wp2
    go_ret
    rw [HV2.out, HE2.out]
    exact ⟨rfl, hs1⟩

end Go.Proofs.YtofbpkaebngnlaaDoor

/-
  Contracts over package pack: a new reader, a nil reader; and the document's own reader.
-/
namespace Go.Proofs.YtofbpkaebngnlaaDoor
set_option linter.unusedVariables false
set_option linter.unusedSimpArgs false
open Go.RowKit

/-- a new reader of bytes -/
def NewRd (l : List Nat) (w : World) (x : Ending) (w' : World) : Prop := x = .returned (.pointer (some ⟨w.heap.size, 0, none⟩)) ∧ RdP w' w.heap.size l 0 ∧ Below w.heap.size w w'
set_option maxHeartbeats 400000 in
theorem pFrom_any (A : Option Addr) (n c B : Nat) (l : List Nat) (w : World) (hl : Bytes w B A n l) :
    Calls Tryd.prog 57 #[.slice A n c] w (NewRd l w) := by
  have kc := run_str_of_bytes (P := Tryd.prog) (c := c) hl Tryd.underlying32 Tryd.underlying5 Tryd.underlying9
  have H := hide (RdP.new w l)
  generalize strOf l = s at *
  go_enter Tryd.func57, Tryd.ntmps57
  go_wp2
  go_ret
  exact ⟨rfl, H.out, (Below.refl _ _).alloc (Nat.le_refl _) _⟩

set_option maxHeartbeats 400000 in
theorem take_nil (n : Nat) (w : World) : Calls Tryd.prog 64 #[.pointer none, .int .i64 (n : Int)] w fun e w' => e = .returned (.string ⟨#[]⟩) ∧ w = w' := by
  go_enter Tryd.func64, Tryd.ntmps64
  go_wp2
  go_ret
  exact ⟨rfl, rfl⟩
set_option maxHeartbeats 400000 in
theorem raw_nil (n : Nat) (w : World) : Calls Tryd.prog 62 #[.pointer none, .int .i64 (n : Int)] w fun e w' => e = .returned (.int .u64 0) ∧ Below w.heap.size w w' := by
  have kc := fun W s => Lib.run_convert_string_bytes (P := Tryd.prog) W 9 32 5 s Tryd.underlying9 Tryd.underlying32 Tryd.underlying5
  have hb : Below w.heap.size w (Lib.bytesWorld w 5 ⟨#[]⟩) := (Below.refl _ _).grown (bytesWorld_grown w 5 ⟨#[]⟩ none) (Nat.le_refl _) (fun k hk => by cases hk)
  have hz : (⟨#[]⟩ : ByteArray).size = 0 := rfl
  go_enter Tryd.func62, Tryd.ntmps62
  go_wp2_with fail
  refine (take_nil n w).mono ?_
  rintro e w1 ⟨rfl, rfl⟩
  generalize hs : (⟨#[]⟩ : ByteArray) = s at *
  clear hs
  go_wp2
  clear kc
  generalize Lib.bytesWorld w 5 s = W at *
  go_loop [5, 13] (fun t i => i = .int .i64 0 ∧ t = .int .u64 0) (fun _ _ => 0)
  case atStart => exact ⟨rfl, rfl⟩
  case round =>
    obtain ⟨rfl, rfl⟩ := hrel
    go_wp2
    go_ret
    exact ⟨rfl, hb⟩
set_option maxHeartbeats 400000 in
theorem num_nil (w : World) : Calls Tryd.prog 58 #[.pointer none] w fun e w' => e = .returned (.int .i64 0) ∧ Below w.heap.size w w' := by
  go_enter Tryd.func58, Tryd.ntmps58
  go_wp2_with fail
  refine (raw_nil 8 w).mono ?_
  rintro e w1 ⟨rfl, hb⟩
  go_wp2
  go_ret
  exact ⟨rfl, hb⟩

section
variable {w w' : World} {g B e : Nat} {l : List Nat}
end
theorem Bytes.to {w : World} {B n : Nat} {A : Option Addr} {l : List Nat} (h : Bytes w B A n l) {k : Nat} (hk : k ≤ n) : Bytes w B A k (l.take k) :=
  ⟨by rw [List.length_take, h.1]; omega, fun x hx => h.2.1 x (List.mem_of_mem_take hx), fun h0 => by
    obtain ⟨b, o, e, hb, hc⟩ := h.2.2 (by omega)
    refine ⟨b, o, e, hb, fun i hi => ?_⟩
    rw [hc i (by omega)]
    unfold byteAt
    simp [List.getD_eq_getElem?_getD, List.getElem?_take, hi]⟩
theorem Bytes.from_ {w : World} {B n : Nat} {b o : Nat} {l : List Nat} (h : Bytes w B (some ⟨b, o, none⟩) n l) {k : Nat} (hk : k ≤ n) (hkn : 0 < n) : Bytes w B (some ⟨b, o + k, none⟩) (n - k) (l.drop k) :=
  ⟨by rw [List.length_drop, h.1], fun x hx => h.2.1 x (List.mem_of_mem_drop hx), fun h0 => by
    obtain ⟨b', o', e, hb, hc⟩ := h.2.2 (by omega)
    injection e with e
    injection e with e1 e2
    subst e1; subst e2
    refine ⟨b, o + k, rfl, hb, fun i hi => ?_⟩
    rw [Nat.add_assoc, hc (k + i) (by omega)]
    unfold byteAt
    simp [List.getD_eq_getElem?_getD, List.getElem?_drop]⟩

theorem Bytes.rest {w : World} {B n : Nat} {A : Option Addr} {l : List Nat} (h : Bytes w B A n l) {k : Nat} (hk : k ≤ n) : Bytes w B (A.map fun x => x.add k) (n - k) (l.drop k) := by
  by_cases h0 : n - k = 0
  · rw [h0, List.drop_eq_nil_of_le (by rw [h.1]; omega)]
    exact Bytes.nil
  · obtain ⟨b, o, rfl, _⟩ := h.2.2 (by omega)
    have e : (some (⟨b, o, none⟩ : Addr)).map (fun x => x.add k) = some ⟨b, o + k, none⟩ := by rw [Option.map_some, Addr.add_mid]
    rw [e]
    exact h.from_ hk (by omega)

theorem numB_pos {l : List Nat} (h : ¬ 4611686018427387904 < decB l) : numB l = (decB l : Int) := if_neg h
theorem numB_neg {l : List Nat} (h : 4611686018427387904 < decB l) : numB l = -1 := if_pos h

end Go.Proofs.YtofbpkaebngnlaaDoor

/-
  Contracts over package pack: Num and Text lay many numbers and texts behind bytes.
-/
namespace Go.Proofs.YtofbpkaebngnlaaDoor
set_option linter.unusedVariables false
set_option linter.unusedSimpArgs false
open Go.RowKit

theorem Col.sub {α : Type} {f : α → Value} {w : World} {B n : Nat} {A : Option Addr} {l : List α} (h : Col f w B A n l) {p : α → Prop} (hp : ∀ a ∈ l, p a) {k : Nat} {a : α} (hk : l[k]? = some a) : p a := hp a (List.mem_of_getElem? hk)

set_option maxRecDepth 20000 in
set_option maxHeartbeats 1000000 in
theorem pnum_any (A : Option Addr) (n c : Nat) (l : List Nat) (A' : Option Addr) (m c' : Nat) (zs : List Int) (w : World) (hl : Bytes w w.heap.size A n l) (hz : Col (fun z => .int .i64 z) w w.heap.size A' m zs) (hn : n + 8 * m ≤ 1000000000) :
    Calls Tryd.prog 42 #[.slice A n c, .slice A' m c'] w (Made w.heap.size w (n + 8 * m) (l ++ numsB zs)) := by
  go_enter Tryd.func42, Tryd.ntmps42
  go_wp2_with fail
  refine (cloneB_any A n c l w hl (by omega)).mono ?_
  rintro e w1 ⟨A1, c1, rfl, ho1, hb1⟩
  go_wp2
  go_loopw [5, 12] (fun s t wr => ∃ k : Nat, k ≤ m ∧ t = .int .i64 k ∧ ∃ A2 c2, s = .slice A2 (n + 8 * k) c2 ∧ OwnB wr w.heap.size 5 A2 (n + 8 * k) c2 (l ++ numsB (zs.take k)) ∧ Below w.heap.size w wr) (fun _ t _ => m - (intOf t).toNat)
  case atStart => exact ⟨0, Nat.zero_le _, rfl, A1, c1, rfl, by rw [show numsB (zs.take 0) = [] from rfl, List.append_nil]; exact ho1, hb1⟩
  case round =>
    obtain ⟨k, hk, rfl, A2, c2, rfl, ho, hb⟩ := hrel
    by_cases hlt : k < m
    · obtain ⟨b, o, z, rfl, hbl, -, ht, hc⟩ := (hz.below hb (Nat.le_refl _)).at_ hlt
      have HT := hide ht
      clear ht
      have HN := hide (numsB_snoc (zs.take k) z)
      have hmm : (if (4611686018427387904 : Int) < (if z < 0 then 0 else z) then 4611686018427387904 else (if z < 0 then 0 else z)) = ((clampB z : Nat) : Int) := by
        unfold clampB
        split <;> split at * <;> omega
      have hcl := clampB_le z
      go_wp2_with fail
      all_goals
        refine (lay_any A2 _ c2 8 (clampB z) w.heap.size _ wr ho (by omega) (by omega) (by omega) hb.size).mono ?_
        rintro e w3 ⟨A3, c3, rfl, ho3, hb3⟩
        have hb3' := hb.trans hb3
        go_wp2
        go_roundw
        case rel => exact ⟨k + 1, by omega, by go_num, A3, c3, rfl, by rw [HT.out, HN.out, ← List.append_assoc]; exact ho3, hb3'⟩
        case measure => simp [intOf]; omega
    · have HK := hide (show zs.take k = zs from List.take_of_length_le (by rw [hz.1]; omega))
      obtain rfl : k = m := by omega
      go_wp2
      go_ret
      exact ⟨A2, c2, rfl, by rw [HK.out] at ho; exact ho, hb⟩

theorem textsB_take_le (ss : List ByteArray) (k : Nat) (h : k ≤ ss.length) : (textsB ((ss.take k).map nats)).length ≤ 4100 * k := by
  have := textsB_length ((ss.take k).map nats)
  rw [List.length_map, List.length_take, Nat.min_eq_left h] at this
  exact this

end Go.Proofs.YtofbpkaebngnlaaDoor
