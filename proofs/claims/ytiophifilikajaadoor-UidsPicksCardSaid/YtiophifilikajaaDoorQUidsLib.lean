/-
  The library's functions that package uids calls: their contracts in the words of lists of bytes as numbers: Itoa, Join, ParseUint, Cut, Index.
-/
import Derived.Test.YtiophifilikajaaDoorQUidsShelf
import Derived.Test.YtiophifilikajaaDoorQUidsMath
import Derived.Test.YtiophifilikajaaDoorRows
import Derived.Lib.Join
import Derived.Stop.LaidErr
import Derived.Shelf.Unicode.PredsPay
namespace Go.Proofs.YtiophifilikajaaDoor
set_option linter.unusedVariables false
set_option linter.unusedSimpArgs false
open Go.RowKit Go.Lib
set_option linter.unusedVariables false
set_option linter.unusedSimpArgs false

/-- the library's powers of ten lie as the text lays them -/
def Tens (w : World) : Prop := TabIs Tryd.prog w (Rows.uidsTextsRow.named.getD 5 default) .u64 pow10Tab
/-- .. and its two errors are there -/
def Std (w : World) : Prop := Tens w ∧ (∃ t p, w.cell? ⟨3, 0, none⟩ = some (.iface t p)) ∧ ∃ t p, w.cell? ⟨4, 0, none⟩ = some (.iface t p)
theorem Std.below {w w' : World} (h : Std w) (hb : Below w.heap.size w w') : Std w' := by
  have hs : (Tryd.prog.globalNamed (Rows.uidsTextsRow.named.getD 5 default)).isSome = true := by kernel_rfl
  obtain ⟨g, hg⟩ := Option.isSome_iff_exists.1 hs
  obtain ⟨h1, ⟨t, p, h2⟩, ⟨u, q, h3⟩⟩ := h
  exact ⟨TabIs_below hg h1 hb, ⟨t, p, (hb.cell (p := ⟨3, 0, none⟩) (World.block_lt_of_cell? _ _ h2)).trans h2⟩, ⟨u, q, (hb.cell (p := ⟨4, 0, none⟩) (World.block_lt_of_cell? _ _ h3)).trans h3⟩⟩
theorem Std.drewN {w : World} (h : Std w) (q : Nat) : Std (w.drewN q) := h.below (below_drewN (Below.refl _ _) q)

theorem itoa_any (u : Nat) (hu : u ≤ 9223372036854775807) (w : World) (hS : Std w) : Calls Tryd.prog 36 #[.int .i64 (u : Int)] w fun e w' => e = .returned (.string (strOf (digN u))) ∧ Below w.heap.size w w' := by
  refine (Any.strconv_Itoa uSM171 (u : Int) (by omega) (by omega) w hS.1).mono ?_
  rintro e w' ⟨rfl, k, os, rfl⟩
  exact ⟨by rw [itoa_nonneg, digN_str], below_grown w k os⟩

/-! Join -/
theorem joinTail_L (c : Nat) : ∀ (x : List Nat) (r : List (List Nat)), x.map UInt8.ofNat ++ joinTail [UInt8.ofNat c] (r.map fun p => p.map UInt8.ofNat) = (joinL c (x :: r)).map UInt8.ofNat
  | x, [] => by simp [joinTail, joinL]
  | x, y :: r => by
    have := joinTail_L c y r
    show _ = (x ++ c :: joinL c (y :: r)).map UInt8.ofNat
    rw [List.map_append, List.map_cons (l := joinL c (y :: r)), ← this]
    simp [joinTail]
theorem join_L (c : Nat) (l : List (List Nat)) : (⟨(Lib.join ((l.map strOf).map (·.data.toList)) (⟨#[UInt8.ofNat c]⟩ : ByteArray).data.toList).toArray⟩ : ByteArray) = strOf (joinL c l) := by
  refine data_inj ?_
  rw [strOf_data]
  have e : ((l.map strOf).map (·.data.toList)) = l.map fun p => p.map UInt8.ofNat := by
    rw [List.map_map]
    exact List.map_congr_left fun p _ => strOf_data p
  rw [e]
  show Lib.join _ [UInt8.ofNat c] = _
  cases l with
  | nil => rfl
  | cons x r => rw [List.map_cons, Lib.join_cons, joinTail_L]
theorem join_any (cb : UInt8) (A : Option Addr) (n c base : Nat) (l : List (List Nat)) (w : World) (h : OwnS w base A n c l) (hn : n ≤ 1000000) (hj : (joinL cb.toNat l).length ≤ 140737488355328) :
    Calls Tryd.prog 29 #[.slice A n c, .string ⟨#[cb]⟩] w fun e w' => e = .returned (.string (strOf (joinL cb.toNat l))) ∧ Below w.heap.size w w' := by
  have hl := h.len
  have hcb : UInt8.ofNat cb.toNat = cb := by simp
  by_cases h0 : n = 0
  · subst h0
    have hn : l = [] := List.eq_nil_of_length_eq_zero hl
    refine (Any.strings_Join_none uS156 uSBuilder_Extra_156 A c ⟨#[cb]⟩ w).mono ?_
    rintro e w' ⟨rfl, rfl⟩
    refine ⟨?_, Below.refl _ _⟩
    rw [hn]; rfl
  · obtain ⟨g, rfl, _, hg, hst, _, _⟩ := h.at_ (by omega)
    have hcap := h.cap
    have hje := join_L cb.toNat l
    rw [hcb] at hje
    have hjl : (Lib.join ((l.map strOf).map (·.data.toList)) (⟨#[cb]⟩ : ByteArray).data.toList).length ≤ 140737488355328 := by
      have e := congrArg ByteArray.size hje
      have e2 : ∀ L : List UInt8, (⟨L.toArray⟩ : ByteArray).size = L.length := fun L => by simp [ByteArray.size]
      rw [strOf_size, e2] at e
      omega
    have hx := Any.strings_Join uS156 uSBuilder_Extra_156 g 0 c (l.map strOf) ⟨#[cb]⟩ w (fun j x hj => by
        rw [List.getElem?_map] at hj
        obtain ⟨p, hp, rfl⟩ := Option.map_eq_some_iff.1 hj
        exact hst j p hp) hg (by rw [List.length_map]; omega) (by rw [List.length_map]; omega) hjl
    rw [List.length_map, hl, hje] at hx
    exact hx

/-! ParseUint -/
theorem pu_yes (s : ByteArray) (hs : s.size ≤ 140737488355328) (h : dgsB (nats s) = true) (w : World) :
    Calls Tryd.prog 49 #[.string s, .int .i64 10, .int .i64 32] w fun e w' => e = .returned (.tuple #[.int .u64 (uVal (nats s) : Nat), .nilIface]) ∧ Below w.heap.size w w' := by
  refine (Any.strconv_ParseUint_10_at32_ok uSPu14 s (by omega) _ (parseU_yes h) w).mono ?_
  rintro e w' ⟨rfl, hw⟩
  refine ⟨rfl, ?_⟩
  rcases hw with rfl | rfl
  · exact Below.refl _ _
  · exact Lib.bytesWorld_below _ _ _
theorem pu_no (s : ByteArray) (hs : s.size ≤ 140737488355328) (h : dgsB (nats s) = false) (w : World) (hS : Std w) :
    Calls Tryd.prog 49 #[.string s, .int .i64 10, .int .i64 32] w fun e w' => ∃ (z : Nat) (t : TypeId) (p : Value), e = .returned (.tuple #[.int .u64 (z : Int), .iface t p]) ∧ z ≤ 4294967295 ∧ Below w.heap.size w w' := by
  obtain ⟨_, ⟨t, p, h2⟩, ⟨u, q, h3⟩⟩ := hS
  rcases parseU_no h with hp | hp
  · refine (Any.strconv_ParseUint_10_at32_syntax uSPu14 s (by omega) hp _ w h2 (.inr ⟨_, _, rfl⟩)).mono ?_
    rintro e w' ⟨N, rfl, _, _, hb⟩
    exact ⟨0, _, _, rfl, by omega, hb⟩
  · refine (Any.strconv_ParseUint_10_at32_range uSPu14 s (by omega) hp _ w h3 (.inr ⟨_, _, rfl⟩)).mono ?_
    rintro e w' ⟨N, rfl, _, _, hb⟩
    exact ⟨4294967295, _, _, rfl, by omega, hb⟩

/-! Index, Cut -/
theorem index1_any (s : ByteArray) (c : UInt8) (w : World) : Calls Tryd.prog 47 #[.string s, .string ⟨#[c]⟩] w fun e w' => e = .returned (.int .i64 (Lib.indexB s ⟨#[c]⟩)) ∧ w = w' := by
  refine (Any.strings_Index_one uS143 s c w).mono ?_
  rintro e w' ⟨rfl, rfl⟩
  exact ⟨by rw [show Lib.indexB s ⟨#[c]⟩ = indexByte s.data.toList c from index_one _ _], rfl⟩
theorem slIndex_any (s : ByteArray) (c : UInt8) (w : World) : Calls Tryd.prog 55 #[.string s, .string ⟨#[c]⟩] w fun e w' => e = .returned (.int .i64 (Lib.indexB s ⟨#[c]⟩)) ∧ w = w' := by
  refine (Any.stringslite_Index_one uS219 s c w).mono ?_
  rintro e w' ⟨rfl, rfl⟩
  exact ⟨by rw [show Lib.indexB s ⟨#[c]⟩ = indexByte s.data.toList c from index_one _ _], rfl⟩
end Go.Proofs.YtiophifilikajaaDoor
