/-
  Contracts over package box and the document's own: a message's place, how many have flags.
-/
import Derived.Test.YthmlgbeonmpbjaaQBoxA
import Derived.Laws.EntriesVeiled
namespace Go.Proofs.Ythmlgbeonmpbjaa
set_option linter.unusedVariables false
set_option linter.unusedSimpArgs false
open Go.RowKit
set_option linter.unusedVariables false
set_option linter.unusedSimpArgs false

theorem row4 {w : World} {b o : Nat} {x : Hd} (h : w.rangeAt b o (hdC x)) : w.cell? ⟨b, o, none⟩ = some (.int .i64 x.m.uid) ∧ w.cell? ⟨b, o + 1, none⟩ = some (.int .i64 x.m.flags) ∧ w.cell? ⟨b, o + 2, none⟩ = some (.int .i64 x.m.date) ∧ w.cell? ⟨b, o + 3, none⟩ = some (.slice x.A x.n x.c) :=
  ⟨h 0 _ rfl, h 1 _ rfl, h 2 _ rfl, h 3 _ rfl⟩
theorem missed2 {l : List Mg} {u : Int} {k : Nat} {a : Mg} (h : ∀ m ∈ l.take k, m.uid ≠ u) (ht : l.take (k + 1) = l.take k ++ [a]) (he : (a.uid == u) = false) : ∀ m ∈ l.take (k + 1), m.uid ≠ u := missed h ht (fun e => by rw [e] at he; simp at he)
theorem all_missed {l : List Mg} {u : Int} {k n : Nat} (h : ∀ m ∈ l.take k, m.uid ≠ u) (hl : l.length = n) (hk : ¬ k < n) : placeN l u = 0 := placeN_none (by rwa [List.take_of_length_le (by omega)] at h)

theorem place1_any (bu : Nat) (uid u f d : Int) (A : Option Addr) (n c : Nat) (w : World) (hu : w.cell? ⟨bu, 0, none⟩ = some (.int .i64 uid)) :
    Calls Try.prog 46 #[.agg #[.int .i64 u, .int .i64 f, .int .i64 d, .slice A n c], .pointer (some ⟨bu, 0, none⟩)] w fun e w' => e = .returned (.bool (u == uid)) ∧ w' = w.alloc (.cells #[.int .i64 u, .int .i64 f, .int .i64 d, .slice A n c] 27) := by
  have h1 : Bk (w.alloc (.cells #[.int .i64 u, .int .i64 f, .int .i64 d, .slice A n c] 27)) w.heap.size 27 #[.int .i64 u, .int .i64 f, .int .i64 d, .slice A n c] := Bk.new _ _ _
  have hB : Below w.heap.size w (w.alloc (.cells #[.int .i64 u, .int .i64 f, .int .i64 d, .slice A n c] 27)) := (Below.refl _ _).alloc (Nat.le_refl _) _
  have c0 := h1.cell 0
  have cu := (hB.cell (p := ⟨bu, 0, none⟩) (World.block_lt_of_cell? _ _ hu)).trans hu
  clear h1 hB hu
  go_enter Try.func46, Try.ntmps46
  go_wp2_with fail
  go_ret
  exact ⟨rfl, rfl⟩
/-- a message's place less one is answered -/
def IsPlace (l : List Mg) (uid : Int) (w : World) (e : Ending) (w' : World) : Prop := ∃ z : Int, e = .returned (.int .i64 z) ∧ z + 1 = (placeN l uid : Int) ∧ -1 ≤ z ∧ z ≤ 1000000 ∧ Below w.heap.size w w'
set_option maxRecDepth 20000 in
set_option maxHeartbeats 2000000 in
theorem indexM_any (A : Option Addr) (n c bu : Nat) (uid : Int) (l : List Mg) (w : World) (hl : MsgsIn w w.heap.size A n l) (hn : n ≤ 1000000) (hu : w.cell? ⟨bu, 0, none⟩ = some (.int .i64 uid)) :
    Calls Try.prog 45 #[.slice A n c, .func (.func 46) #[] #[.pointer (some ⟨bu, 0, none⟩)]] w (IsPlace l uid w) := by
  have HL := Lib.hid hl
  have HU := Lib.hid hu
  have HLU := Lib.hid (World.block_lt_of_cell? _ _ hu)
  clear hl hu
  go_enter Try.func45, Try.ntmps45
  go_wp2_with fail
  go_loopw [8] (fun i wx => ∃ k : Nat, k ≤ n ∧ i = .int .i64 (k : Int) ∧ (∀ m ∈ l.take k, m.uid ≠ uid) ∧ Below w.heap.size w wx) (fun i _ => n - (intOf i).toNat)
  case atStart => exact ⟨0, Nat.zero_le _, rfl, fun m hm => (by cases hm), Below.refl _ _⟩
  case round =>
    obtain ⟨k, hk, rfl, ha, hb⟩ := hrel
    have HB := Lib.hid hb
    have HA := Lib.hid ha
    clear ha hb
    by_cases hlt : k < n
    · obtain ⟨b, o, x, rfl, hbb, hla, htk, hrow, hin⟩ := (HL.out.below HB.out (Nat.le_refl _)).at_ hlt
      have HLA := Lib.hid hla
      have HTK := Lib.hid htk
      have HROW := Lib.hid hrow
      have hk0 : (0 : Int) ≤ (k : Int) := by omega
      have hkn : (k : Int) < (n : Int) := by omega
      obtain ⟨⟨u, f, d, bl⟩, xA, xn, xc⟩ := x
      have CI := Lib.hid (place1_any bu uid u f d xA xn xc wr ((HB.out.cell (p := ⟨bu, 0, none⟩) HLU.out).trans HU.out))
      clear hla htk hrow hin
      go_wp2_with ((with_reducible show wpList _ _ _ (⟨some 15, _, _, _, _, _⟩ :: _) _ _); refine hold ?_)
      refine held (wpList_load_mid rfl 27 (.tmp 14) rfl b (o + k * 4) rfl _ _ HROW.out Try.underlying27 rfl (by kernel_rfl) ?_)
      unfold hdC
      go_wp2_with fail
      refine CI.out.mono ?_
      rintro e w' ⟨rfl, rfl⟩
      have HB2 := Lib.hid (HB.out.alloc HB.out.size (.cells #[.int .i64 u, .int .i64 f, .int .i64 d, .slice xA xn xc] 27))
      cases hok : (u == uid)
      · have HS := Lib.hid (missed2 HA.out HTK.out hok)
        clear hok
        go_wp2_with fail
        go_roundw
        case rel => exact ⟨k + 1, by omega, by go_num, HS.out, HB2.out⟩
        case measure => simp [intOf]; omega
      · have HS := Lib.hid (placeN_hit HA.out HLA.out (beq_iff_eq.1 hok))
        clear hok
        go_wp2_with fail
        go_ret
        exact ⟨(k : Int), rfl, by rw [HS.out]; omega, by omega, by omega, HB2.out⟩
    · have hkn : ¬ (k : Int) < (n : Int) := by omega
      have HS := Lib.hid (all_missed HA.out HL.out.len hlt)
      go_wp2_with fail
      go_ret
      exact ⟨-1, rfl, by rw [HS.out]; rfl, by omega, by omega, HB.out⟩
/-- a place is answered -/
def SaysN (k : Nat) (w : World) (e : Ending) (w' : World) : Prop := e = .returned (.int .i64 (k : Int)) ∧ Below w.heap.size w w'
set_option maxRecDepth 20000 in
set_option maxHeartbeats 2000000 in
theorem place_any (nm : ByteArray) (v nx uid : Int) (A : Option Addr) (n c : Nat) (l : List Mg) (w : World) (hl : MsgsIn w w.heap.size A n l) (hn : n ≤ 1000000) :
    Calls Try.prog 26 #[.agg #[.string nm, .int .i64 v, .int .i64 nx, .slice A n c], .int .i64 uid] w (SaysN (placeN l uid) w) := by
  have h1 : Bk ((w.alloc (.cells #[.string nm, .int .i64 v, .int .i64 nx, .slice A n c] 24)).alloc (.cells #[.int .i64 uid] 3)) w.heap.size 24 #[.string nm, .int .i64 v, .int .i64 nx, .slice A n c] := (Bk.new _ _ _).alloc _
  have h2 : Bk ((w.alloc (.cells #[.string nm, .int .i64 v, .int .i64 nx, .slice A n c] 24)).alloc (.cells #[.int .i64 uid] 3)) (w.heap.size + 1) 3 #[.int .i64 uid] := Bk.new2 _ _ _ _
  have hB : Below w.heap.size w ((w.alloc (.cells #[.string nm, .int .i64 v, .int .i64 nx, .slice A n c] 24)).alloc (.cells #[.int .i64 uid] 3)) := ((Below.refl _ _).alloc (Nat.le_refl _) _).alloc (by simp) _
  have HC := Lib.hid (indexM_any A n c (w.heap.size + 1) uid l _ (hl.later hB) hn (h2.cell 0))
  have c3 := h1.cell 3
  have HB := Lib.hid hB
  clear h1 h2 hB hl
  go_enter Try.func26, Try.ntmps26
  go_wp2_with fail
  refine HC.out.mono ?_
  rintro e w' ⟨z, rfl, hz, h0, h1, hb⟩
  have HZ := Lib.hid hz
  have HB2 := Lib.hid (HB.out.trans (hb.mono (by simp; omega)))
  clear hz hb HC c3
  go_wp2_with fail
  go_ret
  exact ⟨ret_int HZ.out, HB2.out⟩
set_option maxRecDepth 20000 in
set_option maxHeartbeats 2000000 in
theorem x11place_any (nm : ByteArray) (v nx uid : Int) (A : Option Addr) (n c : Nat) (l : List Mg) (w : World) (hl : MsgsIn w w.heap.size A n l) (hn : n ≤ 1000000) :
    Calls Try.prog 27 #[.agg #[.string nm, .int .i64 v, .int .i64 nx, .slice A n c], .int .i64 uid] w (fun e w' => e = .returned (.int .i64 (placeN l uid : Int)) ∧ w' = w.alloc (.cells #[.string nm, .int .i64 v, .int .i64 nx, .slice A n c] 24)) := by
  have h1 : Bk (w.alloc (.cells #[.string nm, .int .i64 v, .int .i64 nx, .slice A n c] 24)) w.heap.size 24 #[.string nm, .int .i64 v, .int .i64 nx, .slice A n c] := Bk.new _ _ _
  have hB : Below w.heap.size w (w.alloc (.cells #[.string nm, .int .i64 v, .int .i64 nx, .slice A n c] 24)) := (Below.refl _ _).alloc (Nat.le_refl _) _
  have HL := Lib.hid (hl.below hB (Nat.le_refl _))
  have c3 := h1.cell 3
  have HB := Lib.hid hB
  clear h1 hB hl
  go_enter Try.func27, Try.ntmps27
  go_wp2_with fail
  obtain ⟨w1, hw1⟩ : ∃ w1, w.alloc (.cells #[.string nm, .int .i64 v, .int .i64 nx, .slice A n c] 24) = w1 := ⟨_, rfl⟩
  have HW : Hid (w1 = w.alloc (.cells #[.string nm, .int .i64 v, .int .i64 nx, .slice A n c] 24)) := Lib.hid hw1.symm
  rw [hw1] at HL c3 ⊢
  clear hw1 HB
  go_loop [5] (fun i => ∃ k : Nat, k ≤ n ∧ i = .int .i64 (k : Int) ∧ ∀ m ∈ l.take k, m.uid ≠ uid) (fun i => n - (intOf i).toNat)
  case atStart => exact ⟨0, Nat.zero_le _, rfl, fun m hm => (by cases hm)⟩
  case round =>
    obtain ⟨k, hk, rfl, ha⟩ := hrel
    have HA := Lib.hid ha
    clear ha
    by_cases hlt : k < n
    · obtain ⟨b, o, x, rfl, hbb, hla, htk, hrow, hin⟩ := HL.out.at_ hlt
      have HLA := Lib.hid hla
      have HTK := Lib.hid htk
      have r0 := (row4 hrow).1
      have hk0 : (0 : Int) ≤ (k : Int) := by omega
      have hkn : (k : Int) < (n : Int) := by omega
      obtain ⟨⟨u, f, d, bl⟩, xA, xn, xc⟩ := x
      replace r0 : w1.cell? ⟨b, o + k * 4, none⟩ = some (.int .i64 u) := r0
      clear hla htk hrow hin
      cases hok : (u == uid)
      · have HS := Lib.hid (missed2 HA.out HTK.out hok)
        go_wp2_with fail
        go_round
        case rel => exact ⟨k + 1, by omega, by go_num, HS.out⟩
        case measure => simp [intOf]; omega
      · have HS := Lib.hid (placeN_hit HA.out HLA.out (beq_iff_eq.1 hok))
        go_wp2_with fail
        go_ret
        exact ⟨ret_int (by rw [HS.out]; omega), HW.out⟩
    · have hkn : ¬ (k : Int) < (n : Int) := by omega
      have HS := Lib.hid (all_missed HA.out HL.out.len hlt)
      go_wp2_with fail
      go_ret
      exact ⟨ret_int (by rw [HS.out]; rfl), HW.out⟩

/-! ### Counts -/
theorem cntN_take {l : List Mg} {k : Nat} {a : Mg} {f : Int} {q : Bool} (ht : l.take (k + 1) = l.take k ++ [a]) (hq : hasF f a = q) : cntN (l.take (k + 1)) f = cntN (l.take k) f + if q = true then 1 else 0 := by rw [ht, cntN_snoc, hq]
set_option maxRecDepth 20000 in
set_option maxHeartbeats 2000000 in
theorem x11count_any (nm : ByteArray) (v nx fl : Int) (A : Option Addr) (n c : Nat) (l : List Mg) (w : World) (hl : MsgsIn w w.heap.size A n l) (hn : n ≤ 1000000) :
    Calls Try.prog 29 #[.agg #[.string nm, .int .i64 v, .int .i64 nx, .slice A n c], .int .i64 fl] w (SaysN (cntN l fl) w) := by
  have h1 : Bk (w.alloc (.cells #[.string nm, .int .i64 v, .int .i64 nx, .slice A n c] 24)) w.heap.size 24 #[.string nm, .int .i64 v, .int .i64 nx, .slice A n c] := Bk.new _ _ _
  have hB : Below w.heap.size w (w.alloc (.cells #[.string nm, .int .i64 v, .int .i64 nx, .slice A n c] 24)) := (Below.refl _ _).alloc (Nat.le_refl _) _
  have HL := Lib.hid (hl.below hB (Nat.le_refl _))
  have c3 := h1.cell 3
  have HB := Lib.hid hB
  clear h1 hB hl
  go_enter Try.func29, Try.ntmps29
  go_wp2_with fail
  generalize w.alloc (.cells #[.string nm, .int .i64 v, .int .i64 nx, .slice A n c] 24) = w1 at *
  go_loop [5, 6] (fun t i => ∃ k q : Nat, k ≤ n ∧ i = .int .i64 (k : Int) ∧ t = .int .i64 (q : Int) ∧ q ≤ k ∧ cntN (l.take k) fl = q) (fun _ i => n - (intOf i).toNat)
  case atStart => exact ⟨0, 0, Nat.zero_le _, rfl, rfl, Nat.le_refl _, rfl⟩
  case round =>
    obtain ⟨k, q, hk, rfl, rfl, hqk, ha⟩ := hrel
    have HA := Lib.hid ha
    clear ha
    by_cases hlt : k < n
    · obtain ⟨b, o, x, rfl, hbb, hla, htk, hrow, hin⟩ := HL.out.at_ hlt
      have HTK := Lib.hid htk
      have r1 := (row4 hrow).2.1
      have hk0 : (0 : Int) ≤ (k : Int) := by omega
      have hkn : (k : Int) < (n : Int) := by omega
      obtain ⟨⟨u, f, d, bl⟩, xA, xn, xc⟩ := x
      replace r1 : w1.cell? ⟨b, o + k * 4 + 1, none⟩ = some (.int .i64 f) := r1
      clear hla htk hrow hin
      cases hok : (bits .and .i64 f fl == fl)
      · have HS : Hid (cntN (l.take (k + 1)) fl = q) := Lib.hid (by rw [cntN_take (q := false) HTK.out hok, HA.out]; rfl)
        go_wp2_with fail
        go_round
        case rel => exact ⟨k + 1, q, by omega, by go_num, rfl, by omega, HS.out⟩
        case measure => simp [intOf]; omega
      · have HS : Hid (cntN (l.take (k + 1)) fl = q + 1) := Lib.hid (by rw [cntN_take (q := true) HTK.out hok, HA.out]; rfl)
        go_wp2_with fail
        go_round
        case rel => exact ⟨k + 1, q + 1, by omega, by go_num, by go_num, by omega, HS.out⟩
        case measure => simp [intOf]; omega
    · have hkn : ¬ (k : Int) < (n : Int) := by omega
      have HS : Hid (cntN l fl = q) := Lib.hid (by have := HA.out; rwa [List.take_of_length_le (by rw [HL.out.len]; omega)] at this)
      go_wp2_with fail
      go_ret
      exact ⟨ret_int (by rw [HS.out]), HB.out⟩
set_option maxRecDepth 20000 in
set_option maxHeartbeats 2000000 in
theorem count_any (nm : ByteArray) (v nx fl : Int) (A : Option Addr) (n c : Nat) (l : List Mg) (w : World) (hl : MsgsIn w w.heap.size A n l) (hn : n ≤ 1000000) :
    Calls Try.prog 28 #[.agg #[.string nm, .int .i64 v, .int .i64 nx, .slice A n c], .int .i64 fl] w (SaysN (cntN l fl) w) := by
  have h1 : Bk (w.alloc (.cells #[.string nm, .int .i64 v, .int .i64 nx, .slice A n c] 24)) w.heap.size 24 #[.string nm, .int .i64 v, .int .i64 nx, .slice A n c] := Bk.new _ _ _
  have hB : Below w.heap.size w (w.alloc (.cells #[.string nm, .int .i64 v, .int .i64 nx, .slice A n c] 24)) := (Below.refl _ _).alloc (Nat.le_refl _) _
  have HL := Lib.hid hl
  have c3 := h1.cell 3
  have HB := Lib.hid hB
  clear h1 hB hl
  go_enter Try.func28, Try.ntmps28
  go_wp2_with fail
  generalize w.alloc (.cells #[.string nm, .int .i64 v, .int .i64 nx, .slice A n c] 24) = w1 at *
  go_loopw [5, 11] (fun t i wx => ∃ k q : Nat, k ≤ n ∧ i = .int .i64 (k : Int) ∧ t = .int .i64 (q : Int) ∧ q ≤ k ∧ cntN (l.take k) fl = q ∧ Below w.heap.size w wx) (fun _ i _ => n - (intOf i).toNat)
  case atStart => exact ⟨0, 0, Nat.zero_le _, rfl, rfl, Nat.le_refl _, rfl, HB.out⟩
  case round =>
    obtain ⟨k, q, hk, rfl, rfl, hqk, ha, hb⟩ := hrel
    have HA := Lib.hid ha
    have HBR := Lib.hid hb
    clear ha hb c3
    by_cases hlt : k < n
    · obtain ⟨b, o, x, rfl, hbb, hla, htk, hrow, hin⟩ := (HL.out.below HBR.out (Nat.le_refl _)).at_ hlt
      have HTK := Lib.hid htk
      have HROW := Lib.hid hrow
      have hk0 : (0 : Int) ≤ (k : Int) := by omega
      have hkn : (k : Int) < (n : Int) := by omega
      obtain ⟨⟨u, f, d, bl⟩, xA, xn, xc⟩ := x
      clear hla htk hrow hin
      have HB2 := Lib.hid (HBR.out.alloc HBR.out.size (.cells #[.int .i64 u, .int .i64 f, .int .i64 d, .slice xA xn xc] 27))
      cases hok : (bits .and .i64 f fl == fl)
      · have HS : Hid (cntN (l.take (k + 1)) fl = q) := Lib.hid (by rw [cntN_take (q := false) HTK.out hok, HA.out]; rfl)
        go_wp2_with ((with_reducible show wpList _ _ _ (⟨some 14, _, _, _, _, _⟩ :: _) _ _); refine hold ?_)
        refine held (wpList_load_mid rfl 27 (.tmp 13) rfl b (o + k * 4) rfl _ _ HROW.out Try.underlying27 rfl (by kernel_rfl) ?_)
        unfold hdC
        go_wp2_with fail
        go_roundw
        case rel => exact ⟨k + 1, q, by omega, by go_num, rfl, by omega, HS.out, HB2.out⟩
        case measure => simp [intOf]; omega
      · have HS : Hid (cntN (l.take (k + 1)) fl = q + 1) := Lib.hid (by rw [cntN_take (q := true) HTK.out hok, HA.out]; rfl)
        go_wp2_with ((with_reducible show wpList _ _ _ (⟨some 14, _, _, _, _, _⟩ :: _) _ _); refine hold ?_)
        refine held (wpList_load_mid rfl 27 (.tmp 13) rfl b (o + k * 4) rfl _ _ HROW.out Try.underlying27 rfl (by kernel_rfl) ?_)
        unfold hdC
        go_wp2_with fail
        go_roundw
        case rel => exact ⟨k + 1, q + 1, by omega, by go_num, by go_num, by omega, HS.out, HB2.out⟩
        case measure => simp [intOf]; omega
    · have hkn : ¬ (k : Int) < (n : Int) := by omega
      have HS : Hid (cntN l fl = q) := Lib.hid (by have := HA.out; rwa [List.take_of_length_le (by rw [HL.out.len]; omega)] at this)
      go_wp2_with fail
      go_ret
      exact ⟨ret_int (by rw [HS.out]), HBR.out⟩
end Go.Proofs.Ythmlgbeonmpbjaa
