/-
  The law FlagAsks of package flag, as a walk.
-/
import Derived.Test.YtloghgfcgkfefaaDoorFlagRefB
namespace Go.Proofs.YtloghgfcgkfefaaDoor
open Go.RowKit
set_option linter.unusedVariables false
set_option linter.unusedSimpArgs false

set_option maxRecDepth 100000 in
set_option maxHeartbeats 8000000 in
theorem flagAsks_walk (f x0 y0 z0 : Int) (A : Option Addr) (n c : Nat) (l : List ByteArray) (w : World) (hA : All w) (hC : Col Value.string w w.heap.size A n l) (hz : ∀ z ∈ l, z.size ≤ 140737488355328) (hn : n ≤ 140737488355328) :
    Calls Tryd.prog 3 #[.int .i64 f, .slice A n c, .agg #[.int .i64 x0, .int .i64 y0, .int .i64 z0]] w fun e w' => e = .returned (.bool true) ∧ Below w.heap.size w w' := by
  have HA := Lib.hid hA
  have HC := Lib.hid hC
  have HZ := Lib.hid hz
  clear hA hC hz
  go_enter Tryd.func3, Tryd.ntmps3
  go_wp2_with fail
  have hb0 : Below w.heap.size w (w.alloc (.cells #[.int .i64 x0, .int .i64 y0, .int .i64 z0] 23)) := (Below.refl _ _).alloc (Nat.le_refl _) _
  have hc := fun (i : Nat) => cell_of_row (w.alloc (.cells #[.int .i64 x0, .int .i64 y0, .int .i64 z0] 23)) w.heap.size i _ _ (0, 0) (heap_alloc_new w _)
  have c0 := hc 0
  have c1 := hc 1
  have c2 := hc 2
  have hsz : w.heap.size < (w.alloc (.cells #[.int .i64 x0, .int .i64 y0, .int .i64 z0] 23)).heap.size := by simp
  generalize w.alloc (.cells #[.int .i64 x0, .int .i64 y0, .int .i64 z0] 23) = w0 at *
  have HA0 := HA.out.below hb0
  refine (alive08_any _ HA0).mono ?_
  rintro e w1 ⟨rfl, hb1⟩
  have d0 := (hb1.cell (p := ⟨w.heap.size, 0, none⟩) hsz).trans c0
  have d1 := (hb1.cell (p := ⟨w.heap.size, 1, none⟩) hsz).trans c1
  have d2 := (hb1.cell (p := ⟨w.heap.size, 2, none⟩) hsz).trans c2
  have D0 : Hid (w1.cell? ⟨w.heap.size, 0, none⟩ = some (.int .i64 x0)) := Lib.hid d0
  have D1 : Hid (w1.cell? ⟨w.heap.size, 1, none⟩ = some (.int .i64 y0)) := Lib.hid d1
  have D2 : Hid (w1.cell? ⟨w.heap.size, 2, none⟩ = some (.int .i64 z0)) := Lib.hid d2
  have HSZ : Hid (w.heap.size < w1.heap.size) := Lib.hid (Nat.lt_of_lt_of_le hsz hb1.size)
  have HA1 := Lib.hid (HA0.below hb1)
  have HB1 := Lib.hid (hb0.trans (hb1.mono hb0.size))
  clear hb0 hb1 hc c0 c1 c2 hsz HA0 d0 d1 d2
  by_cases h50 : 50 < n
  · have h50' : (50 : Int) < (n : Int) := by omega
    go_wp2_with fail
    go_ret
    exact ⟨rfl, HB1.out⟩
  have h50' : ¬ (50 : Int) < (n : Int) := by omega
  go_wp2_with fail
  go_loopw [7] (fun i wx => ∃ k : Nat, k ≤ n ∧ i = .int .i64 (k : Int) ∧ Below w1.heap.size w1 wx) (fun i _ => n - (intOf i).toNat)
  case atStart => exact ⟨0, Nat.zero_le _, rfl, Below.refl _ _⟩
  case round =>
    obtain ⟨k, hk, rfl, hb⟩ := hrel
    have HBk := Lib.hid hb
    have HB := Lib.hid (HB1.out.trans (hb.mono HB1.out.size))
    clear hb
    by_cases hlt : k < n
    · obtain ⟨b, o, s, rfl, hbb, hs, _, hcell0⟩ := HC.out.at_ hlt
      have hcell := (HB.out.cell (p := ⟨b, o + k, none⟩) hbb).trans hcell0
      have hss := HZ.out s (List.mem_of_getElem? hs)
      have hkn : (k : Int) < (n : Int) := by omega
      have hk0 : (0 : Int) ≤ (k : Int) := by omega
      have hbr : b < wr.heap.size := Nat.lt_of_lt_of_le hbb HB.out.size
      clear hcell0 hs
      go_wp2_with fail
      refine (one_any s hss wr (HA1.out.below HBk.out)).mono ?_
      rintro e w2 ⟨z, d, rfl, hz1, hd1, hb2⟩
      have hcell2 := (hb2.cell (p := ⟨b, o + k, none⟩) hbr).trans hcell
      have HB2 := Lib.hid (HBk.out.trans (hb2.mono HBk.out.size))
      have HZ1 := Lib.hid hz1
      have HD1 := Lib.hid hd1
      clear hb2 hcell hz1 hd1
      go_wp2_with fail
      refine (x8one_any s hss w2).mono ?_
      rintro e w3 ⟨z2, d2, rfl, hz2, hd2, hb3⟩
      have HB3 := Lib.hid (HB2.out.trans (hb3.mono HB2.out.size))
      rw [← HZ1.out] at hz2
      rw [← HD1.out] at hd2
      subst hz2 hd2
      clear hb3 hcell2 HZ1 HD1
      go_wp2_with fail
      go_roundw
      case rel => exact ⟨k + 1, by omega, by go_num, HB3.out⟩
      case measure => simp [intOf]; omega
    · have hkn : ¬ (k : Int) < (n : Int) := by omega
      have HAr := Lib.hid (HA1.out.below HBk.out)
      go_wp2_with fail
      refine (parse_any A n c l wr HAr.out (HC.out.below HB.out (Nat.le_refl _) |>.more HB.out.size) HZ.out hn).mono ?_
      rintro e w2 ⟨pz, pd, rfl, hz1, hd1, hb2⟩
      have HBk2 := Lib.hid (HBk.out.trans (hb2.mono HBk.out.size))
      have HB2 := Lib.hid (HB.out.trans (hb2.mono HB.out.size))
      have HA2 := Lib.hid (HAr.out.below hb2)
      have HZ1 := Lib.hid hz1
      have HD1 := Lib.hid hd1
      clear hb2 HBk HAr hz1 hd1
      go_wp2_with fail
      refine (x8parse_any A n c l w2 (HC.out.below HB2.out (Nat.le_refl _) |>.more HB2.out.size) HZ.out hn).mono ?_
      rintro e w3 ⟨z2, d2, rfl, hz2, hd2, hb3⟩
      rw [← HZ1.out] at hz2
      rw [← HD1.out] at hd2
      subst hz2 hd2
      have HBk3 := Lib.hid (HBk2.out.trans (hb3.mono HBk2.out.size))
      have HB3 := Lib.hid (HB2.out.trans (hb3.mono HB2.out.size))
      have HA3 := Lib.hid (HA2.out.below hb3)
      have e0 := (HBk3.out.cell (p := ⟨w.heap.size, 0, none⟩) HSZ.out).trans D0.out
      have e1 := (HBk3.out.cell (p := ⟨w.heap.size, 1, none⟩) HSZ.out).trans D1.out
      have e2 := (HBk3.out.cell (p := ⟨w.heap.size, 2, none⟩) HSZ.out).trans D2.out
      clear hb3 HBk2 HA2 HB2 HZ1 HD1
      go_wp2_with fail
      refine (apply_any x0 y0 z0 w3).mono ?_
      rintro e w4 ⟨az, ad, rfl, hz1, hd1, rfl⟩
      have HZ1 := Lib.hid hz1
      have HD1 := Lib.hid hd1
      clear hz1 hd1
      go_wp2_with fail
      refine (x8apply_any x0 y0 z0 w3).mono ?_
      rintro e w4 ⟨z3, d3, rfl, hz3, hd3, rfl⟩
      rw [← HZ1.out] at hz3
      rw [← HD1.out] at hd3
      subst hz3 hd3
      clear e0 e1 e2 HZ1 HD1
      go_wp2_with fail
      refine (print_any f w3 HA3.out).mono ?_
      rintro e w4 ⟨rfl, hb4⟩
      have HB4 := Lib.hid (HB3.out.trans (hb4.mono HB3.out.size))
      clear hb4
      go_wp2_with fail
      refine (x8print_any f w4).mono ?_
      rintro e w5 ⟨rfl, hb5⟩
      have HB5 := Lib.hid (HB4.out.trans (hb5.mono HB4.out.size))
      clear hb5
      go_wp2_with fail
      refine (right_any f w5).mono ?_
      rintro e w6 ⟨rfl, rfl⟩
      go_wp2_with fail
      refine (x8right_any f w5).mono ?_
      rintro e w6 ⟨rfl, rfl⟩
      go_wp2_with fail
      go_ret
      exact ⟨rfl, HB5.out⟩
end Go.Proofs.YtloghgfcgkfefaaDoor
