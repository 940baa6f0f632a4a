/-
  Contracts over package uids: an end's text, a set's text.
-/
import Derived.Test.YtiophifilikajaaDoorQUidsLib
import Derived.Test.YtiophifilikajaaDoorQUidsA
import Derived.Deep.QuietTactic
namespace Go.Proofs.YtiophifilikajaaDoor
set_option linter.unusedVariables false
set_option linter.unusedSimpArgs false
open Go.RowKit
set_option linter.unusedVariables false
set_option linter.unusedSimpArgs false

theorem endN_star : strOf (endN 0) = ⟨#[42]⟩ := rfl
theorem endN_num {u : Nat} (h : (u : Int) ≠ 0) : endN (u : Int) = digN u := by unfold endN; rw [if_neg h, Int.toNat_natCast]
theorem uend_any (z : Int) (hz : okE z) (w : World) (hS : Std w) : Calls Tryd.prog 28 #[.int .i64 z] w fun e w' => e = .returned (.string (strOf (endN z))) ∧ Below w.heap.size w w' := by
  obtain ⟨h0, h1⟩ := hz
  obtain ⟨u, rfl⟩ := Int.eq_ofNat_of_zero_le h0
  by_cases hu : (u : Int) = 0
  · obtain rfl : u = 0 := by omega
    go_enter Tryd.func28, Tryd.ntmps28
    go_wp2_with fail
    go_ret
    exact ⟨rfl, Below.refl _ _⟩
  · have hu' : ((u : Int) == 0) = false := by simp; omega
    have HE := Lib.hid (endN_num hu)
    have CI := Lib.hid (itoa_any u (by omega) w hS)
    clear hu
    go_enter Tryd.func28, Tryd.ntmps28
    go_wp2_with fail
    refine CI.out.mono ?_
    rintro e w' ⟨rfl, hb⟩
    have HB := Lib.hid hb
    clear hb
    go_wp2_with fail
    go_ret
    exact ⟨by rw [HE.out] <;> rfl, HB.out⟩

theorem printE_no {l : List Rg} (h : rightU l = false) : printE l = 1 ∧ printV l = [] := by unfold printE printV; rw [h]; exact ⟨rfl, rfl⟩
theorem printE_yes {l : List Rg} (h : rightU l = true) : printE l = 0 ∧ printV l = setN l := by unfold printE printV; rw [h]; exact ⟨rfl, rfl⟩
theorem rangeN_same {x : Int} : rangeN (x, x) = endN x := by unfold rangeN; rw [if_pos rfl]
theorem rangeN_two {x y : Int} (h : x ≠ y) : rangeN (x, y) = endN x ++ 58 :: endN y := by unfold rangeN; rw [if_neg h]
/-- the two results of a print -/
def PrintIs (w : World) (l : List Rg) (e : Ending) (w' : World) : Prop := e = .returned (.tuple #[.string (strOf (printV l)), .int .i64 (printE l)]) ∧ Below w.heap.size w w'

set_option maxRecDepth 20000 in
set_option maxHeartbeats 4000000 in
theorem uPrint_any (A : Option Addr) (n c : Nat) (l : List Rg) (w : World) (hl : ColK 2 rgC w w.heap.size A n l) (hn : n ≤ 140737488355328) (hS : Std w) :
    Calls Tryd.prog 11 #[.slice A n c] w (PrintIs w l) := by
  have HL := Lib.hid hl
  have HS := Lib.hid hS
  have CR := Lib.hid (uRight_any A n c l w hl hn)
  clear hl hS
  cases hr : rightU l
  · obtain ⟨h1, h2⟩ := printE_no hr
    have HP := Lib.hid h1
    have HV := Lib.hid h2
    have HR := Lib.hid hr
    clear h1 h2 hr
    go_enter Tryd.func11, Tryd.ntmps11
    go_wp2_with fail
    refine CR.out.mono ?_
    rintro e w' ⟨rfl, hb⟩
    have HB := Lib.hid hb
    rw [HR.out]
    clear hb
    go_wp2_with fail
    go_ret2
    exact ⟨by rw [HP.out, HV.out] <;> rfl, HB.out⟩
  · obtain ⟨h1, h2⟩ := printE_yes hr
    obtain ⟨hr1, hr2, hr3⟩ := of_decide_eq_true hr
    have HP := Lib.hid h1
    have HV := Lib.hid h2
    have HR := Lib.hid hr
    have HOK := Lib.hid hr3
    have HLEN := Lib.hid (setN_len hr)
    have hn60 : n ≤ 60 := by rw [← HL.out.1]; exact hr2
    clear h1 h2 hr hr3 hr1 hr2
    go_enter Tryd.func11, Tryd.ntmps11
    go_wp2_with fail
    refine CR.out.mono ?_
    rintro e w0 ⟨rfl, hb0⟩
    have HB0 := Lib.hid hb0
    rw [HR.out]
    clear hb0
    go_wp2_with fail
    go_loopw [4, 14] (fun p i wx => ∃ (k c2 : Nat) (A2 : Option Addr), k ≤ n ∧ i = .int .i64 (k : Int) ∧ p = .slice A2 k c2 ∧ OwnS wx w.heap.size A2 k c2 ((l.take k).map rangeN) ∧ Below w.heap.size w wx) (fun _ i _ => n - (intOf i).toNat)
    case atStart =>
      refine ⟨0, _, _, Nat.zero_le _, rfl, rfl, ?_, HB0.out.alloc HB0.out.size _⟩
      exact ⟨rfl, .inr ⟨w0.heap.size, 0, _, rfl, HB0.out.size, heap_alloc_new w0 _, Nat.le_refl _, by unfold maxLen; omega, rfl, rfl⟩⟩
    case round =>
      obtain ⟨k, c2, A2, hk, rfl, rfl, hown, hb⟩ := hrel
      have HO := Lib.hid hown
      have HB := Lib.hid hb
      clear hown hb
      by_cases hlt : k < n
      · obtain ⟨b, o, r, rfl, hbb, hla, htk, hrow⟩ := (HL.out.below HB.out (Nat.le_refl _)).at_ hlt
        obtain ⟨x, y⟩ := r
        have hok := HOK.out (x, y) (List.mem_of_getElem? hla)
        have r0 := hrow 0 _ rfl
        have r1 := hrow 1 _ rfl
        rw [Nat.add_zero] at r0
        have HNX : Hid ((l.take (k + 1)).map rangeN = (l.take k).map rangeN ++ [rangeN (x, y)]) := Lib.hid (by rw [htk, List.map_append]; rfl)
        have hbw : b < wr.heap.size := by have := HB.out.size; omega
        have HX := Lib.hid hok.1
        have HY := Lib.hid hok.2
        have hx10 := endN_len hok.1
        have hy10 := endN_len hok.2
        have hk0 : (0 : Int) ≤ (k : Int) := by omega
        have hkn : (k : Int) < (n : Int) := by omega
        clear hla htk hrow hok
        go_wp2_with fail
        have c0 := (cell_of_row (wr.alloc (.cells #[.int .i64 x, .int .i64 y] 43)) wr.heap.size 0 _ _ (0, 0) (heap_alloc_new wr _)).trans (rfl : _ = some (Value.int .i64 x))
        have c1 := (cell_of_row (wr.alloc (.cells #[.int .i64 x, .int .i64 y] 43)) wr.heap.size 1 _ _ (0, 0) (heap_alloc_new wr _)).trans (rfl : _ = some (Value.int .i64 y))
        have hO1 : OwnS (wr.alloc (.cells #[.int .i64 x, .int .i64 y] 43)) w.heap.size A2 k c2 ((l.take k).map rangeN) := OwnV.alloc HO.out _
        have hB1 : Below w.heap.size w (wr.alloc (.cells #[.int .i64 x, .int .i64 y] 43)) := HB.out.alloc HB.out.size _
        have hg1 : wr.heap.size < (wr.alloc (.cells #[.int .i64 x, .int .i64 y] 43)).heap.size := by simp
        generalize wr.alloc (.cells #[.int .i64 x, .int .i64 y] 43) = W1 at *
        obtain ⟨g, hg⟩ : ∃ g, wr.heap.size = g := ⟨_, rfl⟩
        rw [hg] at c0 c1 hg1 ⊢
        clear r0 r1 hbw HO HB hg
        refine (uend_any x HX.out W1 (HS.out.below hB1)).mono ?_
        rintro e W2 ⟨rfl, hb2⟩
        have d0 := (hb2.cell (p := ⟨g, 0, none⟩) hg1).trans c0
        have d1 := (hb2.cell (p := ⟨g, 1, none⟩) hg1).trans c1
        have HO2 := Lib.hid (hO1.below hb2)
        have HB2 := Lib.hid (hB1.trans (hb2.mono hB1.size))
        clear c0 c1 hO1 hB1 hg1 hb2
        by_cases hxy : x = y
        · subst hxy
          have hne : (x != x) = false := by simp
          have HRN := Lib.hid (rangeN_same (x := x))
          go_wp2_with ((with_reducible show wpList _ _ _ (⟨some 35, _, _, _, _, _⟩ :: _) _ _); refine hold ?_)
          refine held (wpList_append_one rfl (.tmp 32) (.tmp 34) 49 rfl Tryd.underlying49 info_str rfl (by omega) w.heap.size A2 k c2 _ rfl (OwnV.alloc HO2.out _) W2.heap.size 0 (.string (strOf (endN x))) rfl
            (by rw [cell_of_row _ W2.heap.size 0 _ _ (0, 0) (heap_alloc_new W2 _)]; rfl) rfl (by omega) (by have := HB2.out.size; simp; omega) ?_)
          intro A3 c3 wx hown3 hb3
          have hown4 : OwnS wx w.heap.size A3 (k + 1) c3 ((l.take (k + 1)).map rangeN) := by
            rw [HNX.out, HRN.out]
            unfold OwnS
            rw [List.map_append]
            exact hown3
          have HO4 := Lib.hid hown4
          have HB4 := Lib.hid ((HB2.out.alloc HB2.out.size _).trans hb3)
          clear hown3 hown4 hb3
          go_wp2_with fail
          go_roundw
          case rel => exact ⟨k + 1, c3, A3, by omega, by go_num, rfl, HO4.out, HB4.out⟩
          case measure => simp [intOf]; omega
        · have hne : (x != y) = true := by simp; exact hxy
          have HRN := Lib.hid (rangeN_two hxy)
          clear hxy
          go_wp2_with fail
          refine (uend_any y HY.out W2 (HS.out.below HB2.out)).mono ?_
          rintro e W3 ⟨rfl, hb3⟩
          have HO3 := Lib.hid (HO2.out.below hb3)
          have HB3 := Lib.hid (HB2.out.trans (hb3.mono HB2.out.size))
          have ka := fun W => add_str ⟨#[58]⟩ (strOf (endN y)) [58] (endN y) rfl rfl (by simp; omega) W
          have kb := fun W => add_str (strOf (endN x)) (strOf ([58] ++ endN y)) (endN x) ([58] ++ endN y) rfl rfl (by simp; omega) W
          obtain ⟨t, ht⟩ : ∃ t, [58] ++ endN y = t := ⟨_, rfl⟩
          obtain ⟨v, hv⟩ : ∃ v, endN x ++ t = v := ⟨_, rfl⟩
          rw [ht] at ka kb
          rw [hv] at kb
          have HVV : Hid (rangeN (x, y) = v) := Lib.hid (by rw [HRN.out, ← hv, ← ht]; rfl)
          clear hb3 d0 d1 ht hv
          go_wp2_with ((with_reducible show wpList _ _ _ (⟨some 35, _, _, _, _, _⟩ :: _) _ _); refine hold ?_)
          refine held (wpList_append_one rfl (.tmp 32) (.tmp 34) 49 rfl Tryd.underlying49 info_str rfl (by omega) w.heap.size A2 k c2 _ rfl (OwnV.alloc HO3.out _) W3.heap.size 0 (.string (strOf v)) rfl
            (by rw [cell_of_row _ W3.heap.size 0 _ _ (0, 0) (heap_alloc_new W3 _)]; rfl) rfl (by omega) (by have := HB3.out.size; simp; omega) ?_)
          intro A3 c3 wx hown3 hb4
          have hown4 : OwnS wx w.heap.size A3 (k + 1) c3 ((l.take (k + 1)).map rangeN) := by
            rw [HNX.out, HVV.out]
            unfold OwnS
            rw [List.map_append]
            exact hown3
          have HO4 := Lib.hid hown4
          have HB4 := Lib.hid ((HB3.out.alloc HB3.out.size _).trans hb4)
          clear hown3 hown4 hb4
          go_wp2_with fail
          go_roundw
          case rel => exact ⟨k + 1, c3, A3, by omega, by go_num, rfl, HO4.out, HB4.out⟩
          case measure => simp [intOf]; omega
      · obtain rfl : k = n := by omega
        have hall : l.take k = l := List.take_of_length_le (by rw [HL.out.1]; exact Nat.le_refl _)
        have hown := HO.out
        rw [hall] at hown
        have CJ := Lib.hid (join_any 44 A2 k c2 w.heap.size (l.map rangeN) wr hown (by omega) (by have := HLEN.out; unfold setN at this; show (joinL 44 _).length ≤ _; omega))
        clear hall hown
        go_wp2_with fail
        refine CJ.out.mono ?_
        rintro e w' ⟨rfl, hb2⟩
        have HB2 := Lib.hid (HB.out.trans (hb2.mono HB.out.size))
        clear hb2
        go_wp2_with fail
        go_ret2
        exact ⟨by rw [HP.out, HV.out] <;> rfl, HB2.out⟩
end Go.Proofs.YtiophifilikajaaDoor

/-
  Contracts over the document's own sets: a number's digits, an end's text, a set's text.
-/
namespace Go.Proofs.YtiophifilikajaaDoor
set_option linter.unusedVariables false
set_option linter.unusedSimpArgs false
open Go.RowKit
set_option linter.unusedVariables false
set_option linter.unusedSimpArgs false

theorem dig_piece (u : Nat) (hu : u < 10) : (⟨#[48, 49, 50, 51, 52, 53, 54, 55, 56, 57]⟩ : ByteArray).extract u (u + 1) = strOf (digN u) := by
  rw [digN_one hu]
  rcases (by omega : u = 0 ∨ u = 1 ∨ u = 2 ∨ u = 3 ∨ u = 4 ∨ u = 5 ∨ u = 6 ∨ u = 7 ∨ u = 8 ∨ u = 9) with rfl | rfl | rfl | rfl | rfl | rfl | rfl | rfl | rfl | rfl <;> decide +kernel
set_option maxHeartbeats 1000000 in
theorem x9Digits_any (u : Nat) : u ≤ 4294967295 → ∀ w : World, Calls Tryd.prog 40 #[.int .i64 (u : Int)] w fun e w' => e = .returned (.string (strOf (digN u))) ∧ w = w' := by
  induction u using Nat.strongRecOn with
  | _ u ih =>
    intro hm w
    by_cases hu : u < 10
    · have hd := dig_piece u hu
      have h10 : (u : Int) < 10 := by omega
      have h0 : (0 : Int) ≤ (u : Int) := by omega
      have hw1 : IntKind.i64.wrap ((u : Int) + 1) = (u : Int) + 1 := IntWalk.i64_in _ (by omega)
      have h2 : (u : Int) + 1 ≤ 10 := by omega
      have h3 : ((u : Int) + 1).toNat = u + 1 := by omega
      have h4 : (u : Int) ≤ (u : Int) + 1 := by omega
      have h5 : (0 : Int) ≤ (u : Int) + 1 := by omega
      clear ih hm hu
      go_enter Tryd.func40, Tryd.ntmps40
      go_wp2_with fail
      go_ret
      exact ⟨by first | rw [hd] | (simp only [hd]; rfl) | rfl, rfl⟩
    · have h10 : ¬ (u : Int) < 10 := by omega
      have hq : ((u : Int)).tdiv 10 = ((u / 10 : Nat) : Int) := by rw [Int.tdiv_eq_ediv_of_nonneg (by omega)]; omega
      have hr : ((u : Int)).tmod 10 = ((u % 10 : Nat) : Int) := by rw [Int.tmod_eq_emod_of_nonneg (by omega)]; omega
      have C1 := Lib.hid (ih (u / 10) (by omega) (by omega))
      have C2 := Lib.hid (ih (u % 10) (by omega) (by omega))
      have HD : Hid (digN u = digN (u / 10) ++ digN (u % 10)) := Lib.hid (by rw [digN_more hu, digN_one (Nat.mod_lt _ (by omega))])
      have hl1 := digN_len 9 (u / 10) (by show _ < 10000000000; omega)
      have hl2 := digN_len 0 (u % 10) (by omega)
      have ka := fun W => add_str (strOf (digN (u / 10))) (strOf (digN (u % 10))) (digN (u / 10)) (digN (u % 10)) rfl rfl (by omega) W
      have hub : (0 : Int) ≤ (u : Int) := by omega
      clear ih hu
      obtain ⟨p, hp⟩ : ∃ p, u / 10 = p := ⟨_, rfl⟩
      obtain ⟨q, hq'⟩ : ∃ q, u % 10 = q := ⟨_, rfl⟩
      rw [hp] at hq C1 HD ka
      rw [hq'] at hr C2 HD ka
      have hpb : (p : Int) ≤ 4294967295 := by omega
      have hp0 : (0 : Int) ≤ (p : Int) := by omega
      have hqb : (q : Int) ≤ 9 := by omega
      have hq0 : (0 : Int) ≤ (q : Int) := by omega
      clear hp hq' hl1 hl2
      go_enter Tryd.func40, Tryd.ntmps40
      go_wp2_with fail
      refine (C1.out w).mono ?_
      rintro e w' ⟨rfl, rfl⟩
      go_wp2_with fail
      refine (C2.out w).mono ?_
      rintro e w' ⟨rfl, rfl⟩
      go_wp2_with fail
      go_ret
      exact ⟨by rw [HD.out] <;> rfl, rfl⟩

theorem x9end_any (z : Int) (hz : okE z) (w : World) : Calls Tryd.prog 30 #[.int .i64 z] w fun e w' => e = .returned (.string (strOf (endN z))) ∧ w = w' := by
  obtain ⟨h0, h1⟩ := hz
  obtain ⟨u, rfl⟩ := Int.eq_ofNat_of_zero_le h0
  by_cases hu : (u : Int) = 0
  · obtain rfl : u = 0 := by omega
    go_enter Tryd.func30, Tryd.ntmps30
    go_wp2_with fail
    go_ret
    exact ⟨rfl, rfl⟩
  · have hu' : ((u : Int) == 0) = false := by simp; omega
    have HE := Lib.hid (endN_num hu)
    have CI := Lib.hid (x9Digits_any u (by omega) w)
    clear hu
    go_enter Tryd.func30, Tryd.ntmps30
    go_wp2_with fail
    refine CI.out.mono ?_
    rintro e w' ⟨rfl, rfl⟩
    go_wp2_with fail
    go_ret
    exact ⟨by rw [HE.out] <;> rfl, rfl⟩

theorem set_snoc {l : List Rg} {k : Nat} {r : Rg} (hk : 0 < k) (hkl : k ≤ l.length) (h : l.take (k + 1) = l.take k ++ [r]) : setN (l.take (k + 1)) = setN (l.take k) ++ 44 :: rangeN r := by
  unfold setN
  rw [h, List.map_append]
  refine joinL_snoc _ _ (fun e => ?_)
  have := congrArg List.length e
  rw [List.length_map, List.length_take, List.length_nil] at this
  omega
theorem set_one {l : List Rg} {r : Rg} (h : l.take (0 + 1) = l.take 0 ++ [r]) : setN (l.take (0 + 1)) = rangeN r := by unfold setN; rw [h]; rfl
theorem set_take_len {l : List Rg} (h : ∀ r ∈ l, okR r) (k : Nat) (hk : k ≤ 60) : (setN (l.take k)).length ≤ 1320 := by
  have := joinL_len (c := 44) (m := 21) ((l.take k).map rangeN) fun p hp => by
    obtain ⟨r, hr, rfl⟩ := List.mem_map.1 hp
    exact rangeN_len (h r (List.mem_of_mem_take hr))
  rw [List.length_map, List.length_take] at this
  unfold setN
  omega

set_option maxRecDepth 20000 in
set_option maxHeartbeats 4000000 in
theorem x9Print_any (A : Option Addr) (n c : Nat) (l : List Rg) (w : World) (hl : ColK 2 rgC w w.heap.size A n l) (hn : n ≤ 140737488355328) :
    Calls Tryd.prog 12 #[.slice A n c] w (PrintIs w l) := by
  have HL := Lib.hid hl
  have CR := Lib.hid (x9Right_any A n c l w hl hn)
  clear hl
  cases hr : rightU l
  · obtain ⟨h1, h2⟩ := printE_no hr
    have HP := Lib.hid h1
    have HV := Lib.hid h2
    have HR := Lib.hid hr
    clear h1 h2 hr
    go_enter Tryd.func12, Tryd.ntmps12
    go_wp2_with fail
    refine CR.out.mono ?_
    rintro e w' ⟨rfl, rfl⟩
    rw [HR.out]
    go_wp2_with fail
    go_ret2
    exact ⟨by rw [HP.out, HV.out] <;> rfl, Below.refl _ _⟩
  · obtain ⟨h1, h2⟩ := printE_yes hr
    obtain ⟨hr1, hr2, hr3⟩ := of_decide_eq_true hr
    have HP := Lib.hid h1
    have HV := Lib.hid h2
    have HR := Lib.hid hr
    have HOK := Lib.hid hr3
    have hn60 : n ≤ 60 := by rw [← HL.out.1]; exact hr2
    clear h1 h2 hr hr3 hr1 hr2
    go_enter Tryd.func12, Tryd.ntmps12
    go_wp2_with fail
    refine CR.out.mono ?_
    rintro e w0 ⟨rfl, rfl⟩
    rw [HR.out]
    go_wp2_with fail
    go_loopw [4, 5] (fun s i wx => ∃ k q : Nat, k ≤ n ∧ i = .int .i64 (k : Int) ∧ s = .string (strOf (setN (l.take k))) ∧ wx = w.drewN q) (fun _ i _ => n - (intOf i).toNat)
    case atStart => exact ⟨0, 0, Nat.zero_le _, rfl, rfl, rfl⟩
    case round =>
      obtain ⟨k, q, hk, rfl, rfl, hw⟩ := hrel
      have HW := Lib.hid hw
      clear hw
      by_cases hlt : k < n
      · obtain ⟨b, o, r, rfl, hbb, hla, htk, hrow⟩ := HL.out.at_ hlt
        rw [show w.rangeAt b (o + k * 2) (rgC r) = wr.rangeAt b (o + k * 2) (rgC r) by rw [HW.out]; rfl] at hrow
        obtain ⟨x, y⟩ := r
        have hok := HOK.out (x, y) (List.mem_of_getElem? hla)
        have r0 := hrow 0 _ rfl
        have r1 := hrow 1 _ rfl
        rw [Nat.add_zero] at r0
        have hlen := set_take_len HOK.out k (by omega)
        have hx10 := endN_len hok.1
        have hy10 := endN_len hok.2
        have CX := Lib.hid (fun W => x9end_any x hok.1 W)
        have CY := Lib.hid (fun W => x9end_any y hok.2 W)
        have hk0 : (0 : Int) ≤ (k : Int) := by omega
        have hkn : (k : Int) < (n : Int) := by omega
        obtain ⟨acc, hacc⟩ : ∃ a, setN (l.take k) = a := ⟨_, rfl⟩
        rw [hacc] at hlen ⊢
        obtain ⟨ex, hex⟩ : ∃ a, endN x = a := ⟨_, rfl⟩
        obtain ⟨ey, hey⟩ : ∃ a, endN y = a := ⟨_, rfl⟩
        rw [hex] at hx10
        rw [hey] at hy10
        simp only [hex] at CX
        simp only [hey] at CY
        rcases Nat.eq_zero_or_pos k with hkz | hkp
        · subst hkz
          have hacc0 : acc = [] := hacc.symm
          subst hacc0
          rw [Nat.zero_mul, Nat.add_zero] at r0 r1
          have HNX := Lib.hid (set_one htk)
          clear hla htk hrow hok hacc
          have ka := fun W => add_str (strOf []) (strOf ex) [] ex rfl rfl (by simp; omega) W
          rw [List.nil_append] at ka
          by_cases hxy : x = y
          · subst hxy
            have hne : (x != x) = false := by simp
            have HE : Hid (setN (l.take (0 + 1)) = ex) := Lib.hid (by rw [HNX.out, rangeN_same, hex])
            clear hex hey
            go_wp2_with fail
            refine (CX.out _).mono ?_
            rintro e w' ⟨rfl, rfl⟩
            go_wp2_with fail
            go_quiet (fail)
            go_wp2_with fail
            go_roundw
            case rel => exact ⟨1, _, by omega, by rfl, by rw [HE.out], by rw [HW.out]; exact drewN_twice _ _ _⟩
            case measure => simp [intOf]; omega
          · have hne : (y != x) = true := by simp; exact fun e => hxy e.symm
            have kb := fun W => add_str (strOf ex) ⟨#[58]⟩ ex [58] rfl rfl (by simp; omega) W
            obtain ⟨ab, hab⟩ : ∃ a, ex ++ [58] = a := ⟨_, rfl⟩
            have habl : ab.length ≤ 1332 := by rw [← hab]; simp; omega
            rw [hab] at kb
            have kc := fun W => add_str (strOf ab) (strOf ey) ab ey rfl rfl (by omega) W
            obtain ⟨av, hav⟩ : ∃ a, ab ++ ey = a := ⟨_, rfl⟩
            rw [hav] at kc
            have HE : Hid (setN (l.take (0 + 1)) = av) := Lib.hid (by rw [HNX.out, rangeN_two hxy, hex, hey, ← hav, ← hab]; simp [List.append_assoc])
            clear hex hey hab hav hxy
            go_wp2_with fail
            refine (CX.out _).mono ?_
            rintro e w' ⟨rfl, rfl⟩
            go_wp2_with fail
            go_quiet (fail)
            go_wp2_with fail
            refine (CY.out _).mono ?_
            rintro e w' ⟨rfl, rfl⟩
            go_wp2_with fail
            go_roundw
            case rel => exact ⟨1, _, by omega, by rfl, by rw [HE.out], by rw [HW.out]; exact drewN_twice _ _ _⟩
            case measure => simp [intOf]; omega
        · have hkp' : (0 : Int) < (k : Int) := by omega
          have HNX : Hid (setN (l.take (k + 1)) = (acc ++ [44]) ++ rangeN (x, y)) := Lib.hid (by rw [set_snoc hkp (by rw [HL.out.1]; omega) htk, hacc, List.append_assoc]; rfl)
          clear hla htk hrow hok hacc
          have kz := fun W => add_str (strOf acc) ⟨#[44]⟩ acc [44] rfl rfl (by simp; omega) W
          obtain ⟨ac, hac⟩ : ∃ a, acc ++ [44] = a := ⟨_, rfl⟩
          have hacl : ac.length ≤ 1321 := by rw [← hac]; simp; omega
          rw [hac] at kz HNX
          have ka0 := fun W => add_str (strOf ac) (strOf ex) ac ex rfl rfl (by omega) W
          obtain ⟨ax, hax⟩ : ∃ a, ac ++ ex = a := ⟨_, rfl⟩
          have haxl : ax.length ≤ 1331 := by rw [← hax]; simp; omega
          rw [hax] at ka0
          clear hac
          by_cases hxy : x = y
          · subst hxy
            have hne : (x != x) = false := by simp
            have HE : Hid (setN (l.take (k + 1)) = ax) := Lib.hid (by rw [HNX.out, rangeN_same, hex]; exact hax)
            clear hex hey hax
            go_wp2_with fail
            refine (CX.out _).mono ?_
            rintro e w' ⟨rfl, rfl⟩
            go_wp2_with fail
            go_quiet (fail)
            go_wp2_with fail
            go_roundw
            case rel => exact ⟨k + 1, _, by omega, by go_num, by rw [HE.out], by rw [HW.out]; exact drewN_twice _ _ _⟩
            case measure => simp [intOf]; omega
          · have hne : (y != x) = true := by simp; exact fun e => hxy e.symm
            have kb := fun W => add_str (strOf ax) ⟨#[58]⟩ ax [58] rfl rfl (by simp; omega) W
            obtain ⟨ab, hab⟩ : ∃ a, ax ++ [58] = a := ⟨_, rfl⟩
            have habl : ab.length ≤ 1332 := by rw [← hab]; simp; omega
            rw [hab] at kb
            have kc := fun W => add_str (strOf ab) (strOf ey) ab ey rfl rfl (by omega) W
            obtain ⟨av, hav⟩ : ∃ a, ab ++ ey = a := ⟨_, rfl⟩
            rw [hav] at kc
            have HE : Hid (setN (l.take (k + 1)) = av) := Lib.hid (by rw [HNX.out, rangeN_two hxy, hex, hey, ← hav, ← hab, ← hax]; simp [List.append_assoc])
            clear hex hey hab hav hxy hax
            go_wp2_with fail
            refine (CX.out _).mono ?_
            rintro e w' ⟨rfl, rfl⟩
            go_wp2_with fail
            go_quiet (fail)
            go_wp2_with fail
            refine (CY.out _).mono ?_
            rintro e w' ⟨rfl, rfl⟩
            go_wp2_with fail
            go_roundw
            case rel => exact ⟨k + 1, _, by omega, by go_num, by rw [HE.out], by rw [HW.out]; exact drewN_twice _ _ _⟩
            case measure => simp [intOf]; omega
      · obtain rfl : k = n := by omega
        have hall : Hid (setN (l.take k) = setN l) := Lib.hid (by rw [List.take_of_length_le (by rw [HL.out.1]; exact Nat.le_refl _)])
        rw [hall.out]
        have hkk : ¬ (k : Int) < (k : Int) := by omega
        go_wp2_with fail
        go_ret2
        exact ⟨by rw [HP.out, HV.out] <;> rfl, by rw [HW.out]; exact below_drewN (Below.refl _ _) _⟩
end Go.Proofs.YtiophifilikajaaDoor
