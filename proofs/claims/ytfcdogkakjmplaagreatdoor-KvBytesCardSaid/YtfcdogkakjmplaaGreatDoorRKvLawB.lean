/-
  The law KvBytes of package kv, as a walk.
-/
import Derived.Test.YtfcdogkakjmplaaGreatDoorRKvAlive
import Derived.Test.YtfcdogkakjmplaaGreatDoorRKvGet
import Derived.Test.YtfcdogkakjmplaaGreatDoorRKvRefB
import Derived.Test.YtfcdogkakjmplaaGreatDoorRKvRefD
import Derived.Test.YtfcdogkakjmplaaGreatDoorRKvRound
namespace Go.Proofs.YtfcdogkakjmplaaGreatDoor
set_option linter.unusedVariables false
set_option linter.unusedSimpArgs false
open Go.RowKit Go.Maps
set_option linter.unusedVariables false
set_option linter.unusedSimpArgs false

set_option maxRecDepth 100000 in
set_option maxHeartbeats 8000000 in
theorem kvBytes_walk (A : Option Addr) (n c : Nat) (l : List Chg) (A2 : Option Addr) (n2 c2 : Nat) (b : List Nat) (w : World) (hl : ColK 3 chgC w w.heap.size A n l) (hs : ∀ x ∈ l, x.1.size ≤ 140737488355328 ∧ x.2.1.size ≤ 140737488355328) (hn : n ≤ 140737488355328)
    (hb : Bytes w w.heap.size A2 n2 b) (hn2 : n2 ≤ 140737488355328) (hnc : n2 ≤ c2) (hcm : c2 ≤ maxLen) (ht : Tab w) :
    Calls Tryz.prog 3 #[.slice A n c, .slice A2 n2 c2] w fun e w' => e = .returned (.bool true) ∧ Below w.heap.size w w' := by
  have HL := Lib.hid hl
  have HS := Lib.hid hs
  have HT := Lib.hid ht
  have HBY := Lib.hid hb
  have HBL : Hid (b.length = n2) := Lib.hid hb.1
  have HB256 : Hid (∀ x ∈ b, x < 256) := Lib.hid hb.2.1
  clear hl hs ht hb
  go_enter Tryz.func3, Tryz.ntmps3
  go_wp2_with fail
  refine (alive06_any w HT.out).mono ?_
  rintro e W1 ⟨rfl, hb1⟩
  have HB1 := Lib.hid hb1
  clear hb1
  go_wp2_with fail
  have HG := Lib.hid (great06_any none A 0 0 n c [] l W1 ColK.nil (HL.out.later HB1.out) (by omega) hn (fun x hx => by cases hx) HS.out)
  refine HG.out.mono ?_
  rintro e W3 ⟨rfl, q, hw3⟩
  have HB3 : Hid (Below w.heap.size w W3) := Lib.hid (by rw [hw3]; exact belowK_drewN HB1.out q)
  clear hw3 HG HB1
  cases hg : great6B [] l
  rotate_left
  · go_wp2_with fail
    go_ret
    exact ⟨rfl, HB3.out⟩
  clear hg
  by_cases h8 : 8000 < n2
  · have h8' : (8000 : Int) < (n2 : Int) := by omega
    go_wp2_with fail
    go_ret
    exact ⟨rfl, HB3.out⟩
  have h8' : ¬ (8000 : Int) < (n2 : Int) := by omega
  go_wp2_with fail
  obtain ⟨ee, hee⟩ : ∃ q, encE l = q := ⟨_, rfl⟩
  obtain ⟨de, hde⟩ : ∃ q, decE b = q := ⟨_, rfl⟩
  have HDE := Lib.hid hde
  refine (encode_any A n c l W3 (HL.out.later HB3.out) HS.out hn).mono ?_
  rintro e W4 ⟨A3, n3, c3, rfl, ho3, hb4⟩
  rw [hee]
  have HB4 := Lib.hid (HB3.out.trans (hb4.mono HB3.out.size))
  have HX := Lib.hid ho3.bytes
  clear ho3 hb4 HB3
  go_wp2_with fail
  refine (x6encode_any A n c l W4 (HL.out.later HB4.out) HS.out hn).mono ?_
  rintro e W5 ⟨A4, n4, c4, rfl, ho4, hb5⟩
  rw [hee]
  have HB5 := Lib.hid (HB4.out.trans (hb5.mono HB4.out.size))
  have HX5 := Lib.hid (HX.out.later hb5)
  have HY := Lib.hid ho4.bytes
  clear ho4 hb5 HB4 HX hee
  go_wp2_with fail
  refine (decode_any A2 n2 c2 _ b W5 (HBY.out.later HB5.out) hn2).mono ?_
  rintro e W6 ⟨A5, n5, c5, rfl, ho5, hb6⟩
  rw [hde]
  have HB6 := Lib.hid (HB5.out.trans (hb6.mono HB5.out.size))
  have HX6 := Lib.hid (HX5.out.later hb6)
  have HY6 := Lib.hid (HY.out.later hb6)
  have HC := Lib.hid ho5.col
  have hn5 : n5 ≤ 400 := by rw [← ho5.len]; exact decV_len _
  clear ho5 hb6 HB5 HX5 HY
  go_wp2_with fail
  refine (x6decode_any A2 n2 c2 b W6 (HBY.out.later HB6.out) hn2 hnc hcm).mono ?_
  rintro e W7 ⟨A6, n6, c6, rfl, ho6, hb7⟩
  rw [hde]
  have HB7 := Lib.hid (HB6.out.trans (hb7.mono HB6.out.size))
  have HX7 := Lib.hid (HX6.out.later hb7)
  have HY7 := Lib.hid (HY6.out.later hb7)
  have HC7 := Lib.hid (HC.out.later hb7)
  have HK7 := Lib.hid ho6.col
  have hn56 : n5 = n6 := by rw [← HC.out.1, ho6.len]
  subst hn56
  clear ho6 hb7 HB6 HX6 HY6 HC hde
  have hsm := same3_any A3 n3 c3 _ (encV l) A4 n4 c4 _ (encV l) W7 HX7.out HY7.out
  rw [decide_eq_true (Eq.refl (encV l))] at hsm
  have HSM := Lib.hid hsm
  have q1 : ((ee : Int) != (ee : Int)) = false := by simp
  have q2 : ((de : Int) != (de : Int)) = false := by simp
  have q3 : ((n5 : Int) != (n5 : Int)) = false := by simp
  clear hsm
  go_wp2_with fail
  refine HSM.out.mono ?_
  rintro e w' ⟨rfl, rfl⟩
  clear HSM HX7 HY7
  go_wp2_with fail
  go_loopw [13] (fun i wx => ∃ k q : Nat, k ≤ n5 ∧ i = .int .i64 (k : Int) ∧ wx = W7.drewN q) (fun i _ => n5 - (intOf i).toNat)
  case atStart => exact ⟨0, 0, Nat.zero_le _, rfl, rfl⟩
  case round =>
    obtain ⟨k, q, hk, rfl, hw⟩ := hrel
    have HW := Lib.hid hw
    clear hw
    by_cases hlt : k < n5
    · obtain ⟨b1, o1, x, rfl, hbb, hla, htk, hrow⟩ := HC7.out.at_ hlt
      obtain ⟨b2, o2, y, rfl, hbb2, hla2, htk2, hrow2⟩ := HK7.out.at_ hlt
      rw [hla] at hla2
      obtain rfl := Option.some.inj hla2
      rw [show W7.rangeAt b1 (o1 + k * 3) (chgC x) = wr.rangeAt b1 (o1 + k * 3) (chgC x) by rw [HW.out]; rfl] at hrow
      rw [show W7.rangeAt b2 (o2 + k * 3) (chgC x) = wr.rangeAt b2 (o2 + k * 3) (chgC x) by rw [HW.out]; rfl] at hrow2
      obtain ⟨x1, x2, x3⟩ := x
      have r0 := hrow 0 _ rfl
      have r1 := hrow 1 _ rfl
      have r2 := hrow 2 _ rfl
      have s0 := hrow2 0 _ rfl
      have s1 := hrow2 1 _ rfl
      have s2 := hrow2 2 _ rfl
      rw [Nat.add_zero] at r0 s0
      have hk0 : (0 : Int) ≤ (k : Int) := by omega
      have hkn : (k : Int) < (n5 : Int) := by omega
      have t1 : (x1.toList == x1.toList) = true := by simp
      have t2 : (x2.toList == x2.toList) = true := by simp
      have t3 : (x3 == x3) = true := by simp
      clear hla hla2 htk htk2 hrow hrow2
      go_wp2_with fail
      go_quiet (fail)
      go_wp2_with fail
      go_roundw
      case rel => exact ⟨k + 1, _, by omega, by go_num, by rw [HW.out]; exact drewN_twiceK _ _ _⟩
      case measure => simp [intOf]; omega
    · have hkn : ¬ (k : Int) < (n5 : Int) := by omega
      have HB9 : Hid (Below w.heap.size w wr) := Lib.hid (by rw [HW.out]; exact belowK_drewN HB7.out q)
      have HC9 : Hid (ColK 3 chgC wr wr.heap.size A5 n5 (decV b)) := Lib.hid (by rw [HW.out]; exact HC7.out)
      clear HC7 HK7 HB7 HW
      by_cases hz : de = 0
      · have z1 : ((de : Int) == 0) = true := by rw [hz]; rfl
        by_cases h6 : n2 ≤ 6000
        · have z2 : (n2 : Int) ≤ 6000 := by omega
          obtain ⟨hf1, hf2⟩ := dec_forth HB256.out (by rw [HDE.out]; exact hz)
          have HEV : Hid (encV (decV b) = b) := Lib.hid (by unfold encV; rw [hf1, if_pos ⟨hf2, by rw [HBL.out]; exact h6⟩])
          have HEE : Hid (encE (decV b) = 0) := Lib.hid (by unfold encE; rw [hf1, hf2, if_pos rfl, if_neg (by rw [HBL.out]; omega)])
          clear hz h6 hf1 hf2
          go_wp2_with fail
          refine (encode_any A5 n5 c5 (decV b) wr HC9.out (fun x hx => by have := decV_size b x hx; omega) (by omega)).mono ?_
          rintro e W10 ⟨A7, n7, c7, rfl, ho7, hb10⟩
          rw [HEE.out]
          rw [HEV.out] at ho7
          have HB10 := Lib.hid (HB9.out.trans (hb10.mono HB9.out.size))
          have hsm := same3_any A7 n7 c7 _ b A2 n2 c2 _ b W10 ho7.bytes (HBY.out.later HB10.out)
          rw [decide_eq_true (Eq.refl b)] at hsm
          have HSM := Lib.hid hsm
          clear hsm ho7 hb10 HB9 HC9
          go_wp2_with fail
          refine HSM.out.mono ?_
          rintro e w' ⟨rfl, rfl⟩
          clear HSM
          go_wp2_with fail
          go_ret
          exact ⟨rfl, HB10.out⟩
        · have z2 : ¬ (n2 : Int) ≤ 6000 := by omega
          clear hz h6
          go_wp2_with fail
          go_ret
          exact ⟨rfl, HB9.out⟩
      · have z1 : ((de : Int) == 0) = false := by rw [beq_eq_false_iff_ne]; omega
        clear hz
        go_wp2_with fail
        go_ret
        exact ⟨rfl, HB9.out⟩
end Go.Proofs.YtfcdogkakjmplaaGreatDoor
