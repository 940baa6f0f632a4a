/-
  The laws NameCleans and NameLikes of package name, as walks.
-/
import Derived.Test.YtbegklhbhafmeaaDoorQNameD
namespace Go.Proofs.YtbegklhbhafmeaaDoor
set_option linter.unusedVariables false
set_option linter.unusedSimpArgs false
open Go.RowKit
set_option linter.unusedVariables false
set_option linter.unusedSimpArgs false

theorem size_300 (s : ByteArray) (h : ¬ (300 < s.size)) : s.size ≤ 140737488355328 := by omega
set_option maxRecDepth 20000 in
set_option maxHeartbeats 4000000 in
theorem nameCleans_walk (s top : ByteArray) (hs : s.size ≤ 140737488355328) (ht : top.size ≤ 140737488355328) (w : World) :
    Calls Tryd.prog 3 #[.string s, .string top] w fun e w' => e = .returned (.bool true) ∧ Below w.heap.size w w' := by
  by_cases h1 : 300 < s.size
  · have a1 : (300 : Int) < (s.size : Int) := by omega
    go_enter Tryd.func3, Tryd.ntmps3
    go_wp2_with fail
    refine (alive10_any w).mono ?_
    rintro e w1 ⟨rfl, hb1⟩
    have H1 := Lib.hid hb1
    clear hb1
    go_wp2_with fail
    go_ret
    exact ⟨rfl, H1.out⟩
  · by_cases h2 : 300 < top.size
    · have a1 : ¬ (300 : Int) < (s.size : Int) := by omega
      have a2 : (300 : Int) < (top.size : Int) := by omega
      go_enter Tryd.func3, Tryd.ntmps3
      go_wp2_with fail
      refine (alive10_any w).mono ?_
      rintro e w1 ⟨rfl, hb1⟩
      have H1 := Lib.hid hb1
      clear hb1
      go_wp2_with fail
      go_ret
      exact ⟨rfl, H1.out⟩
    · have a1 : ¬ (300 : Int) < (s.size : Int) := by omega
      have a2 : ¬ (300 : Int) < (top.size : Int) := by omega
      have CC := Lib.hid fun W => nmClean_any s hs W
      have DC := Lib.hid fun W => xaClean_any s hs W
      have CR := Lib.hid fun W => nmRight_any s hs W
      have DR := Lib.hid fun W => xaRight_any s hs W
      have CB := Lib.hid fun W => nmBelow_any s top hs W
      have DB := Lib.hid fun W => xaBelow_any s top hs W
      have hn : (aboveN (nats s)).length ≤ 300 := by have := above_len (nats s); rw [nats_length] at this; omega
      have HN := Lib.hid hn
      obtain ⟨t, htd⟩ : ∃ t, strOf (cleanV (nats s)) = t := ⟨_, rfl⟩
      obtain ⟨z, hzd⟩ : ∃ z, cleanE (nats s) = z := ⟨_, rfl⟩
      obtain ⟨r, hrd⟩ : ∃ r, rightN (nats s) = r := ⟨_, rfl⟩
      obtain ⟨b, hbd⟩ : ∃ b, belowN (nats s) (nats top) = b := ⟨_, rfl⟩
      simp only [htd, hzd, hrd, hbd] at CC DC CR DR CB DB
      clear htd hzd hrd hbd hn
      have e1 : (t.toList == t.toList) = true := by simp
      have e2 : (z == z) = true := by simp
      have e3 : (r == r) = true := by simp
      have e4 : (b == b) = true := by simp
      go_enter Tryd.func3, Tryd.ntmps3
      go_wp2_with fail
      refine (alive10_any w).mono ?_
      rintro e w1 ⟨rfl, hb1⟩
      have H1 := Lib.hid hb1
      clear hb1
      go_wp2_with fail
      refine (CC.out w1).mono ?_
      rintro e w2 ⟨rfl, hb2⟩
      have H2 := Lib.hid (H1.out.trans (hb2.mono H1.out.size))
      clear hb2 H1 CC
      go_wp2_with fail
      refine (DC.out w2).mono ?_
      rintro e w' ⟨rfl, rfl⟩
      clear DC
      go_wp2_with fail
      refine (CR.out w2).mono ?_
      rintro e w3 ⟨rfl, hb3⟩
      have H3 := Lib.hid (H2.out.trans (hb3.mono H2.out.size))
      clear hb3 H2 CR
      go_wp2_with fail
      refine (DR.out w3).mono ?_
      rintro e w' ⟨rfl, rfl⟩
      clear DR
      go_wp2_with fail
      refine (nmAbove_any s hs w3).mono ?_
      rintro e w4 ⟨A1, n1, c1, rfl, hw1, hb4⟩
      have H4 := Lib.hid (H3.out.trans (hb4.mono H3.out.size))
      have W1 := Lib.hid hw1
      clear hb4 H3 hw1
      go_wp2_with fail
      refine (xaAbove_any s hs w4).mono ?_
      rintro e w5 ⟨A2, n2, c2, rfl, hw2, hb5⟩
      have H5 := Lib.hid (H4.out.trans (hb5.mono H4.out.size))
      have W1' := Lib.hid (W1.out.below hb5)
      have W2 := Lib.hid hw2
      have CT := Lib.hid (xaTexts_any A1 A2 n1 c1 n2 c2 _ _ w5 W1'.out.col W2.out.col (by rw [← W1'.out.len]; exact Nat.le_trans HN.out (by decide)) (by rw [← W2.out.len]; exact Nat.le_trans HN.out (by decide)))
      rw [decide_eq_true rfl] at CT
      clear hb5 H4 hw2 W1 W1' W2
      go_wp2_with fail
      refine CT.out.mono ?_
      rintro e w6 ⟨rfl, q, hw6⟩
      have H6 : Hid (Below w.heap.size w w6) := Lib.hid (by rw [hw6]; exact below_drewN H5.out q)
      clear hw6 CT H5
      go_wp2_with fail
      refine (CB.out w6).mono ?_
      rintro e w7 ⟨rfl, hb7⟩
      have H7 := Lib.hid (H6.out.trans (hb7.mono H6.out.size))
      clear hb7 H6 CB
      go_wp2_with fail
      refine (DB.out w7).mono ?_
      rintro e w8 ⟨rfl, hb8⟩
      have H8 := Lib.hid (H7.out.trans (hb8.mono H7.out.size))
      clear hb8 H7 DB
      go_wp2_with fail
      go_ret
      exact ⟨rfl, H8.out⟩

set_option maxRecDepth 20000 in
set_option maxHeartbeats 4000000 in
theorem nameLikes_walk (p s base : ByteArray) (hp : p.size ≤ 140737488355328) (hs : s.size ≤ 140737488355328) (hb : base.size ≤ 140737488355328) (w : World) :
    Calls Tryd.prog 4 #[.string p, .string s, .string base] w fun e w' => e = .returned (.bool true) ∧ Below w.heap.size w w' := by
  by_cases h1 : 300 < p.size
  · have a1 : (300 : Int) < (p.size : Int) := by omega
    go_enter Tryd.func4, Tryd.ntmps4
    go_wp2_with fail
    refine (alive10_any w).mono ?_
    rintro e w1 ⟨rfl, hb1⟩
    have H1 := Lib.hid hb1
    clear hb1
    go_wp2_with fail
    go_ret
    exact ⟨rfl, H1.out⟩
  · by_cases h2 : 300 < s.size
    · have a1 : ¬ (300 : Int) < (p.size : Int) := by omega
      have a2 : (300 : Int) < (s.size : Int) := by omega
      go_enter Tryd.func4, Tryd.ntmps4
      go_wp2_with fail
      refine (alive10_any w).mono ?_
      rintro e w1 ⟨rfl, hb1⟩
      have H1 := Lib.hid hb1
      clear hb1
      go_wp2_with fail
      go_ret
      exact ⟨rfl, H1.out⟩
    · by_cases h3 : 300 < base.size
      · have a1 : ¬ (300 : Int) < (p.size : Int) := by omega
        have a2 : ¬ (300 : Int) < (s.size : Int) := by omega
        have a3 : (300 : Int) < (base.size : Int) := by omega
        go_enter Tryd.func4, Tryd.ntmps4
        go_wp2_with fail
        refine (alive10_any w).mono ?_
        rintro e w1 ⟨rfl, hb1⟩
        have H1 := Lib.hid hb1
        clear hb1
        go_wp2_with fail
        go_ret
        exact ⟨rfl, H1.out⟩
      · have a1 : ¬ (300 : Int) < (p.size : Int) := by omega
        have a2 : ¬ (300 : Int) < (s.size : Int) := by omega
        have a3 : ¬ (300 : Int) < (base.size : Int) := by omega
        have CJ := Lib.hid fun W => nmJoin_any base p (by omega) (by omega) W
        have DJ := Lib.hid fun W => xaJoin_any base p (by omega) (by omega) W
        have CL := Lib.hid fun W => nmLike_any p s hp hs W
        have DL := Lib.hid fun W => xaLike_any p s hp hs W
        obtain ⟨t, htd⟩ : ∃ t, strOf (joinV (nats base) (nats p)) = t := ⟨_, rfl⟩
        obtain ⟨z, hzd⟩ : ∃ z, joinE (nats base) (nats p) = z := ⟨_, rfl⟩
        obtain ⟨r, hrd⟩ : ∃ r, lkB (nats p) (nats s) = r := ⟨_, rfl⟩
        have hrd2 : (patB (nats p) && (rightN (nats s) && likeF (nats p) (nats s))) = r := hrd
        simp only [htd, hzd, hrd, hrd2] at CJ DJ CL DL
        clear htd hzd hrd hrd2
        have e1 : (t.toList == t.toList) = true := by simp
        have e2 : (z == z) = true := by simp
        have e3 : (r == r) = true := by simp
        go_enter Tryd.func4, Tryd.ntmps4
        go_wp2_with fail
        refine (alive10_any w).mono ?_
        rintro e w1 ⟨rfl, hb1⟩
        have H1 := Lib.hid hb1
        clear hb1
        go_wp2_with fail
        refine (CJ.out w1).mono ?_
        rintro e w' ⟨rfl, rfl⟩
        clear CJ
        go_wp2_with fail
        refine (DJ.out w1).mono ?_
        rintro e w' ⟨rfl, rfl⟩
        clear DJ
        go_wp2_with fail
        refine (CL.out w1).mono ?_
        rintro e w2 ⟨rfl, hb2⟩
        have H2 := Lib.hid (H1.out.trans (hb2.mono H1.out.size))
        clear hb2 H1 CL
        go_wp2_with fail
        refine (DL.out w2).mono ?_
        rintro e w3 ⟨rfl, hb3⟩
        have H3 := Lib.hid (H2.out.trans (hb3.mono H2.out.size))
        clear hb3 H2 DL
        go_wp2_with fail
        go_ret
        exact ⟨rfl, H3.out⟩
end Go.Proofs.YtbegklhbhafmeaaDoor
