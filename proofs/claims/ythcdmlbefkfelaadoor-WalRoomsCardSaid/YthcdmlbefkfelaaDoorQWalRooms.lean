/-
  WalRooms' walk.
-/
import Derived.Test.YthcdmlbefkfelaaDoorQWalGreat
import Derived.Test.YthcdmlbefkfelaaDoorQWalCalls
import Derived.Deep.DeepCutAuto
import Derived.Test.YthcdmlbefkfelaaDoorQRefSame
namespace Go.Proofs.YthcdmlbefkfelaaDoor
set_option linter.unusedVariables false
set_option linter.unusedSimpArgs false
set_option linter.unusedVariables false
set_option linter.unusedSimpArgs false
open Go.RowKit


set_option maxRecDepth 20000 in
set_option maxHeartbeats 4000000 in
theorem rooms_any (s : Nat) (hs : s < 65536) (A : Option Addr) (n c B : Nat) (L : List (List Nat)) (w : World) (ht : Tab w) (hl : Rss w B A n L) (hB : B ≤ w.heap.size) (hn : n ≤ 140737488355328) (hnc : n ≤ c) (hcm : c ≤ maxLen) :
    Calls Tryd.prog 5 #[.int .u16 (s : Int), .slice A n c] w fun e w' => e = .returned (.bool true) ∧ Below w.heap.size w w' := by
  have HT := Lib.hid ht
  have HLL := Lib.hid hl
  clear hl ht
  go_enter Tryd.func5, Tryd.ntmps5
  go_wp2_with fail
  refine (alive05_any _ HT.out).mono ?_
  rintro e w1 ⟨rfl, hb1⟩
  go_wp2_with fail
  obtain ⟨m, hm⟩ : ∃ m : Nat, m = s % 300 := ⟨_, rfl⟩
  have hmi : ((s : Int) % 300) = (m : Int) := by omega
  have hm3 : m < 300 := by omega
  rw [hmi]
  have HM := Lib.hid hm
  have HB1 := Lib.hid hb1
  have HL1 := Lib.hid (HLL.out.below hb1 hB)
  clear hmi hm hb1
  have hnew := rnew_any (m : Int) w1
  rw [newM_fresh (by omega)] at hnew
  have HF := Lib.hid (fresh_fine (n := m) (by omega))
  generalize freshD m = d0 at *
  refine hnew.mono ?_
  clear hnew
  rintro e w2 hres
  obtain ⟨A1, n1, c1, A1', n1', c1', rfl, hd1, hb2⟩ := hres.zero
  have HD1 := Lib.hid hd1
  have HB2 := Lib.hid (HB1.out.trans (hb2.mono HB1.out.size))
  have HL2 := Lib.hid (HLL.out.below HB2.out hB)
  clear hres hd1 hb2 HB1 HL1
  go_wp2_with fail
  refine calls_over (fun W => Bk W w2.heap.size 28 #[.slice A1 n1 c1, .slice A1' n1' c1', .int .i64 d0.fuse, .bool d0.down] ∧ DkAt W W.heap.size (.agg #[.slice A1 n1 c1, .slice A1' n1' c1', .int .i64 d0.fuse, .bool d0.down]) d0 ∧ Below w.heap.size w W) ⟨Bk.new _ _ _, HD1.out.later ((Below.refl _ _).alloc (Nat.le_refl _) _), HB2.out.alloc HB2.out.size _⟩ ?_
  have hw1 : w.heap.size ≤ w2.heap.size := HB2.out.size
  clear HD1 HB2 HL2
  generalize w2.heap.size = b1 at *
  rintro W3 ⟨k1, kd, kb⟩
  refine (great05_any none none A 0 0 0 0 n c B 0 false L W3 (HLL.out.below kb hB).bss (Nat.le_trans hB kb.size) hn).mono ?_
  rintro e W4 ⟨rfl, hb4⟩
  replace k1 := k1.below hb4 k1.lt
  replace kd := kd.later hb4
  replace kb := kb.trans (hb4.mono kb.size)
  obtain ⟨⟨p0, p1, p2, p3⟩, q0, q1, q2, q3⟩ := k1.four
  by_cases hg : greatN 0 0 L = true
  · rw [hg]
    have KB := Lib.hid kb
    clear k1 kd kb hb4
    go_wp2
    go_ret
    exact ⟨rfl, KB.out⟩
  have hgf : greatN 0 0 L = false := by simpa using hg
  rw [hgf]
  have hsm : greatS L L.length ≤ 20000 := by simpa [greatN] using hgf
  have HSM := Lib.hid (greatS_small hsm)
  have HSB := Lib.hid hsm
  have KB := Lib.hid kb; have K1 := Lib.hid k1; have KD := Lib.hid kd
  clear k1 kd kb hb4 hsm hg hgf
  go_wp2_with fail
  have hb5 : Below W4.heap.size W4 ((W4.alloc (.cells #[.int .u8 1] 5)).alloc (.cells #[.slice (some ⟨W4.heap.size, 0, none⟩) 1 1] 32)) := ((Below.refl _ _).alloc (Nat.le_refl _) _).alloc (by simp) _
  refine calls_over (fun W => Bk W b1 28 #[.slice A1 n1 c1, .slice A1' n1' c1', .int .i64 d0.fuse, .bool d0.down] ∧ DkAt W W.heap.size (.agg #[.slice A1 n1 c1, .slice A1' n1' c1', .int .i64 d0.fuse, .bool d0.down]) d0 ∧ Below w.heap.size w W ∧ Rss W W.heap.size (some ⟨W4.heap.size + 1, 0, none⟩) 1 [[1]]) ⟨K1.out.below hb5 K1.out.lt, KD.out.later hb5, KB.out.trans (hb5.mono KB.out.size), ?_⟩ ?_
  · have hby := Bytes.one W4 (b := 1) (by omega) 5
    have := Rss.one (W4.alloc (.cells #[.int .u8 1] 5)) (c := 1) hby (by omega) (by omega) (by unfold maxLen; omega) (by simp) 32
    simpa using this
  clear hb5 p0 p1 p2 p3 q0 q1 q2 q3 K1 KD KB
  generalize W4.heap.size = b4 at *
  rintro W5 ⟨k1, kd, kb, kr⟩
  by_cases hfit : 2 ≤ m / 2
  · have hfr := format_fine _ d0 _ 1 1 [[1]] W5 kd HF.out kr (by omega) (by decide) (by decide) (show sumT [[1]] ≤ m / 2 from hfit) (HT.out.below kb HT.out.pos)
    refine hfr.mono ?_
    clear hfr kd kr
    rintro e W6 ⟨d1, hF1, hz1, v6, rfl, hd6, hb6⟩
    obtain ⟨A6, n6, c6, A6', n6', c6', rfl, hx6⟩ := hd6
    have hd6 : DkAt W6 W6.heap.size (.agg #[.slice A6 n6 c6, .slice A6' n6' c6', .int .i64 d1.fuse, .bool d1.down]) d1 := ⟨A6, n6, c6, A6', n6', c6', rfl, hx6⟩
    replace k1 := k1.below hb6 k1.lt
    have kb6 := kb.trans (hb6.mono kb.size)
    have l1 : b1 < W6.heap.size := k1.lt
    obtain ⟨⟨p0, p1, p2, p3⟩, q0, q1, q2, q3⟩ := k1.four
    have HBX := Lib.hid (Boxed.made (w := w) k1 hd6 kb6 hw1 0 1 2 1 0 1 2 1 rfl rfl rfl rfl)
    unfold stored4 at HBX
    have HZ := Lib.hid hz1; have HFN := Lib.hid hF1
    clear k1 kb kb6 hd6 hx6 hb6 hz1 hF1
    unfold logN
    simp only [show sumT [[1]] = 2 from by decide, show ([[1]] : List (List Nat)).length = 1 from rfl]
    go_wp2_with fail
    refine code_over (fun W => ∃ b3, b3 = W6.heap.size ∧ Boxed w b1 b3 d1 0 1 2 1 W) ⟨_, rfl, HBX.out⟩ ?_
    have hw6 : w.heap.size ≤ W6.heap.size := Nat.le_trans hw1 (Nat.le_of_lt l1)
    clear HBX p0 p1 p2 p3 q0 q1 q2 q3
    rintro W7 ⟨b3, hb3, hbx⟩
    rw [← hb3] at l1 hw6 ⊢
    have HBX := Lib.hid hbx
    clear hb3 hbx
    have hne31 : b3 ≠ b1 := by omega
    go_loopw [9] (fun x wr => ∃ (k : Nat) (d : Dk) (L : List (List Nat)), k ≤ n ∧ x = .int .i64 (k : Int) ∧ Fine m d ∧ HoldsZ m d 0 1 L ∧ Boxed w b1 b3 d 0 1 (sumT L) L.length wr) (fun x _ => n - (intOf x).toNat)
    case atStart => exact ⟨0, d1, [[1]], Nat.zero_le _, rfl, HFN.out, HZ.out, HBX.out⟩
    case round =>
      clear HBX HZ HFN
      obtain ⟨k, d, L2, hk, rfl, hF, hZ, hbx⟩ := hrel
      by_cases hlt : k < n
      · skip
        have hrs := HLL.out.below hbx.hb hB
        obtain ⟨bL, oL, A5, n5, c5, rfl, hbL, hcL, hn5, hc5, hn5m, hby⟩ := hrs.at_ hlt
        have hlen5 : (textAt L k).length = n5 := hby.1
        subst hlen5
        obtain ⟨⟨Ad, nd, cd, Ad', nd', cd', k1, kd⟩, k3, kb⟩ := hbx
        have HF2 := Lib.hid hF; have HZ2 := Lib.hid hZ
        have hki : (k : Int) < (n : Int) := by omega
        obtain ⟨x, er, L3, hFx, hZx, hway, hap⟩ := append_det (textAt L k) hF hZ hby.2.1
        have hfit2 := hZ.fits hF.2.1
        have hsl : d.secs.length = m := hF.2.1
        have hslx : x.secs.length = m := hFx.2.1
        have hfit3 := hZx.fits hFx.2.1
        have HFIT2 := Lib.hid hfit2; have HFIT3 := Lib.hid hfit3
        obtain ⟨u2, hu2⟩ : ∃ u, u = sumT L2 := ⟨_, rfl⟩
        obtain ⟨c2, hc2⟩ : ∃ u, u = L2.length := ⟨_, rfl⟩
        obtain ⟨u3, hu3⟩ : ∃ u, u = sumT L3 := ⟨_, rfl⟩
        obtain ⟨c3, hc3⟩ : ∃ u, u = L3.length := ⟨_, rfl⟩
        obtain ⟨rm, hrm⟩ : ∃ u, u = m / 2 - u2 := ⟨_, rfl⟩
        obtain ⟨tk, htk⟩ : ∃ u, u = takesN (textAt L k).length := ⟨_, rfl⟩
        have htk95 : tk ≤ 95 := by rw [htk]; exact takesN_le _
        have hu2m : u2 ≤ m / 2 := by rw [hu2, ← hsl]; exact hfit2.2.2.2.2.1
        have hc2m : c2 ≤ 150 := by have h1 := hfit2.2.2.2.2.1; have h2 := hfit2.2.2.2.2.2.2; rw [hc2]; omega
        have hrm150 : rm ≤ 150 := by omega
        rw [← hu2, ← hc2, ← hu3, ← hc3] at hap
        rw [← hu2, ← hc2] at k3
        have hway2 : (tk = 0 ∧ er = 1 ∧ x = d ∧ u3 = u2 ∧ c3 = c2) ∨ (tk ≠ 0 ∧ rm < tk ∧ er = 8 ∧ x = d ∧ u3 = u2 ∧ c3 = c2) ∨ (tk ≠ 0 ∧ tk ≤ rm ∧ er = 0 ∧ u3 = u2 + tk ∧ c3 = c2 + 1) := by
          rw [hrm, htk, hu2, hu3, hc2, hc3]
          rcases hway with ⟨a, b, c, e⟩ | ⟨a, a2, b, c, e⟩ | ⟨a, a2, b, e⟩
          · exact .inl ⟨a, b, c, by rw [e], by rw [e]⟩
          · exact .inr (.inl ⟨a, a2, b, c, by rw [e], by rw [e]⟩)
          · exact .inr (.inr ⟨a, a2, b, by rw [e, sumT_snoc], by rw [e]; simp⟩)
        have HFX := Lib.hid hFx; have HZX := Lib.hid hZx; have HWAY := Lib.hid hway2
        have HU3 := Lib.hid hu3; have HC3 := Lib.hid hc3; have HU2 := Lib.hid hu2; have HC2 := Lib.hid hc2; have HRM := Lib.hid hrm; have HTK := Lib.hid htk; have HSL := Lib.hid hsl; have HSLX := Lib.hid hslx
        have hbw : w.heap.size ≤ wr.heap.size := kb.size
        have hbLr : bL < wr.heap.size := by omega
        clear hF hZ hFx hZx hway hway2 hrs hfit2 hfit3 hu2 hc2 hu3 hc3 hrm htk hsl hslx
        go_wp2_with fail
        have hm : Tryd.prog.follows .mixedOrders = true := by kernel_rfl
        have e17 : ∀ args w, (callFunc 17 args).run Tryd.prog w = .ok (.enter 17 args) w := enters_of Tryd.func17 (by kernel_rfl) rfl
        have e20 : ∀ args w, (callFunc 20 args).run Tryd.prog w = .ok (.enter 20 args) w := enters_of Tryd.func20 (by kernel_rfl) rfl
        refine wp_region_quiet (C := fun W' => Below wr.heap.size wr W') hm (by kernel_rfl) (show Below wr.heap.size wr wr.drew from (Below.refl _ _).drew) ?_
        refine quiet_val (v := .agg #[.slice Ad nd cd, .slice Ad' nd' cd', .int .i64 d.fuse, .bool d.down]) (by rfl) (fun W' hC => by have := (k1.below hC k1.lt).four.1; simp [execOp, Act.eval, Act.put, go_sem, this.1, this.2.1, this.2.2.1, this.2.2.2]) ?_
        simp only [Act.put, List.setIfInBounds_toArray, List.set_cons_zero, List.set_cons_succ]
        refine quiet_val (v := .agg #[.int .i64 0, .int .i64 1, .int .i64 (u2 : Int), .int .i64 (c2 : Int)]) (by rfl) (fun W' hC => by have := (k3.below hC k3.lt).four.1; simp [execOp, Act.eval, Act.put, go_sem, this.1, this.2.1, this.2.2.1, this.2.2.2]) ?_
        simp only [Act.put, List.setIfInBounds_toArray, List.set_cons_zero, List.set_cons_succ]
        refine quiet_call (v := .int .i64 (rm : Int)) (f := 17) (args := #[.agg #[.slice Ad nd cd, .slice Ad' nd' cd', .int .i64 d.fuse, .bool d.down], .agg #[.int .i64 0, .int .i64 1, .int .i64 (u2 : Int), .int .i64 (c2 : Int)]]) (by rfl) (fun W' hC => exec_fn rfl rfl (by simp [Act.eval]) (e17 _ _)) (fun W' hC => by
          have hroom := room_any _ d 0 1 (sumT L2) L2.length W' (kd.later hC) HF2.out.1 HFIT2.out
          rw [← HU2.out, ← HC2.out, HSL.out, ← HRM.out] at hroom
          exact hroom.mono (fun _ _ hh => ⟨hh.1, hC.trans (hh.2.mono hC.size)⟩)) ?_
        simp only [Act.put, List.setIfInBounds_toArray, List.set_cons_zero, List.set_cons_succ]
        refine quiet_val (v := .slice (some ⟨bL, oL, none⟩) n c) (by rfl) (fun W' hC => by simp [execOp, Act.eval, Act.put, go_sem]) ?_
        simp only [Act.put, List.setIfInBounds_toArray, List.set_cons_zero, List.set_cons_succ]
        refine quiet_val (v := .int .i64 (k : Int)) (by rfl) (fun W' hC => by simp [execOp, Act.eval, Act.put, go_sem]) ?_
        simp only [Act.put, List.setIfInBounds_toArray, List.set_cons_zero, List.set_cons_succ]
        refine quiet_val (v := .pointer (some ⟨bL, oL + k, none⟩)) (by rfl) (fun W' hC => by simp [execOp, Act.eval, Act.put, go_sem, hki]) ?_
        simp only [Act.put, List.setIfInBounds_toArray, List.set_cons_zero, List.set_cons_succ]
        refine quiet_val (v := .slice A5 (textAt L k).length c5) (by rfl) (fun W' hC => by have := hC.cell (p := ⟨bL, oL + k, none⟩) hbLr; simp [execOp, Act.eval, Act.put, go_sem, this, hcL]) ?_
        simp only [Act.put, List.setIfInBounds_toArray, List.set_cons_zero, List.set_cons_succ]
        refine quiet_val (v := .int .i64 ((textAt L k).length : Int)) (by rfl) (fun W' hC => by simp [execOp, Act.eval, Act.put, go_sem]) ?_
        simp only [Act.put, List.setIfInBounds_toArray, List.set_cons_zero, List.set_cons_succ]
        refine quiet_call (v := .int .i64 (tk : Int)) (f := 20) (args := #[.int .i64 ((textAt L k).length : Int)]) (by rfl) (fun W' hC => exec_fn rfl rfl (by simp [Act.eval]) (e20 _ _)) (fun W' hC => (takes_int _ W' hn5m).mono (fun _ _ hh => ⟨by rw [HTK.out]; exact hh.1, by rw [← hh.2]; exact hC⟩)) ?_
        simp only [Act.put, List.setIfInBounds_toArray, List.set_cons_zero, List.set_cons_succ]
        refine quiet_val (v := .int .i64 (rm : Int)) (by rfl) (fun W' hC => by simp [execOp, Act.eval, Act.put, go_sem]) ?_
        simp only [Act.put, List.setIfInBounds_toArray, List.set_cons_zero, List.set_cons_succ]
        refine quiet_val (v := .int .i64 (tk : Int)) (by rfl) (fun W' hC => by simp [execOp, Act.eval, Act.put, go_sem]) ?_
        simp only [Act.put, List.setIfInBounds_toArray, List.set_cons_zero, List.set_cons_succ]
        refine wpQuiet_nil ?_
        intro W8 hC
        replace k1 := k1.below hC k1.lt
        replace k3 := k3.below hC k3.lt
        replace kd := kd.later hC
        replace kb := kb.trans (hC.mono kb.size)
        have hcL8 : W8.cell? ⟨bL, oL + k, none⟩ = some (.slice A5 (textAt L k).length c5) := (hC.cell (p := ⟨bL, oL + k, none⟩) hbLr).trans hcL
        have hbL8 : bL < W8.heap.size := Nat.lt_of_lt_of_le hbLr hC.size
        replace hby := (hby.below hC (Nat.le_trans hB hbw)).more (B' := W8.heap.size) (Nat.le_trans hB (Nat.le_trans hbw hC.size))
        clear hC hcL hbL hbLr e17 e20 hm
        have HBY := Lib.hid hby
        clear hby
        have HT8 := Lib.hid (HT.out.below kb HT.out.pos)
        have K1 := Lib.hid k1; have K3 := Lib.hid k3; have KD := Lib.hid kd; have KB := Lib.hid kb; have HAP := Lib.hid hap
        have HCL8 := Lib.hid hcL8
        clear k1 k3 kd kb hap hcL8
        go_upto_region 13 with (fail)
        go_cut [12, 13, 14] (fun x12 x13 x14 wx => ∃ b12 b13, x12 = .pointer (some ⟨b12, 0, none⟩) ∧ x13 = .pointer (some ⟨b13, 0, none⟩) ∧ x14 = .int .i64 er ∧ W8.heap.size ≤ b12 ∧ W8.heap.size ≤ b13 ∧ b12 ≠ b13 ∧ Boxed W8 b12 b13 x 0 1 u3 c3 wx)
        case first =>
          have hap : ∀ W, Below W8.heap.size W8 W → Calls Tryd.prog 12 #[.agg #[.slice Ad nd cd, .slice Ad' nd' cd', .int .i64 d.fuse, .bool d.down], .agg #[.int .i64 0, .int .i64 1, .int .i64 (u2 : Int), .int .i64 (c2 : Int)], .slice A5 (textAt L k).length c5] W (LogRes W (x, er) (logN 0 1 u3 c3)) := fun W hb => HAP.out _ A5 c5 W (KD.out.later hb) (HBY.out.later hb) hn5 hc5 (HT8.out.below hb HT8.out.pos) hn5m
          go_wp2_with fail
          have hm : Tryd.prog.follows .mixedOrders = true := by kernel_rfl
          refine wp_region_held_drew (S := fun W' => Below W8.heap.size W8 W') hm ((Below.refl _ _).drew) (fun hHeld => ?_)
          obtain ⟨V0, hV0⟩ : ∃ V, V = W8.drew := ⟨_, rfl⟩
          rw [← hV0] at hHeld ⊢
          clear hV0
          simp only [List.size_toArray, List.length_cons, List.length_nil, Nat.reduceAdd]
          refine wpAnyH_take (i := 0) (v := .agg #[.slice Ad nd cd, .slice Ad' nd' cd', .int .i64 d.fuse, .bool d.down]) rfl (by kernel_rfl) (by kernel_rfl) (by kernel_rfl) (fun _ _ _ h => h) (Or.inl ⟨by rfl, fun w0 hC => by have := (K1.out.below hC K1.out.lt).four.1; simp [execOp, Act.eval, Act.put, go_sem, this.1, this.2.1, this.2.2.1, this.2.2.2]⟩) hHeld ?_
          try simp only [Act.put, List.setIfInBounds_toArray, List.set_cons_zero, List.set_cons_succ, List.getElem_toArray, List.getElem_cons_zero, List.getElem_cons_succ]
          refine wpAnyH_take (i := 1) (v := .agg #[.int .i64 0, .int .i64 1, .int .i64 (u2 : Int), .int .i64 (c2 : Int)]) rfl (by kernel_rfl) (by kernel_rfl) (by kernel_rfl) (fun _ _ _ h => h) (Or.inl ⟨by rfl, fun w0 hC => by have := (K3.out.below hC K3.out.lt).four.1; simp [execOp, Act.eval, Act.put, go_sem, this.1, this.2.1, this.2.2.1, this.2.2.2]⟩) hHeld ?_
          try simp only [Act.put, List.setIfInBounds_toArray, List.set_cons_zero, List.set_cons_succ, List.getElem_toArray, List.getElem_cons_zero, List.getElem_cons_succ]
          refine wpAnyH_take (i := 2) (v := .slice (some ⟨bL, oL, none⟩) n c) rfl (by kernel_rfl) (by kernel_rfl) (by kernel_rfl) (fun _ _ _ h => h) (Or.inl ⟨by rfl, fun w0 hC => by simp [execOp, Act.eval, Act.put, go_sem]⟩) hHeld ?_
          try simp only [Act.put, List.setIfInBounds_toArray, List.set_cons_zero, List.set_cons_succ, List.getElem_toArray, List.getElem_cons_zero, List.getElem_cons_succ]
          refine wpAnyH_take (i := 3) (v := .int .i64 (k : Int)) rfl (by kernel_rfl) (by kernel_rfl) (by kernel_rfl) (fun _ _ _ h => h) (Or.inl ⟨by rfl, fun w0 hC => by simp [execOp, Act.eval, Act.put, go_sem]⟩) hHeld ?_
          try simp only [Act.put, List.setIfInBounds_toArray, List.set_cons_zero, List.set_cons_succ, List.getElem_toArray, List.getElem_cons_zero, List.getElem_cons_succ]
          refine wpAnyH_take (i := 4) (v := .pointer (some ⟨bL, oL + k, none⟩)) rfl (by kernel_rfl) (by kernel_rfl) (by kernel_rfl) (fun _ _ _ h => h) (Or.inl ⟨by rfl, fun w0 hC => by simp [execOp, Act.eval, Act.put, go_sem, hki]⟩) hHeld ?_
          try simp only [Act.put, List.setIfInBounds_toArray, List.set_cons_zero, List.set_cons_succ, List.getElem_toArray, List.getElem_cons_zero, List.getElem_cons_succ]
          refine wpAnyH_take (i := 5) (v := .slice A5 (textAt L k).length c5) rfl (by kernel_rfl) (by kernel_rfl) (by kernel_rfl) (fun _ _ _ h => h) (Or.inl ⟨by rfl, fun w0 hC => by have := (hC.cell (p := ⟨bL, oL + k, none⟩) hbL8).trans HCL8.out; simp [execOp, Act.eval, Act.put, go_sem, this]⟩) hHeld ?_
          try simp only [Act.put, List.setIfInBounds_toArray, List.set_cons_zero, List.set_cons_succ, List.getElem_toArray, List.getElem_cons_zero, List.getElem_cons_succ]
          refine wpAnyH_ready (rs := [6, 11, 12]) (by kernel_rfl) (by simp) (AllReadyH.cons rfl (fun K hK => ?_) (AllReadyH.cons rfl (fun K hK => ?_) (AllReadyH.cons rfl (fun K hK => ?_) AllReadyH.nil)))
          · rw [if_pos (by rfl)]
            go_wp2_with fail
            refine (hap V0 hHeld).mono ?_
            rintro e V1 ⟨v9, rfl, hd9, hba⟩
            obtain ⟨A9, n9, c9, A9', n9', c9', rfl, hx9⟩ := hd9
            have hd9 : DkAt V1 V1.heap.size (.agg #[.slice A9 n9 c9, .slice A9' n9' c9', .int .i64 x.fuse, .bool x.down]) x := ⟨A9, n9, c9, A9', n9', c9', rfl, hx9⟩
            clear hx9
            unfold logN
            have hSa := hHeld.trans (hba.mono hHeld.size)
            clear hba hHeld
            refine hK.out _ _ hSa (fun hHeld => ?_)
            clear hK K
            try simp only [Act.put, List.setIfInBounds_toArray, List.set_cons_zero, List.set_cons_succ, List.getElem_toArray, List.getElem_cons_zero, List.getElem_cons_succ]
            clear hSa
            refine wpAnyH_take (i := 7) (v := .tuple #[.agg #[.slice A9 n9 c9, .slice A9' n9' c9', .int .i64 x.fuse, .bool x.down], .agg #[.int .i64 ((0 : Nat) : Int), .int .i64 ((1 : Nat) : Int), .int .i64 (u3 : Int), .int .i64 (c3 : Int)], .int .i64 er]) rfl (by kernel_rfl) (by kernel_rfl) (by kernel_rfl) (fun _ _ _ h => h) (Or.inl ⟨by rfl, fun w0 hC => by simp [execOp, Act.eval, Act.put, go_sem]⟩) hHeld ?_
            try simp only [Act.put, List.setIfInBounds_toArray, List.set_cons_zero, List.set_cons_succ, List.getElem_toArray, List.getElem_cons_zero, List.getElem_cons_succ]
            refine wpAnyH_take (i := 8) (v := .agg #[.slice A9 n9 c9, .slice A9' n9' c9', .int .i64 x.fuse, .bool x.down]) rfl (by kernel_rfl) (by kernel_rfl) (by kernel_rfl) (fun _ _ _ h => h) (Or.inl ⟨by rfl, fun w0 hC => by simp [execOp, Act.eval, Act.put, go_sem]⟩) hHeld ?_
            try simp only [Act.put, List.setIfInBounds_toArray, List.set_cons_zero, List.set_cons_succ, List.getElem_toArray, List.getElem_cons_zero, List.getElem_cons_succ]
            refine wpAnyH_take (i := 9) (v := .agg #[.int .i64 ((0 : Nat) : Int), .int .i64 ((1 : Nat) : Int), .int .i64 (u3 : Int), .int .i64 (c3 : Int)]) rfl (by kernel_rfl) (by kernel_rfl) (by kernel_rfl) (fun _ _ _ h => h) (Or.inl ⟨by rfl, fun w0 hC => by simp [execOp, Act.eval, Act.put, go_sem]⟩) hHeld ?_
            try simp only [Act.put, List.setIfInBounds_toArray, List.set_cons_zero, List.set_cons_succ, List.getElem_toArray, List.getElem_cons_zero, List.getElem_cons_succ]
            refine wpAnyH_take (i := 10) (v := .int .i64 er) rfl (by kernel_rfl) (by kernel_rfl) (by kernel_rfl) (fun _ _ _ h => h) (Or.inl ⟨by rfl, fun w0 hC => by simp [execOp, Act.eval, Act.put, go_sem]⟩) hHeld ?_
            try simp only [Act.put, List.setIfInBounds_toArray, List.set_cons_zero, List.set_cons_succ, List.getElem_toArray, List.getElem_cons_zero, List.getElem_cons_succ]
            refine wpAnyH_ready (rs := [11, 12]) (by kernel_rfl) (by simp) (AllReadyH.cons rfl (fun K hK => ?_) (AllReadyH.cons rfl (fun K hK => ?_) AllReadyH.nil))
            · rw [if_pos (by rfl)]
              go_wp2_with fail
              have hl11 : W8.heap.size ≤ V1.heap.size := hHeld.size
              refine k_over (fun W' => Below V1.heap.size V1 W' ∧ Bk W' V1.heap.size 28 #[.slice none 0 0, .slice none 0 0, .int .i64 0, .bool false]) ⟨(Below.refl _ _).alloc (Nat.le_refl _) _, Bk.new V1 _ _⟩ ?_
              rintro V2 ⟨hba, hk11⟩
              obtain ⟨b11, hz⟩ : ∃ b, b = V1.heap.size := ⟨_, rfl⟩
              rw [← hz] at hk11 hl11 ⊢
              clear hz
              have hSa := hHeld.trans (hba.mono hHeld.size)
              replace hd9 := hd9.later hba
              clear hba hHeld
              refine hK.out _ _ hSa (fun hHeld => ?_)
              clear hK K
              try simp only [Act.put, List.setIfInBounds_toArray, List.set_cons_zero, List.set_cons_succ, List.getElem_toArray, List.getElem_cons_zero, List.getElem_cons_succ]
              clear hSa
              refine wpAnyH_ready (rs := [12]) (by kernel_rfl) (by simp) (AllReadyH.cons rfl (fun K hK => ?_) AllReadyH.nil)
              rw [if_pos (by rfl)]
              go_wp2_with fail
              have hl12 : W8.heap.size ≤ V2.heap.size := hHeld.size
              have hne : V2.heap.size ≠ b11 := by have := hk11.lt; omega
              refine k_over (fun W' => Below V2.heap.size V2 W' ∧ Bk W' V2.heap.size 35 #[.int .i64 0, .int .i64 0, .int .i64 0, .int .i64 0]) ⟨(Below.refl _ _).alloc (Nat.le_refl _) _, Bk.new V2 _ _⟩ ?_
              rintro V3 ⟨hba, hk12⟩
              obtain ⟨b12, hz⟩ : ∃ b, b = V2.heap.size := ⟨_, rfl⟩
              rw [← hz] at hk12 hl12 ⊢
              rw [← hz] at hne
              clear hz
              have hSa := hHeld.trans (hba.mono hHeld.size)
              replace hk11 := hk11.below hba hk11.lt
              replace hd9 := hd9.later hba
              clear hba hHeld
              refine hK.out _ _ hSa (fun hHeld => ?_)
              clear hK K
              try simp only [Act.put, List.setIfInBounds_toArray, List.set_cons_zero, List.set_cons_succ, List.getElem_toArray, List.getElem_cons_zero, List.getElem_cons_succ]
              clear hSa
              have hf8 := stored4_facts hk11 (.slice A9 n9 c9) (.slice A9' n9' c9') (.int .i64 x.fuse) (.bool x.down)
              have HS : Hid ((fun W' => Below W8.heap.size W8 W' ∧ Bk W' b11 28 #[.slice A9 n9 c9, .slice A9' n9' c9', .int .i64 x.fuse, .bool x.down] ∧ Bk W' b12 35 #[.int .i64 0, .int .i64 0, .int .i64 0, .int .i64 0] ∧ DkAt W' W'.heap.size (.agg #[.slice A9 n9 c9, .slice A9' n9' c9', .int .i64 x.fuse, .bool x.down]) x) (stored4 V3 b11 (.slice A9 n9 c9) (.slice A9' n9' c9') (.int .i64 x.fuse) (.bool x.down))) := Lib.hid ⟨hf8.2.2.1 _ _ hHeld hl11, hf8.1, hf8.2.2.2 _ _ _ hne hk12, hf8.2.1 _ _ hd9⟩
              unfold stored4 at HS
              obtain ⟨⟨p0, p1, p2, p3⟩, q0, q1, q2, q3⟩ := hk11.four
              clear hf8 hk12 hd9
              refine wpAnyH_ready (rs := [13]) (by kernel_rfl) (by simp) (AllReadyH.cons rfl (fun K hK => ?_) AllReadyH.nil)
              rw [if_pos (by rfl)]
              go_wp2_with fail
              refine k_over (fun W' => Below W8.heap.size W8 W' ∧ Bk W' b11 28 #[.slice A9 n9 c9, .slice A9' n9' c9', .int .i64 x.fuse, .bool x.down] ∧ Bk W' b12 35 #[.int .i64 0, .int .i64 0, .int .i64 0, .int .i64 0] ∧ DkAt W' W'.heap.size (.agg #[.slice A9 n9 c9, .slice A9' n9' c9', .int .i64 x.fuse, .bool x.down]) x) HS.out ?_
              clear HS hk11 p0 p1 p2 p3 q0 q1 q2 q3 hHeld
              rintro U1 ⟨hSa, hk11, hk12, hd9⟩
              refine hK.out _ _ hSa (fun hHeld => ?_)
              clear hK K
              try simp only [Act.put, List.setIfInBounds_toArray, List.set_cons_zero, List.set_cons_succ, List.getElem_toArray, List.getElem_cons_zero, List.getElem_cons_succ]
              clear hSa
              have hf9 := stored4_facts hk12 (.int .i64 ((0 : Nat) : Int)) (.int .i64 ((1 : Nat) : Int)) (.int .i64 (u3 : Int)) (.int .i64 (c3 : Int))
              have HS : Hid ((fun W' => Below W8.heap.size W8 W' ∧ Bk W' b11 28 #[.slice A9 n9 c9, .slice A9' n9' c9', .int .i64 x.fuse, .bool x.down] ∧ Bk W' b12 35 #[.int .i64 ((0 : Nat) : Int), .int .i64 ((1 : Nat) : Int), .int .i64 (u3 : Int), .int .i64 (c3 : Int)] ∧ DkAt W' W'.heap.size (.agg #[.slice A9 n9 c9, .slice A9' n9' c9', .int .i64 x.fuse, .bool x.down]) x) (stored4 U1 b12 (.int .i64 ((0 : Nat) : Int)) (.int .i64 ((1 : Nat) : Int)) (.int .i64 (u3 : Int)) (.int .i64 (c3 : Int)))) := Lib.hid ⟨hf9.2.2.1 _ _ hHeld hl12, hf9.2.2.2 _ _ _ (Ne.symm hne) hk11, hf9.1, hf9.2.1 _ _ hd9⟩
              unfold stored4 at HS
              obtain ⟨⟨p0, p1, p2, p3⟩, q0, q1, q2, q3⟩ := hk12.four
              clear hf9 hk11 hd9
              refine wpAnyH_ready (rs := [14]) (by kernel_rfl) (by simp) (AllReadyH.cons rfl (fun K hK => ?_) AllReadyH.nil)
              rw [if_pos (by rfl)]
              go_wp2_with fail
              refine k_over (fun W' => Below W8.heap.size W8 W' ∧ Bk W' b11 28 #[.slice A9 n9 c9, .slice A9' n9' c9', .int .i64 x.fuse, .bool x.down] ∧ Bk W' b12 35 #[.int .i64 ((0 : Nat) : Int), .int .i64 ((1 : Nat) : Int), .int .i64 (u3 : Int), .int .i64 (c3 : Int)] ∧ DkAt W' W'.heap.size (.agg #[.slice A9 n9 c9, .slice A9' n9' c9', .int .i64 x.fuse, .bool x.down]) x) HS.out ?_
              clear HS hk12 p0 p1 p2 p3 q0 q1 q2 q3 hHeld
              rintro U2 ⟨hSa, hk11, hk12, hd9⟩
              refine hK.out _ _ hSa (fun hHeld => ?_)
              clear hK K
              try simp only [Act.put, List.setIfInBounds_toArray, List.set_cons_zero, List.set_cons_succ, List.getElem_toArray, List.getElem_cons_zero, List.getElem_cons_succ]
              clear hSa
              refine wpAnyH_ready (rs := [15]) (by kernel_rfl) (by simp) (AllReadyH.cons rfl (fun K hK => ?_) AllReadyH.nil)
              rw [if_pos (by rfl)]
              go_wp2_with fail
              have hSa := hHeld
              refine hK.out _ _ hSa (fun hHeld => ?_)
              clear hK K
              try simp only [Act.put, List.setIfInBounds_toArray, List.set_cons_zero, List.set_cons_succ, List.getElem_toArray, List.getElem_cons_zero, List.getElem_cons_succ]
              clear hSa
              refine wpAnyH_done (by kernel_rfl) ?_ _
              have hbx : Boxed W8 b11 b12 x 0 1 u3 c3 U2 := ⟨⟨A9, n9, c9, A9', n9', c9', hk11, hd9⟩, hk12, hHeld⟩
              clear hk11 hk12 hd9 hHeld
              go_wp2_with fail
              go_meet
              exact ⟨b11, b12, rfl, rfl, rfl, hl11, hl12, Ne.symm hne, hbx⟩
            · rw [if_pos (by rfl)]
              go_wp2_with fail
              have hl12 : W8.heap.size ≤ V1.heap.size := hHeld.size
              refine k_over (fun W' => Below V1.heap.size V1 W' ∧ Bk W' V1.heap.size 35 #[.int .i64 0, .int .i64 0, .int .i64 0, .int .i64 0]) ⟨(Below.refl _ _).alloc (Nat.le_refl _) _, Bk.new V1 _ _⟩ ?_
              rintro V4 ⟨hba, hk12⟩
              obtain ⟨b12, hz⟩ : ∃ b, b = V1.heap.size := ⟨_, rfl⟩
              rw [← hz] at hk12 hl12 ⊢
              clear hz
              have hSa := hHeld.trans (hba.mono hHeld.size)
              replace hd9 := hd9.later hba
              clear hba hHeld
              refine hK.out _ _ hSa (fun hHeld => ?_)
              clear hK K
              try simp only [Act.put, List.setIfInBounds_toArray, List.set_cons_zero, List.set_cons_succ, List.getElem_toArray, List.getElem_cons_zero, List.getElem_cons_succ]
              clear hSa
              refine wpAnyH_ready (rs := [11]) (by kernel_rfl) (by simp) (AllReadyH.cons rfl (fun K hK => ?_) AllReadyH.nil)
              rw [if_pos (by rfl)]
              go_wp2_with fail
              have hl11 : W8.heap.size ≤ V4.heap.size := hHeld.size
              have hne : b12 ≠ V4.heap.size := by have := hk12.lt; omega
              refine k_over (fun W' => Below V4.heap.size V4 W' ∧ Bk W' V4.heap.size 28 #[.slice none 0 0, .slice none 0 0, .int .i64 0, .bool false]) ⟨(Below.refl _ _).alloc (Nat.le_refl _) _, Bk.new V4 _ _⟩ ?_
              rintro V5 ⟨hba, hk11⟩
              obtain ⟨b11, hz⟩ : ∃ b, b = V4.heap.size := ⟨_, rfl⟩
              rw [← hz] at hk11 hl11 ⊢
              rw [← hz] at hne
              clear hz
              have hSa := hHeld.trans (hba.mono hHeld.size)
              replace hk12 := hk12.below hba hk12.lt
              replace hd9 := hd9.later hba
              clear hba hHeld
              refine hK.out _ _ hSa (fun hHeld => ?_)
              clear hK K
              try simp only [Act.put, List.setIfInBounds_toArray, List.set_cons_zero, List.set_cons_succ, List.getElem_toArray, List.getElem_cons_zero, List.getElem_cons_succ]
              clear hSa
              have hf8 := stored4_facts hk11 (.slice A9 n9 c9) (.slice A9' n9' c9') (.int .i64 x.fuse) (.bool x.down)
              have HS : Hid ((fun W' => Below W8.heap.size W8 W' ∧ Bk W' b11 28 #[.slice A9 n9 c9, .slice A9' n9' c9', .int .i64 x.fuse, .bool x.down] ∧ Bk W' b12 35 #[.int .i64 0, .int .i64 0, .int .i64 0, .int .i64 0] ∧ DkAt W' W'.heap.size (.agg #[.slice A9 n9 c9, .slice A9' n9' c9', .int .i64 x.fuse, .bool x.down]) x) (stored4 V5 b11 (.slice A9 n9 c9) (.slice A9' n9' c9') (.int .i64 x.fuse) (.bool x.down))) := Lib.hid ⟨hf8.2.2.1 _ _ hHeld hl11, hf8.1, hf8.2.2.2 _ _ _ hne hk12, hf8.2.1 _ _ hd9⟩
              unfold stored4 at HS
              obtain ⟨⟨p0, p1, p2, p3⟩, q0, q1, q2, q3⟩ := hk11.four
              clear hf8 hk12 hd9
              refine wpAnyH_ready (rs := [13]) (by kernel_rfl) (by simp) (AllReadyH.cons rfl (fun K hK => ?_) AllReadyH.nil)
              rw [if_pos (by rfl)]
              go_wp2_with fail
              refine k_over (fun W' => Below W8.heap.size W8 W' ∧ Bk W' b11 28 #[.slice A9 n9 c9, .slice A9' n9' c9', .int .i64 x.fuse, .bool x.down] ∧ Bk W' b12 35 #[.int .i64 0, .int .i64 0, .int .i64 0, .int .i64 0] ∧ DkAt W' W'.heap.size (.agg #[.slice A9 n9 c9, .slice A9' n9' c9', .int .i64 x.fuse, .bool x.down]) x) HS.out ?_
              clear HS hk11 p0 p1 p2 p3 q0 q1 q2 q3 hHeld
              rintro U1 ⟨hSa, hk11, hk12, hd9⟩
              refine hK.out _ _ hSa (fun hHeld => ?_)
              clear hK K
              try simp only [Act.put, List.setIfInBounds_toArray, List.set_cons_zero, List.set_cons_succ, List.getElem_toArray, List.getElem_cons_zero, List.getElem_cons_succ]
              clear hSa
              have hf9 := stored4_facts hk12 (.int .i64 ((0 : Nat) : Int)) (.int .i64 ((1 : Nat) : Int)) (.int .i64 (u3 : Int)) (.int .i64 (c3 : Int))
              have HS : Hid ((fun W' => Below W8.heap.size W8 W' ∧ Bk W' b11 28 #[.slice A9 n9 c9, .slice A9' n9' c9', .int .i64 x.fuse, .bool x.down] ∧ Bk W' b12 35 #[.int .i64 ((0 : Nat) : Int), .int .i64 ((1 : Nat) : Int), .int .i64 (u3 : Int), .int .i64 (c3 : Int)] ∧ DkAt W' W'.heap.size (.agg #[.slice A9 n9 c9, .slice A9' n9' c9', .int .i64 x.fuse, .bool x.down]) x) (stored4 U1 b12 (.int .i64 ((0 : Nat) : Int)) (.int .i64 ((1 : Nat) : Int)) (.int .i64 (u3 : Int)) (.int .i64 (c3 : Int)))) := Lib.hid ⟨hf9.2.2.1 _ _ hHeld hl12, hf9.2.2.2 _ _ _ (Ne.symm hne) hk11, hf9.1, hf9.2.1 _ _ hd9⟩
              unfold stored4 at HS
              obtain ⟨⟨p0, p1, p2, p3⟩, q0, q1, q2, q3⟩ := hk12.four
              clear hf9 hk11 hd9
              refine wpAnyH_ready (rs := [14]) (by kernel_rfl) (by simp) (AllReadyH.cons rfl (fun K hK => ?_) AllReadyH.nil)
              rw [if_pos (by rfl)]
              go_wp2_with fail
              refine k_over (fun W' => Below W8.heap.size W8 W' ∧ Bk W' b11 28 #[.slice A9 n9 c9, .slice A9' n9' c9', .int .i64 x.fuse, .bool x.down] ∧ Bk W' b12 35 #[.int .i64 ((0 : Nat) : Int), .int .i64 ((1 : Nat) : Int), .int .i64 (u3 : Int), .int .i64 (c3 : Int)] ∧ DkAt W' W'.heap.size (.agg #[.slice A9 n9 c9, .slice A9' n9' c9', .int .i64 x.fuse, .bool x.down]) x) HS.out ?_
              clear HS hk12 p0 p1 p2 p3 q0 q1 q2 q3 hHeld
              rintro U2 ⟨hSa, hk11, hk12, hd9⟩
              refine hK.out _ _ hSa (fun hHeld => ?_)
              clear hK K
              try simp only [Act.put, List.setIfInBounds_toArray, List.set_cons_zero, List.set_cons_succ, List.getElem_toArray, List.getElem_cons_zero, List.getElem_cons_succ]
              clear hSa
              refine wpAnyH_ready (rs := [15]) (by kernel_rfl) (by simp) (AllReadyH.cons rfl (fun K hK => ?_) AllReadyH.nil)
              rw [if_pos (by rfl)]
              go_wp2_with fail
              have hSa := hHeld
              refine hK.out _ _ hSa (fun hHeld => ?_)
              clear hK K
              try simp only [Act.put, List.setIfInBounds_toArray, List.set_cons_zero, List.set_cons_succ, List.getElem_toArray, List.getElem_cons_zero, List.getElem_cons_succ]
              clear hSa
              refine wpAnyH_done (by kernel_rfl) ?_ _
              have hbx : Boxed W8 b11 b12 x 0 1 u3 c3 U2 := ⟨⟨A9, n9, c9, A9', n9', c9', hk11, hd9⟩, hk12, hHeld⟩
              clear hk11 hk12 hd9 hHeld
              go_wp2_with fail
              go_meet
              exact ⟨b11, b12, rfl, rfl, rfl, hl11, hl12, Ne.symm hne, hbx⟩
          · rw [if_pos (by rfl)]
            go_wp2_with fail
            have hl11 : W8.heap.size ≤ V0.heap.size := hHeld.size
            refine k_over (fun W' => Below V0.heap.size V0 W' ∧ Bk W' V0.heap.size 28 #[.slice none 0 0, .slice none 0 0, .int .i64 0, .bool false]) ⟨(Below.refl _ _).alloc (Nat.le_refl _) _, Bk.new V0 _ _⟩ ?_
            rintro V6 ⟨hba, hk11⟩
            obtain ⟨b11, hz⟩ : ∃ b, b = V0.heap.size := ⟨_, rfl⟩
            rw [← hz] at hk11 hl11 ⊢
            clear hz
            have hSa := hHeld.trans (hba.mono hHeld.size)
            clear hba hHeld
            refine hK.out _ _ hSa (fun hHeld => ?_)
            clear hK K
            try simp only [Act.put, List.setIfInBounds_toArray, List.set_cons_zero, List.set_cons_succ, List.getElem_toArray, List.getElem_cons_zero, List.getElem_cons_succ]
            clear hSa
            refine wpAnyH_ready (rs := [6, 12]) (by kernel_rfl) (by simp) (AllReadyH.cons rfl (fun K hK => ?_) (AllReadyH.cons rfl (fun K hK => ?_) AllReadyH.nil))
            · rw [if_pos (by rfl)]
              go_wp2_with fail
              refine (hap V6 hHeld).mono ?_
              rintro e V7 ⟨v9, rfl, hd9, hba⟩
              obtain ⟨A9, n9, c9, A9', n9', c9', rfl, hx9⟩ := hd9
              have hd9 : DkAt V7 V7.heap.size (.agg #[.slice A9 n9 c9, .slice A9' n9' c9', .int .i64 x.fuse, .bool x.down]) x := ⟨A9, n9, c9, A9', n9', c9', rfl, hx9⟩
              clear hx9
              unfold logN
              have hSa := hHeld.trans (hba.mono hHeld.size)
              replace hk11 := hk11.below hba hk11.lt
              clear hba hHeld
              refine hK.out _ _ hSa (fun hHeld => ?_)
              clear hK K
              try simp only [Act.put, List.setIfInBounds_toArray, List.set_cons_zero, List.set_cons_succ, List.getElem_toArray, List.getElem_cons_zero, List.getElem_cons_succ]
              clear hSa
              refine wpAnyH_take (i := 7) (v := .tuple #[.agg #[.slice A9 n9 c9, .slice A9' n9' c9', .int .i64 x.fuse, .bool x.down], .agg #[.int .i64 ((0 : Nat) : Int), .int .i64 ((1 : Nat) : Int), .int .i64 (u3 : Int), .int .i64 (c3 : Int)], .int .i64 er]) rfl (by kernel_rfl) (by kernel_rfl) (by kernel_rfl) (fun _ _ _ h => h) (Or.inl ⟨by rfl, fun w0 hC => by simp [execOp, Act.eval, Act.put, go_sem]⟩) hHeld ?_
              try simp only [Act.put, List.setIfInBounds_toArray, List.set_cons_zero, List.set_cons_succ, List.getElem_toArray, List.getElem_cons_zero, List.getElem_cons_succ]
              refine wpAnyH_take (i := 8) (v := .agg #[.slice A9 n9 c9, .slice A9' n9' c9', .int .i64 x.fuse, .bool x.down]) rfl (by kernel_rfl) (by kernel_rfl) (by kernel_rfl) (fun _ _ _ h => h) (Or.inl ⟨by rfl, fun w0 hC => by simp [execOp, Act.eval, Act.put, go_sem]⟩) hHeld ?_
              try simp only [Act.put, List.setIfInBounds_toArray, List.set_cons_zero, List.set_cons_succ, List.getElem_toArray, List.getElem_cons_zero, List.getElem_cons_succ]
              refine wpAnyH_take (i := 9) (v := .agg #[.int .i64 ((0 : Nat) : Int), .int .i64 ((1 : Nat) : Int), .int .i64 (u3 : Int), .int .i64 (c3 : Int)]) rfl (by kernel_rfl) (by kernel_rfl) (by kernel_rfl) (fun _ _ _ h => h) (Or.inl ⟨by rfl, fun w0 hC => by simp [execOp, Act.eval, Act.put, go_sem]⟩) hHeld ?_
              try simp only [Act.put, List.setIfInBounds_toArray, List.set_cons_zero, List.set_cons_succ, List.getElem_toArray, List.getElem_cons_zero, List.getElem_cons_succ]
              refine wpAnyH_take (i := 10) (v := .int .i64 er) rfl (by kernel_rfl) (by kernel_rfl) (by kernel_rfl) (fun _ _ _ h => h) (Or.inl ⟨by rfl, fun w0 hC => by simp [execOp, Act.eval, Act.put, go_sem]⟩) hHeld ?_
              try simp only [Act.put, List.setIfInBounds_toArray, List.set_cons_zero, List.set_cons_succ, List.getElem_toArray, List.getElem_cons_zero, List.getElem_cons_succ]
              refine wpAnyH_ready (rs := [12]) (by kernel_rfl) (by simp) (AllReadyH.cons rfl (fun K hK => ?_) AllReadyH.nil)
              rw [if_pos (by rfl)]
              go_wp2_with fail
              have hl12 : W8.heap.size ≤ V7.heap.size := hHeld.size
              have hne : V7.heap.size ≠ b11 := by have := hk11.lt; omega
              refine k_over (fun W' => Below V7.heap.size V7 W' ∧ Bk W' V7.heap.size 35 #[.int .i64 0, .int .i64 0, .int .i64 0, .int .i64 0]) ⟨(Below.refl _ _).alloc (Nat.le_refl _) _, Bk.new V7 _ _⟩ ?_
              rintro V8 ⟨hba, hk12⟩
              obtain ⟨b12, hz⟩ : ∃ b, b = V7.heap.size := ⟨_, rfl⟩
              rw [← hz] at hk12 hl12 ⊢
              rw [← hz] at hne
              clear hz
              have hSa := hHeld.trans (hba.mono hHeld.size)
              replace hk11 := hk11.below hba hk11.lt
              replace hd9 := hd9.later hba
              clear hba hHeld
              refine hK.out _ _ hSa (fun hHeld => ?_)
              clear hK K
              try simp only [Act.put, List.setIfInBounds_toArray, List.set_cons_zero, List.set_cons_succ, List.getElem_toArray, List.getElem_cons_zero, List.getElem_cons_succ]
              clear hSa
              have hf8 := stored4_facts hk11 (.slice A9 n9 c9) (.slice A9' n9' c9') (.int .i64 x.fuse) (.bool x.down)
              have HS : Hid ((fun W' => Below W8.heap.size W8 W' ∧ Bk W' b11 28 #[.slice A9 n9 c9, .slice A9' n9' c9', .int .i64 x.fuse, .bool x.down] ∧ Bk W' b12 35 #[.int .i64 0, .int .i64 0, .int .i64 0, .int .i64 0] ∧ DkAt W' W'.heap.size (.agg #[.slice A9 n9 c9, .slice A9' n9' c9', .int .i64 x.fuse, .bool x.down]) x) (stored4 V8 b11 (.slice A9 n9 c9) (.slice A9' n9' c9') (.int .i64 x.fuse) (.bool x.down))) := Lib.hid ⟨hf8.2.2.1 _ _ hHeld hl11, hf8.1, hf8.2.2.2 _ _ _ hne hk12, hf8.2.1 _ _ hd9⟩
              unfold stored4 at HS
              obtain ⟨⟨p0, p1, p2, p3⟩, q0, q1, q2, q3⟩ := hk11.four
              clear hf8 hk12 hd9
              refine wpAnyH_ready (rs := [13]) (by kernel_rfl) (by simp) (AllReadyH.cons rfl (fun K hK => ?_) AllReadyH.nil)
              rw [if_pos (by rfl)]
              go_wp2_with fail
              refine k_over (fun W' => Below W8.heap.size W8 W' ∧ Bk W' b11 28 #[.slice A9 n9 c9, .slice A9' n9' c9', .int .i64 x.fuse, .bool x.down] ∧ Bk W' b12 35 #[.int .i64 0, .int .i64 0, .int .i64 0, .int .i64 0] ∧ DkAt W' W'.heap.size (.agg #[.slice A9 n9 c9, .slice A9' n9' c9', .int .i64 x.fuse, .bool x.down]) x) HS.out ?_
              clear HS hk11 p0 p1 p2 p3 q0 q1 q2 q3 hHeld
              rintro U1 ⟨hSa, hk11, hk12, hd9⟩
              refine hK.out _ _ hSa (fun hHeld => ?_)
              clear hK K
              try simp only [Act.put, List.setIfInBounds_toArray, List.set_cons_zero, List.set_cons_succ, List.getElem_toArray, List.getElem_cons_zero, List.getElem_cons_succ]
              clear hSa
              have hf9 := stored4_facts hk12 (.int .i64 ((0 : Nat) : Int)) (.int .i64 ((1 : Nat) : Int)) (.int .i64 (u3 : Int)) (.int .i64 (c3 : Int))
              have HS : Hid ((fun W' => Below W8.heap.size W8 W' ∧ Bk W' b11 28 #[.slice A9 n9 c9, .slice A9' n9' c9', .int .i64 x.fuse, .bool x.down] ∧ Bk W' b12 35 #[.int .i64 ((0 : Nat) : Int), .int .i64 ((1 : Nat) : Int), .int .i64 (u3 : Int), .int .i64 (c3 : Int)] ∧ DkAt W' W'.heap.size (.agg #[.slice A9 n9 c9, .slice A9' n9' c9', .int .i64 x.fuse, .bool x.down]) x) (stored4 U1 b12 (.int .i64 ((0 : Nat) : Int)) (.int .i64 ((1 : Nat) : Int)) (.int .i64 (u3 : Int)) (.int .i64 (c3 : Int)))) := Lib.hid ⟨hf9.2.2.1 _ _ hHeld hl12, hf9.2.2.2 _ _ _ (Ne.symm hne) hk11, hf9.1, hf9.2.1 _ _ hd9⟩
              unfold stored4 at HS
              obtain ⟨⟨p0, p1, p2, p3⟩, q0, q1, q2, q3⟩ := hk12.four
              clear hf9 hk11 hd9
              refine wpAnyH_ready (rs := [14]) (by kernel_rfl) (by simp) (AllReadyH.cons rfl (fun K hK => ?_) AllReadyH.nil)
              rw [if_pos (by rfl)]
              go_wp2_with fail
              refine k_over (fun W' => Below W8.heap.size W8 W' ∧ Bk W' b11 28 #[.slice A9 n9 c9, .slice A9' n9' c9', .int .i64 x.fuse, .bool x.down] ∧ Bk W' b12 35 #[.int .i64 ((0 : Nat) : Int), .int .i64 ((1 : Nat) : Int), .int .i64 (u3 : Int), .int .i64 (c3 : Int)] ∧ DkAt W' W'.heap.size (.agg #[.slice A9 n9 c9, .slice A9' n9' c9', .int .i64 x.fuse, .bool x.down]) x) HS.out ?_
              clear HS hk12 p0 p1 p2 p3 q0 q1 q2 q3 hHeld
              rintro U2 ⟨hSa, hk11, hk12, hd9⟩
              refine hK.out _ _ hSa (fun hHeld => ?_)
              clear hK K
              try simp only [Act.put, List.setIfInBounds_toArray, List.set_cons_zero, List.set_cons_succ, List.getElem_toArray, List.getElem_cons_zero, List.getElem_cons_succ]
              clear hSa
              refine wpAnyH_ready (rs := [15]) (by kernel_rfl) (by simp) (AllReadyH.cons rfl (fun K hK => ?_) AllReadyH.nil)
              rw [if_pos (by rfl)]
              go_wp2_with fail
              have hSa := hHeld
              refine hK.out _ _ hSa (fun hHeld => ?_)
              clear hK K
              try simp only [Act.put, List.setIfInBounds_toArray, List.set_cons_zero, List.set_cons_succ, List.getElem_toArray, List.getElem_cons_zero, List.getElem_cons_succ]
              clear hSa
              refine wpAnyH_done (by kernel_rfl) ?_ _
              have hbx : Boxed W8 b11 b12 x 0 1 u3 c3 U2 := ⟨⟨A9, n9, c9, A9', n9', c9', hk11, hd9⟩, hk12, hHeld⟩
              clear hk11 hk12 hd9 hHeld
              go_wp2_with fail
              go_meet
              exact ⟨b11, b12, rfl, rfl, rfl, hl11, hl12, Ne.symm hne, hbx⟩
            · rw [if_pos (by rfl)]
              go_wp2_with fail
              have hl12 : W8.heap.size ≤ V6.heap.size := hHeld.size
              have hne : V6.heap.size ≠ b11 := by have := hk11.lt; omega
              refine k_over (fun W' => Below V6.heap.size V6 W' ∧ Bk W' V6.heap.size 35 #[.int .i64 0, .int .i64 0, .int .i64 0, .int .i64 0]) ⟨(Below.refl _ _).alloc (Nat.le_refl _) _, Bk.new V6 _ _⟩ ?_
              rintro V9 ⟨hba, hk12⟩
              obtain ⟨b12, hz⟩ : ∃ b, b = V6.heap.size := ⟨_, rfl⟩
              rw [← hz] at hk12 hl12 ⊢
              rw [← hz] at hne
              clear hz
              have hSa := hHeld.trans (hba.mono hHeld.size)
              replace hk11 := hk11.below hba hk11.lt
              clear hba hHeld
              refine hK.out _ _ hSa (fun hHeld => ?_)
              clear hK K
              try simp only [Act.put, List.setIfInBounds_toArray, List.set_cons_zero, List.set_cons_succ, List.getElem_toArray, List.getElem_cons_zero, List.getElem_cons_succ]
              clear hSa
              refine wpAnyH_ready (rs := [6]) (by kernel_rfl) (by simp) (AllReadyH.cons rfl (fun K hK => ?_) AllReadyH.nil)
              rw [if_pos (by rfl)]
              go_wp2_with fail
              refine (hap V9 hHeld).mono ?_
              rintro e V10 ⟨v9, rfl, hd9, hba⟩
              obtain ⟨A9, n9, c9, A9', n9', c9', rfl, hx9⟩ := hd9
              have hd9 : DkAt V10 V10.heap.size (.agg #[.slice A9 n9 c9, .slice A9' n9' c9', .int .i64 x.fuse, .bool x.down]) x := ⟨A9, n9, c9, A9', n9', c9', rfl, hx9⟩
              clear hx9
              unfold logN
              have hSa := hHeld.trans (hba.mono hHeld.size)
              replace hk11 := hk11.below hba hk11.lt
              replace hk12 := hk12.below hba hk12.lt
              clear hba hHeld
              refine hK.out _ _ hSa (fun hHeld => ?_)
              clear hK K
              try simp only [Act.put, List.setIfInBounds_toArray, List.set_cons_zero, List.set_cons_succ, List.getElem_toArray, List.getElem_cons_zero, List.getElem_cons_succ]
              clear hSa
              refine wpAnyH_take (i := 7) (v := .tuple #[.agg #[.slice A9 n9 c9, .slice A9' n9' c9', .int .i64 x.fuse, .bool x.down], .agg #[.int .i64 ((0 : Nat) : Int), .int .i64 ((1 : Nat) : Int), .int .i64 (u3 : Int), .int .i64 (c3 : Int)], .int .i64 er]) rfl (by kernel_rfl) (by kernel_rfl) (by kernel_rfl) (fun _ _ _ h => h) (Or.inl ⟨by rfl, fun w0 hC => by simp [execOp, Act.eval, Act.put, go_sem]⟩) hHeld ?_
              try simp only [Act.put, List.setIfInBounds_toArray, List.set_cons_zero, List.set_cons_succ, List.getElem_toArray, List.getElem_cons_zero, List.getElem_cons_succ]
              refine wpAnyH_take (i := 8) (v := .agg #[.slice A9 n9 c9, .slice A9' n9' c9', .int .i64 x.fuse, .bool x.down]) rfl (by kernel_rfl) (by kernel_rfl) (by kernel_rfl) (fun _ _ _ h => h) (Or.inl ⟨by rfl, fun w0 hC => by simp [execOp, Act.eval, Act.put, go_sem]⟩) hHeld ?_
              try simp only [Act.put, List.setIfInBounds_toArray, List.set_cons_zero, List.set_cons_succ, List.getElem_toArray, List.getElem_cons_zero, List.getElem_cons_succ]
              refine wpAnyH_take (i := 9) (v := .agg #[.int .i64 ((0 : Nat) : Int), .int .i64 ((1 : Nat) : Int), .int .i64 (u3 : Int), .int .i64 (c3 : Int)]) rfl (by kernel_rfl) (by kernel_rfl) (by kernel_rfl) (fun _ _ _ h => h) (Or.inl ⟨by rfl, fun w0 hC => by simp [execOp, Act.eval, Act.put, go_sem]⟩) hHeld ?_
              try simp only [Act.put, List.setIfInBounds_toArray, List.set_cons_zero, List.set_cons_succ, List.getElem_toArray, List.getElem_cons_zero, List.getElem_cons_succ]
              refine wpAnyH_take (i := 10) (v := .int .i64 er) rfl (by kernel_rfl) (by kernel_rfl) (by kernel_rfl) (fun _ _ _ h => h) (Or.inl ⟨by rfl, fun w0 hC => by simp [execOp, Act.eval, Act.put, go_sem]⟩) hHeld ?_
              try simp only [Act.put, List.setIfInBounds_toArray, List.set_cons_zero, List.set_cons_succ, List.getElem_toArray, List.getElem_cons_zero, List.getElem_cons_succ]
              have hf8 := stored4_facts hk11 (.slice A9 n9 c9) (.slice A9' n9' c9') (.int .i64 x.fuse) (.bool x.down)
              have HS : Hid ((fun W' => Below W8.heap.size W8 W' ∧ Bk W' b11 28 #[.slice A9 n9 c9, .slice A9' n9' c9', .int .i64 x.fuse, .bool x.down] ∧ Bk W' b12 35 #[.int .i64 0, .int .i64 0, .int .i64 0, .int .i64 0] ∧ DkAt W' W'.heap.size (.agg #[.slice A9 n9 c9, .slice A9' n9' c9', .int .i64 x.fuse, .bool x.down]) x) (stored4 V10 b11 (.slice A9 n9 c9) (.slice A9' n9' c9') (.int .i64 x.fuse) (.bool x.down))) := Lib.hid ⟨hf8.2.2.1 _ _ hHeld hl11, hf8.1, hf8.2.2.2 _ _ _ hne hk12, hf8.2.1 _ _ hd9⟩
              unfold stored4 at HS
              obtain ⟨⟨p0, p1, p2, p3⟩, q0, q1, q2, q3⟩ := hk11.four
              clear hf8 hk12 hd9
              refine wpAnyH_ready (rs := [13]) (by kernel_rfl) (by simp) (AllReadyH.cons rfl (fun K hK => ?_) AllReadyH.nil)
              rw [if_pos (by rfl)]
              go_wp2_with fail
              refine k_over (fun W' => Below W8.heap.size W8 W' ∧ Bk W' b11 28 #[.slice A9 n9 c9, .slice A9' n9' c9', .int .i64 x.fuse, .bool x.down] ∧ Bk W' b12 35 #[.int .i64 0, .int .i64 0, .int .i64 0, .int .i64 0] ∧ DkAt W' W'.heap.size (.agg #[.slice A9 n9 c9, .slice A9' n9' c9', .int .i64 x.fuse, .bool x.down]) x) HS.out ?_
              clear HS hk11 p0 p1 p2 p3 q0 q1 q2 q3 hHeld
              rintro U1 ⟨hSa, hk11, hk12, hd9⟩
              refine hK.out _ _ hSa (fun hHeld => ?_)
              clear hK K
              try simp only [Act.put, List.setIfInBounds_toArray, List.set_cons_zero, List.set_cons_succ, List.getElem_toArray, List.getElem_cons_zero, List.getElem_cons_succ]
              clear hSa
              have hf9 := stored4_facts hk12 (.int .i64 ((0 : Nat) : Int)) (.int .i64 ((1 : Nat) : Int)) (.int .i64 (u3 : Int)) (.int .i64 (c3 : Int))
              have HS : Hid ((fun W' => Below W8.heap.size W8 W' ∧ Bk W' b11 28 #[.slice A9 n9 c9, .slice A9' n9' c9', .int .i64 x.fuse, .bool x.down] ∧ Bk W' b12 35 #[.int .i64 ((0 : Nat) : Int), .int .i64 ((1 : Nat) : Int), .int .i64 (u3 : Int), .int .i64 (c3 : Int)] ∧ DkAt W' W'.heap.size (.agg #[.slice A9 n9 c9, .slice A9' n9' c9', .int .i64 x.fuse, .bool x.down]) x) (stored4 U1 b12 (.int .i64 ((0 : Nat) : Int)) (.int .i64 ((1 : Nat) : Int)) (.int .i64 (u3 : Int)) (.int .i64 (c3 : Int)))) := Lib.hid ⟨hf9.2.2.1 _ _ hHeld hl12, hf9.2.2.2 _ _ _ (Ne.symm hne) hk11, hf9.1, hf9.2.1 _ _ hd9⟩
              unfold stored4 at HS
              obtain ⟨⟨p0, p1, p2, p3⟩, q0, q1, q2, q3⟩ := hk12.four
              clear hf9 hk11 hd9
              refine wpAnyH_ready (rs := [14]) (by kernel_rfl) (by simp) (AllReadyH.cons rfl (fun K hK => ?_) AllReadyH.nil)
              rw [if_pos (by rfl)]
              go_wp2_with fail
              refine k_over (fun W' => Below W8.heap.size W8 W' ∧ Bk W' b11 28 #[.slice A9 n9 c9, .slice A9' n9' c9', .int .i64 x.fuse, .bool x.down] ∧ Bk W' b12 35 #[.int .i64 ((0 : Nat) : Int), .int .i64 ((1 : Nat) : Int), .int .i64 (u3 : Int), .int .i64 (c3 : Int)] ∧ DkAt W' W'.heap.size (.agg #[.slice A9 n9 c9, .slice A9' n9' c9', .int .i64 x.fuse, .bool x.down]) x) HS.out ?_
              clear HS hk12 p0 p1 p2 p3 q0 q1 q2 q3 hHeld
              rintro U2 ⟨hSa, hk11, hk12, hd9⟩
              refine hK.out _ _ hSa (fun hHeld => ?_)
              clear hK K
              try simp only [Act.put, List.setIfInBounds_toArray, List.set_cons_zero, List.set_cons_succ, List.getElem_toArray, List.getElem_cons_zero, List.getElem_cons_succ]
              clear hSa
              refine wpAnyH_ready (rs := [15]) (by kernel_rfl) (by simp) (AllReadyH.cons rfl (fun K hK => ?_) AllReadyH.nil)
              rw [if_pos (by rfl)]
              go_wp2_with fail
              have hSa := hHeld
              refine hK.out _ _ hSa (fun hHeld => ?_)
              clear hK K
              try simp only [Act.put, List.setIfInBounds_toArray, List.set_cons_zero, List.set_cons_succ, List.getElem_toArray, List.getElem_cons_zero, List.getElem_cons_succ]
              clear hSa
              refine wpAnyH_done (by kernel_rfl) ?_ _
              have hbx : Boxed W8 b11 b12 x 0 1 u3 c3 U2 := ⟨⟨A9, n9, c9, A9', n9', c9', hk11, hd9⟩, hk12, hHeld⟩
              clear hk11 hk12 hd9 hHeld
              go_wp2_with fail
              go_meet
              exact ⟨b11, b12, rfl, rfl, rfl, hl11, hl12, Ne.symm hne, hbx⟩
          · rw [if_pos (by rfl)]
            go_wp2_with fail
            have hl12 : W8.heap.size ≤ V0.heap.size := hHeld.size
            refine k_over (fun W' => Below V0.heap.size V0 W' ∧ Bk W' V0.heap.size 35 #[.int .i64 0, .int .i64 0, .int .i64 0, .int .i64 0]) ⟨(Below.refl _ _).alloc (Nat.le_refl _) _, Bk.new V0 _ _⟩ ?_
            rintro V11 ⟨hba, hk12⟩
            obtain ⟨b12, hz⟩ : ∃ b, b = V0.heap.size := ⟨_, rfl⟩
            rw [← hz] at hk12 hl12 ⊢
            clear hz
            have hSa := hHeld.trans (hba.mono hHeld.size)
            clear hba hHeld
            refine hK.out _ _ hSa (fun hHeld => ?_)
            clear hK K
            try simp only [Act.put, List.setIfInBounds_toArray, List.set_cons_zero, List.set_cons_succ, List.getElem_toArray, List.getElem_cons_zero, List.getElem_cons_succ]
            clear hSa
            refine wpAnyH_ready (rs := [6, 11]) (by kernel_rfl) (by simp) (AllReadyH.cons rfl (fun K hK => ?_) (AllReadyH.cons rfl (fun K hK => ?_) AllReadyH.nil))
            · rw [if_pos (by rfl)]
              go_wp2_with fail
              refine (hap V11 hHeld).mono ?_
              rintro e V12 ⟨v9, rfl, hd9, hba⟩
              obtain ⟨A9, n9, c9, A9', n9', c9', rfl, hx9⟩ := hd9
              have hd9 : DkAt V12 V12.heap.size (.agg #[.slice A9 n9 c9, .slice A9' n9' c9', .int .i64 x.fuse, .bool x.down]) x := ⟨A9, n9, c9, A9', n9', c9', rfl, hx9⟩
              clear hx9
              unfold logN
              have hSa := hHeld.trans (hba.mono hHeld.size)
              replace hk12 := hk12.below hba hk12.lt
              clear hba hHeld
              refine hK.out _ _ hSa (fun hHeld => ?_)
              clear hK K
              try simp only [Act.put, List.setIfInBounds_toArray, List.set_cons_zero, List.set_cons_succ, List.getElem_toArray, List.getElem_cons_zero, List.getElem_cons_succ]
              clear hSa
              refine wpAnyH_take (i := 7) (v := .tuple #[.agg #[.slice A9 n9 c9, .slice A9' n9' c9', .int .i64 x.fuse, .bool x.down], .agg #[.int .i64 ((0 : Nat) : Int), .int .i64 ((1 : Nat) : Int), .int .i64 (u3 : Int), .int .i64 (c3 : Int)], .int .i64 er]) rfl (by kernel_rfl) (by kernel_rfl) (by kernel_rfl) (fun _ _ _ h => h) (Or.inl ⟨by rfl, fun w0 hC => by simp [execOp, Act.eval, Act.put, go_sem]⟩) hHeld ?_
              try simp only [Act.put, List.setIfInBounds_toArray, List.set_cons_zero, List.set_cons_succ, List.getElem_toArray, List.getElem_cons_zero, List.getElem_cons_succ]
              refine wpAnyH_take (i := 8) (v := .agg #[.slice A9 n9 c9, .slice A9' n9' c9', .int .i64 x.fuse, .bool x.down]) rfl (by kernel_rfl) (by kernel_rfl) (by kernel_rfl) (fun _ _ _ h => h) (Or.inl ⟨by rfl, fun w0 hC => by simp [execOp, Act.eval, Act.put, go_sem]⟩) hHeld ?_
              try simp only [Act.put, List.setIfInBounds_toArray, List.set_cons_zero, List.set_cons_succ, List.getElem_toArray, List.getElem_cons_zero, List.getElem_cons_succ]
              refine wpAnyH_take (i := 9) (v := .agg #[.int .i64 ((0 : Nat) : Int), .int .i64 ((1 : Nat) : Int), .int .i64 (u3 : Int), .int .i64 (c3 : Int)]) rfl (by kernel_rfl) (by kernel_rfl) (by kernel_rfl) (fun _ _ _ h => h) (Or.inl ⟨by rfl, fun w0 hC => by simp [execOp, Act.eval, Act.put, go_sem]⟩) hHeld ?_
              try simp only [Act.put, List.setIfInBounds_toArray, List.set_cons_zero, List.set_cons_succ, List.getElem_toArray, List.getElem_cons_zero, List.getElem_cons_succ]
              refine wpAnyH_take (i := 10) (v := .int .i64 er) rfl (by kernel_rfl) (by kernel_rfl) (by kernel_rfl) (fun _ _ _ h => h) (Or.inl ⟨by rfl, fun w0 hC => by simp [execOp, Act.eval, Act.put, go_sem]⟩) hHeld ?_
              try simp only [Act.put, List.setIfInBounds_toArray, List.set_cons_zero, List.set_cons_succ, List.getElem_toArray, List.getElem_cons_zero, List.getElem_cons_succ]
              refine wpAnyH_ready (rs := [11]) (by kernel_rfl) (by simp) (AllReadyH.cons rfl (fun K hK => ?_) AllReadyH.nil)
              rw [if_pos (by rfl)]
              go_wp2_with fail
              have hl11 : W8.heap.size ≤ V12.heap.size := hHeld.size
              have hne : b12 ≠ V12.heap.size := by have := hk12.lt; omega
              refine k_over (fun W' => Below V12.heap.size V12 W' ∧ Bk W' V12.heap.size 28 #[.slice none 0 0, .slice none 0 0, .int .i64 0, .bool false]) ⟨(Below.refl _ _).alloc (Nat.le_refl _) _, Bk.new V12 _ _⟩ ?_
              rintro V13 ⟨hba, hk11⟩
              obtain ⟨b11, hz⟩ : ∃ b, b = V12.heap.size := ⟨_, rfl⟩
              rw [← hz] at hk11 hl11 ⊢
              rw [← hz] at hne
              clear hz
              have hSa := hHeld.trans (hba.mono hHeld.size)
              replace hk12 := hk12.below hba hk12.lt
              replace hd9 := hd9.later hba
              clear hba hHeld
              refine hK.out _ _ hSa (fun hHeld => ?_)
              clear hK K
              try simp only [Act.put, List.setIfInBounds_toArray, List.set_cons_zero, List.set_cons_succ, List.getElem_toArray, List.getElem_cons_zero, List.getElem_cons_succ]
              clear hSa
              have hf8 := stored4_facts hk11 (.slice A9 n9 c9) (.slice A9' n9' c9') (.int .i64 x.fuse) (.bool x.down)
              have HS : Hid ((fun W' => Below W8.heap.size W8 W' ∧ Bk W' b11 28 #[.slice A9 n9 c9, .slice A9' n9' c9', .int .i64 x.fuse, .bool x.down] ∧ Bk W' b12 35 #[.int .i64 0, .int .i64 0, .int .i64 0, .int .i64 0] ∧ DkAt W' W'.heap.size (.agg #[.slice A9 n9 c9, .slice A9' n9' c9', .int .i64 x.fuse, .bool x.down]) x) (stored4 V13 b11 (.slice A9 n9 c9) (.slice A9' n9' c9') (.int .i64 x.fuse) (.bool x.down))) := Lib.hid ⟨hf8.2.2.1 _ _ hHeld hl11, hf8.1, hf8.2.2.2 _ _ _ hne hk12, hf8.2.1 _ _ hd9⟩
              unfold stored4 at HS
              obtain ⟨⟨p0, p1, p2, p3⟩, q0, q1, q2, q3⟩ := hk11.four
              clear hf8 hk12 hd9
              refine wpAnyH_ready (rs := [13]) (by kernel_rfl) (by simp) (AllReadyH.cons rfl (fun K hK => ?_) AllReadyH.nil)
              rw [if_pos (by rfl)]
              go_wp2_with fail
              refine k_over (fun W' => Below W8.heap.size W8 W' ∧ Bk W' b11 28 #[.slice A9 n9 c9, .slice A9' n9' c9', .int .i64 x.fuse, .bool x.down] ∧ Bk W' b12 35 #[.int .i64 0, .int .i64 0, .int .i64 0, .int .i64 0] ∧ DkAt W' W'.heap.size (.agg #[.slice A9 n9 c9, .slice A9' n9' c9', .int .i64 x.fuse, .bool x.down]) x) HS.out ?_
              clear HS hk11 p0 p1 p2 p3 q0 q1 q2 q3 hHeld
              rintro U1 ⟨hSa, hk11, hk12, hd9⟩
              refine hK.out _ _ hSa (fun hHeld => ?_)
              clear hK K
              try simp only [Act.put, List.setIfInBounds_toArray, List.set_cons_zero, List.set_cons_succ, List.getElem_toArray, List.getElem_cons_zero, List.getElem_cons_succ]
              clear hSa
              have hf9 := stored4_facts hk12 (.int .i64 ((0 : Nat) : Int)) (.int .i64 ((1 : Nat) : Int)) (.int .i64 (u3 : Int)) (.int .i64 (c3 : Int))
              have HS : Hid ((fun W' => Below W8.heap.size W8 W' ∧ Bk W' b11 28 #[.slice A9 n9 c9, .slice A9' n9' c9', .int .i64 x.fuse, .bool x.down] ∧ Bk W' b12 35 #[.int .i64 ((0 : Nat) : Int), .int .i64 ((1 : Nat) : Int), .int .i64 (u3 : Int), .int .i64 (c3 : Int)] ∧ DkAt W' W'.heap.size (.agg #[.slice A9 n9 c9, .slice A9' n9' c9', .int .i64 x.fuse, .bool x.down]) x) (stored4 U1 b12 (.int .i64 ((0 : Nat) : Int)) (.int .i64 ((1 : Nat) : Int)) (.int .i64 (u3 : Int)) (.int .i64 (c3 : Int)))) := Lib.hid ⟨hf9.2.2.1 _ _ hHeld hl12, hf9.2.2.2 _ _ _ (Ne.symm hne) hk11, hf9.1, hf9.2.1 _ _ hd9⟩
              unfold stored4 at HS
              obtain ⟨⟨p0, p1, p2, p3⟩, q0, q1, q2, q3⟩ := hk12.four
              clear hf9 hk11 hd9
              refine wpAnyH_ready (rs := [14]) (by kernel_rfl) (by simp) (AllReadyH.cons rfl (fun K hK => ?_) AllReadyH.nil)
              rw [if_pos (by rfl)]
              go_wp2_with fail
              refine k_over (fun W' => Below W8.heap.size W8 W' ∧ Bk W' b11 28 #[.slice A9 n9 c9, .slice A9' n9' c9', .int .i64 x.fuse, .bool x.down] ∧ Bk W' b12 35 #[.int .i64 ((0 : Nat) : Int), .int .i64 ((1 : Nat) : Int), .int .i64 (u3 : Int), .int .i64 (c3 : Int)] ∧ DkAt W' W'.heap.size (.agg #[.slice A9 n9 c9, .slice A9' n9' c9', .int .i64 x.fuse, .bool x.down]) x) HS.out ?_
              clear HS hk12 p0 p1 p2 p3 q0 q1 q2 q3 hHeld
              rintro U2 ⟨hSa, hk11, hk12, hd9⟩
              refine hK.out _ _ hSa (fun hHeld => ?_)
              clear hK K
              try simp only [Act.put, List.setIfInBounds_toArray, List.set_cons_zero, List.set_cons_succ, List.getElem_toArray, List.getElem_cons_zero, List.getElem_cons_succ]
              clear hSa
              refine wpAnyH_ready (rs := [15]) (by kernel_rfl) (by simp) (AllReadyH.cons rfl (fun K hK => ?_) AllReadyH.nil)
              rw [if_pos (by rfl)]
              go_wp2_with fail
              have hSa := hHeld
              refine hK.out _ _ hSa (fun hHeld => ?_)
              clear hK K
              try simp only [Act.put, List.setIfInBounds_toArray, List.set_cons_zero, List.set_cons_succ, List.getElem_toArray, List.getElem_cons_zero, List.getElem_cons_succ]
              clear hSa
              refine wpAnyH_done (by kernel_rfl) ?_ _
              have hbx : Boxed W8 b11 b12 x 0 1 u3 c3 U2 := ⟨⟨A9, n9, c9, A9', n9', c9', hk11, hd9⟩, hk12, hHeld⟩
              clear hk11 hk12 hd9 hHeld
              go_wp2_with fail
              go_meet
              exact ⟨b11, b12, rfl, rfl, rfl, hl11, hl12, Ne.symm hne, hbx⟩
            · rw [if_pos (by rfl)]
              go_wp2_with fail
              have hl11 : W8.heap.size ≤ V11.heap.size := hHeld.size
              have hne : b12 ≠ V11.heap.size := by have := hk12.lt; omega
              refine k_over (fun W' => Below V11.heap.size V11 W' ∧ Bk W' V11.heap.size 28 #[.slice none 0 0, .slice none 0 0, .int .i64 0, .bool false]) ⟨(Below.refl _ _).alloc (Nat.le_refl _) _, Bk.new V11 _ _⟩ ?_
              rintro V14 ⟨hba, hk11⟩
              obtain ⟨b11, hz⟩ : ∃ b, b = V11.heap.size := ⟨_, rfl⟩
              rw [← hz] at hk11 hl11 ⊢
              rw [← hz] at hne
              clear hz
              have hSa := hHeld.trans (hba.mono hHeld.size)
              replace hk12 := hk12.below hba hk12.lt
              clear hba hHeld
              refine hK.out _ _ hSa (fun hHeld => ?_)
              clear hK K
              try simp only [Act.put, List.setIfInBounds_toArray, List.set_cons_zero, List.set_cons_succ, List.getElem_toArray, List.getElem_cons_zero, List.getElem_cons_succ]
              clear hSa
              refine wpAnyH_ready (rs := [6]) (by kernel_rfl) (by simp) (AllReadyH.cons rfl (fun K hK => ?_) AllReadyH.nil)
              rw [if_pos (by rfl)]
              go_wp2_with fail
              refine (hap V14 hHeld).mono ?_
              rintro e V15 ⟨v9, rfl, hd9, hba⟩
              obtain ⟨A9, n9, c9, A9', n9', c9', rfl, hx9⟩ := hd9
              have hd9 : DkAt V15 V15.heap.size (.agg #[.slice A9 n9 c9, .slice A9' n9' c9', .int .i64 x.fuse, .bool x.down]) x := ⟨A9, n9, c9, A9', n9', c9', rfl, hx9⟩
              clear hx9
              unfold logN
              have hSa := hHeld.trans (hba.mono hHeld.size)
              replace hk11 := hk11.below hba hk11.lt
              replace hk12 := hk12.below hba hk12.lt
              clear hba hHeld
              refine hK.out _ _ hSa (fun hHeld => ?_)
              clear hK K
              try simp only [Act.put, List.setIfInBounds_toArray, List.set_cons_zero, List.set_cons_succ, List.getElem_toArray, List.getElem_cons_zero, List.getElem_cons_succ]
              clear hSa
              refine wpAnyH_take (i := 7) (v := .tuple #[.agg #[.slice A9 n9 c9, .slice A9' n9' c9', .int .i64 x.fuse, .bool x.down], .agg #[.int .i64 ((0 : Nat) : Int), .int .i64 ((1 : Nat) : Int), .int .i64 (u3 : Int), .int .i64 (c3 : Int)], .int .i64 er]) rfl (by kernel_rfl) (by kernel_rfl) (by kernel_rfl) (fun _ _ _ h => h) (Or.inl ⟨by rfl, fun w0 hC => by simp [execOp, Act.eval, Act.put, go_sem]⟩) hHeld ?_
              try simp only [Act.put, List.setIfInBounds_toArray, List.set_cons_zero, List.set_cons_succ, List.getElem_toArray, List.getElem_cons_zero, List.getElem_cons_succ]
              refine wpAnyH_take (i := 8) (v := .agg #[.slice A9 n9 c9, .slice A9' n9' c9', .int .i64 x.fuse, .bool x.down]) rfl (by kernel_rfl) (by kernel_rfl) (by kernel_rfl) (fun _ _ _ h => h) (Or.inl ⟨by rfl, fun w0 hC => by simp [execOp, Act.eval, Act.put, go_sem]⟩) hHeld ?_
              try simp only [Act.put, List.setIfInBounds_toArray, List.set_cons_zero, List.set_cons_succ, List.getElem_toArray, List.getElem_cons_zero, List.getElem_cons_succ]
              refine wpAnyH_take (i := 9) (v := .agg #[.int .i64 ((0 : Nat) : Int), .int .i64 ((1 : Nat) : Int), .int .i64 (u3 : Int), .int .i64 (c3 : Int)]) rfl (by kernel_rfl) (by kernel_rfl) (by kernel_rfl) (fun _ _ _ h => h) (Or.inl ⟨by rfl, fun w0 hC => by simp [execOp, Act.eval, Act.put, go_sem]⟩) hHeld ?_
              try simp only [Act.put, List.setIfInBounds_toArray, List.set_cons_zero, List.set_cons_succ, List.getElem_toArray, List.getElem_cons_zero, List.getElem_cons_succ]
              refine wpAnyH_take (i := 10) (v := .int .i64 er) rfl (by kernel_rfl) (by kernel_rfl) (by kernel_rfl) (fun _ _ _ h => h) (Or.inl ⟨by rfl, fun w0 hC => by simp [execOp, Act.eval, Act.put, go_sem]⟩) hHeld ?_
              try simp only [Act.put, List.setIfInBounds_toArray, List.set_cons_zero, List.set_cons_succ, List.getElem_toArray, List.getElem_cons_zero, List.getElem_cons_succ]
              have hf8 := stored4_facts hk11 (.slice A9 n9 c9) (.slice A9' n9' c9') (.int .i64 x.fuse) (.bool x.down)
              have HS : Hid ((fun W' => Below W8.heap.size W8 W' ∧ Bk W' b11 28 #[.slice A9 n9 c9, .slice A9' n9' c9', .int .i64 x.fuse, .bool x.down] ∧ Bk W' b12 35 #[.int .i64 0, .int .i64 0, .int .i64 0, .int .i64 0] ∧ DkAt W' W'.heap.size (.agg #[.slice A9 n9 c9, .slice A9' n9' c9', .int .i64 x.fuse, .bool x.down]) x) (stored4 V15 b11 (.slice A9 n9 c9) (.slice A9' n9' c9') (.int .i64 x.fuse) (.bool x.down))) := Lib.hid ⟨hf8.2.2.1 _ _ hHeld hl11, hf8.1, hf8.2.2.2 _ _ _ hne hk12, hf8.2.1 _ _ hd9⟩
              unfold stored4 at HS
              obtain ⟨⟨p0, p1, p2, p3⟩, q0, q1, q2, q3⟩ := hk11.four
              clear hf8 hk12 hd9
              refine wpAnyH_ready (rs := [13]) (by kernel_rfl) (by simp) (AllReadyH.cons rfl (fun K hK => ?_) AllReadyH.nil)
              rw [if_pos (by rfl)]
              go_wp2_with fail
              refine k_over (fun W' => Below W8.heap.size W8 W' ∧ Bk W' b11 28 #[.slice A9 n9 c9, .slice A9' n9' c9', .int .i64 x.fuse, .bool x.down] ∧ Bk W' b12 35 #[.int .i64 0, .int .i64 0, .int .i64 0, .int .i64 0] ∧ DkAt W' W'.heap.size (.agg #[.slice A9 n9 c9, .slice A9' n9' c9', .int .i64 x.fuse, .bool x.down]) x) HS.out ?_
              clear HS hk11 p0 p1 p2 p3 q0 q1 q2 q3 hHeld
              rintro U1 ⟨hSa, hk11, hk12, hd9⟩
              refine hK.out _ _ hSa (fun hHeld => ?_)
              clear hK K
              try simp only [Act.put, List.setIfInBounds_toArray, List.set_cons_zero, List.set_cons_succ, List.getElem_toArray, List.getElem_cons_zero, List.getElem_cons_succ]
              clear hSa
              have hf9 := stored4_facts hk12 (.int .i64 ((0 : Nat) : Int)) (.int .i64 ((1 : Nat) : Int)) (.int .i64 (u3 : Int)) (.int .i64 (c3 : Int))
              have HS : Hid ((fun W' => Below W8.heap.size W8 W' ∧ Bk W' b11 28 #[.slice A9 n9 c9, .slice A9' n9' c9', .int .i64 x.fuse, .bool x.down] ∧ Bk W' b12 35 #[.int .i64 ((0 : Nat) : Int), .int .i64 ((1 : Nat) : Int), .int .i64 (u3 : Int), .int .i64 (c3 : Int)] ∧ DkAt W' W'.heap.size (.agg #[.slice A9 n9 c9, .slice A9' n9' c9', .int .i64 x.fuse, .bool x.down]) x) (stored4 U1 b12 (.int .i64 ((0 : Nat) : Int)) (.int .i64 ((1 : Nat) : Int)) (.int .i64 (u3 : Int)) (.int .i64 (c3 : Int)))) := Lib.hid ⟨hf9.2.2.1 _ _ hHeld hl12, hf9.2.2.2 _ _ _ (Ne.symm hne) hk11, hf9.1, hf9.2.1 _ _ hd9⟩
              unfold stored4 at HS
              obtain ⟨⟨p0, p1, p2, p3⟩, q0, q1, q2, q3⟩ := hk12.four
              clear hf9 hk11 hd9
              refine wpAnyH_ready (rs := [14]) (by kernel_rfl) (by simp) (AllReadyH.cons rfl (fun K hK => ?_) AllReadyH.nil)
              rw [if_pos (by rfl)]
              go_wp2_with fail
              refine k_over (fun W' => Below W8.heap.size W8 W' ∧ Bk W' b11 28 #[.slice A9 n9 c9, .slice A9' n9' c9', .int .i64 x.fuse, .bool x.down] ∧ Bk W' b12 35 #[.int .i64 ((0 : Nat) : Int), .int .i64 ((1 : Nat) : Int), .int .i64 (u3 : Int), .int .i64 (c3 : Int)] ∧ DkAt W' W'.heap.size (.agg #[.slice A9 n9 c9, .slice A9' n9' c9', .int .i64 x.fuse, .bool x.down]) x) HS.out ?_
              clear HS hk12 p0 p1 p2 p3 q0 q1 q2 q3 hHeld
              rintro U2 ⟨hSa, hk11, hk12, hd9⟩
              refine hK.out _ _ hSa (fun hHeld => ?_)
              clear hK K
              try simp only [Act.put, List.setIfInBounds_toArray, List.set_cons_zero, List.set_cons_succ, List.getElem_toArray, List.getElem_cons_zero, List.getElem_cons_succ]
              clear hSa
              refine wpAnyH_ready (rs := [15]) (by kernel_rfl) (by simp) (AllReadyH.cons rfl (fun K hK => ?_) AllReadyH.nil)
              rw [if_pos (by rfl)]
              go_wp2_with fail
              have hSa := hHeld
              refine hK.out _ _ hSa (fun hHeld => ?_)
              clear hK K
              try simp only [Act.put, List.setIfInBounds_toArray, List.set_cons_zero, List.set_cons_succ, List.getElem_toArray, List.getElem_cons_zero, List.getElem_cons_succ]
              clear hSa
              refine wpAnyH_done (by kernel_rfl) ?_ _
              have hbx : Boxed W8 b11 b12 x 0 1 u3 c3 U2 := ⟨⟨A9, n9, c9, A9', n9', c9', hk11, hd9⟩, hk12, hHeld⟩
              clear hk11 hk12 hd9 hHeld
              go_wp2_with fail
              go_meet
              exact ⟨b11, b12, rfl, rfl, rfl, hl11, hl12, Ne.symm hne, hbx⟩
        case rest =>
          obtain ⟨b12, b13, rfl, rfl, rfl, hl12, hl13, hne12, hbx⟩ := hcut
          obtain ⟨⟨Ae, ne, ce, Ae', ne', ce', j1, jd⟩, j3, jb⟩ := hbx
          have k1 := K1.out.below jb K1.out.lt
          have k3 := K3.out.below jb K3.out.lt
          have kd := KD.out.later jb
          have kb := KB.out.trans (jb.mono KB.out.size)
          have hb1W : b1 < W8.heap.size := K1.out.lt
          have hb3W : b3 < W8.heap.size := K3.out.lt
          have hne1 : b12 ≠ b1 ∧ b12 ≠ b3 ∧ b13 ≠ b1 ∧ b13 ≠ b3 := by omega
          clear jb K1 K3 KD KB HBY HCL8 HAP
          rcases HWAY.out with ⟨h0, rfl, rfl, e1, e2⟩ | ⟨h0, hfu, rfl, rfl, e1, e2⟩ | ⟨h0, hfi, rfl, e1, e2⟩
          · clear HWAY e1 e2
            subst h0
            go_wp2_with fail
            obtain ⟨⟨p0, p1, p2, p3⟩, q0, q1, q2, q3⟩ := k1.four
            obtain ⟨⟨r0, r1, r2, r3⟩, s0, s1, s2, s3⟩ := k3.four
            obtain ⟨⟨t0, t1, t2, t3⟩, y0, y1, y2, y3⟩ := j1.four
            obtain ⟨⟨v0, v1, v2, v3⟩, x0, x1, x2, x3⟩ := j3.four
            have HBN := Lib.hid ((Boxed.store (w := w) k1 k3 hne31 jd kb hw1 hw6 0 1 u3 c3).below ((Below.refl _ _).drew))
            unfold stored4 at HBN
            obtain ⟨hn1, hn2, hn3, hn4⟩ := hne1
            clear k1 k3 j1 j3 jd kb
            go_region
            refine post_over (fun W' => Boxed w b1 b3 x 0 1 u3 c3 W') HBN.out ?_
            clear HBN p0 p1 p2 p3 q0 q1 q2 q3 r0 r1 r2 r3 s0 s1 s2 s3 t0 t1 t2 t3 y0 y1 y2 y3 v0 v1 v2 v3 x0 x1 x2 x3
            intro WN hbn
            have HBN := Lib.hid hbn
            clear hbn
            go_wp2_with fail
            have HKN := Lib.hid (show k + 1 ≤ n by omega)
            exact ⟨⟨k + 1, x, L3, HKN.out, by go_num, HFX.out, HZX.out, by rw [← HU3.out, ← HC3.out]; exact HBN.out⟩, by simp [intOf]; omega⟩
          · clear HWAY
            have h0b : ((tk : Int) == 0) = false := by simp; omega
            have hgt : (rm : Int) < (tk : Int) := by omega
            subst e1 e2
            obtain ⟨⟨p0, p1, p2, p3⟩, q0, q1, q2, q3⟩ := k1.four
            obtain ⟨⟨r0, r1, r2, r3⟩, s0, s1, s2, s3⟩ := k3.four
            obtain ⟨⟨t0, t1, t2, t3⟩, y0, y1, y2, y3⟩ := j1.four
            obtain ⟨⟨v0, v1, v2, v3⟩, x0, x1, x2, x3⟩ := j3.four
            have K1 := Lib.hid k1; have K3 := Lib.hid k3; have KD := Lib.hid kd; have KB := Lib.hid kb; have J1 := Lib.hid j1; have J3 := Lib.hid j3; have JD := Lib.hid jd
            clear k1 k3 kd kb j1 j3 jd
            go_wp2_with fail
            refine (rsame_any _ _ _ _ _ JD.out KD.out).mono ?_
            rw [sameB_self]
            rintro e W9 ⟨rfl, hb9⟩
            have k1 := K1.out.below hb9 K1.out.lt
            have k3 := K3.out.below hb9 K3.out.lt
            have kb := KB.out.trans (hb9.mono KB.out.size)
            have j1 := J1.out.below hb9 J1.out.lt
            have j3 := J3.out.below hb9 J3.out.lt
            have jd := JD.out.later hb9
            clear hb9 K1 K3 KD KB J1 J3 JD p0 p1 p2 p3 q0 q1 q2 q3 r0 r1 r2 r3 s0 s1 s2 s3 t0 t1 t2 t3 y0 y1 y2 y3 v0 v1 v2 v3 x0 x1 x2 x3
            go_wp2_with fail
            obtain ⟨⟨p0, p1, p2, p3⟩, q0, q1, q2, q3⟩ := k1.four
            obtain ⟨⟨r0, r1, r2, r3⟩, s0, s1, s2, s3⟩ := k3.four
            obtain ⟨⟨t0, t1, t2, t3⟩, y0, y1, y2, y3⟩ := j1.four
            obtain ⟨⟨v0, v1, v2, v3⟩, x0, x1, x2, x3⟩ := j3.four
            have HBN := Lib.hid ((Boxed.store (w := w) k1 k3 hne31 jd kb hw1 hw6 0 1 u3 c3).below ((Below.refl _ _).drew))
            unfold stored4 at HBN
            obtain ⟨hn1, hn2, hn3, hn4⟩ := hne1
            clear k1 k3 j1 j3 jd kb
            go_region
            refine post_over (fun W' => Boxed w b1 b3 x 0 1 u3 c3 W') HBN.out ?_
            clear HBN p0 p1 p2 p3 q0 q1 q2 q3 r0 r1 r2 r3 s0 s1 s2 s3 t0 t1 t2 t3 y0 y1 y2 y3 v0 v1 v2 v3 x0 x1 x2 x3
            intro WN hbn
            have HBN := Lib.hid hbn
            clear hbn
            go_wp2_with fail
            have HKN := Lib.hid (show k + 1 ≤ n by omega)
            go_roundw
            case rel => (repeat apply Exists.intro); exact ⟨⟨k + 1, x, L3, HKN.out, by go_num, HFX.out, HZX.out, by rw [← HU3.out, ← HC3.out]; exact HBN.out⟩, rfl⟩
            case measure => simp [intOf]; omega
          · clear HWAY
            have h0b : ((tk : Int) == 0) = false := by simp; omega
            have hgt : decide ((rm : Int) < (tk : Int)) = false := by simp; omega
            have hge : (tk : Int) ≤ (rm : Int) := by omega
            have hcn : ((c3 : Int) != (c2 : Int) + 1) = false := by simp [bne]; omega
            have hrn : (((rm - tk : Nat) : Int) != (rm : Int) - (tk : Int)) = false := by simp [bne]; omega
            have HRN := Lib.hid (show x.secs.length / 2 - u3 = rm - tk by rw [HSLX.out]; have := HRM.out; omega)
            clear e1 e2
            obtain ⟨⟨p0, p1, p2, p3⟩, q0, q1, q2, q3⟩ := k1.four
            obtain ⟨⟨r0, r1, r2, r3⟩, s0, s1, s2, s3⟩ := k3.four
            obtain ⟨⟨t0, t1, t2, t3⟩, y0, y1, y2, y3⟩ := j1.four
            obtain ⟨⟨v0, v1, v2, v3⟩, x0, x1, x2, x3⟩ := j3.four
            have K1 := Lib.hid k1; have K3 := Lib.hid k3; have KB := Lib.hid kb; have J1 := Lib.hid j1; have J3 := Lib.hid j3; have JD := Lib.hid jd
            clear k1 k3 kd kb j1 j3 jd
            go_wp2_with fail
            have hroom := room_any _ x 0 1 (sumT L3) L3.length _ JD.out HFX.out.1 HFIT3.out
            rw [← HU3.out, ← HC3.out, HRN.out] at hroom
            refine hroom.mono ?_
            clear hroom
            rintro e W9 ⟨rfl, hb9⟩
            have k1 := K1.out.below hb9 K1.out.lt
            have k3 := K3.out.below hb9 K3.out.lt
            have kb := KB.out.trans (hb9.mono KB.out.size)
            have j1 := J1.out.below hb9 J1.out.lt
            have j3 := J3.out.below hb9 J3.out.lt
            have jd := JD.out.later hb9
            clear hb9 K1 K3 KB J1 J3 JD p0 p1 p2 p3 q0 q1 q2 q3 r0 r1 r2 r3 s0 s1 s2 s3 t0 t1 t2 t3 y0 y1 y2 y3 v0 v1 v2 v3 x0 x1 x2 x3
            obtain ⟨⟨r0, r1, r2, r3⟩, s0, s1, s2, s3⟩ := k3.four
            obtain ⟨⟨v0, v1, v2, v3⟩, x0, x1, x2, x3⟩ := j3.four
            go_wp2_with fail
            clear r0 r1 r2 r3 s0 s1 s2 s3 v0 v1 v2 v3 x0 x1 x2 x3
            obtain ⟨⟨p0, p1, p2, p3⟩, q0, q1, q2, q3⟩ := k1.four
            obtain ⟨⟨r0, r1, r2, r3⟩, s0, s1, s2, s3⟩ := k3.four
            obtain ⟨⟨t0, t1, t2, t3⟩, y0, y1, y2, y3⟩ := j1.four
            obtain ⟨⟨v0, v1, v2, v3⟩, x0, x1, x2, x3⟩ := j3.four
            have HBN := Lib.hid ((Boxed.store (w := w) k1 k3 hne31 jd kb hw1 hw6 0 1 u3 c3).below ((Below.refl _ _).drew))
            unfold stored4 at HBN
            obtain ⟨hn1, hn2, hn3, hn4⟩ := hne1
            clear k1 k3 j1 j3 jd kb
            go_region
            refine post_over (fun W' => Boxed w b1 b3 x 0 1 u3 c3 W') HBN.out ?_
            clear HBN p0 p1 p2 p3 q0 q1 q2 q3 r0 r1 r2 r3 s0 s1 s2 s3 t0 t1 t2 t3 y0 y1 y2 y3 v0 v1 v2 v3 x0 x1 x2 x3
            intro WN hbn
            have HBN := Lib.hid hbn
            clear hbn
            go_wp2_with fail
            have HKN := Lib.hid (show k + 1 ≤ n by omega)
            go_roundw
            case rel => (repeat apply Exists.intro); exact ⟨⟨k + 1, x, L3, HKN.out, by go_num, HFX.out, HZX.out, by rw [← HU3.out, ← HC3.out]; exact HBN.out⟩, rfl⟩
            case measure => simp [intOf]; omega
      · have KB := Lib.hid hbx.hb
        clear hbx hF hZ
        go_wp2
        go_ret
        exact ⟨rfl, KB.out⟩
  · have hfu := format_full _ d0 _ 1 1 [[1]] W5 kd HF.out.1 kr (by omega) (by decide) (by rw [HF.out.2.1]; show m / 2 < 2; omega)
    refine hfu.mono ?_
    clear hfu
    rintro e W6 ⟨v6, rfl, hd6, hb6⟩
    obtain ⟨A6, n6, c6, A6', n6', c6', rfl, hx6⟩ := hd6
    have hd6 : DkAt W6 W6.heap.size (.agg #[.slice A6 n6 c6, .slice A6' n6' c6', .int .i64 d0.fuse, .bool d0.down]) d0 := ⟨A6, n6, c6, A6', n6', c6', rfl, hx6⟩
    replace k1 := k1.below hb6 k1.lt
    have kb6 := kb.trans (hb6.mono kb.size)
    obtain ⟨⟨p0, p1, p2, p3⟩, q0, q1, q2, q3⟩ := k1.four
    have l1 : b1 < W6.heap.size := k1.lt
    have h4 : decide ((m : Int) < 4) = true := by simp; omega
    have HBX := Lib.hid (Boxed.made (w := w) k1 hd6 kb6 hw1 0 0 0 0 0 0 0 0 rfl rfl rfl rfl)
    unfold stored4 at HBX
    clear k1 kb kb6 hd6 hx6 hb6 kd kr
    unfold logN
    go_wp2_with fail
    refine post_over (fun W => Below w.heap.size w W) HBX.out.hb ?_
    clear HBX p0 p1 p2 p3 q0 q1 q2 q3
    intro W7 hb7
    have hd4 : decide ((s : Int) % 300 < 4) = true := by have := HM.out; simp; omega
    rw [hd4]
    go_ret
    exact ⟨rfl, hb7⟩
end Go.Proofs.YthcdmlbefkfelaaDoor

