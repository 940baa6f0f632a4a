/-
  WalBack's walk.
-/
import Derived.Test.YthcdmlbefkfelaaDoorQWalGreat
import Derived.Test.YthcdmlbefkfelaaDoorQWalBoxes
import Derived.Test.YthcdmlbefkfelaaDoorQWalVals
import Derived.Deep.QuietTactic
namespace Go.Proofs.YthcdmlbefkfelaaDoor
set_option linter.unusedVariables false
set_option linter.unusedSimpArgs false
set_option linter.unusedVariables false
set_option linter.unusedSimpArgs false
open Go.RowKit

theorem fresh300 : newM 300 = (freshD 300, 0) := newM_fresh (n := 300) (by omega)
set_option maxRecDepth 20000 in
set_option maxHeartbeats 4000000 in
theorem back_any (A : Option Addr) (n c : Nat) (L : List (List Nat)) (Am : Option Addr) (nm cm : Nat) (b : List Nat) (w : World) (ht : Tab w) (hl : Rss w w.heap.size A n L) (hn : n ≤ 140737488355328) (hnc : n ≤ c) (hcm : c ≤ maxLen)
    (hbm : Bytes w w.heap.size Am nm b) (hnm : nm ≤ 140737488355328) (hncm : nm ≤ cm) (hcmm : cm ≤ maxLen) :
    Calls Tryd.prog 4 #[.slice A n c, .slice Am nm cm] w fun e w' => e = .returned (.bool true) ∧ Below w.heap.size w w' := by
  have HT := Lib.hid ht
  have HLL := Lib.hid hl
  have HBM := Lib.hid hbm
  have hln : L.length = n := hl.1
  have hbn : b.length = nm := hbm.1
  have HLN := Lib.hid hln; have HBN := Lib.hid hbn
  clear hl ht hbm hln hbn
  go_enter Tryd.func4, Tryd.ntmps4
  go_wp2_with fail
  refine (alive05_any _ HT.out).mono ?_
  rintro e w1 ⟨rfl, hb1⟩
  have HB1 := Lib.hid hb1
  clear hb1
  go_wp2_with fail
  have hnew := rnew_any 300 w1
  rw [fresh300] at hnew
  have HF := Lib.hid (fresh_fine (n := 300) (by omega))
  generalize freshD 300 = d0 at *
  refine hnew.mono ?_
  clear hnew
  rintro e w2 hres
  obtain ⟨A1, n1, c1, A1', n1', c1', rfl, hd1, hb2⟩ := hres.zero
  have HD1 := Lib.hid hd1
  have HB2 := Lib.hid (HB1.out.trans (hb2.mono HB1.out.size))
  clear hres hd1 hb2
  go_wp2_with fail
  refine calls_over (fun W => Bk W w2.heap.size 28 #[.slice A1 n1 c1, .slice A1' n1' c1', .int .i64 d0.fuse, .bool d0.down] ∧ DkAt W W.heap.size (.agg #[.slice A1 n1 c1, .slice A1' n1' c1', .int .i64 d0.fuse, .bool d0.down]) d0 ∧ Below w.heap.size w W) ⟨Bk.new _ _ _, HD1.out.later ((Below.refl _ _).alloc (Nat.le_refl _) _), HB2.out.alloc HB2.out.size _⟩ ?_
  have hw1 : w.heap.size ≤ w2.heap.size := HB2.out.size
  clear HD1 HB2
  generalize w2.heap.size = b1 at *
  rintro W3 ⟨k1, kd, kb⟩
  refine (great05_any none none A 0 0 0 0 n c w.heap.size 0 false L W3 (HLL.out.below kb (Nat.le_refl _)).bss kb.size hn).mono ?_
  rintro e W4 ⟨rfl, hb4⟩
  replace k1 := k1.below hb4 k1.lt
  replace kd := kd.later hb4
  replace kb := kb.trans (hb4.mono kb.size)
  by_cases hg : greatN 0 0 L = true
  · rw [hg]
    have KB := Lib.hid kb
    clear k1 kd kb hb4
    go_wp2
    go_ret
    exact ⟨rfl, KB.out⟩
  have hgf : greatN 0 0 L = false := by simpa using hg
  rw [hgf]
  have hsm : greatS L L.length ≤ 20000 := by simpa [greatN] using hgf
  have hl400 : n ≤ 400 := by have := (greatS_small hsm).1; rw [← HLN.out]; omega
  clear hg hgf hsm hb4
  by_cases hm6 : 6000 < nm
  · have h6b : decide ((6000 : Int) < (nm : Int)) = true := by simp; omega
    have h6i : (6000 : Int) < (nm : Int) := by omega
    have KB := Lib.hid kb
    clear k1 kd kb
    go_wp2_with fail
    go_ret
    exact ⟨rfl, KB.out⟩
  have h6b : ¬ ((6000 : Int) < (nm : Int)) := by omega
  obtain ⟨⟨p0, p1, p2, p3⟩, q0, q1, q2, q3⟩ := k1.four
  have K1 := Lib.hid k1; have KD := Lib.hid kd; have KB := Lib.hid kb
  have hl1 : b1 < W4.heap.size := k1.lt
  have HL4 := Lib.hid ((HLL.out.below kb (Nat.le_refl _)).more (B' := W4.heap.size) kb.size)
  clear k1 kd kb
  go_wp2_with fail
  by_cases h0 : needN L = 0
  · refine (format_arg _ d0 A n c L _ KD.out HF.out.1 HL4.out (by omega) h0).mono ?_
    rintro e W6 ⟨v6, rfl, hd6, hb6⟩
    obtain ⟨A6, n6, c6, A6', n6', c6', rfl, hx6⟩ := hd6
    have hd6 : DkAt W6 W6.heap.size (.agg #[.slice A6 n6 c6, .slice A6' n6' c6', .int .i64 d0.fuse, .bool d0.down]) d0 := ⟨A6, n6, c6, A6', n6', c6', rfl, hx6⟩
    have k1 := K1.out.below hb6 K1.out.lt
    have kb6 := KB.out.trans (hb6.mono KB.out.size)
    have l1 : b1 < W6.heap.size := k1.lt
    clear p0 p1 p2 p3 q0 q1 q2 q3
    obtain ⟨⟨p0, p1, p2, p3⟩, q0, q1, q2, q3⟩ := k1.four
    have HBX := Lib.hid (Boxed.made (w := w) k1 hd6 kb6 hw1 0 0 0 0 0 0 0 0 rfl rfl rfl rfl)
    unfold stored4 at HBX
    clear k1 kb6 hd6 hx6 hb6 K1 KB KD HL4
    unfold logN
    go_wp2_with fail
    refine post_over (fun W => Below w.heap.size w W) HBX.out.hb ?_
    clear HBX p0 p1 p2 p3 q0 q1 q2 q3
    intro W7 hb7
    go_ret
    exact ⟨rfl, hb7⟩
  obtain ⟨hok, hne⟩ := needN_pos.1 (Nat.pos_of_ne_zero h0)
  have hnp : 0 < n := by rw [← HLN.out]; exact List.length_pos_iff.2 hne
  by_cases hfull : 150 < sumT L
  · refine (format_full _ d0 A n c L _ KD.out HF.out.1 HL4.out (by omega) hok (by rw [HF.out.2.1]; exact hfull)).mono ?_
    rintro e W6 ⟨v6, rfl, hd6, hb6⟩
    obtain ⟨A6, n6, c6, A6', n6', c6', rfl, hx6⟩ := hd6
    have hd6 : DkAt W6 W6.heap.size (.agg #[.slice A6 n6 c6, .slice A6' n6' c6', .int .i64 d0.fuse, .bool d0.down]) d0 := ⟨A6, n6, c6, A6', n6', c6', rfl, hx6⟩
    have k1 := K1.out.below hb6 K1.out.lt
    have kb6 := KB.out.trans (hb6.mono KB.out.size)
    have l1 : b1 < W6.heap.size := k1.lt
    clear p0 p1 p2 p3 q0 q1 q2 q3
    obtain ⟨⟨p0, p1, p2, p3⟩, q0, q1, q2, q3⟩ := k1.four
    have HBX := Lib.hid (Boxed.made (w := w) k1 hd6 kb6 hw1 0 0 0 0 0 0 0 0 rfl rfl rfl rfl)
    unfold stored4 at HBX
    clear k1 kb6 hd6 hx6 hb6 K1 KB KD HL4
    unfold logN
    go_wp2_with fail
    refine post_over (fun W => Below w.heap.size w W) HBX.out.hb ?_
    clear HBX p0 p1 p2 p3 q0 q1 q2 q3
    intro W7 hb7
    go_ret
    exact ⟨rfl, hb7⟩
  refine (format_fine _ d0 A n c L _ KD.out HF.out HL4.out (by omega) hok hne (by omega : sumT L ≤ 300 / 2) (HT.out.below KB.out HT.out.pos)).mono ?_
  rintro e W6 ⟨d1, hF1, hz1, v6, rfl, hd6, hb6⟩
  obtain ⟨A6, n6, c6, A6', n6', c6', rfl, hx6⟩ := hd6
  have hd6 : DkAt W6 W6.heap.size (.agg #[.slice A6 n6 c6, .slice A6' n6' c6', .int .i64 d1.fuse, .bool d1.down]) d1 := ⟨A6, n6, c6, A6', n6', c6', rfl, hx6⟩
  have k1 := K1.out.below hb6 K1.out.lt
  have kb6 := KB.out.trans (hb6.mono KB.out.size)
  have l1 : b1 < W6.heap.size := k1.lt
  obtain ⟨u0, hu0⟩ : ∃ u, u = sumT L := ⟨_, rfl⟩
  rw [← hu0, HLN.out]
  have HU0 := Lib.hid hu0
  clear p0 p1 p2 p3 q0 q1 q2 q3 hu0 K1 KD
  obtain ⟨⟨p0, p1, p2, p3⟩, q0, q1, q2, q3⟩ := k1.four
  have HBX := Lib.hid (made4 (w := w) k1 hd6 kb6 hw1 (.int .i64 0) (.int .i64 1) (.int .i64 (u0 : Int)) (.int .i64 (n : Int)))
  unfold stored4 at HBX
  have HZ := Lib.hid hz1; have HFN := Lib.hid hF1
  clear k1 kb6 hd6 hx6 hb6 hz1 hF1 KB HF HL4 hl1
  have hw6 : w.heap.size ≤ W6.heap.size := Nat.le_trans hw1 (Nat.le_of_lt l1)
  unfold logN
  go_wp2_with fail
  refine calls_over (fun W => ∃ b3, b3 = W6.heap.size ∧ Bk W b1 28 #[.slice A6 n6 c6, .slice A6' n6' c6', .int .i64 d1.fuse, .bool d1.down] ∧ Bk W b3 35 #[.int .i64 0, .int .i64 1, .int .i64 (u0 : Int), .int .i64 (n : Int)] ∧ DkAt W W.heap.size (.agg #[.slice A6 n6 c6, .slice A6' n6' c6', .int .i64 d1.fuse, .bool d1.down]) d1 ∧ Below w.heap.size w W) ⟨_, rfl, HBX.out⟩ ?_
  clear HBX p0 p1 p2 p3 q0 q1 q2 q3
  rintro W7 ⟨b3, hb3, k1, k3, kd, kb⟩
  rw [← hb3] at l1 hw6 ⊢
  clear hb3
  have hne31 : b3 ≠ b1 := by omega
  obtain ⟨x, er, L2, hFx, hZx, hway, hap⟩ := append_det b HFN.out HZ.out HBM.out.2.1
  have hap7 := hap _ Am cm W7 kd (by rw [HBN.out]; exact (HBM.out.below kb (Nat.le_refl _)).more kb.size) (by rw [HBN.out]; exact hncm) hcmm (HT.out.below kb HT.out.pos) (by rw [HBN.out]; exact hnm)
  rw [← HU0.out, HLN.out, HBN.out] at hap7
  unfold logN at hap7
  obtain ⟨u3, hu3⟩ : ∃ u, u = sumT L2 := ⟨_, rfl⟩
  obtain ⟨c3, hc3⟩ : ∃ u, u = L2.length := ⟨_, rfl⟩
  rw [← hu3, ← hc3] at hap7
  refine hap7.mono ?_
  clear hap7 hap
  rintro e W8 ⟨v8, rfl, hd8, hb8⟩
  obtain ⟨Ae, ne, ce, Ae', ne', ce', rfl, hx8⟩ := hd8
  have hd8 : DkAt W8 W8.heap.size (.agg #[.slice Ae ne ce, .slice Ae' ne' ce', .int .i64 x.fuse, .bool x.down]) x := ⟨Ae, ne, ce, Ae', ne', ce', rfl, hx8⟩
  replace k1 := k1.below hb8 k1.lt
  replace k3 := k3.below hb8 k3.lt
  replace kd := kd.later hb8
  replace kb := kb.trans (hb8.mono kb.size)
  have l81 : b1 < W8.heap.size := k1.lt
  have l83 : b3 < W8.heap.size := k3.lt
  have haa : Below W8.heap.size W8 ((W8.alloc (.cells #[.slice Ae ne ce, .slice Ae' ne' ce', .int .i64 x.fuse, .bool x.down] 28)).alloc (.cells #[.int .i64 0, .int .i64 1, .int .i64 (u3 : Int), .int .i64 (c3 : Int)] 35)) := ((Below.refl _ _).alloc (Nat.le_refl _) _).alloc (by simp) _
  have HGG := Lib.hid (show (fun W => Bk W b1 28 #[.slice A6 n6 c6, .slice A6' n6' c6', .int .i64 d1.fuse, .bool d1.down] ∧ Bk W b3 35 #[.int .i64 0, .int .i64 1, .int .i64 (u0 : Int), .int .i64 (n : Int)] ∧ DkAt W W.heap.size (.agg #[.slice A6 n6 c6, .slice A6' n6' c6', .int .i64 d1.fuse, .bool d1.down]) d1 ∧ Below w.heap.size w W ∧ Bk W W8.heap.size 28 #[.slice Ae ne ce, .slice Ae' ne' ce', .int .i64 x.fuse, .bool x.down] ∧ Bk W (W8.heap.size + 1) 35 #[.int .i64 0, .int .i64 1, .int .i64 (u3 : Int), .int .i64 (c3 : Int)] ∧ DkAt W W.heap.size (.agg #[.slice Ae ne ce, .slice Ae' ne' ce', .int .i64 x.fuse, .bool x.down]) x) ((W8.alloc (.cells #[.slice Ae ne ce, .slice Ae' ne' ce', .int .i64 x.fuse, .bool x.down] 28)).alloc (.cells #[.int .i64 0, .int .i64 1, .int .i64 (u3 : Int), .int .i64 (c3 : Int)] 35)) from
    ⟨k1.below haa k1.lt, k3.below haa k3.lt, kd.later haa, kb.trans (haa.mono kb.size), (Bk.new W8 _ _).alloc _, Bk.new2 W8 _ _ _, hd8.later haa⟩)
  have HFX := Lib.hid hFx; have HZX := Lib.hid hZx; have HU3 := Lib.hid hu3; have HC3 := Lib.hid hc3
  have hway2 : ((er == 0) = false ∧ x = d1 ∧ L2 = L) ∨ (er = 0 ∧ L2 = L ++ [b]) := by
    rcases hway with ⟨_, a, b, c⟩ | ⟨_, _, a, b, c⟩ | ⟨_, _, a, b⟩
    · exact .inl ⟨by rw [a]; rfl, b, c⟩
    · exact .inl ⟨by rw [a]; rfl, b, c⟩
    · exact .inr ⟨a, b⟩
  clear k1 k3 kd kb hx8 hd8 hb8 haa hway hFx hZx hu3 hc3
  rcases hway2 with ⟨her, rfl, rfl⟩ | ⟨rfl, hL2⟩
  · obtain rfl : u3 = u0 := by rw [HU3.out, HU0.out]
    obtain rfl : c3 = n := by rw [HC3.out, HLN.out]
    go_wp2_with ((with_reducible show wpList _ _ _ (⟨some 63, _, _, _, _, _⟩ :: _) _ _); refine hold ?_)
    refine list_over (fun W => Bk W b1 28 #[.slice A6 n6 c6, .slice A6' n6' c6', .int .i64 x.fuse, .bool x.down] ∧ Bk W b3 35 #[.int .i64 0, .int .i64 1, .int .i64 (u3 : Int), .int .i64 (c3 : Int)] ∧ DkAt W W.heap.size (.agg #[.slice A6 n6 c6, .slice A6' n6' c6', .int .i64 x.fuse, .bool x.down]) x ∧ Below w.heap.size w W) ⟨HGG.out.1, HGG.out.2.1, HGG.out.2.2.1, HGG.out.2.2.2.1⟩ ?_
    clear HGG
    rintro W12 ⟨k1, k3, kd, kb⟩
    have hrw := (HLL.out.below kb (Nat.le_refl _)).more (B' := W12.heap.size) kb.size
    have hoff : Off A b1 b3 := by
      obtain ⟨bq, oq, eq, hbq, _⟩ := HLL.out.2 (by rw [← HLN.out]; exact List.length_pos_iff.2 hne)
      exact ⟨bq, oq, eq, by omega, by omega⟩
    obtain ⟨rm, hrm⟩ : ∃ r, r = 150 - u3 := ⟨_, rfl⟩
    have HSL := Lib.hid (show x.secs.length / 2 - u3 = rm by rw [HFX.out.2.1, hrm])
    have hrm0 : decide ((rm : Int) < 0) = false := by simp
    have hrm1 : ¬ ((rm : Int) < 0) := by omega
    have HHRM := Lib.hid hrm
    clear hrm
    have hfits := HZX.out.fits HFX.out.2.1
    rw [← HU3.out, ← HC3.out] at hfits
    have HFITS := Lib.hid hfits
    have hcb : c3 ≤ 5000 := by have h1 := hfits.2.2.2.2.1; have h2 := hfits.2.2.2.2.2.2; have h3 := (rightB_of.1 HFX.out.1).1; omega
    clear hfits
    obtain ⟨⟨p0, p1, p2, p3⟩, q0, q1, q2, q3⟩ := k1.four
    obtain ⟨⟨r0, r1, r2, r3⟩, s0, s1, s2, s3⟩ := k3.four
    have K1 := Lib.hid k1; have K3 := Lib.hid k3; have KD := Lib.hid kd; have KB := Lib.hid kb; have HRW := Lib.hid hrw; have HOFF := Lib.hid hoff
    clear k1 k3 kd kb hrw hoff
    refine held ?_
    go_wp2_with fail
    have hroom := room_any _ x 0 1 u3 c3 _ KD.out HFX.out.1 HFITS.out
    rw [HSL.out] at hroom
    unfold logN at hroom
    refine hroom.mono ?_
    clear hroom
    rintro e W20 ⟨rfl, hb20⟩
    have k1 := K1.out.below hb20 K1.out.lt
    have k3 := K3.out.below hb20 K3.out.lt
    have kd := KD.out.later hb20
    have kb := KB.out.trans (hb20.mono KB.out.size)
    have hrw := HRW.out.later hb20
    clear hb20 K1 K3 KD KB HRW p0 p1 p2 p3 q0 q1 q2 q3 r0 r1 r2 r3 s0 s1 s2 s3
    obtain ⟨⟨p0, p1, p2, p3⟩, q0, q1, q2, q3⟩ := k1.four
    obtain ⟨⟨r0, r1, r2, r3⟩, s0, s1, s2, s3⟩ := k3.four
    have K1 := Lib.hid k1; have K3 := Lib.hid k3; have KD := Lib.hid kd; have KB := Lib.hid kb; have HRW := Lib.hid hrw
    clear k1 k3 kd kb hrw
    go_wp2_with fail
    have hright := wright_any _ x 0 1 u3 c3 _ KD.out HFX.out.1 HFITS.out
    unfold logN at hright
    refine hright.mono ?_
    clear hright
    rintro e W21 ⟨rfl, hb20⟩
    have k1 := K1.out.below hb20 K1.out.lt
    have k3 := K3.out.below hb20 K3.out.lt
    have kd := KD.out.later hb20
    have kb := KB.out.trans (hb20.mono KB.out.size)
    have hrw := HRW.out.later hb20
    clear hb20 K1 K3 KD KB HRW p0 p1 p2 p3 q0 q1 q2 q3 r0 r1 r2 r3 s0 s1 s2 s3
    obtain ⟨⟨p0, p1, p2, p3⟩, q0, q1, q2, q3⟩ := k1.four
    obtain ⟨⟨r0, r1, r2, r3⟩, s0, s1, s2, s3⟩ := k3.four
    have hT := Lib.hid (HT.out.below kb HT.out.pos)
    have K1 := Lib.hid k1; have K3 := Lib.hid k3; have KD := Lib.hid kd; have KB := Lib.hid kb; have HRW := Lib.hid hrw
    clear k1 k3 kd kb hrw
    go_wp2_with fail
    refine (open_ways _ x 0 1 L2 _ KD.out HFX.out.rest HZX.out.holds (by omega) hT.out).mono ?_
    rintro e W22 how
    rcases how with ⟨x9, hr9, hf9, hz9, v9, A9, c9, rfl, hd9, hc9, hcm9, hrs9, hb9, hat9⟩ | ⟨hne9, -⟩
    rotate_left
    · exact absurd HFX.out.2.2.2.1 hne9
    obtain ⟨An, nn, cn, An', nn', cn', rfl, hx9⟩ := hd9
    have hd9 : DkAt W22 W22.heap.size (.agg #[.slice An nn cn, .slice An' nn' cn', .int .i64 x9.fuse, .bool x9.down]) x9 := ⟨An, nn, cn, An', nn', cn', rfl, hx9⟩
    rw [← HC3.out, ← HU3.out]
    rw [← HC3.out] at hrs9 hat9
    have k1 := K1.out.below hb9 K1.out.lt
    have k3 := K3.out.below hb9 K3.out.lt
    have kb := KB.out.trans (hb9.mono KB.out.size)
    have hrw := HRW.out.later hb9
    have hw1W : b1 < W21.heap.size := K1.out.lt
    have hw3W : b3 < W21.heap.size := K3.out.lt
    have hcp : 0 < c3 := by have := HFITS.out.2.2.2.2.2.1; omega
    have hoff9 : Off A9 b1 b3 := by
      obtain ⟨g, e, hg⟩ := hat9 hcp
      exact ⟨g, 0, e, by omega, by omega⟩
    clear p0 p1 p2 p3 q0 q1 q2 q3 r0 r1 r2 r3 s0 s1 s2 s3 hx9 hb9 hat9
    obtain ⟨⟨p0, p1, p2, p3⟩, q0, q1, q2, q3⟩ := k1.four
    obtain ⟨⟨r0, r1, r2, r3⟩, s0, s1, s2, s3⟩ := k3.four
    have hrf := refill (w := w) k1 k3 hne31 hd9 kb hw1 hw6 (.int .i64 1) (.int .i64 2) (.int .i64 (u3 : Int)) (.int .i64 (c3 : Int))
    have hg1 := rss_boxes hrs9 hoff9 (by intro k; intro h; cases h) (by intro k; intro h; cases h) k1 k3 hne31 (.slice An nn cn) (.slice An' nn' cn') (.int .i64 x9.fuse) (.bool x9.down) (.int .i64 1) (.int .i64 2) (.int .i64 (u3 : Int)) (.int .i64 (c3 : Int))
    have hw2 := rss_boxes hrw HOFF.out (by intro k; intro h; cases h) (by intro k; intro h; cases h) k1 k3 hne31 (.slice An nn cn) (.slice An' nn' cn') (.int .i64 x9.fuse) (.bool x9.down) (.int .i64 1) (.int .i64 2) (.int .i64 (u3 : Int)) (.int .i64 (c3 : Int))
    have HS := Lib.hid (And.intro hrf.2.1 (And.intro hrf.2.2.2 (And.intro (hg1.more (B' := (stored4 (stored4 W22 b1 (.slice An nn cn) (.slice An' nn' cn') (.int .i64 x9.fuse) (.bool x9.down)) b3 (.int .i64 1) (.int .i64 2) (.int .i64 (u3 : Int)) (.int .i64 (c3 : Int))).heap.size) (by unfold stored4; simp)) (hw2.more (B' := (stored4 (stored4 W22 b1 (.slice An nn cn) (.slice An' nn' cn') (.int .i64 x9.fuse) (.bool x9.down)) b3 (.int .i64 1) (.int .i64 2) (.int .i64 (u3 : Int)) (.int .i64 (c3 : Int))).heap.size) (by unfold stored4; simp)))))
    unfold stored4 at HS
    clear k1 k3 kb hrw hd9 hrs9 hrf hg1 hw2 K1 K3 KD KB HRW
    unfold logN
    go_wp2_with fail
    refine code_over (fun W => Bk W b3 35 #[.int .i64 1, .int .i64 2, .int .i64 (u3 : Int), .int .i64 (c3 : Int)] ∧ Below w.heap.size w W ∧ Rss W W.heap.size A9 c3 L2 ∧ Rss W W.heap.size A c3 L2) HS.out ?_
    clear HS p0 p1 p2 p3 q0 q1 q2 q3 r0 r1 r2 r3 s0 s1 s2 s3
    rintro W23 ⟨k3, kb, hgot, hwant⟩
    obtain ⟨bg, og, Ag, ng, cg, hAg, hbg, hcg, -, -, -, hyg⟩ := hgot.at_ (k := 0) hcp
    have hlw := HLL.out.below kb (Nat.le_refl _)
    obtain ⟨bq, oq, Aq, nq, cq, hAq, hbq, hcq, -, -, -, hyq⟩ := hlw.at_ (k := 0) hnp
    have HTX := Lib.hid (show textAt L2 0 = textAt L2 0 from by rfl)
    have hm : Tryd.prog.follows .mixedOrders = true := by kernel_rfl
    have e15 : ∀ args w, (callFunc 15 args).run Tryd.prog w = .ok (.enter 15 args) w := enters_of Tryd.func15 (by kernel_rfl) rfl
    have e19 : ∀ args w, (callFunc 19 args).run Tryd.prog w = .ok (.enter 19 args) w := enters_of Tryd.func19 (by kernel_rfl) rfl
    have K3 := Lib.hid k3; have HGOT := Lib.hid hgot; have HWANT := Lib.hid hwant; have KB := Lib.hid kb; have HYG := Lib.hid hyg; have HYQ := Lib.hid hyq; have HCG := Lib.hid hcg; have HCQ := Lib.hid hcq
    have hl3 : b3 < W23.heap.size := k3.lt
    have hbq2 : bq < W23.heap.size := Nat.lt_of_lt_of_le hbq kb.size
    clear k3 hgot hwant kb hyg hyq hcg hcq hlw
    subst hAg
    subst hAq
    refine wp_region_quiet (C := fun W' => Below W23.heap.size W23 W') hm (by kernel_rfl) (show Below W23.heap.size W23 W23.drew from (Below.refl _ _).drew) ?_
    refine quiet_val (v := .int .i64 0) (by rfl) (fun W' hC => by simp [execOp, Act.eval, Act.put, go_sem]) ?_
    simp only [Act.put, List.setIfInBounds_toArray, List.set_cons_zero, List.set_cons_succ]
    refine quiet_val (v := .bool true) (by rfl) (fun W' hC => by simp [execOp, Act.eval, Act.put, go_sem]) ?_
    simp only [Act.put, List.setIfInBounds_toArray, List.set_cons_zero, List.set_cons_succ]
    refine quiet_val (v := .bool true) (by rfl) (fun W' hC => by simp [execOp, Act.eval, Act.put, go_sem]) ?_
    simp only [Act.put, List.setIfInBounds_toArray, List.set_cons_zero, List.set_cons_succ]
    refine quiet_val (v := .slice (some ⟨bg, og, none⟩) c3 c9) (by rfl) (fun W' hC => by simp [execOp, Act.eval, Act.put, go_sem]) ?_
    simp only [Act.put, List.setIfInBounds_toArray, List.set_cons_zero, List.set_cons_succ]
    refine quiet_val (v := .slice (some ⟨bq, oq, none⟩) c3 c) (by rfl) (fun W' hC => by simp [execOp, Act.eval, Act.put, go_sem]) ?_
    simp only [Act.put, List.setIfInBounds_toArray, List.set_cons_zero, List.set_cons_succ]
    refine quiet_call (v := .bool true) (f := 15) (args := #[.slice (some ⟨bg, og, none⟩) c3 c9, .slice (some ⟨bq, oq, none⟩) c3 c]) (by rfl) (fun W' hC => exec_fn rfl rfl (by simp [Act.eval]) (e15 _ _)) (fun W' hC => by
      have h := x5same_any (some ⟨bg, og, none⟩) (some ⟨bq, oq, none⟩) c3 c9 c3 c _ _ L2 L2 W' ((HGOT.out.later hC).bss) ((HWANT.out.later hC).bss) (Nat.le_refl _) (Nat.le_refl _) (by omega) (by omega)
      rw [decide_eq_true rfl] at h
      exact h.mono (fun _ _ hh => ⟨hh.1, hC.trans (hh.2.mono hC.size)⟩)) ?_
    simp only [Act.put, List.setIfInBounds_toArray, List.set_cons_zero, List.set_cons_succ]
    refine quiet_val (v := .bool true) (by rfl) (fun W' hC => by simp [execOp, Act.eval, Act.put, go_sem]) ?_
    simp only [Act.put, List.setIfInBounds_toArray, List.set_cons_zero, List.set_cons_succ]
    refine quiet_val (v := .bool true) (by rfl) (fun W' hC => by simp [execOp, Act.eval, Act.put, go_sem]) ?_
    simp only [Act.put, List.setIfInBounds_toArray, List.set_cons_zero, List.set_cons_succ]
    refine quiet_val (v := .pointer (some ⟨b3, 3, none⟩)) (by rfl) (fun W' hC => by simp [execOp, Act.eval, Act.put, go_sem]) ?_
    simp only [Act.put, List.setIfInBounds_toArray, List.set_cons_zero, List.set_cons_succ]
    refine quiet_val (v := .int .i64 (c3 : Int)) (by rfl) (fun W' hC => by have := (K3.out.below hC hl3).four.1; simp [execOp, Act.eval, Act.put, go_sem, this.2.2.2]) ?_
    simp only [Act.put, List.setIfInBounds_toArray, List.set_cons_zero, List.set_cons_succ]
    refine quiet_val (v := .slice (some ⟨bq, oq, none⟩) c3 c) (by rfl) (fun W' hC => by simp [execOp, Act.eval, Act.put, go_sem]) ?_
    simp only [Act.put, List.setIfInBounds_toArray, List.set_cons_zero, List.set_cons_succ]
    refine quiet_val (v := .int .i64 (c3 : Int)) (by rfl) (fun W' hC => by simp [execOp, Act.eval, Act.put, go_sem]) ?_
    simp only [Act.put, List.setIfInBounds_toArray, List.set_cons_zero, List.set_cons_succ]
    refine quiet_val (v := .bool true) (by rfl) (fun W' hC => by simp [execOp, Act.eval, Act.put, go_sem]) ?_
    simp only [Act.put, List.setIfInBounds_toArray, List.set_cons_zero, List.set_cons_succ]
    refine quiet_val (v := .bool true) (by rfl) (fun W' hC => by simp [execOp, Act.eval, Act.put, go_sem]) ?_
    simp only [Act.put, List.setIfInBounds_toArray, List.set_cons_zero, List.set_cons_succ]
    refine quiet_val (v := .bool true) (by rfl) (fun W' hC => by simp [execOp, Act.eval, Act.put, go_sem]) ?_
    simp only [Act.put, List.setIfInBounds_toArray, List.set_cons_zero, List.set_cons_succ]
    refine quiet_val (v := .slice (some ⟨bg, og, none⟩) c3 c9) (by rfl) (fun W' hC => by simp [execOp, Act.eval, Act.put, go_sem]) ?_
    simp only [Act.put, List.setIfInBounds_toArray, List.set_cons_zero, List.set_cons_succ]
    refine quiet_val (v := .pointer (some ⟨bg, og + 0, none⟩)) (by rfl) (fun W' hC => by simp [execOp, Act.eval, Act.put, go_sem, hcp]) ?_
    simp only [Act.put, List.setIfInBounds_toArray, List.set_cons_zero, List.set_cons_succ]
    refine quiet_val (v := .slice Ag ng cg) (by rfl) (fun W' hC => by have := (hC.cell (p := ⟨bg, og + 0, none⟩) hbg).trans HCG.out; simp only [Nat.add_zero] at this; simp [execOp, Act.eval, Act.put, go_sem, this]) ?_
    simp only [Act.put, List.setIfInBounds_toArray, List.set_cons_zero, List.set_cons_succ]
    refine quiet_val (v := .slice (some ⟨bq, oq, none⟩) c3 c) (by rfl) (fun W' hC => by simp [execOp, Act.eval, Act.put, go_sem]) ?_
    simp only [Act.put, List.setIfInBounds_toArray, List.set_cons_zero, List.set_cons_succ]
    refine quiet_val (v := .pointer (some ⟨bq, oq + 0, none⟩)) (by rfl) (fun W' hC => by simp [execOp, Act.eval, Act.put, go_sem, hnp]) ?_
    simp only [Act.put, List.setIfInBounds_toArray, List.set_cons_zero, List.set_cons_succ]
    refine quiet_val (v := .slice Aq nq cq) (by rfl) (fun W' hC => by have := (hC.cell (p := ⟨bq, oq + 0, none⟩) hbq2).trans HCQ.out; simp only [Nat.add_zero] at this; simp [execOp, Act.eval, Act.put, go_sem, this]) ?_
    simp only [Act.put, List.setIfInBounds_toArray, List.set_cons_zero, List.set_cons_succ]
    refine quiet_call (v := .bool true) (f := 19) (args := #[.slice Ag ng cg, .slice Aq nq cq]) (by rfl) (fun W' hC => exec_fn rfl rfl (by simp [Act.eval]) (e19 _ _)) (fun W' hC => by
      have h := same3_any Ag ng cg _ _ Aq nq cq _ _ W' (HYG.out.later hC) (HYQ.out.below hC (KB.out.size))
      rw [decide_eq_true HTX.out] at h
      exact h.mono (fun _ _ hh => ⟨hh.1, by rw [← hh.2]; exact hC⟩)) ?_
    simp only [Act.put, List.setIfInBounds_toArray, List.set_cons_zero, List.set_cons_succ]
    refine quiet_val (v := .bool true) (by rfl) (fun W' hC => by simp [execOp, Act.eval, Act.put, go_sem]) ?_
    simp only [Act.put, List.setIfInBounds_toArray, List.set_cons_zero, List.set_cons_succ]
    refine quiet_val (v := .bool true) (by rfl) (fun W' hC => by simp [execOp, Act.eval, Act.put, go_sem]) ?_
    simp only [Act.put, List.setIfInBounds_toArray, List.set_cons_zero, List.set_cons_succ]
    refine wpQuiet_nil ?_
    intro W24 hC
    have HFIN := Lib.hid (KB.out.trans (hC.mono KB.out.size))
    clear hC
    go_wp2_with fail
    go_ret
    exact ⟨rfl, HFIN.out⟩
  · have HL2 := Lib.hid hL2
    clear hL2
    go_wp2_with fail
    refine code_over (fun W => Bk W b1 28 #[.slice A6 n6 c6, .slice A6' n6' c6', .int .i64 d1.fuse, .bool d1.down] ∧ Bk W b3 35 #[.int .i64 0, .int .i64 1, .int .i64 (u0 : Int), .int .i64 (n : Int)] ∧ DkAt W W.heap.size (.agg #[.slice A6 n6 c6, .slice A6' n6' c6', .int .i64 d1.fuse, .bool d1.down]) d1 ∧ Below w.heap.size w W ∧ Bk W W8.heap.size 28 #[.slice Ae ne ce, .slice Ae' ne' ce', .int .i64 x.fuse, .bool x.down] ∧ Bk W (W8.heap.size + 1) 35 #[.int .i64 0, .int .i64 1, .int .i64 (u3 : Int), .int .i64 (c3 : Int)] ∧ DkAt W W.heap.size (.agg #[.slice Ae ne ce, .slice Ae' ne' ce', .int .i64 x.fuse, .bool x.down]) x) HGG.out ?_
    clear HGG
    rintro W12 ⟨k1, k3, kd0, kb, m1, m3, kd⟩
    generalize W8.heap.size = b9 at *
    obtain ⟨⟨p0, p1, p2, p3⟩, q0, q1, q2, q3⟩ := k1.four
    obtain ⟨⟨r0, r1, r2, r3⟩, s0, s1, s2, s3⟩ := k3.four
    obtain ⟨⟨t0, t1, t2, t3⟩, y0, y1, y2, y3⟩ := m1.four
    obtain ⟨⟨v0, v1, v2, v3⟩, x0, x1, x2, x3⟩ := m3.four
    have hv1 : b9 ≠ b1 := by omega
    have hv2 : b9 ≠ b3 := by omega
    have hv3 : b9 + 1 ≠ b1 := by omega
    have hv4 : b9 + 1 ≠ b3 := by omega
    have HBS := Lib.hid (refill (w := w) k1 k3 hne31 kd kb hw1 hw6 (.int .i64 0) (.int .i64 1) (.int .i64 (u3 : Int)) (.int .i64 (c3 : Int)))
    unfold stored4 at HBS
    clear k1 k3 kd0 kd kb m1 m3
    go_region
    refine post_over (fun W' => Bk W' b1 28 #[.slice Ae ne ce, .slice Ae' ne' ce', .int .i64 x.fuse, .bool x.down] ∧ Bk W' b3 35 #[.int .i64 0, .int .i64 1, .int .i64 (u3 : Int), .int .i64 (c3 : Int)] ∧ DkAt W' W'.heap.size (.agg #[.slice Ae ne ce, .slice Ae' ne' ce', .int .i64 x.fuse, .bool x.down]) x ∧ Below w.heap.size w W') ⟨HBS.out.1.drew, HBS.out.2.1.drew, HBS.out.2.2.1.drew, HBS.out.2.2.2.drew⟩ ?_
    clear HBS p0 p1 p2 p3 q0 q1 q2 q3 r0 r1 r2 r3 s0 s1 s2 s3 t0 t1 t2 t3 y0 y1 y2 y3 v0 v1 v2 v3 x0 x1 x2 x3
    rintro W13 ⟨k1, k3, kd, kb⟩
    have K1 := Lib.hid k1; have K3 := Lib.hid k3; have KD := Lib.hid kd; have KB := Lib.hid kb
    clear k1 k3 kd kb
    go_wp2_with ((with_reducible show wpList _ _ _ (⟨some 59, _, _, _, _, _⟩ :: _) _ _); refine hold ?_)
    obtain ⟨us, husl, hvs, hcells⟩ := HLL.out.vals
    have hbe : Below W13.heap.size W13 (W13.alloc (.cells #[] 32)) := (Below.refl _ _).alloc (Nat.le_refl _) _
    have hw13 : w.heap.size ≤ W13.heap.size := KB.out.size
    refine held (wpList_append_vals rfl (.tmp 57) (.tmp 58) 33 rfl Tryd.underlying33 info_bytes rfl (by omega) W13.heap.size _ 0 0 [] rfl (OwnV.empty W13 32) A n c us rfl husl (fun hp => by
      obtain ⟨bq, oq, eq, hbq, hcq⟩ := hcells hp
      refine ⟨bq, oq, eq, fun i u hu => ?_⟩
      rw [(KB.out.trans (hbe.mono KB.out.size)).cell (p := ⟨bq, oq + i, none⟩) hbq]
      exact hcq i u hu) hvs.one (by omega) (by simp) ?_)
    intro A2 c2 W14 hown hb14
    rw [Nat.zero_add] at hown ⊢
    rw [List.nil_append] at hown
    have HOWN := Lib.hid hown
    have hb14' := hbe.trans hb14
    have K1' := Lib.hid (K1.out.below hb14' K1.out.lt)
    have K3' := Lib.hid (K3.out.below hb14' K3.out.lt)
    have KD' := Lib.hid (KD.out.below hb14' (Nat.le_refl _))
    have KB' := Lib.hid (KB.out.trans (hb14'.mono KB.out.size))
    have hb1W : b1 < W13.heap.size := K1.out.lt
    have hb3W : b3 < W13.heap.size := K3.out.lt
    have hs14 : W13.heap.size ≤ W14.heap.size := hb14'.size
    have HVS := Lib.hid hvs
    clear hown hb14 hb14' hbe K1 K3 KD KB hvs hcells
    go_wp2_with ((with_reducible show wpList _ _ _ (⟨some 62, _, _, _, _, _⟩ :: _) _ _); refine hold ?_)
    have hbe : Below W14.heap.size W14 (W14.alloc (.cells #[.slice Am nm cm] 32)) := (Below.refl _ _).alloc (Nat.le_refl _) _
    refine held (wpList_append_vals rfl (.tmp 59) (.tmp 61) 33 rfl Tryd.underlying33 info_bytes rfl (by omega) W13.heap.size A2 n c2 us rfl (HOWN.out.alloc _) (some ⟨W14.heap.size, 0, none⟩) 1 1 [.slice Am nm cm] rfl rfl (fun _ => ⟨W14.heap.size, 0, rfl, fun i u hu => by
      cases i with
      | zero => simp at hu; subst hu; rw [Nat.zero_add]; exact (Bk.new W14 _ _).cell 0
      | succ i => simp at hu⟩) (by intro u hu; simp at hu; subst hu; rfl) (by omega) (Nat.le_trans hs14 hbe.size) ?_)
    intro A3 c4 W15 hown hb15
    have hcn : n + 1 = c3 := by rw [HC3.out, HL2.out, List.length_append, HLN.out]; rfl
    rw [hcn] at hown ⊢
    have hb15' := (hbe.mono hs14).trans hb15
    have k1 := K1'.out.below hb15' hb1W
    have k3 := K3'.out.below hb15' hb3W
    have kb := KB'.out.trans (hb15'.mono hw13)
    have kd := (KD'.out.below hb15' (Nat.le_refl _)).more (B' := W15.heap.size) (Nat.le_trans hs14 (Nat.le_trans hbe.size hb15.size))
    have hv15 := (HVS.out.below kb (Nat.le_refl _)).snoc hncm hcmm hnm (HBM.out.below kb (Nat.le_refl _))
    rw [← HL2.out] at hv15
    have hrw := hown.rss hv15 kb.size
    have hoff : Off A3 b1 b3 := by
      obtain ⟨g, e, hg, hgl, _⟩ := hown.cells (by omega)
      exact ⟨g, 0, e, by omega, by omega⟩
    clear hown hb15 hb15' hbe K1' K3' KD' KB' hv15 HOWN HVS
    obtain ⟨rm, hrm⟩ : ∃ r, r = 150 - u3 := ⟨_, rfl⟩
    have HSL := Lib.hid (show x.secs.length / 2 - u3 = rm by rw [HFX.out.2.1, hrm])
    have hrm0 : decide ((rm : Int) < 0) = false := by simp
    have hrm1 : ¬ ((rm : Int) < 0) := by omega
    have HHRM := Lib.hid hrm
    clear hrm
    have hfits := HZX.out.fits HFX.out.2.1
    rw [← HU3.out, ← HC3.out] at hfits
    have HFITS := Lib.hid hfits
    have hcb : c3 ≤ 5000 := by have h1 := hfits.2.2.2.2.1; have h2 := hfits.2.2.2.2.2.2; have h3 := (rightB_of.1 HFX.out.1).1; omega
    clear hfits
    obtain ⟨⟨p0, p1, p2, p3⟩, q0, q1, q2, q3⟩ := k1.four
    obtain ⟨⟨r0, r1, r2, r3⟩, s0, s1, s2, s3⟩ := k3.four
    have K1 := Lib.hid k1; have K3 := Lib.hid k3; have KD := Lib.hid kd; have KB := Lib.hid kb; have HRW := Lib.hid hrw; have HOFF := Lib.hid hoff
    clear k1 k3 kd kb hrw hoff
    go_wp2_with fail
    have hroom := room_any _ x 0 1 u3 c3 _ KD.out HFX.out.1 HFITS.out
    rw [HSL.out] at hroom
    unfold logN at hroom
    refine hroom.mono ?_
    clear hroom
    rintro e W20 ⟨rfl, hb20⟩
    have k1 := K1.out.below hb20 K1.out.lt
    have k3 := K3.out.below hb20 K3.out.lt
    have kd := KD.out.later hb20
    have kb := KB.out.trans (hb20.mono KB.out.size)
    have hrw := HRW.out.later hb20
    clear hb20 K1 K3 KD KB HRW p0 p1 p2 p3 q0 q1 q2 q3 r0 r1 r2 r3 s0 s1 s2 s3
    obtain ⟨⟨p0, p1, p2, p3⟩, q0, q1, q2, q3⟩ := k1.four
    obtain ⟨⟨r0, r1, r2, r3⟩, s0, s1, s2, s3⟩ := k3.four
    have K1 := Lib.hid k1; have K3 := Lib.hid k3; have KD := Lib.hid kd; have KB := Lib.hid kb; have HRW := Lib.hid hrw
    clear k1 k3 kd kb hrw
    go_wp2_with fail
    have hright := wright_any _ x 0 1 u3 c3 _ KD.out HFX.out.1 HFITS.out
    unfold logN at hright
    refine hright.mono ?_
    clear hright
    rintro e W21 ⟨rfl, hb20⟩
    have k1 := K1.out.below hb20 K1.out.lt
    have k3 := K3.out.below hb20 K3.out.lt
    have kd := KD.out.later hb20
    have kb := KB.out.trans (hb20.mono KB.out.size)
    have hrw := HRW.out.later hb20
    clear hb20 K1 K3 KD KB HRW p0 p1 p2 p3 q0 q1 q2 q3 r0 r1 r2 r3 s0 s1 s2 s3
    obtain ⟨⟨p0, p1, p2, p3⟩, q0, q1, q2, q3⟩ := k1.four
    obtain ⟨⟨r0, r1, r2, r3⟩, s0, s1, s2, s3⟩ := k3.four
    have hT := Lib.hid (HT.out.below kb HT.out.pos)
    have K1 := Lib.hid k1; have K3 := Lib.hid k3; have KD := Lib.hid kd; have KB := Lib.hid kb; have HRW := Lib.hid hrw
    clear k1 k3 kd kb hrw
    go_wp2_with fail
    refine (open_ways _ x 0 1 L2 _ KD.out HFX.out.rest HZX.out.holds (by omega) hT.out).mono ?_
    rintro e W22 how
    rcases how with ⟨x9, hr9, hf9, hz9, v9, A9, c9, rfl, hd9, hc9, hcm9, hrs9, hb9, hat9⟩ | ⟨hne9, -⟩
    rotate_left
    · exact absurd HFX.out.2.2.2.1 hne9
    obtain ⟨An, nn, cn, An', nn', cn', rfl, hx9⟩ := hd9
    have hd9 : DkAt W22 W22.heap.size (.agg #[.slice An nn cn, .slice An' nn' cn', .int .i64 x9.fuse, .bool x9.down]) x9 := ⟨An, nn, cn, An', nn', cn', rfl, hx9⟩
    rw [← HC3.out, ← HU3.out]
    rw [← HC3.out] at hrs9 hat9
    have k1 := K1.out.below hb9 K1.out.lt
    have k3 := K3.out.below hb9 K3.out.lt
    have kb := KB.out.trans (hb9.mono KB.out.size)
    have hrw := HRW.out.later hb9
    have hw1W : b1 < W21.heap.size := K1.out.lt
    have hw3W : b3 < W21.heap.size := K3.out.lt
    have hcp : 0 < c3 := by have := HFITS.out.2.2.2.2.2.1; omega
    have hoff9 : Off A9 b1 b3 := by
      obtain ⟨g, e, hg⟩ := hat9 hcp
      exact ⟨g, 0, e, by omega, by omega⟩
    clear p0 p1 p2 p3 q0 q1 q2 q3 r0 r1 r2 r3 s0 s1 s2 s3 hx9 hb9 hat9
    obtain ⟨⟨p0, p1, p2, p3⟩, q0, q1, q2, q3⟩ := k1.four
    obtain ⟨⟨r0, r1, r2, r3⟩, s0, s1, s2, s3⟩ := k3.four
    have hrf := refill (w := w) k1 k3 hne31 hd9 kb hw1 hw6 (.int .i64 1) (.int .i64 2) (.int .i64 (u3 : Int)) (.int .i64 (c3 : Int))
    have hg1 := rss_boxes hrs9 hoff9 (by intro k; intro h; cases h) (by intro k; intro h; cases h) k1 k3 hne31 (.slice An nn cn) (.slice An' nn' cn') (.int .i64 x9.fuse) (.bool x9.down) (.int .i64 1) (.int .i64 2) (.int .i64 (u3 : Int)) (.int .i64 (c3 : Int))
    have hw2 := rss_boxes hrw HOFF.out (by intro k; intro h; cases h) (by intro k; intro h; cases h) k1 k3 hne31 (.slice An nn cn) (.slice An' nn' cn') (.int .i64 x9.fuse) (.bool x9.down) (.int .i64 1) (.int .i64 2) (.int .i64 (u3 : Int)) (.int .i64 (c3 : Int))
    have HS := Lib.hid (And.intro hrf.2.1 (And.intro hrf.2.2.2 (And.intro (hg1.more (B' := (stored4 (stored4 W22 b1 (.slice An nn cn) (.slice An' nn' cn') (.int .i64 x9.fuse) (.bool x9.down)) b3 (.int .i64 1) (.int .i64 2) (.int .i64 (u3 : Int)) (.int .i64 (c3 : Int))).heap.size) (by unfold stored4; simp)) (hw2.more (B' := (stored4 (stored4 W22 b1 (.slice An nn cn) (.slice An' nn' cn') (.int .i64 x9.fuse) (.bool x9.down)) b3 (.int .i64 1) (.int .i64 2) (.int .i64 (u3 : Int)) (.int .i64 (c3 : Int))).heap.size) (by unfold stored4; simp)))))
    unfold stored4 at HS
    clear k1 k3 kb hrw hd9 hrs9 hrf hg1 hw2 K1 K3 KD KB HRW
    unfold logN
    go_wp2_with fail
    refine code_over (fun W => Bk W b3 35 #[.int .i64 1, .int .i64 2, .int .i64 (u3 : Int), .int .i64 (c3 : Int)] ∧ Below w.heap.size w W ∧ Rss W W.heap.size A9 c3 L2 ∧ Rss W W.heap.size A3 c3 L2) HS.out ?_
    clear HS p0 p1 p2 p3 q0 q1 q2 q3 r0 r1 r2 r3 s0 s1 s2 s3
    rintro W23 ⟨k3, kb, hgot, hwant⟩
    obtain ⟨bg, og, Ag, ng, cg, hAg, hbg, hcg, -, -, -, hyg⟩ := hgot.at_ (k := 0) hcp
    have hlw := HLL.out.below kb (Nat.le_refl _)
    obtain ⟨bq, oq, Aq, nq, cq, hAq, hbq, hcq, -, -, -, hyq⟩ := hlw.at_ (k := 0) hnp
    have HTX := Lib.hid (show textAt L2 0 = textAt L 0 from by rw [HL2.out]; exact (textAt_snoc (by rw [HLN.out]; exact hnp)).1)
    have hm : Tryd.prog.follows .mixedOrders = true := by kernel_rfl
    have e15 : ∀ args w, (callFunc 15 args).run Tryd.prog w = .ok (.enter 15 args) w := enters_of Tryd.func15 (by kernel_rfl) rfl
    have e19 : ∀ args w, (callFunc 19 args).run Tryd.prog w = .ok (.enter 19 args) w := enters_of Tryd.func19 (by kernel_rfl) rfl
    have K3 := Lib.hid k3; have HGOT := Lib.hid hgot; have HWANT := Lib.hid hwant; have KB := Lib.hid kb; have HYG := Lib.hid hyg; have HYQ := Lib.hid hyq; have HCG := Lib.hid hcg; have HCQ := Lib.hid hcq
    have hl3 : b3 < W23.heap.size := k3.lt
    have hbq2 : bq < W23.heap.size := Nat.lt_of_lt_of_le hbq kb.size
    clear k3 hgot hwant kb hyg hyq hcg hcq hlw
    subst hAg
    subst hAq
    refine wp_region_quiet (C := fun W' => Below W23.heap.size W23 W') hm (by kernel_rfl) (show Below W23.heap.size W23 W23.drew from (Below.refl _ _).drew) ?_
    refine quiet_val (v := .int .i64 0) (by rfl) (fun W' hC => by simp [execOp, Act.eval, Act.put, go_sem]) ?_
    simp only [Act.put, List.setIfInBounds_toArray, List.set_cons_zero, List.set_cons_succ]
    refine quiet_val (v := .bool true) (by rfl) (fun W' hC => by simp [execOp, Act.eval, Act.put, go_sem]) ?_
    simp only [Act.put, List.setIfInBounds_toArray, List.set_cons_zero, List.set_cons_succ]
    refine quiet_val (v := .bool true) (by rfl) (fun W' hC => by simp [execOp, Act.eval, Act.put, go_sem]) ?_
    simp only [Act.put, List.setIfInBounds_toArray, List.set_cons_zero, List.set_cons_succ]
    refine quiet_val (v := .slice (some ⟨bg, og, none⟩) c3 c9) (by rfl) (fun W' hC => by simp [execOp, Act.eval, Act.put, go_sem]) ?_
    simp only [Act.put, List.setIfInBounds_toArray, List.set_cons_zero, List.set_cons_succ]
    refine quiet_val (v := .slice A3 c3 c4) (by rfl) (fun W' hC => by simp [execOp, Act.eval, Act.put, go_sem]) ?_
    simp only [Act.put, List.setIfInBounds_toArray, List.set_cons_zero, List.set_cons_succ]
    refine quiet_call (v := .bool true) (f := 15) (args := #[.slice (some ⟨bg, og, none⟩) c3 c9, .slice A3 c3 c4]) (by rfl) (fun W' hC => exec_fn rfl rfl (by simp [Act.eval]) (e15 _ _)) (fun W' hC => by
      have h := x5same_any (some ⟨bg, og, none⟩) A3 c3 c9 c3 c4 _ _ L2 L2 W' ((HGOT.out.later hC).bss) ((HWANT.out.later hC).bss) (Nat.le_refl _) (Nat.le_refl _) (by omega) (by omega)
      rw [decide_eq_true rfl] at h
      exact h.mono (fun _ _ hh => ⟨hh.1, hC.trans (hh.2.mono hC.size)⟩)) ?_
    simp only [Act.put, List.setIfInBounds_toArray, List.set_cons_zero, List.set_cons_succ]
    refine quiet_val (v := .bool true) (by rfl) (fun W' hC => by simp [execOp, Act.eval, Act.put, go_sem]) ?_
    simp only [Act.put, List.setIfInBounds_toArray, List.set_cons_zero, List.set_cons_succ]
    refine quiet_val (v := .bool true) (by rfl) (fun W' hC => by simp [execOp, Act.eval, Act.put, go_sem]) ?_
    simp only [Act.put, List.setIfInBounds_toArray, List.set_cons_zero, List.set_cons_succ]
    refine quiet_val (v := .pointer (some ⟨b3, 3, none⟩)) (by rfl) (fun W' hC => by simp [execOp, Act.eval, Act.put, go_sem]) ?_
    simp only [Act.put, List.setIfInBounds_toArray, List.set_cons_zero, List.set_cons_succ]
    refine quiet_val (v := .int .i64 (c3 : Int)) (by rfl) (fun W' hC => by have := (K3.out.below hC hl3).four.1; simp [execOp, Act.eval, Act.put, go_sem, this.2.2.2]) ?_
    simp only [Act.put, List.setIfInBounds_toArray, List.set_cons_zero, List.set_cons_succ]
    refine quiet_val (v := .slice A3 c3 c4) (by rfl) (fun W' hC => by simp [execOp, Act.eval, Act.put, go_sem]) ?_
    simp only [Act.put, List.setIfInBounds_toArray, List.set_cons_zero, List.set_cons_succ]
    refine quiet_val (v := .int .i64 (c3 : Int)) (by rfl) (fun W' hC => by simp [execOp, Act.eval, Act.put, go_sem]) ?_
    simp only [Act.put, List.setIfInBounds_toArray, List.set_cons_zero, List.set_cons_succ]
    refine quiet_val (v := .bool true) (by rfl) (fun W' hC => by simp [execOp, Act.eval, Act.put, go_sem]) ?_
    simp only [Act.put, List.setIfInBounds_toArray, List.set_cons_zero, List.set_cons_succ]
    refine quiet_val (v := .bool true) (by rfl) (fun W' hC => by simp [execOp, Act.eval, Act.put, go_sem]) ?_
    simp only [Act.put, List.setIfInBounds_toArray, List.set_cons_zero, List.set_cons_succ]
    refine quiet_val (v := .bool true) (by rfl) (fun W' hC => by simp [execOp, Act.eval, Act.put, go_sem]) ?_
    simp only [Act.put, List.setIfInBounds_toArray, List.set_cons_zero, List.set_cons_succ]
    refine quiet_val (v := .slice (some ⟨bg, og, none⟩) c3 c9) (by rfl) (fun W' hC => by simp [execOp, Act.eval, Act.put, go_sem]) ?_
    simp only [Act.put, List.setIfInBounds_toArray, List.set_cons_zero, List.set_cons_succ]
    refine quiet_val (v := .pointer (some ⟨bg, og + 0, none⟩)) (by rfl) (fun W' hC => by simp [execOp, Act.eval, Act.put, go_sem, hcp]) ?_
    simp only [Act.put, List.setIfInBounds_toArray, List.set_cons_zero, List.set_cons_succ]
    refine quiet_val (v := .slice Ag ng cg) (by rfl) (fun W' hC => by have := (hC.cell (p := ⟨bg, og + 0, none⟩) hbg).trans HCG.out; simp only [Nat.add_zero] at this; simp [execOp, Act.eval, Act.put, go_sem, this]) ?_
    simp only [Act.put, List.setIfInBounds_toArray, List.set_cons_zero, List.set_cons_succ]
    refine quiet_val (v := .slice (some ⟨bq, oq, none⟩) n c) (by rfl) (fun W' hC => by simp [execOp, Act.eval, Act.put, go_sem]) ?_
    simp only [Act.put, List.setIfInBounds_toArray, List.set_cons_zero, List.set_cons_succ]
    refine quiet_val (v := .pointer (some ⟨bq, oq + 0, none⟩)) (by rfl) (fun W' hC => by simp [execOp, Act.eval, Act.put, go_sem, hnp]) ?_
    simp only [Act.put, List.setIfInBounds_toArray, List.set_cons_zero, List.set_cons_succ]
    refine quiet_val (v := .slice Aq nq cq) (by rfl) (fun W' hC => by have := (hC.cell (p := ⟨bq, oq + 0, none⟩) hbq2).trans HCQ.out; simp only [Nat.add_zero] at this; simp [execOp, Act.eval, Act.put, go_sem, this]) ?_
    simp only [Act.put, List.setIfInBounds_toArray, List.set_cons_zero, List.set_cons_succ]
    refine quiet_call (v := .bool true) (f := 19) (args := #[.slice Ag ng cg, .slice Aq nq cq]) (by rfl) (fun W' hC => exec_fn rfl rfl (by simp [Act.eval]) (e19 _ _)) (fun W' hC => by
      have h := same3_any Ag ng cg _ _ Aq nq cq _ _ W' (HYG.out.later hC) (HYQ.out.below hC (KB.out.size))
      rw [decide_eq_true HTX.out] at h
      exact h.mono (fun _ _ hh => ⟨hh.1, by rw [← hh.2]; exact hC⟩)) ?_
    simp only [Act.put, List.setIfInBounds_toArray, List.set_cons_zero, List.set_cons_succ]
    refine quiet_val (v := .bool true) (by rfl) (fun W' hC => by simp [execOp, Act.eval, Act.put, go_sem]) ?_
    simp only [Act.put, List.setIfInBounds_toArray, List.set_cons_zero, List.set_cons_succ]
    refine quiet_val (v := .bool true) (by rfl) (fun W' hC => by simp [execOp, Act.eval, Act.put, go_sem]) ?_
    simp only [Act.put, List.setIfInBounds_toArray, List.set_cons_zero, List.set_cons_succ]
    refine wpQuiet_nil ?_
    intro W24 hC
    have HFIN := Lib.hid (KB.out.trans (hC.mono KB.out.size))
    clear hC
    go_wp2_with fail
    go_ret
    exact ⟨rfl, HFIN.out⟩
end Go.Proofs.YthcdmlbefkfelaaDoor

