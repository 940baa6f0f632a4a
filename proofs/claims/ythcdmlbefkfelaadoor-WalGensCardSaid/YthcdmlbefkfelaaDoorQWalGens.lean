/-
  WalGens' walk.
-/
import Derived.Test.YthcdmlbefkfelaaDoorQWalGreat
import Derived.Test.YthcdmlbefkfelaaDoorQWalCalls
import Derived.Deep.DeepCutAuto
namespace Go.Proofs.YthcdmlbefkfelaaDoor
set_option linter.unusedVariables false
set_option linter.unusedSimpArgs false
set_option linter.unusedVariables false
set_option linter.unusedSimpArgs false
open Go.RowKit

/-- a slice of slices of slices of bytes -/
def Rlls (w : World) (B : Nat) (A : Option Addr) (n : Nat) (LL : List (List (List Nat))) : Prop :=
  LL.length = n ∧ (0 < n → ∃ b o, A = some ⟨b, o, none⟩ ∧ b < B ∧ ∀ i, i < n → ∃ A' n' c', w.cell? ⟨b, o + i, none⟩ = some (.slice A' n' c') ∧ n' ≤ c' ∧ c' ≤ maxLen ∧ n' ≤ 140737488355328 ∧ Rss w B A' n' (LL.getD i []))
theorem Rlls.below {w w' : World} {B B' n : Nat} {A : Option Addr} {LL : List (List (List Nat))} (h : Rlls w B A n LL) (hb : Below B' w w') (hB : B ≤ B') : Rlls w' B A n LL := ⟨h.1, fun hn => by
  obtain ⟨b, o, e, hbB, hc⟩ := h.2 hn
  refine ⟨b, o, e, hbB, fun i hi => ?_⟩
  obtain ⟨A', n', c', h1, h2, h3, h4, h5⟩ := hc i hi
  exact ⟨A', n', c', (hb.cell (p := ⟨b, o + i, none⟩) (by show b < B'; omega)).trans h1, h2, h3, h4, h5.below hb hB⟩⟩
theorem Rlls.at_ {w : World} {B n : Nat} {A : Option Addr} {LL : List (List (List Nat))} {k : Nat} (h : Rlls w B A n LL) (hk : k < n) : ∃ b o A' n' c', A = some ⟨b, o, none⟩ ∧ b < B ∧ w.cell? ⟨b, o + k, none⟩ = some (.slice A' n' c') ∧ n' ≤ c' ∧ c' ≤ maxLen ∧ n' ≤ 140737488355328 ∧ Rss w B A' n' (LL.getD k []) := by
  obtain ⟨b, o, e, hbB, hc⟩ := h.2 (by omega)
  obtain ⟨A', n', c', h1, h2, h3, h4, h5⟩ := hc k hk
  exact ⟨b, o, A', n', c', e, hbB, h1, h2, h3, h4, h5⟩
/-- a slice that lies in neither of two boxes -/
def Off (A : Option Addr) (b1 b3 : Nat) : Prop := ∃ b o, A = some ⟨b, o, none⟩ ∧ b ≠ b1 ∧ b ≠ b3
/-- records that lie apart from the boxes of the disk and the log stay, if these are filled anew -/
theorem rss_boxes {W : World} {b1 b3 n : Nat} {A : Option Addr} {L : List (List Nat)} {d0 d1 : Value} {f : Int} {dn : Bool} {z0 z1 z2 z3 : Int} (hr : Rss W W.heap.size A n L) (hoff : Off A b1 b3) (hd0 : ∀ k, d0 ≠ .int .u8 k) (hd1 : ∀ k, d1 ≠ .int .u8 k) (h1 : Bk W b1 28 #[d0, d1, .int .i64 f, .bool dn]) (h3 : Bk W b3 35 #[.int .i64 z0, .int .i64 z1, .int .i64 z2, .int .i64 z3]) (hne : b3 ≠ b1) (a0 a1 a2 a3 e0 e1 e2 e3 : Value) :
    Rss (stored4 (stored4 W b1 a0 a1 a2 a3) b3 e0 e1 e2 e3) W.heap.size A n L := by
  obtain ⟨b, o, rfl, o1, o3⟩ := hoff
  have hf1 := stored4_facts h1 a0 a1 a2 a3
  have r1 := rss_stored4 (b := b1) hr (fun o k h => by rcases four_cell h1 h with ⟨_, h⟩ | ⟨_, h⟩ | ⟨_, h⟩ | ⟨_, h⟩; exact hd0 k h.symm; exact hd1 k h.symm; cases h; cases h) (fun o' _ e => o1 (by injection e with e; injection e)) a0 a1 a2 a3
  exact rss_stored4 (b := b3) r1 (fun o k h => by rcases four_cell (hf1.2.2.2 _ _ _ hne h3) h with ⟨_, h⟩ | ⟨_, h⟩ | ⟨_, h⟩ | ⟨_, h⟩ <;> cases h) (fun o' _ e => o3 (by injection e with e; injection e)) e0 e1 e2 e3
theorem with_one {w W : World} {b1 b3 : Nat} {d : Dk} {h g u k x : Nat} {z : Int} (H : Boxed w b1 b3 d h g u k W) (hz : W.heap.size = b3 + 1) (hx : x < 256) (e : z = (x : Int)) :
    Boxed w b1 b3 d h g u k ((W.alloc (.cells #[.int .u8 z] 5)).alloc (.cells #[.slice (some ⟨b3 + 1, 0, none⟩) 1 1] 32)) ∧
      Rss ((W.alloc (.cells #[.int .u8 z] 5)).alloc (.cells #[.slice (some ⟨b3 + 1, 0, none⟩) 1 1] 32)) (b3 + 1 + 1 + 1) (some ⟨b3 + 1 + 1, 0, none⟩) 1 [[x]] ∧
      b3 + 1 + 1 + 1 ≤ ((W.alloc (.cells #[.int .u8 z] 5)).alloc (.cells #[.slice (some ⟨b3 + 1, 0, none⟩) 1 1] 32)).heap.size := by
  subst e
  have hby := Bytes.one W (b := x) hx 5
  have hr := Rss.one (W.alloc (.cells #[.int .u8 (x : Int)] 5)) (c := 1) hby (by omega) (by omega) (by unfold maxLen; omega) (by simp) 32
  rw [hz] at hr
  refine ⟨H.below (((Below.refl _ _).alloc (Nat.le_refl _) _).alloc (by simp) _), ?_, by simp [hz]⟩
  simpa [hz] using hr
theorem below_drewN (w : World) (k : Nat) : Below w.heap.size w (w.drewN k) := ⟨rfl, rfl, rfl, Nat.le_refl _, fun _ _ => rfl⟩
theorem fresh80 : newM 80 = (freshD 80, 0) := newM_fresh (n := 80) (by omega)

set_option maxRecDepth 20000 in
set_option maxHeartbeats 4000000 in
theorem gens_any (A : Option Addr) (n c B : Nat) (LL : List (List (List Nat))) (w : World) (ht : Tab w) (hl : Rlls w B A n LL) (hB : B ≤ w.heap.size) (hn : n ≤ 140737488355328) (hnc : n ≤ c) (hcm : c ≤ maxLen) :
    Calls Tryd.prog 6 #[.slice A n c] w fun e w' => e = .returned (.bool true) ∧ Below w.heap.size w w' := by
  have HT := Lib.hid ht
  have HLL := Lib.hid hl
  clear hl ht
  go_enter Tryd.func6, Tryd.ntmps6
  go_wp2_with fail
  refine (alive05_any _ HT.out).mono ?_
  rintro e w1 ⟨rfl, hb1⟩
  have HB1 := Lib.hid hb1
  clear hb1
  by_cases h20 : 20 < n
  · have h20b : decide ((20 : Int) < (n : Int)) = true := by simp; omega
    have h20i : (20 : Int) < (n : Int) := by omega
    go_wp2_with fail
    go_ret
    exact ⟨rfl, HB1.out⟩
  have h20b : ¬ ((20 : Int) < (n : Int)) := by omega
  go_wp2_with fail
  have hnew := rnew_any 80 w1
  rw [fresh80] at hnew
  have HF := Lib.hid (fresh_fine (n := 80) (by omega))
  generalize freshD 80 = d0 at *
  refine hnew.mono ?_
  clear hnew
  rintro e w2 hres
  obtain ⟨A1, n1, c1, A1', n1', c1', rfl, hd1, hb2⟩ := hres.zero
  have HD1 := Lib.hid hd1
  have HB2 := Lib.hid (HB1.out.trans (hb2.mono HB1.out.size))
  clear hres hd1 hb2
  go_wp2_with fail
  refine calls_over (fun W => Bk W w2.heap.size 28 #[.slice A1 n1 c1, .slice A1' n1' c1', .int .i64 d0.fuse, .bool d0.down] ∧ DkAt W W.heap.size (.agg #[.slice A1 n1 c1, .slice A1' n1' c1', .int .i64 d0.fuse, .bool d0.down]) d0 ∧ Below w.heap.size w W ∧ Rss W W.heap.size (some ⟨w2.heap.size + 1 + 1, 0, none⟩) 1 [[1]]) ⟨((Bk.new w2 _ _).alloc _).alloc _, HD1.out.later ((((Below.refl _ _).alloc (Nat.le_refl _) _).alloc (by simp) _).alloc (by simp only [World.size_alloc]; omega) _), HB2.out.trans (((((Below.refl w2.heap.size w2).alloc (Nat.le_refl _) _).alloc (by simp) _).alloc (by simp only [World.size_alloc]; omega) _).mono HB2.out.size), ?_⟩ ?_
  · have hby := Bytes.one (w2.alloc (.cells #[.slice A1 n1 c1, .slice A1' n1' c1', .int .i64 d0.fuse, .bool d0.down] 28)) (b := 1) (by omega) 5
    have := Rss.one ((w2.alloc (.cells #[.slice A1 n1 c1, .slice A1' n1' c1', .int .i64 d0.fuse, .bool d0.down] 28)).alloc (.cells #[.int .u8 1] 5)) (c := 1) hby (by omega) (by omega) (by unfold maxLen; omega) (by simp) 32
    simpa using this
  have hw1 : w.heap.size ≤ w2.heap.size := HB2.out.size
  clear HD1 HB2
  generalize w2.heap.size = b1 at *
  rintro W5 ⟨k1, kd, kb, kr⟩
  have hfr := format_fine _ d0 _ 1 1 [[1]] W5 kd HF.out kr (by omega) (by decide) (by decide) (by decide) (HT.out.below kb HT.out.pos)
  refine hfr.mono ?_
  clear hfr kd kr
  rintro e W6 ⟨d1, hF1, hz1, v6, rfl, hd6, hb6⟩
  obtain ⟨A6, n6, c6, A6', n6', c6', rfl, hx6⟩ := hd6
  have hd6 : DkAt W6 W6.heap.size (.agg #[.slice A6 n6 c6, .slice A6' n6' c6', .int .i64 d1.fuse, .bool d1.down]) d1 := ⟨A6, n6, c6, A6', n6', c6', rfl, hx6⟩
  replace k1 := k1.below hb6 k1.lt
  have kb6 := kb.trans (hb6.mono kb.size)
  have l1 : b1 < W6.heap.size := k1.lt
  obtain ⟨⟨p0, p1, p2, p3⟩, q0, q1, q2, q3⟩ := k1.four
  have HBX := Lib.hid (Boxed.made (w := w) k1 hd6 kb6 hw1 0 1 2 1 0 1 2 1 rfl rfl rfl rfl)
  unfold stored4 at HBX
  have HZ := Lib.hid hz1; have HFN := Lib.hid hF1
  clear k1 kb kb6 hd6 hx6 hb6 hz1 hF1
  unfold logN
  simp only [show sumT [[1]] = 2 from by decide, show ([[1]] : List (List Nat)).length = 1 from rfl]
  go_wp2_with fail
  have hsz : ((stored4 W6 b1 (.slice A6 n6 c6) (.slice A6' n6' c6') (.int .i64 d1.fuse) (.bool d1.down)).alloc (.cells #[.int .i64 0, .int .i64 1, .int .i64 2, .int .i64 1] 35)).heap.size = W6.heap.size + 1 := by unfold stored4; simp
  unfold stored4 at hsz
  have hwo := Lib.hid (with_one (x := 1) (z := 1) HBX.out hsz (by omega) rfl)
  refine code_over (fun W => ∃ b3, b3 = W6.heap.size ∧ Boxed w b1 b3 d1 0 1 2 1 W ∧ Rss W (b3 + 1 + 1 + 1) (some ⟨b3 + 1 + 1, 0, none⟩) 1 [[1]] ∧ b3 + 1 + 1 + 1 ≤ W.heap.size) ⟨_, rfl, hwo.out⟩ ?_
  have hw6 : w.heap.size ≤ W6.heap.size := Nat.le_trans hw1 (Nat.le_of_lt l1)
  clear HBX p0 p1 p2 p3 q0 q1 q2 q3 hsz hwo
  rintro W7 ⟨b3, hb3, hbx, hrw, hsz7⟩
  rw [← hb3] at l1 hw6 ⊢
  have HBX := Lib.hid hbx
  have HRW := Lib.hid hrw
  clear hb3 hbx hrw
  have hne31 : b3 ≠ b1 := by omega
  go_loopw [7, 8] (fun x7 x8 wr => ∃ (k : Nat) (d : Dk) (h g : Nat) (L : List (List Nat)) (Aw : Option Addr) (cw : Nat), k ≤ n ∧ x8 = .int .i64 (k : Int) ∧ Fine 80 d ∧ HoldsZ 80 d h g L ∧ g ≤ 1 + 2 * k ∧ Boxed w b1 b3 d h g (sumT L) L.length wr ∧ x7 = .slice Aw L.length cw ∧ Rss wr wr.heap.size Aw L.length L ∧ Off Aw b1 b3) (fun _ x _ => n - (intOf x).toNat)
  case atStart => exact ⟨0, d1, 0, 1, [[1]], some ⟨b3 + 1 + 1, 0, none⟩, 1, Nat.zero_le _, rfl, HFN.out, HZ.out, by omega, HBX.out, rfl, HRW.out.more hsz7, ⟨_, _, rfl, by omega, by omega⟩⟩
  case round =>
    clear HBX HZ HFN HRW
    obtain ⟨k, d, h, g, L, Aw, cw, hk, rfl, hF, hZ, hgk, hbx, rfl, hrw, hoff⟩ := hrel
    by_cases hlt : k < n
    · skip
      have hrs := HLL.out.below hbx.hb hB
      obtain ⟨bL, oL, A5, n5, c5, rfl, hbL, hcL, hn5, hc5, hn5m, hr5⟩ := hrs.at_ hlt
      have hlen5 : (LL.getD k []).length = n5 := hr5.1
      obtain ⟨L5, hL5⟩ : ∃ l, l = LL.getD k [] := ⟨_, rfl⟩
      rw [← hL5] at hlen5 hr5
      clear hL5
      subst hlen5
      have hki : (k : Int) < (n : Int) := by omega
      have hbw : w.heap.size ≤ wr.heap.size := hbx.hb.size
      have hbLr : bL < wr.heap.size := by omega
      have HBX := Lib.hid hbx; have HF := Lib.hid hF; have HZ := Lib.hid hZ; have HRW := Lib.hid hrw; have HOFF := Lib.hid hoff
      have HR5 := Lib.hid hr5; have HGK := Lib.hid hgk
      have hg100 : g ≤ 100 := by omega
      clear hbx hF hZ hrw hoff hrs hr5 hgk
      go_wp2_with fail
      refine (great05_any none none A5 0 0 0 0 L5.length c5 wr.heap.size 0 false L5 wr ((HR5.out.bss).more (Nat.le_trans hB hbw)) (Nat.le_refl _) hn5m).mono ?_
      rintro e W4 ⟨rfl, hb4⟩
      by_cases hgr : greatN 0 0 L5 = true
      · rw [hgr]
        have KB := Lib.hid (HBX.out.hb.trans (hb4.mono HBX.out.hb.size))
        clear hb4
        go_wp2
        go_ret
        exact ⟨rfl, KB.out⟩
      have hgf : greatN 0 0 L5 = false := by simpa using hgr
      rw [hgf]
      have hsm : greatS L5 L5.length ≤ 20000 := by simpa [greatN] using hgf
      have hl400 : L5.length ≤ 1000000 := by have := (greatS_small hsm).1; omega
      replace HBX := Lib.hid (HBX.out.below hb4)
      replace HRW := Lib.hid (HRW.out.later hb4)
      have HRB := Lib.hid (HR5.out.below hb4 (Nat.le_trans hB hbw))
      replace HR5 := Lib.hid ((HR5.out.below hb4 (Nat.le_trans hB hbw)).more (Nat.le_trans hB (Nat.le_trans hbw hb4.size)))
      have hcL4 : W4.cell? ⟨bL, oL + k, none⟩ = some (.slice A5 L5.length c5) := (hb4.cell (p := ⟨bL, oL + k, none⟩) hbLr).trans hcL
      have hbL4 : bL < W4.heap.size := Nat.lt_of_lt_of_le hbLr hb4.size
      have hbw4 : w.heap.size ≤ W4.heap.size := Nat.le_trans hbw hb4.size
      clear hb4 hcL hbLr hbw hgr hgf hsm
      obtain ⟨x, er, h2, g2, L2, hFx, hZx, hway, hap⟩ := compact_det L5 HF.out HZ.out (by omega) HR5.out.lt256 hl400
      have hh1 : h ≤ 1 := HZ.out.1
      obtain ⟨u2, hu2⟩ : ∃ u, u = sumT L := ⟨_, rfl⟩
      obtain ⟨c2, hc2⟩ : ∃ u, u = L.length := ⟨_, rfl⟩
      obtain ⟨u3, hu3⟩ : ∃ u, u = sumT L2 := ⟨_, rfl⟩
      obtain ⟨c3, hc3⟩ : ∃ u, u = L2.length := ⟨_, rfl⟩
      obtain ⟨n5, hn5e⟩ : ∃ u, u = L5.length := ⟨_, rfl⟩
      rw [← hu2, ← hc2, ← hu3, ← hc3, ← hn5e] at hap
      obtain ⟨⟨Ad, nd, cd, Ad', nd', cd', k1, kd⟩, k3, kb⟩ := HBX.out
      rw [← hu2, ← hc2] at k3
      rw [← hn5e] at hcL4 hn5
      have HFX := Lib.hid hFx; have HZX := Lib.hid hZx; have HWAY := Lib.hid hway
      have HU3 := Lib.hid hu3; have HC3 := Lib.hid hc3; have HU2 := Lib.hid hu2; have HC2 := Lib.hid hc2; have HN5 := Lib.hid hn5e
      have HT8 := Lib.hid (HT.out.below kb HT.out.pos)
      have K1 := Lib.hid k1; have K3 := Lib.hid k3; have KD := Lib.hid kd; have KB := Lib.hid kb; have HAP := Lib.hid hap
      have HCL4 := Lib.hid hcL4
      clear k1 k3 kd kb hap hcL4 hFx hZx hway hu2 hc2 hu3 hc3 hn5e HBX
      rw [← HC2.out]
      go_upto_region 15 with (fail)
      go_cut [9, 10, 11] (fun x12 x13 x14 wx => ∃ b12 b13, x12 = .pointer (some ⟨b12, 0, none⟩) ∧ x13 = .pointer (some ⟨b13, 0, none⟩) ∧ x14 = .int .i64 er ∧ W4.heap.size ≤ b12 ∧ W4.heap.size ≤ b13 ∧ b12 ≠ b13 ∧ Boxed W4 b12 b13 x h2 g2 u3 c3 wx)
      case first =>
        have hap : ∀ W, Below W4.heap.size W4 W → Calls Tryd.prog 11 #[.agg #[.slice Ad nd cd, .slice Ad' nd' cd', .int .i64 d.fuse, .bool d.down], .agg #[.int .i64 (h : Int), .int .i64 (g : Int), .int .i64 (u2 : Int), .int .i64 (c2 : Int)], .slice A5 n5 c5] W (LogRes W (x, er) (logN h2 g2 u3 c3)) := fun W hb => HAP.out _ A5 c5 W (KD.out.later hb) (by rw [HN5.out]; exact HR5.out.later hb) (HT8.out.below hb HT8.out.pos)
        go_wp2_with fail
        have hm : Tryd.prog.follows .mixedOrders = true := by kernel_rfl
        refine wp_region_held_drew (S := fun W' => Below W4.heap.size W4 W') hm ((Below.refl _ _).drew) (fun hHeld => ?_)
        obtain ⟨V0, hV0⟩ : ∃ V, V = W4.drew := ⟨_, rfl⟩
        rw [← hV0] at hHeld ⊢
        clear hV0
        simp only [List.size_toArray, List.length_cons, List.length_nil, Nat.reduceAdd]
        refine wpAnyH_take (i := 0) (v := .agg #[.slice Ad nd cd, .slice Ad' nd' cd', .int .i64 d.fuse, .bool d.down]) rfl (by kernel_rfl) (by kernel_rfl) (by kernel_rfl) (fun _ _ _ h => h) (Or.inl ⟨by rfl, fun w0 hC => by have := (K1.out.below hC K1.out.lt).four.1; simp [execOp, Act.eval, Act.put, go_sem, this.1, this.2.1, this.2.2.1, this.2.2.2]⟩) hHeld ?_
        try simp only [Act.put, List.setIfInBounds_toArray, List.set_cons_zero, List.set_cons_succ, List.getElem_toArray, List.getElem_cons_zero, List.getElem_cons_succ]
        refine wpAnyH_take (i := 1) (v := .agg #[.int .i64 (h : Int), .int .i64 (g : Int), .int .i64 (u2 : Int), .int .i64 (c2 : Int)]) rfl (by kernel_rfl) (by kernel_rfl) (by kernel_rfl) (fun _ _ _ h => h) (Or.inl ⟨by rfl, fun w0 hC => by have := (K3.out.below hC K3.out.lt).four.1; simp [execOp, Act.eval, Act.put, go_sem, this.1, this.2.1, this.2.2.1, this.2.2.2]⟩) hHeld ?_
        try simp only [Act.put, List.setIfInBounds_toArray, List.set_cons_zero, List.set_cons_succ, List.getElem_toArray, List.getElem_cons_zero, List.getElem_cons_succ]
        refine wpAnyH_take (i := 2) (v := .slice (some ⟨bL, oL, none⟩) n c) rfl (by kernel_rfl) (by kernel_rfl) (by kernel_rfl) (fun _ _ _ h => h) (Or.inl ⟨by rfl, fun w0 hC => by simp [execOp, Act.eval, Act.put, go_sem]⟩) hHeld ?_
        try simp only [Act.put, List.setIfInBounds_toArray, List.set_cons_zero, List.set_cons_succ, List.getElem_toArray, List.getElem_cons_zero, List.getElem_cons_succ]
        refine wpAnyH_take (i := 3) (v := .int .i64 (k : Int)) rfl (by kernel_rfl) (by kernel_rfl) (by kernel_rfl) (fun _ _ _ h => h) (Or.inl ⟨by rfl, fun w0 hC => by simp [execOp, Act.eval, Act.put, go_sem]⟩) hHeld ?_
        try simp only [Act.put, List.setIfInBounds_toArray, List.set_cons_zero, List.set_cons_succ, List.getElem_toArray, List.getElem_cons_zero, List.getElem_cons_succ]
        refine wpAnyH_take (i := 4) (v := .pointer (some ⟨bL, oL + k, none⟩)) rfl (by kernel_rfl) (by kernel_rfl) (by kernel_rfl) (fun _ _ _ h => h) (Or.inl ⟨by rfl, fun w0 hC => by simp [execOp, Act.eval, Act.put, go_sem, hki]⟩) hHeld ?_
        try simp only [Act.put, List.setIfInBounds_toArray, List.set_cons_zero, List.set_cons_succ, List.getElem_toArray, List.getElem_cons_zero, List.getElem_cons_succ]
        refine wpAnyH_take (i := 5) (v := .slice A5 n5 c5) rfl (by kernel_rfl) (by kernel_rfl) (by kernel_rfl) (fun _ _ _ h => h) (Or.inl ⟨by rfl, fun w0 hC => by have := (hC.cell (p := ⟨bL, oL + k, none⟩) hbL4).trans HCL4.out; simp [execOp, Act.eval, Act.put, go_sem, this]⟩) hHeld ?_
        try simp only [Act.put, List.setIfInBounds_toArray, List.set_cons_zero, List.set_cons_succ, List.getElem_toArray, List.getElem_cons_zero, List.getElem_cons_succ]
        refine wpAnyH_ready (rs := [6, 11, 12]) (by kernel_rfl) (by simp) (AllReadyH.cons rfl (fun K hK => ?_) (AllReadyH.cons rfl (fun K hK => ?_) (AllReadyH.cons rfl (fun K hK => ?_) AllReadyH.nil)))
        · rw [if_pos (by rfl)]
          go_wp2_with fail
          refine (hap V0 hHeld).mono ?_
          rintro e V1 ⟨v9, rfl, hd9, hba⟩
          obtain ⟨A9, n9, c9, A9', n9', c9', rfl, hx9⟩ := hd9
          have hd9 : DkAt V1 V1.heap.size (.agg #[.slice A9 n9 c9, .slice A9' n9' c9', .int .i64 x.fuse, .bool x.down]) x := ⟨A9, n9, c9, A9', n9', c9', rfl, hx9⟩
          clear hx9
          unfold logN
          have hSa := hHeld.trans (hba.mono hHeld.size)
          clear hba hHeld
          refine hK.out _ _ hSa (fun hHeld => ?_)
          clear hK K
          try simp only [Act.put, List.setIfInBounds_toArray, List.set_cons_zero, List.set_cons_succ, List.getElem_toArray, List.getElem_cons_zero, List.getElem_cons_succ]
          clear hSa
          refine wpAnyH_take (i := 7) (v := .tuple #[.agg #[.slice A9 n9 c9, .slice A9' n9' c9', .int .i64 x.fuse, .bool x.down], .agg #[.int .i64 (h2 : Int), .int .i64 (g2 : Int), .int .i64 (u3 : Int), .int .i64 (c3 : Int)], .int .i64 er]) rfl (by kernel_rfl) (by kernel_rfl) (by kernel_rfl) (fun _ _ _ h => h) (Or.inl ⟨by rfl, fun w0 hC => by simp [execOp, Act.eval, Act.put, go_sem]⟩) hHeld ?_
          try simp only [Act.put, List.setIfInBounds_toArray, List.set_cons_zero, List.set_cons_succ, List.getElem_toArray, List.getElem_cons_zero, List.getElem_cons_succ]
          refine wpAnyH_take (i := 8) (v := .agg #[.slice A9 n9 c9, .slice A9' n9' c9', .int .i64 x.fuse, .bool x.down]) rfl (by kernel_rfl) (by kernel_rfl) (by kernel_rfl) (fun _ _ _ h => h) (Or.inl ⟨by rfl, fun w0 hC => by simp [execOp, Act.eval, Act.put, go_sem]⟩) hHeld ?_
          try simp only [Act.put, List.setIfInBounds_toArray, List.set_cons_zero, List.set_cons_succ, List.getElem_toArray, List.getElem_cons_zero, List.getElem_cons_succ]
          refine wpAnyH_take (i := 9) (v := .agg #[.int .i64 (h2 : Int), .int .i64 (g2 : Int), .int .i64 (u3 : Int), .int .i64 (c3 : Int)]) rfl (by kernel_rfl) (by kernel_rfl) (by kernel_rfl) (fun _ _ _ h => h) (Or.inl ⟨by rfl, fun w0 hC => by simp [execOp, Act.eval, Act.put, go_sem]⟩) hHeld ?_
          try simp only [Act.put, List.setIfInBounds_toArray, List.set_cons_zero, List.set_cons_succ, List.getElem_toArray, List.getElem_cons_zero, List.getElem_cons_succ]
          refine wpAnyH_take (i := 10) (v := .int .i64 er) rfl (by kernel_rfl) (by kernel_rfl) (by kernel_rfl) (fun _ _ _ h => h) (Or.inl ⟨by rfl, fun w0 hC => by simp [execOp, Act.eval, Act.put, go_sem]⟩) hHeld ?_
          try simp only [Act.put, List.setIfInBounds_toArray, List.set_cons_zero, List.set_cons_succ, List.getElem_toArray, List.getElem_cons_zero, List.getElem_cons_succ]
          refine wpAnyH_ready (rs := [11, 12]) (by kernel_rfl) (by simp) (AllReadyH.cons rfl (fun K hK => ?_) (AllReadyH.cons rfl (fun K hK => ?_) AllReadyH.nil))
          · rw [if_pos (by rfl)]
            go_wp2_with fail
            have hl11 : W4.heap.size ≤ V1.heap.size := hHeld.size
            refine k_over (fun W' => Below V1.heap.size V1 W' ∧ Bk W' V1.heap.size 28 #[.slice none 0 0, .slice none 0 0, .int .i64 0, .bool false]) ⟨(Below.refl _ _).alloc (Nat.le_refl _) _, Bk.new V1 _ _⟩ ?_
            rintro V2 ⟨hba, hk11⟩
            obtain ⟨b11, hz⟩ : ∃ b, b = V1.heap.size := ⟨_, rfl⟩
            rw [← hz] at hk11 hl11 ⊢
            clear hz
            have hSa := hHeld.trans (hba.mono hHeld.size)
            replace hd9 := hd9.later hba
            clear hba hHeld
            refine hK.out _ _ hSa (fun hHeld => ?_)
            clear hK K
            try simp only [Act.put, List.setIfInBounds_toArray, List.set_cons_zero, List.set_cons_succ, List.getElem_toArray, List.getElem_cons_zero, List.getElem_cons_succ]
            clear hSa
            refine wpAnyH_ready (rs := [12]) (by kernel_rfl) (by simp) (AllReadyH.cons rfl (fun K hK => ?_) AllReadyH.nil)
            rw [if_pos (by rfl)]
            go_wp2_with fail
            have hl12 : W4.heap.size ≤ V2.heap.size := hHeld.size
            have hne : V2.heap.size ≠ b11 := by have := hk11.lt; omega
            refine k_over (fun W' => Below V2.heap.size V2 W' ∧ Bk W' V2.heap.size 35 #[.int .i64 0, .int .i64 0, .int .i64 0, .int .i64 0]) ⟨(Below.refl _ _).alloc (Nat.le_refl _) _, Bk.new V2 _ _⟩ ?_
            rintro V3 ⟨hba, hk12⟩
            obtain ⟨b12, hz⟩ : ∃ b, b = V2.heap.size := ⟨_, rfl⟩
            rw [← hz] at hk12 hl12 ⊢
            rw [← hz] at hne
            clear hz
            have hSa := hHeld.trans (hba.mono hHeld.size)
            replace hk11 := hk11.below hba hk11.lt
            replace hd9 := hd9.later hba
            clear hba hHeld
            refine hK.out _ _ hSa (fun hHeld => ?_)
            clear hK K
            try simp only [Act.put, List.setIfInBounds_toArray, List.set_cons_zero, List.set_cons_succ, List.getElem_toArray, List.getElem_cons_zero, List.getElem_cons_succ]
            clear hSa
            have hf8 := stored4_facts hk11 (.slice A9 n9 c9) (.slice A9' n9' c9') (.int .i64 x.fuse) (.bool x.down)
            have HS : Hid ((fun W' => Below W4.heap.size W4 W' ∧ Bk W' b11 28 #[.slice A9 n9 c9, .slice A9' n9' c9', .int .i64 x.fuse, .bool x.down] ∧ Bk W' b12 35 #[.int .i64 0, .int .i64 0, .int .i64 0, .int .i64 0] ∧ DkAt W' W'.heap.size (.agg #[.slice A9 n9 c9, .slice A9' n9' c9', .int .i64 x.fuse, .bool x.down]) x) (stored4 V3 b11 (.slice A9 n9 c9) (.slice A9' n9' c9') (.int .i64 x.fuse) (.bool x.down))) := Lib.hid ⟨hf8.2.2.1 _ _ hHeld hl11, hf8.1, hf8.2.2.2 _ _ _ hne hk12, hf8.2.1 _ _ hd9⟩
            unfold stored4 at HS
            obtain ⟨⟨p0, p1, p2, p3⟩, q0, q1, q2, q3⟩ := hk11.four
            clear hf8 hk12 hd9
            refine wpAnyH_ready (rs := [13]) (by kernel_rfl) (by simp) (AllReadyH.cons rfl (fun K hK => ?_) AllReadyH.nil)
            rw [if_pos (by rfl)]
            go_wp2_with fail
            refine k_over (fun W' => Below W4.heap.size W4 W' ∧ Bk W' b11 28 #[.slice A9 n9 c9, .slice A9' n9' c9', .int .i64 x.fuse, .bool x.down] ∧ Bk W' b12 35 #[.int .i64 0, .int .i64 0, .int .i64 0, .int .i64 0] ∧ DkAt W' W'.heap.size (.agg #[.slice A9 n9 c9, .slice A9' n9' c9', .int .i64 x.fuse, .bool x.down]) x) HS.out ?_
            clear HS hk11 p0 p1 p2 p3 q0 q1 q2 q3 hHeld
            rintro U1 ⟨hSa, hk11, hk12, hd9⟩
            refine hK.out _ _ hSa (fun hHeld => ?_)
            clear hK K
            try simp only [Act.put, List.setIfInBounds_toArray, List.set_cons_zero, List.set_cons_succ, List.getElem_toArray, List.getElem_cons_zero, List.getElem_cons_succ]
            clear hSa
            have hf9 := stored4_facts hk12 (.int .i64 (h2 : Int)) (.int .i64 (g2 : Int)) (.int .i64 (u3 : Int)) (.int .i64 (c3 : Int))
            have HS : Hid ((fun W' => Below W4.heap.size W4 W' ∧ Bk W' b11 28 #[.slice A9 n9 c9, .slice A9' n9' c9', .int .i64 x.fuse, .bool x.down] ∧ Bk W' b12 35 #[.int .i64 (h2 : Int), .int .i64 (g2 : Int), .int .i64 (u3 : Int), .int .i64 (c3 : Int)] ∧ DkAt W' W'.heap.size (.agg #[.slice A9 n9 c9, .slice A9' n9' c9', .int .i64 x.fuse, .bool x.down]) x) (stored4 U1 b12 (.int .i64 (h2 : Int)) (.int .i64 (g2 : Int)) (.int .i64 (u3 : Int)) (.int .i64 (c3 : Int)))) := Lib.hid ⟨hf9.2.2.1 _ _ hHeld hl12, hf9.2.2.2 _ _ _ (Ne.symm hne) hk11, hf9.1, hf9.2.1 _ _ hd9⟩
            unfold stored4 at HS
            obtain ⟨⟨p0, p1, p2, p3⟩, q0, q1, q2, q3⟩ := hk12.four
            clear hf9 hk11 hd9
            refine wpAnyH_ready (rs := [14]) (by kernel_rfl) (by simp) (AllReadyH.cons rfl (fun K hK => ?_) AllReadyH.nil)
            rw [if_pos (by rfl)]
            go_wp2_with fail
            refine k_over (fun W' => Below W4.heap.size W4 W' ∧ Bk W' b11 28 #[.slice A9 n9 c9, .slice A9' n9' c9', .int .i64 x.fuse, .bool x.down] ∧ Bk W' b12 35 #[.int .i64 (h2 : Int), .int .i64 (g2 : Int), .int .i64 (u3 : Int), .int .i64 (c3 : Int)] ∧ DkAt W' W'.heap.size (.agg #[.slice A9 n9 c9, .slice A9' n9' c9', .int .i64 x.fuse, .bool x.down]) x) HS.out ?_
            clear HS hk12 p0 p1 p2 p3 q0 q1 q2 q3 hHeld
            rintro U2 ⟨hSa, hk11, hk12, hd9⟩
            refine hK.out _ _ hSa (fun hHeld => ?_)
            clear hK K
            try simp only [Act.put, List.setIfInBounds_toArray, List.set_cons_zero, List.set_cons_succ, List.getElem_toArray, List.getElem_cons_zero, List.getElem_cons_succ]
            clear hSa
            refine wpAnyH_ready (rs := [15]) (by kernel_rfl) (by simp) (AllReadyH.cons rfl (fun K hK => ?_) AllReadyH.nil)
            rw [if_pos (by rfl)]
            go_wp2_with fail
            have hSa := hHeld
            refine hK.out _ _ hSa (fun hHeld => ?_)
            clear hK K
            try simp only [Act.put, List.setIfInBounds_toArray, List.set_cons_zero, List.set_cons_succ, List.getElem_toArray, List.getElem_cons_zero, List.getElem_cons_succ]
            clear hSa
            refine wpAnyH_done (by kernel_rfl) ?_ _
            have hbx : Boxed W4 b11 b12 x h2 g2 u3 c3 U2 := ⟨⟨A9, n9, c9, A9', n9', c9', hk11, hd9⟩, hk12, hHeld⟩
            clear hk11 hk12 hd9 hHeld
            go_wp2_with fail
            go_meet
            exact ⟨b11, b12, rfl, rfl, rfl, hl11, hl12, Ne.symm hne, hbx⟩
          · rw [if_pos (by rfl)]
            go_wp2_with fail
            have hl12 : W4.heap.size ≤ V1.heap.size := hHeld.size
            refine k_over (fun W' => Below V1.heap.size V1 W' ∧ Bk W' V1.heap.size 35 #[.int .i64 0, .int .i64 0, .int .i64 0, .int .i64 0]) ⟨(Below.refl _ _).alloc (Nat.le_refl _) _, Bk.new V1 _ _⟩ ?_
            rintro V4 ⟨hba, hk12⟩
            obtain ⟨b12, hz⟩ : ∃ b, b = V1.heap.size := ⟨_, rfl⟩
            rw [← hz] at hk12 hl12 ⊢
            clear hz
            have hSa := hHeld.trans (hba.mono hHeld.size)
            replace hd9 := hd9.later hba
            clear hba hHeld
            refine hK.out _ _ hSa (fun hHeld => ?_)
            clear hK K
            try simp only [Act.put, List.setIfInBounds_toArray, List.set_cons_zero, List.set_cons_succ, List.getElem_toArray, List.getElem_cons_zero, List.getElem_cons_succ]
            clear hSa
            refine wpAnyH_ready (rs := [11]) (by kernel_rfl) (by simp) (AllReadyH.cons rfl (fun K hK => ?_) AllReadyH.nil)
            rw [if_pos (by rfl)]
            go_wp2_with fail
            have hl11 : W4.heap.size ≤ V4.heap.size := hHeld.size
            have hne : b12 ≠ V4.heap.size := by have := hk12.lt; omega
            refine k_over (fun W' => Below V4.heap.size V4 W' ∧ Bk W' V4.heap.size 28 #[.slice none 0 0, .slice none 0 0, .int .i64 0, .bool false]) ⟨(Below.refl _ _).alloc (Nat.le_refl _) _, Bk.new V4 _ _⟩ ?_
            rintro V5 ⟨hba, hk11⟩
            obtain ⟨b11, hz⟩ : ∃ b, b = V4.heap.size := ⟨_, rfl⟩
            rw [← hz] at hk11 hl11 ⊢
            rw [← hz] at hne
            clear hz
            have hSa := hHeld.trans (hba.mono hHeld.size)
            replace hk12 := hk12.below hba hk12.lt
            replace hd9 := hd9.later hba
            clear hba hHeld
            refine hK.out _ _ hSa (fun hHeld => ?_)
            clear hK K
            try simp only [Act.put, List.setIfInBounds_toArray, List.set_cons_zero, List.set_cons_succ, List.getElem_toArray, List.getElem_cons_zero, List.getElem_cons_succ]
            clear hSa
            have hf8 := stored4_facts hk11 (.slice A9 n9 c9) (.slice A9' n9' c9') (.int .i64 x.fuse) (.bool x.down)
            have HS : Hid ((fun W' => Below W4.heap.size W4 W' ∧ Bk W' b11 28 #[.slice A9 n9 c9, .slice A9' n9' c9', .int .i64 x.fuse, .bool x.down] ∧ Bk W' b12 35 #[.int .i64 0, .int .i64 0, .int .i64 0, .int .i64 0] ∧ DkAt W' W'.heap.size (.agg #[.slice A9 n9 c9, .slice A9' n9' c9', .int .i64 x.fuse, .bool x.down]) x) (stored4 V5 b11 (.slice A9 n9 c9) (.slice A9' n9' c9') (.int .i64 x.fuse) (.bool x.down))) := Lib.hid ⟨hf8.2.2.1 _ _ hHeld hl11, hf8.1, hf8.2.2.2 _ _ _ hne hk12, hf8.2.1 _ _ hd9⟩
            unfold stored4 at HS
            obtain ⟨⟨p0, p1, p2, p3⟩, q0, q1, q2, q3⟩ := hk11.four
            clear hf8 hk12 hd9
            refine wpAnyH_ready (rs := [13]) (by kernel_rfl) (by simp) (AllReadyH.cons rfl (fun K hK => ?_) AllReadyH.nil)
            rw [if_pos (by rfl)]
            go_wp2_with fail
            refine k_over (fun W' => Below W4.heap.size W4 W' ∧ Bk W' b11 28 #[.slice A9 n9 c9, .slice A9' n9' c9', .int .i64 x.fuse, .bool x.down] ∧ Bk W' b12 35 #[.int .i64 0, .int .i64 0, .int .i64 0, .int .i64 0] ∧ DkAt W' W'.heap.size (.agg #[.slice A9 n9 c9, .slice A9' n9' c9', .int .i64 x.fuse, .bool x.down]) x) HS.out ?_
            clear HS hk11 p0 p1 p2 p3 q0 q1 q2 q3 hHeld
            rintro U1 ⟨hSa, hk11, hk12, hd9⟩
            refine hK.out _ _ hSa (fun hHeld => ?_)
            clear hK K
            try simp only [Act.put, List.setIfInBounds_toArray, List.set_cons_zero, List.set_cons_succ, List.getElem_toArray, List.getElem_cons_zero, List.getElem_cons_succ]
            clear hSa
            have hf9 := stored4_facts hk12 (.int .i64 (h2 : Int)) (.int .i64 (g2 : Int)) (.int .i64 (u3 : Int)) (.int .i64 (c3 : Int))
            have HS : Hid ((fun W' => Below W4.heap.size W4 W' ∧ Bk W' b11 28 #[.slice A9 n9 c9, .slice A9' n9' c9', .int .i64 x.fuse, .bool x.down] ∧ Bk W' b12 35 #[.int .i64 (h2 : Int), .int .i64 (g2 : Int), .int .i64 (u3 : Int), .int .i64 (c3 : Int)] ∧ DkAt W' W'.heap.size (.agg #[.slice A9 n9 c9, .slice A9' n9' c9', .int .i64 x.fuse, .bool x.down]) x) (stored4 U1 b12 (.int .i64 (h2 : Int)) (.int .i64 (g2 : Int)) (.int .i64 (u3 : Int)) (.int .i64 (c3 : Int)))) := Lib.hid ⟨hf9.2.2.1 _ _ hHeld hl12, hf9.2.2.2 _ _ _ (Ne.symm hne) hk11, hf9.1, hf9.2.1 _ _ hd9⟩
            unfold stored4 at HS
            obtain ⟨⟨p0, p1, p2, p3⟩, q0, q1, q2, q3⟩ := hk12.four
            clear hf9 hk11 hd9
            refine wpAnyH_ready (rs := [14]) (by kernel_rfl) (by simp) (AllReadyH.cons rfl (fun K hK => ?_) AllReadyH.nil)
            rw [if_pos (by rfl)]
            go_wp2_with fail
            refine k_over (fun W' => Below W4.heap.size W4 W' ∧ Bk W' b11 28 #[.slice A9 n9 c9, .slice A9' n9' c9', .int .i64 x.fuse, .bool x.down] ∧ Bk W' b12 35 #[.int .i64 (h2 : Int), .int .i64 (g2 : Int), .int .i64 (u3 : Int), .int .i64 (c3 : Int)] ∧ DkAt W' W'.heap.size (.agg #[.slice A9 n9 c9, .slice A9' n9' c9', .int .i64 x.fuse, .bool x.down]) x) HS.out ?_
            clear HS hk12 p0 p1 p2 p3 q0 q1 q2 q3 hHeld
            rintro U2 ⟨hSa, hk11, hk12, hd9⟩
            refine hK.out _ _ hSa (fun hHeld => ?_)
            clear hK K
            try simp only [Act.put, List.setIfInBounds_toArray, List.set_cons_zero, List.set_cons_succ, List.getElem_toArray, List.getElem_cons_zero, List.getElem_cons_succ]
            clear hSa
            refine wpAnyH_ready (rs := [15]) (by kernel_rfl) (by simp) (AllReadyH.cons rfl (fun K hK => ?_) AllReadyH.nil)
            rw [if_pos (by rfl)]
            go_wp2_with fail
            have hSa := hHeld
            refine hK.out _ _ hSa (fun hHeld => ?_)
            clear hK K
            try simp only [Act.put, List.setIfInBounds_toArray, List.set_cons_zero, List.set_cons_succ, List.getElem_toArray, List.getElem_cons_zero, List.getElem_cons_succ]
            clear hSa
            refine wpAnyH_done (by kernel_rfl) ?_ _
            have hbx : Boxed W4 b11 b12 x h2 g2 u3 c3 U2 := ⟨⟨A9, n9, c9, A9', n9', c9', hk11, hd9⟩, hk12, hHeld⟩
            clear hk11 hk12 hd9 hHeld
            go_wp2_with fail
            go_meet
            exact ⟨b11, b12, rfl, rfl, rfl, hl11, hl12, Ne.symm hne, hbx⟩
        · rw [if_pos (by rfl)]
          go_wp2_with fail
          have hl11 : W4.heap.size ≤ V0.heap.size := hHeld.size
          refine k_over (fun W' => Below V0.heap.size V0 W' ∧ Bk W' V0.heap.size 28 #[.slice none 0 0, .slice none 0 0, .int .i64 0, .bool false]) ⟨(Below.refl _ _).alloc (Nat.le_refl _) _, Bk.new V0 _ _⟩ ?_
          rintro V6 ⟨hba, hk11⟩
          obtain ⟨b11, hz⟩ : ∃ b, b = V0.heap.size := ⟨_, rfl⟩
          rw [← hz] at hk11 hl11 ⊢
          clear hz
          have hSa := hHeld.trans (hba.mono hHeld.size)
          clear hba hHeld
          refine hK.out _ _ hSa (fun hHeld => ?_)
          clear hK K
          try simp only [Act.put, List.setIfInBounds_toArray, List.set_cons_zero, List.set_cons_succ, List.getElem_toArray, List.getElem_cons_zero, List.getElem_cons_succ]
          clear hSa
          refine wpAnyH_ready (rs := [6, 12]) (by kernel_rfl) (by simp) (AllReadyH.cons rfl (fun K hK => ?_) (AllReadyH.cons rfl (fun K hK => ?_) AllReadyH.nil))
          · rw [if_pos (by rfl)]
            go_wp2_with fail
            refine (hap V6 hHeld).mono ?_
            rintro e V7 ⟨v9, rfl, hd9, hba⟩
            obtain ⟨A9, n9, c9, A9', n9', c9', rfl, hx9⟩ := hd9
            have hd9 : DkAt V7 V7.heap.size (.agg #[.slice A9 n9 c9, .slice A9' n9' c9', .int .i64 x.fuse, .bool x.down]) x := ⟨A9, n9, c9, A9', n9', c9', rfl, hx9⟩
            clear hx9
            unfold logN
            have hSa := hHeld.trans (hba.mono hHeld.size)
            replace hk11 := hk11.below hba hk11.lt
            clear hba hHeld
            refine hK.out _ _ hSa (fun hHeld => ?_)
            clear hK K
            try simp only [Act.put, List.setIfInBounds_toArray, List.set_cons_zero, List.set_cons_succ, List.getElem_toArray, List.getElem_cons_zero, List.getElem_cons_succ]
            clear hSa
            refine wpAnyH_take (i := 7) (v := .tuple #[.agg #[.slice A9 n9 c9, .slice A9' n9' c9', .int .i64 x.fuse, .bool x.down], .agg #[.int .i64 (h2 : Int), .int .i64 (g2 : Int), .int .i64 (u3 : Int), .int .i64 (c3 : Int)], .int .i64 er]) rfl (by kernel_rfl) (by kernel_rfl) (by kernel_rfl) (fun _ _ _ h => h) (Or.inl ⟨by rfl, fun w0 hC => by simp [execOp, Act.eval, Act.put, go_sem]⟩) hHeld ?_
            try simp only [Act.put, List.setIfInBounds_toArray, List.set_cons_zero, List.set_cons_succ, List.getElem_toArray, List.getElem_cons_zero, List.getElem_cons_succ]
            refine wpAnyH_take (i := 8) (v := .agg #[.slice A9 n9 c9, .slice A9' n9' c9', .int .i64 x.fuse, .bool x.down]) rfl (by kernel_rfl) (by kernel_rfl) (by kernel_rfl) (fun _ _ _ h => h) (Or.inl ⟨by rfl, fun w0 hC => by simp [execOp, Act.eval, Act.put, go_sem]⟩) hHeld ?_
            try simp only [Act.put, List.setIfInBounds_toArray, List.set_cons_zero, List.set_cons_succ, List.getElem_toArray, List.getElem_cons_zero, List.getElem_cons_succ]
            refine wpAnyH_take (i := 9) (v := .agg #[.int .i64 (h2 : Int), .int .i64 (g2 : Int), .int .i64 (u3 : Int), .int .i64 (c3 : Int)]) rfl (by kernel_rfl) (by kernel_rfl) (by kernel_rfl) (fun _ _ _ h => h) (Or.inl ⟨by rfl, fun w0 hC => by simp [execOp, Act.eval, Act.put, go_sem]⟩) hHeld ?_
            try simp only [Act.put, List.setIfInBounds_toArray, List.set_cons_zero, List.set_cons_succ, List.getElem_toArray, List.getElem_cons_zero, List.getElem_cons_succ]
            refine wpAnyH_take (i := 10) (v := .int .i64 er) rfl (by kernel_rfl) (by kernel_rfl) (by kernel_rfl) (fun _ _ _ h => h) (Or.inl ⟨by rfl, fun w0 hC => by simp [execOp, Act.eval, Act.put, go_sem]⟩) hHeld ?_
            try simp only [Act.put, List.setIfInBounds_toArray, List.set_cons_zero, List.set_cons_succ, List.getElem_toArray, List.getElem_cons_zero, List.getElem_cons_succ]
            refine wpAnyH_ready (rs := [12]) (by kernel_rfl) (by simp) (AllReadyH.cons rfl (fun K hK => ?_) AllReadyH.nil)
            rw [if_pos (by rfl)]
            go_wp2_with fail
            have hl12 : W4.heap.size ≤ V7.heap.size := hHeld.size
            have hne : V7.heap.size ≠ b11 := by have := hk11.lt; omega
            refine k_over (fun W' => Below V7.heap.size V7 W' ∧ Bk W' V7.heap.size 35 #[.int .i64 0, .int .i64 0, .int .i64 0, .int .i64 0]) ⟨(Below.refl _ _).alloc (Nat.le_refl _) _, Bk.new V7 _ _⟩ ?_
            rintro V8 ⟨hba, hk12⟩
            obtain ⟨b12, hz⟩ : ∃ b, b = V7.heap.size := ⟨_, rfl⟩
            rw [← hz] at hk12 hl12 ⊢
            rw [← hz] at hne
            clear hz
            have hSa := hHeld.trans (hba.mono hHeld.size)
            replace hk11 := hk11.below hba hk11.lt
            replace hd9 := hd9.later hba
            clear hba hHeld
            refine hK.out _ _ hSa (fun hHeld => ?_)
            clear hK K
            try simp only [Act.put, List.setIfInBounds_toArray, List.set_cons_zero, List.set_cons_succ, List.getElem_toArray, List.getElem_cons_zero, List.getElem_cons_succ]
            clear hSa
            have hf8 := stored4_facts hk11 (.slice A9 n9 c9) (.slice A9' n9' c9') (.int .i64 x.fuse) (.bool x.down)
            have HS : Hid ((fun W' => Below W4.heap.size W4 W' ∧ Bk W' b11 28 #[.slice A9 n9 c9, .slice A9' n9' c9', .int .i64 x.fuse, .bool x.down] ∧ Bk W' b12 35 #[.int .i64 0, .int .i64 0, .int .i64 0, .int .i64 0] ∧ DkAt W' W'.heap.size (.agg #[.slice A9 n9 c9, .slice A9' n9' c9', .int .i64 x.fuse, .bool x.down]) x) (stored4 V8 b11 (.slice A9 n9 c9) (.slice A9' n9' c9') (.int .i64 x.fuse) (.bool x.down))) := Lib.hid ⟨hf8.2.2.1 _ _ hHeld hl11, hf8.1, hf8.2.2.2 _ _ _ hne hk12, hf8.2.1 _ _ hd9⟩
            unfold stored4 at HS
            obtain ⟨⟨p0, p1, p2, p3⟩, q0, q1, q2, q3⟩ := hk11.four
            clear hf8 hk12 hd9
            refine wpAnyH_ready (rs := [13]) (by kernel_rfl) (by simp) (AllReadyH.cons rfl (fun K hK => ?_) AllReadyH.nil)
            rw [if_pos (by rfl)]
            go_wp2_with fail
            refine k_over (fun W' => Below W4.heap.size W4 W' ∧ Bk W' b11 28 #[.slice A9 n9 c9, .slice A9' n9' c9', .int .i64 x.fuse, .bool x.down] ∧ Bk W' b12 35 #[.int .i64 0, .int .i64 0, .int .i64 0, .int .i64 0] ∧ DkAt W' W'.heap.size (.agg #[.slice A9 n9 c9, .slice A9' n9' c9', .int .i64 x.fuse, .bool x.down]) x) HS.out ?_
            clear HS hk11 p0 p1 p2 p3 q0 q1 q2 q3 hHeld
            rintro U1 ⟨hSa, hk11, hk12, hd9⟩
            refine hK.out _ _ hSa (fun hHeld => ?_)
            clear hK K
            try simp only [Act.put, List.setIfInBounds_toArray, List.set_cons_zero, List.set_cons_succ, List.getElem_toArray, List.getElem_cons_zero, List.getElem_cons_succ]
            clear hSa
            have hf9 := stored4_facts hk12 (.int .i64 (h2 : Int)) (.int .i64 (g2 : Int)) (.int .i64 (u3 : Int)) (.int .i64 (c3 : Int))
            have HS : Hid ((fun W' => Below W4.heap.size W4 W' ∧ Bk W' b11 28 #[.slice A9 n9 c9, .slice A9' n9' c9', .int .i64 x.fuse, .bool x.down] ∧ Bk W' b12 35 #[.int .i64 (h2 : Int), .int .i64 (g2 : Int), .int .i64 (u3 : Int), .int .i64 (c3 : Int)] ∧ DkAt W' W'.heap.size (.agg #[.slice A9 n9 c9, .slice A9' n9' c9', .int .i64 x.fuse, .bool x.down]) x) (stored4 U1 b12 (.int .i64 (h2 : Int)) (.int .i64 (g2 : Int)) (.int .i64 (u3 : Int)) (.int .i64 (c3 : Int)))) := Lib.hid ⟨hf9.2.2.1 _ _ hHeld hl12, hf9.2.2.2 _ _ _ (Ne.symm hne) hk11, hf9.1, hf9.2.1 _ _ hd9⟩
            unfold stored4 at HS
            obtain ⟨⟨p0, p1, p2, p3⟩, q0, q1, q2, q3⟩ := hk12.four
            clear hf9 hk11 hd9
            refine wpAnyH_ready (rs := [14]) (by kernel_rfl) (by simp) (AllReadyH.cons rfl (fun K hK => ?_) AllReadyH.nil)
            rw [if_pos (by rfl)]
            go_wp2_with fail
            refine k_over (fun W' => Below W4.heap.size W4 W' ∧ Bk W' b11 28 #[.slice A9 n9 c9, .slice A9' n9' c9', .int .i64 x.fuse, .bool x.down] ∧ Bk W' b12 35 #[.int .i64 (h2 : Int), .int .i64 (g2 : Int), .int .i64 (u3 : Int), .int .i64 (c3 : Int)] ∧ DkAt W' W'.heap.size (.agg #[.slice A9 n9 c9, .slice A9' n9' c9', .int .i64 x.fuse, .bool x.down]) x) HS.out ?_
            clear HS hk12 p0 p1 p2 p3 q0 q1 q2 q3 hHeld
            rintro U2 ⟨hSa, hk11, hk12, hd9⟩
            refine hK.out _ _ hSa (fun hHeld => ?_)
            clear hK K
            try simp only [Act.put, List.setIfInBounds_toArray, List.set_cons_zero, List.set_cons_succ, List.getElem_toArray, List.getElem_cons_zero, List.getElem_cons_succ]
            clear hSa
            refine wpAnyH_ready (rs := [15]) (by kernel_rfl) (by simp) (AllReadyH.cons rfl (fun K hK => ?_) AllReadyH.nil)
            rw [if_pos (by rfl)]
            go_wp2_with fail
            have hSa := hHeld
            refine hK.out _ _ hSa (fun hHeld => ?_)
            clear hK K
            try simp only [Act.put, List.setIfInBounds_toArray, List.set_cons_zero, List.set_cons_succ, List.getElem_toArray, List.getElem_cons_zero, List.getElem_cons_succ]
            clear hSa
            refine wpAnyH_done (by kernel_rfl) ?_ _
            have hbx : Boxed W4 b11 b12 x h2 g2 u3 c3 U2 := ⟨⟨A9, n9, c9, A9', n9', c9', hk11, hd9⟩, hk12, hHeld⟩
            clear hk11 hk12 hd9 hHeld
            go_wp2_with fail
            go_meet
            exact ⟨b11, b12, rfl, rfl, rfl, hl11, hl12, Ne.symm hne, hbx⟩
          · rw [if_pos (by rfl)]
            go_wp2_with fail
            have hl12 : W4.heap.size ≤ V6.heap.size := hHeld.size
            have hne : V6.heap.size ≠ b11 := by have := hk11.lt; omega
            refine k_over (fun W' => Below V6.heap.size V6 W' ∧ Bk W' V6.heap.size 35 #[.int .i64 0, .int .i64 0, .int .i64 0, .int .i64 0]) ⟨(Below.refl _ _).alloc (Nat.le_refl _) _, Bk.new V6 _ _⟩ ?_
            rintro V9 ⟨hba, hk12⟩
            obtain ⟨b12, hz⟩ : ∃ b, b = V6.heap.size := ⟨_, rfl⟩
            rw [← hz] at hk12 hl12 ⊢
            rw [← hz] at hne
            clear hz
            have hSa := hHeld.trans (hba.mono hHeld.size)
            replace hk11 := hk11.below hba hk11.lt
            clear hba hHeld
            refine hK.out _ _ hSa (fun hHeld => ?_)
            clear hK K
            try simp only [Act.put, List.setIfInBounds_toArray, List.set_cons_zero, List.set_cons_succ, List.getElem_toArray, List.getElem_cons_zero, List.getElem_cons_succ]
            clear hSa
            refine wpAnyH_ready (rs := [6]) (by kernel_rfl) (by simp) (AllReadyH.cons rfl (fun K hK => ?_) AllReadyH.nil)
            rw [if_pos (by rfl)]
            go_wp2_with fail
            refine (hap V9 hHeld).mono ?_
            rintro e V10 ⟨v9, rfl, hd9, hba⟩
            obtain ⟨A9, n9, c9, A9', n9', c9', rfl, hx9⟩ := hd9
            have hd9 : DkAt V10 V10.heap.size (.agg #[.slice A9 n9 c9, .slice A9' n9' c9', .int .i64 x.fuse, .bool x.down]) x := ⟨A9, n9, c9, A9', n9', c9', rfl, hx9⟩
            clear hx9
            unfold logN
            have hSa := hHeld.trans (hba.mono hHeld.size)
            replace hk11 := hk11.below hba hk11.lt
            replace hk12 := hk12.below hba hk12.lt
            clear hba hHeld
            refine hK.out _ _ hSa (fun hHeld => ?_)
            clear hK K
            try simp only [Act.put, List.setIfInBounds_toArray, List.set_cons_zero, List.set_cons_succ, List.getElem_toArray, List.getElem_cons_zero, List.getElem_cons_succ]
            clear hSa
            refine wpAnyH_take (i := 7) (v := .tuple #[.agg #[.slice A9 n9 c9, .slice A9' n9' c9', .int .i64 x.fuse, .bool x.down], .agg #[.int .i64 (h2 : Int), .int .i64 (g2 : Int), .int .i64 (u3 : Int), .int .i64 (c3 : Int)], .int .i64 er]) rfl (by kernel_rfl) (by kernel_rfl) (by kernel_rfl) (fun _ _ _ h => h) (Or.inl ⟨by rfl, fun w0 hC => by simp [execOp, Act.eval, Act.put, go_sem]⟩) hHeld ?_
            try simp only [Act.put, List.setIfInBounds_toArray, List.set_cons_zero, List.set_cons_succ, List.getElem_toArray, List.getElem_cons_zero, List.getElem_cons_succ]
            refine wpAnyH_take (i := 8) (v := .agg #[.slice A9 n9 c9, .slice A9' n9' c9', .int .i64 x.fuse, .bool x.down]) rfl (by kernel_rfl) (by kernel_rfl) (by kernel_rfl) (fun _ _ _ h => h) (Or.inl ⟨by rfl, fun w0 hC => by simp [execOp, Act.eval, Act.put, go_sem]⟩) hHeld ?_
            try simp only [Act.put, List.setIfInBounds_toArray, List.set_cons_zero, List.set_cons_succ, List.getElem_toArray, List.getElem_cons_zero, List.getElem_cons_succ]
            refine wpAnyH_take (i := 9) (v := .agg #[.int .i64 (h2 : Int), .int .i64 (g2 : Int), .int .i64 (u3 : Int), .int .i64 (c3 : Int)]) rfl (by kernel_rfl) (by kernel_rfl) (by kernel_rfl) (fun _ _ _ h => h) (Or.inl ⟨by rfl, fun w0 hC => by simp [execOp, Act.eval, Act.put, go_sem]⟩) hHeld ?_
            try simp only [Act.put, List.setIfInBounds_toArray, List.set_cons_zero, List.set_cons_succ, List.getElem_toArray, List.getElem_cons_zero, List.getElem_cons_succ]
            refine wpAnyH_take (i := 10) (v := .int .i64 er) rfl (by kernel_rfl) (by kernel_rfl) (by kernel_rfl) (fun _ _ _ h => h) (Or.inl ⟨by rfl, fun w0 hC => by simp [execOp, Act.eval, Act.put, go_sem]⟩) hHeld ?_
            try simp only [Act.put, List.setIfInBounds_toArray, List.set_cons_zero, List.set_cons_succ, List.getElem_toArray, List.getElem_cons_zero, List.getElem_cons_succ]
            have hf8 := stored4_facts hk11 (.slice A9 n9 c9) (.slice A9' n9' c9') (.int .i64 x.fuse) (.bool x.down)
            have HS : Hid ((fun W' => Below W4.heap.size W4 W' ∧ Bk W' b11 28 #[.slice A9 n9 c9, .slice A9' n9' c9', .int .i64 x.fuse, .bool x.down] ∧ Bk W' b12 35 #[.int .i64 0, .int .i64 0, .int .i64 0, .int .i64 0] ∧ DkAt W' W'.heap.size (.agg #[.slice A9 n9 c9, .slice A9' n9' c9', .int .i64 x.fuse, .bool x.down]) x) (stored4 V10 b11 (.slice A9 n9 c9) (.slice A9' n9' c9') (.int .i64 x.fuse) (.bool x.down))) := Lib.hid ⟨hf8.2.2.1 _ _ hHeld hl11, hf8.1, hf8.2.2.2 _ _ _ hne hk12, hf8.2.1 _ _ hd9⟩
            unfold stored4 at HS
            obtain ⟨⟨p0, p1, p2, p3⟩, q0, q1, q2, q3⟩ := hk11.four
            clear hf8 hk12 hd9
            refine wpAnyH_ready (rs := [13]) (by kernel_rfl) (by simp) (AllReadyH.cons rfl (fun K hK => ?_) AllReadyH.nil)
            rw [if_pos (by rfl)]
            go_wp2_with fail
            refine k_over (fun W' => Below W4.heap.size W4 W' ∧ Bk W' b11 28 #[.slice A9 n9 c9, .slice A9' n9' c9', .int .i64 x.fuse, .bool x.down] ∧ Bk W' b12 35 #[.int .i64 0, .int .i64 0, .int .i64 0, .int .i64 0] ∧ DkAt W' W'.heap.size (.agg #[.slice A9 n9 c9, .slice A9' n9' c9', .int .i64 x.fuse, .bool x.down]) x) HS.out ?_
            clear HS hk11 p0 p1 p2 p3 q0 q1 q2 q3 hHeld
            rintro U1 ⟨hSa, hk11, hk12, hd9⟩
            refine hK.out _ _ hSa (fun hHeld => ?_)
            clear hK K
            try simp only [Act.put, List.setIfInBounds_toArray, List.set_cons_zero, List.set_cons_succ, List.getElem_toArray, List.getElem_cons_zero, List.getElem_cons_succ]
            clear hSa
            have hf9 := stored4_facts hk12 (.int .i64 (h2 : Int)) (.int .i64 (g2 : Int)) (.int .i64 (u3 : Int)) (.int .i64 (c3 : Int))
            have HS : Hid ((fun W' => Below W4.heap.size W4 W' ∧ Bk W' b11 28 #[.slice A9 n9 c9, .slice A9' n9' c9', .int .i64 x.fuse, .bool x.down] ∧ Bk W' b12 35 #[.int .i64 (h2 : Int), .int .i64 (g2 : Int), .int .i64 (u3 : Int), .int .i64 (c3 : Int)] ∧ DkAt W' W'.heap.size (.agg #[.slice A9 n9 c9, .slice A9' n9' c9', .int .i64 x.fuse, .bool x.down]) x) (stored4 U1 b12 (.int .i64 (h2 : Int)) (.int .i64 (g2 : Int)) (.int .i64 (u3 : Int)) (.int .i64 (c3 : Int)))) := Lib.hid ⟨hf9.2.2.1 _ _ hHeld hl12, hf9.2.2.2 _ _ _ (Ne.symm hne) hk11, hf9.1, hf9.2.1 _ _ hd9⟩
            unfold stored4 at HS
            obtain ⟨⟨p0, p1, p2, p3⟩, q0, q1, q2, q3⟩ := hk12.four
            clear hf9 hk11 hd9
            refine wpAnyH_ready (rs := [14]) (by kernel_rfl) (by simp) (AllReadyH.cons rfl (fun K hK => ?_) AllReadyH.nil)
            rw [if_pos (by rfl)]
            go_wp2_with fail
            refine k_over (fun W' => Below W4.heap.size W4 W' ∧ Bk W' b11 28 #[.slice A9 n9 c9, .slice A9' n9' c9', .int .i64 x.fuse, .bool x.down] ∧ Bk W' b12 35 #[.int .i64 (h2 : Int), .int .i64 (g2 : Int), .int .i64 (u3 : Int), .int .i64 (c3 : Int)] ∧ DkAt W' W'.heap.size (.agg #[.slice A9 n9 c9, .slice A9' n9' c9', .int .i64 x.fuse, .bool x.down]) x) HS.out ?_
            clear HS hk12 p0 p1 p2 p3 q0 q1 q2 q3 hHeld
            rintro U2 ⟨hSa, hk11, hk12, hd9⟩
            refine hK.out _ _ hSa (fun hHeld => ?_)
            clear hK K
            try simp only [Act.put, List.setIfInBounds_toArray, List.set_cons_zero, List.set_cons_succ, List.getElem_toArray, List.getElem_cons_zero, List.getElem_cons_succ]
            clear hSa
            refine wpAnyH_ready (rs := [15]) (by kernel_rfl) (by simp) (AllReadyH.cons rfl (fun K hK => ?_) AllReadyH.nil)
            rw [if_pos (by rfl)]
            go_wp2_with fail
            have hSa := hHeld
            refine hK.out _ _ hSa (fun hHeld => ?_)
            clear hK K
            try simp only [Act.put, List.setIfInBounds_toArray, List.set_cons_zero, List.set_cons_succ, List.getElem_toArray, List.getElem_cons_zero, List.getElem_cons_succ]
            clear hSa
            refine wpAnyH_done (by kernel_rfl) ?_ _
            have hbx : Boxed W4 b11 b12 x h2 g2 u3 c3 U2 := ⟨⟨A9, n9, c9, A9', n9', c9', hk11, hd9⟩, hk12, hHeld⟩
            clear hk11 hk12 hd9 hHeld
            go_wp2_with fail
            go_meet
            exact ⟨b11, b12, rfl, rfl, rfl, hl11, hl12, Ne.symm hne, hbx⟩
        · rw [if_pos (by rfl)]
          go_wp2_with fail
          have hl12 : W4.heap.size ≤ V0.heap.size := hHeld.size
          refine k_over (fun W' => Below V0.heap.size V0 W' ∧ Bk W' V0.heap.size 35 #[.int .i64 0, .int .i64 0, .int .i64 0, .int .i64 0]) ⟨(Below.refl _ _).alloc (Nat.le_refl _) _, Bk.new V0 _ _⟩ ?_
          rintro V11 ⟨hba, hk12⟩
          obtain ⟨b12, hz⟩ : ∃ b, b = V0.heap.size := ⟨_, rfl⟩
          rw [← hz] at hk12 hl12 ⊢
          clear hz
          have hSa := hHeld.trans (hba.mono hHeld.size)
          clear hba hHeld
          refine hK.out _ _ hSa (fun hHeld => ?_)
          clear hK K
          try simp only [Act.put, List.setIfInBounds_toArray, List.set_cons_zero, List.set_cons_succ, List.getElem_toArray, List.getElem_cons_zero, List.getElem_cons_succ]
          clear hSa
          refine wpAnyH_ready (rs := [6, 11]) (by kernel_rfl) (by simp) (AllReadyH.cons rfl (fun K hK => ?_) (AllReadyH.cons rfl (fun K hK => ?_) AllReadyH.nil))
          · rw [if_pos (by rfl)]
            go_wp2_with fail
            refine (hap V11 hHeld).mono ?_
            rintro e V12 ⟨v9, rfl, hd9, hba⟩
            obtain ⟨A9, n9, c9, A9', n9', c9', rfl, hx9⟩ := hd9
            have hd9 : DkAt V12 V12.heap.size (.agg #[.slice A9 n9 c9, .slice A9' n9' c9', .int .i64 x.fuse, .bool x.down]) x := ⟨A9, n9, c9, A9', n9', c9', rfl, hx9⟩
            clear hx9
            unfold logN
            have hSa := hHeld.trans (hba.mono hHeld.size)
            replace hk12 := hk12.below hba hk12.lt
            clear hba hHeld
            refine hK.out _ _ hSa (fun hHeld => ?_)
            clear hK K
            try simp only [Act.put, List.setIfInBounds_toArray, List.set_cons_zero, List.set_cons_succ, List.getElem_toArray, List.getElem_cons_zero, List.getElem_cons_succ]
            clear hSa
            refine wpAnyH_take (i := 7) (v := .tuple #[.agg #[.slice A9 n9 c9, .slice A9' n9' c9', .int .i64 x.fuse, .bool x.down], .agg #[.int .i64 (h2 : Int), .int .i64 (g2 : Int), .int .i64 (u3 : Int), .int .i64 (c3 : Int)], .int .i64 er]) rfl (by kernel_rfl) (by kernel_rfl) (by kernel_rfl) (fun _ _ _ h => h) (Or.inl ⟨by rfl, fun w0 hC => by simp [execOp, Act.eval, Act.put, go_sem]⟩) hHeld ?_
            try simp only [Act.put, List.setIfInBounds_toArray, List.set_cons_zero, List.set_cons_succ, List.getElem_toArray, List.getElem_cons_zero, List.getElem_cons_succ]
            refine wpAnyH_take (i := 8) (v := .agg #[.slice A9 n9 c9, .slice A9' n9' c9', .int .i64 x.fuse, .bool x.down]) rfl (by kernel_rfl) (by kernel_rfl) (by kernel_rfl) (fun _ _ _ h => h) (Or.inl ⟨by rfl, fun w0 hC => by simp [execOp, Act.eval, Act.put, go_sem]⟩) hHeld ?_
            try simp only [Act.put, List.setIfInBounds_toArray, List.set_cons_zero, List.set_cons_succ, List.getElem_toArray, List.getElem_cons_zero, List.getElem_cons_succ]
            refine wpAnyH_take (i := 9) (v := .agg #[.int .i64 (h2 : Int), .int .i64 (g2 : Int), .int .i64 (u3 : Int), .int .i64 (c3 : Int)]) rfl (by kernel_rfl) (by kernel_rfl) (by kernel_rfl) (fun _ _ _ h => h) (Or.inl ⟨by rfl, fun w0 hC => by simp [execOp, Act.eval, Act.put, go_sem]⟩) hHeld ?_
            try simp only [Act.put, List.setIfInBounds_toArray, List.set_cons_zero, List.set_cons_succ, List.getElem_toArray, List.getElem_cons_zero, List.getElem_cons_succ]
            refine wpAnyH_take (i := 10) (v := .int .i64 er) rfl (by kernel_rfl) (by kernel_rfl) (by kernel_rfl) (fun _ _ _ h => h) (Or.inl ⟨by rfl, fun w0 hC => by simp [execOp, Act.eval, Act.put, go_sem]⟩) hHeld ?_
            try simp only [Act.put, List.setIfInBounds_toArray, List.set_cons_zero, List.set_cons_succ, List.getElem_toArray, List.getElem_cons_zero, List.getElem_cons_succ]
            refine wpAnyH_ready (rs := [11]) (by kernel_rfl) (by simp) (AllReadyH.cons rfl (fun K hK => ?_) AllReadyH.nil)
            rw [if_pos (by rfl)]
            go_wp2_with fail
            have hl11 : W4.heap.size ≤ V12.heap.size := hHeld.size
            have hne : b12 ≠ V12.heap.size := by have := hk12.lt; omega
            refine k_over (fun W' => Below V12.heap.size V12 W' ∧ Bk W' V12.heap.size 28 #[.slice none 0 0, .slice none 0 0, .int .i64 0, .bool false]) ⟨(Below.refl _ _).alloc (Nat.le_refl _) _, Bk.new V12 _ _⟩ ?_
            rintro V13 ⟨hba, hk11⟩
            obtain ⟨b11, hz⟩ : ∃ b, b = V12.heap.size := ⟨_, rfl⟩
            rw [← hz] at hk11 hl11 ⊢
            rw [← hz] at hne
            clear hz
            have hSa := hHeld.trans (hba.mono hHeld.size)
            replace hk12 := hk12.below hba hk12.lt
            replace hd9 := hd9.later hba
            clear hba hHeld
            refine hK.out _ _ hSa (fun hHeld => ?_)
            clear hK K
            try simp only [Act.put, List.setIfInBounds_toArray, List.set_cons_zero, List.set_cons_succ, List.getElem_toArray, List.getElem_cons_zero, List.getElem_cons_succ]
            clear hSa
            have hf8 := stored4_facts hk11 (.slice A9 n9 c9) (.slice A9' n9' c9') (.int .i64 x.fuse) (.bool x.down)
            have HS : Hid ((fun W' => Below W4.heap.size W4 W' ∧ Bk W' b11 28 #[.slice A9 n9 c9, .slice A9' n9' c9', .int .i64 x.fuse, .bool x.down] ∧ Bk W' b12 35 #[.int .i64 0, .int .i64 0, .int .i64 0, .int .i64 0] ∧ DkAt W' W'.heap.size (.agg #[.slice A9 n9 c9, .slice A9' n9' c9', .int .i64 x.fuse, .bool x.down]) x) (stored4 V13 b11 (.slice A9 n9 c9) (.slice A9' n9' c9') (.int .i64 x.fuse) (.bool x.down))) := Lib.hid ⟨hf8.2.2.1 _ _ hHeld hl11, hf8.1, hf8.2.2.2 _ _ _ hne hk12, hf8.2.1 _ _ hd9⟩
            unfold stored4 at HS
            obtain ⟨⟨p0, p1, p2, p3⟩, q0, q1, q2, q3⟩ := hk11.four
            clear hf8 hk12 hd9
            refine wpAnyH_ready (rs := [13]) (by kernel_rfl) (by simp) (AllReadyH.cons rfl (fun K hK => ?_) AllReadyH.nil)
            rw [if_pos (by rfl)]
            go_wp2_with fail
            refine k_over (fun W' => Below W4.heap.size W4 W' ∧ Bk W' b11 28 #[.slice A9 n9 c9, .slice A9' n9' c9', .int .i64 x.fuse, .bool x.down] ∧ Bk W' b12 35 #[.int .i64 0, .int .i64 0, .int .i64 0, .int .i64 0] ∧ DkAt W' W'.heap.size (.agg #[.slice A9 n9 c9, .slice A9' n9' c9', .int .i64 x.fuse, .bool x.down]) x) HS.out ?_
            clear HS hk11 p0 p1 p2 p3 q0 q1 q2 q3 hHeld
            rintro U1 ⟨hSa, hk11, hk12, hd9⟩
            refine hK.out _ _ hSa (fun hHeld => ?_)
            clear hK K
            try simp only [Act.put, List.setIfInBounds_toArray, List.set_cons_zero, List.set_cons_succ, List.getElem_toArray, List.getElem_cons_zero, List.getElem_cons_succ]
            clear hSa
            have hf9 := stored4_facts hk12 (.int .i64 (h2 : Int)) (.int .i64 (g2 : Int)) (.int .i64 (u3 : Int)) (.int .i64 (c3 : Int))
            have HS : Hid ((fun W' => Below W4.heap.size W4 W' ∧ Bk W' b11 28 #[.slice A9 n9 c9, .slice A9' n9' c9', .int .i64 x.fuse, .bool x.down] ∧ Bk W' b12 35 #[.int .i64 (h2 : Int), .int .i64 (g2 : Int), .int .i64 (u3 : Int), .int .i64 (c3 : Int)] ∧ DkAt W' W'.heap.size (.agg #[.slice A9 n9 c9, .slice A9' n9' c9', .int .i64 x.fuse, .bool x.down]) x) (stored4 U1 b12 (.int .i64 (h2 : Int)) (.int .i64 (g2 : Int)) (.int .i64 (u3 : Int)) (.int .i64 (c3 : Int)))) := Lib.hid ⟨hf9.2.2.1 _ _ hHeld hl12, hf9.2.2.2 _ _ _ (Ne.symm hne) hk11, hf9.1, hf9.2.1 _ _ hd9⟩
            unfold stored4 at HS
            obtain ⟨⟨p0, p1, p2, p3⟩, q0, q1, q2, q3⟩ := hk12.four
            clear hf9 hk11 hd9
            refine wpAnyH_ready (rs := [14]) (by kernel_rfl) (by simp) (AllReadyH.cons rfl (fun K hK => ?_) AllReadyH.nil)
            rw [if_pos (by rfl)]
            go_wp2_with fail
            refine k_over (fun W' => Below W4.heap.size W4 W' ∧ Bk W' b11 28 #[.slice A9 n9 c9, .slice A9' n9' c9', .int .i64 x.fuse, .bool x.down] ∧ Bk W' b12 35 #[.int .i64 (h2 : Int), .int .i64 (g2 : Int), .int .i64 (u3 : Int), .int .i64 (c3 : Int)] ∧ DkAt W' W'.heap.size (.agg #[.slice A9 n9 c9, .slice A9' n9' c9', .int .i64 x.fuse, .bool x.down]) x) HS.out ?_
            clear HS hk12 p0 p1 p2 p3 q0 q1 q2 q3 hHeld
            rintro U2 ⟨hSa, hk11, hk12, hd9⟩
            refine hK.out _ _ hSa (fun hHeld => ?_)
            clear hK K
            try simp only [Act.put, List.setIfInBounds_toArray, List.set_cons_zero, List.set_cons_succ, List.getElem_toArray, List.getElem_cons_zero, List.getElem_cons_succ]
            clear hSa
            refine wpAnyH_ready (rs := [15]) (by kernel_rfl) (by simp) (AllReadyH.cons rfl (fun K hK => ?_) AllReadyH.nil)
            rw [if_pos (by rfl)]
            go_wp2_with fail
            have hSa := hHeld
            refine hK.out _ _ hSa (fun hHeld => ?_)
            clear hK K
            try simp only [Act.put, List.setIfInBounds_toArray, List.set_cons_zero, List.set_cons_succ, List.getElem_toArray, List.getElem_cons_zero, List.getElem_cons_succ]
            clear hSa
            refine wpAnyH_done (by kernel_rfl) ?_ _
            have hbx : Boxed W4 b11 b12 x h2 g2 u3 c3 U2 := ⟨⟨A9, n9, c9, A9', n9', c9', hk11, hd9⟩, hk12, hHeld⟩
            clear hk11 hk12 hd9 hHeld
            go_wp2_with fail
            go_meet
            exact ⟨b11, b12, rfl, rfl, rfl, hl11, hl12, Ne.symm hne, hbx⟩
          · rw [if_pos (by rfl)]
            go_wp2_with fail
            have hl11 : W4.heap.size ≤ V11.heap.size := hHeld.size
            have hne : b12 ≠ V11.heap.size := by have := hk12.lt; omega
            refine k_over (fun W' => Below V11.heap.size V11 W' ∧ Bk W' V11.heap.size 28 #[.slice none 0 0, .slice none 0 0, .int .i64 0, .bool false]) ⟨(Below.refl _ _).alloc (Nat.le_refl _) _, Bk.new V11 _ _⟩ ?_
            rintro V14 ⟨hba, hk11⟩
            obtain ⟨b11, hz⟩ : ∃ b, b = V11.heap.size := ⟨_, rfl⟩
            rw [← hz] at hk11 hl11 ⊢
            rw [← hz] at hne
            clear hz
            have hSa := hHeld.trans (hba.mono hHeld.size)
            replace hk12 := hk12.below hba hk12.lt
            clear hba hHeld
            refine hK.out _ _ hSa (fun hHeld => ?_)
            clear hK K
            try simp only [Act.put, List.setIfInBounds_toArray, List.set_cons_zero, List.set_cons_succ, List.getElem_toArray, List.getElem_cons_zero, List.getElem_cons_succ]
            clear hSa
            refine wpAnyH_ready (rs := [6]) (by kernel_rfl) (by simp) (AllReadyH.cons rfl (fun K hK => ?_) AllReadyH.nil)
            rw [if_pos (by rfl)]
            go_wp2_with fail
            refine (hap V14 hHeld).mono ?_
            rintro e V15 ⟨v9, rfl, hd9, hba⟩
            obtain ⟨A9, n9, c9, A9', n9', c9', rfl, hx9⟩ := hd9
            have hd9 : DkAt V15 V15.heap.size (.agg #[.slice A9 n9 c9, .slice A9' n9' c9', .int .i64 x.fuse, .bool x.down]) x := ⟨A9, n9, c9, A9', n9', c9', rfl, hx9⟩
            clear hx9
            unfold logN
            have hSa := hHeld.trans (hba.mono hHeld.size)
            replace hk11 := hk11.below hba hk11.lt
            replace hk12 := hk12.below hba hk12.lt
            clear hba hHeld
            refine hK.out _ _ hSa (fun hHeld => ?_)
            clear hK K
            try simp only [Act.put, List.setIfInBounds_toArray, List.set_cons_zero, List.set_cons_succ, List.getElem_toArray, List.getElem_cons_zero, List.getElem_cons_succ]
            clear hSa
            refine wpAnyH_take (i := 7) (v := .tuple #[.agg #[.slice A9 n9 c9, .slice A9' n9' c9', .int .i64 x.fuse, .bool x.down], .agg #[.int .i64 (h2 : Int), .int .i64 (g2 : Int), .int .i64 (u3 : Int), .int .i64 (c3 : Int)], .int .i64 er]) rfl (by kernel_rfl) (by kernel_rfl) (by kernel_rfl) (fun _ _ _ h => h) (Or.inl ⟨by rfl, fun w0 hC => by simp [execOp, Act.eval, Act.put, go_sem]⟩) hHeld ?_
            try simp only [Act.put, List.setIfInBounds_toArray, List.set_cons_zero, List.set_cons_succ, List.getElem_toArray, List.getElem_cons_zero, List.getElem_cons_succ]
            refine wpAnyH_take (i := 8) (v := .agg #[.slice A9 n9 c9, .slice A9' n9' c9', .int .i64 x.fuse, .bool x.down]) rfl (by kernel_rfl) (by kernel_rfl) (by kernel_rfl) (fun _ _ _ h => h) (Or.inl ⟨by rfl, fun w0 hC => by simp [execOp, Act.eval, Act.put, go_sem]⟩) hHeld ?_
            try simp only [Act.put, List.setIfInBounds_toArray, List.set_cons_zero, List.set_cons_succ, List.getElem_toArray, List.getElem_cons_zero, List.getElem_cons_succ]
            refine wpAnyH_take (i := 9) (v := .agg #[.int .i64 (h2 : Int), .int .i64 (g2 : Int), .int .i64 (u3 : Int), .int .i64 (c3 : Int)]) rfl (by kernel_rfl) (by kernel_rfl) (by kernel_rfl) (fun _ _ _ h => h) (Or.inl ⟨by rfl, fun w0 hC => by simp [execOp, Act.eval, Act.put, go_sem]⟩) hHeld ?_
            try simp only [Act.put, List.setIfInBounds_toArray, List.set_cons_zero, List.set_cons_succ, List.getElem_toArray, List.getElem_cons_zero, List.getElem_cons_succ]
            refine wpAnyH_take (i := 10) (v := .int .i64 er) rfl (by kernel_rfl) (by kernel_rfl) (by kernel_rfl) (fun _ _ _ h => h) (Or.inl ⟨by rfl, fun w0 hC => by simp [execOp, Act.eval, Act.put, go_sem]⟩) hHeld ?_
            try simp only [Act.put, List.setIfInBounds_toArray, List.set_cons_zero, List.set_cons_succ, List.getElem_toArray, List.getElem_cons_zero, List.getElem_cons_succ]
            have hf8 := stored4_facts hk11 (.slice A9 n9 c9) (.slice A9' n9' c9') (.int .i64 x.fuse) (.bool x.down)
            have HS : Hid ((fun W' => Below W4.heap.size W4 W' ∧ Bk W' b11 28 #[.slice A9 n9 c9, .slice A9' n9' c9', .int .i64 x.fuse, .bool x.down] ∧ Bk W' b12 35 #[.int .i64 0, .int .i64 0, .int .i64 0, .int .i64 0] ∧ DkAt W' W'.heap.size (.agg #[.slice A9 n9 c9, .slice A9' n9' c9', .int .i64 x.fuse, .bool x.down]) x) (stored4 V15 b11 (.slice A9 n9 c9) (.slice A9' n9' c9') (.int .i64 x.fuse) (.bool x.down))) := Lib.hid ⟨hf8.2.2.1 _ _ hHeld hl11, hf8.1, hf8.2.2.2 _ _ _ hne hk12, hf8.2.1 _ _ hd9⟩
            unfold stored4 at HS
            obtain ⟨⟨p0, p1, p2, p3⟩, q0, q1, q2, q3⟩ := hk11.four
            clear hf8 hk12 hd9
            refine wpAnyH_ready (rs := [13]) (by kernel_rfl) (by simp) (AllReadyH.cons rfl (fun K hK => ?_) AllReadyH.nil)
            rw [if_pos (by rfl)]
            go_wp2_with fail
            refine k_over (fun W' => Below W4.heap.size W4 W' ∧ Bk W' b11 28 #[.slice A9 n9 c9, .slice A9' n9' c9', .int .i64 x.fuse, .bool x.down] ∧ Bk W' b12 35 #[.int .i64 0, .int .i64 0, .int .i64 0, .int .i64 0] ∧ DkAt W' W'.heap.size (.agg #[.slice A9 n9 c9, .slice A9' n9' c9', .int .i64 x.fuse, .bool x.down]) x) HS.out ?_
            clear HS hk11 p0 p1 p2 p3 q0 q1 q2 q3 hHeld
            rintro U1 ⟨hSa, hk11, hk12, hd9⟩
            refine hK.out _ _ hSa (fun hHeld => ?_)
            clear hK K
            try simp only [Act.put, List.setIfInBounds_toArray, List.set_cons_zero, List.set_cons_succ, List.getElem_toArray, List.getElem_cons_zero, List.getElem_cons_succ]
            clear hSa
            have hf9 := stored4_facts hk12 (.int .i64 (h2 : Int)) (.int .i64 (g2 : Int)) (.int .i64 (u3 : Int)) (.int .i64 (c3 : Int))
            have HS : Hid ((fun W' => Below W4.heap.size W4 W' ∧ Bk W' b11 28 #[.slice A9 n9 c9, .slice A9' n9' c9', .int .i64 x.fuse, .bool x.down] ∧ Bk W' b12 35 #[.int .i64 (h2 : Int), .int .i64 (g2 : Int), .int .i64 (u3 : Int), .int .i64 (c3 : Int)] ∧ DkAt W' W'.heap.size (.agg #[.slice A9 n9 c9, .slice A9' n9' c9', .int .i64 x.fuse, .bool x.down]) x) (stored4 U1 b12 (.int .i64 (h2 : Int)) (.int .i64 (g2 : Int)) (.int .i64 (u3 : Int)) (.int .i64 (c3 : Int)))) := Lib.hid ⟨hf9.2.2.1 _ _ hHeld hl12, hf9.2.2.2 _ _ _ (Ne.symm hne) hk11, hf9.1, hf9.2.1 _ _ hd9⟩
            unfold stored4 at HS
            obtain ⟨⟨p0, p1, p2, p3⟩, q0, q1, q2, q3⟩ := hk12.four
            clear hf9 hk11 hd9
            refine wpAnyH_ready (rs := [14]) (by kernel_rfl) (by simp) (AllReadyH.cons rfl (fun K hK => ?_) AllReadyH.nil)
            rw [if_pos (by rfl)]
            go_wp2_with fail
            refine k_over (fun W' => Below W4.heap.size W4 W' ∧ Bk W' b11 28 #[.slice A9 n9 c9, .slice A9' n9' c9', .int .i64 x.fuse, .bool x.down] ∧ Bk W' b12 35 #[.int .i64 (h2 : Int), .int .i64 (g2 : Int), .int .i64 (u3 : Int), .int .i64 (c3 : Int)] ∧ DkAt W' W'.heap.size (.agg #[.slice A9 n9 c9, .slice A9' n9' c9', .int .i64 x.fuse, .bool x.down]) x) HS.out ?_
            clear HS hk12 p0 p1 p2 p3 q0 q1 q2 q3 hHeld
            rintro U2 ⟨hSa, hk11, hk12, hd9⟩
            refine hK.out _ _ hSa (fun hHeld => ?_)
            clear hK K
            try simp only [Act.put, List.setIfInBounds_toArray, List.set_cons_zero, List.set_cons_succ, List.getElem_toArray, List.getElem_cons_zero, List.getElem_cons_succ]
            clear hSa
            refine wpAnyH_ready (rs := [15]) (by kernel_rfl) (by simp) (AllReadyH.cons rfl (fun K hK => ?_) AllReadyH.nil)
            rw [if_pos (by rfl)]
            go_wp2_with fail
            have hSa := hHeld
            refine hK.out _ _ hSa (fun hHeld => ?_)
            clear hK K
            try simp only [Act.put, List.setIfInBounds_toArray, List.set_cons_zero, List.set_cons_succ, List.getElem_toArray, List.getElem_cons_zero, List.getElem_cons_succ]
            clear hSa
            refine wpAnyH_done (by kernel_rfl) ?_ _
            have hbx : Boxed W4 b11 b12 x h2 g2 u3 c3 U2 := ⟨⟨A9, n9, c9, A9', n9', c9', hk11, hd9⟩, hk12, hHeld⟩
            clear hk11 hk12 hd9 hHeld
            go_wp2_with fail
            go_meet
            exact ⟨b11, b12, rfl, rfl, rfl, hl11, hl12, Ne.symm hne, hbx⟩
      case rest =>
        obtain ⟨b12, b13, rfl, rfl, rfl, hl12, hl13, hne12, hbx⟩ := hcut
        obtain ⟨⟨Ae, ne, ce, Ae', ne', ce', j1, jd⟩, j3, jb⟩ := hbx
        have k1 := K1.out.below jb K1.out.lt
        have k3 := K3.out.below jb K3.out.lt
        have kd := KD.out.later jb
        have kb := KB.out.trans (jb.mono KB.out.size)
        have hrw := HRW.out.later jb
        have hb1W : b1 < W4.heap.size := K1.out.lt
        have hb3W : b3 < W4.heap.size := K3.out.lt
        obtain ⟨hn1, hn2, hn3, hn4⟩ : b12 ≠ b1 ∧ b12 ≠ b3 ∧ b13 ≠ b1 ∧ b13 ≠ b3 := by omega
        have hr5 := (HRB.out.below jb (Nat.le_trans hB hbw4)).more (B' := wc.heap.size) (Nat.le_trans hB (Nat.le_trans hbw4 jb.size))
        have hcLc : wc.cell? ⟨bL, oL + k, none⟩ = some (.slice A5 n5 c5) := (jb.cell (p := ⟨bL, oL + k, none⟩) hbL4).trans HCL4.out
        clear jb K1 K3 KD KB HCL4 HAP HRW HR5
        rcases HWAY.out with ⟨hern, rfl, rfl, rfl, rfl⟩ | ⟨rfl, e1, e2, e3⟩
        · clear HWAY
          have her : (er == 0) = false := by simp [hern]
          obtain ⟨⟨p0, p1, p2, p3⟩, q0, q1, q2, q3⟩ := k1.four
          have hTc := HT.out.below kb HT.out.pos
          have K1 := Lib.hid k1; have K3 := Lib.hid k3; have KD := Lib.hid kd; have KB := Lib.hid kb; have HRW := Lib.hid hrw; have HTC := Lib.hid hTc
          clear k1 k3 kd kb j1 j3 jd hrw hTc hr5 hcLc hern HRB
          have HBX := Lib.hid (show Boxed w b1 b3 x h2 g2 u2 c2 wc from ⟨⟨Ad, nd, cd, Ad', nd', cd', K1.out, KD.out⟩, K3.out, KB.out⟩)
          clear K1 K3 KD KB HTC p0 p1 p2 p3 q0 q1 q2 q3
          obtain ⟨⟨Af, nf, cf, Af', nf', cf', f1, fd⟩, f3, fb⟩ := HBX.out
          obtain ⟨⟨p0, p1, p2, p3⟩, q0, q1, q2, q3⟩ := f1.four
          have HT9 := Lib.hid (HT.out.below fb HT.out.pos)
          have F1 := Lib.hid f1; have F3 := Lib.hid f3; have FD := Lib.hid fd; have FB := Lib.hid fb
          have hcm : c2 ≤ 1000 := by have h1 := (HZX.out.fits HFX.out.2.1); rw [HC2.out]; have h2 := h1.2.2.2.2.1; have h3 := h1.2.2.2.2.2.2; have h4 := (rightB_of.1 HFX.out.1).1; have h5 := HFX.out.2.1; omega
          have hg100b : g2 ≤ 1000 := by have := HGK.out; omega
          clear f1 fd f3 fb HBX
          go_wp2_with fail
          refine (open_ways _ x h2 g2 L2 _ FD.out HFX.out.rest HZX.out.holds (by omega) HT9.out).mono ?_
          rintro e W9 how
          rcases how with ⟨x9, hr9, hf9, hz9, v9, A9, c9, rfl, hd9, hc9, hcm9, hrs9, hb9, hat9⟩ | ⟨hne9, -⟩
          rotate_left
          · exact absurd HFX.out.2.2.2.1 hne9
          obtain ⟨An, nn, cn, An', nn', cn', rfl, hx9⟩ := hd9
          have hd9 : DkAt W9 W9.heap.size (.agg #[.slice An nn cn, .slice An' nn' cn', .int .i64 x9.fuse, .bool x9.down]) x9 := ⟨An, nn, cn, An', nn', cn', rfl, hx9⟩
          obtain ⟨h9, hh9⟩ : ∃ u, u = 1 - h2 := ⟨_, rfl⟩
          obtain ⟨g9, hg9⟩ : ∃ u, u = g2 + 1 := ⟨_, rfl⟩
          rw [← hh9, ← hg9, ← HC2.out, ← HU2.out]
          rw [← hh9, ← hg9] at hz9
          rw [← HC2.out] at hrs9
          have hh1 : h2 ≤ 1 := HZX.out.1
          have hgn9 : ((g9 : Int) != (g2 : Int) + 1) = false := by simp [bne]; omega
          have hhn9 : ((h9 : Int) != 1 - (h2 : Int)) = false := by simp [bne]; omega
          have FN9 := Lib.hid (hr9.fine (hf9 HFX.out.2.2.2.1)); have HZ9 := Lib.hid hz9; have HG9 := Lib.hid hg9
          have f1 := F1.out.below hb9 F1.out.lt
          have f3 := F3.out.below hb9 F3.out.lt
          have fb := FB.out.trans (hb9.mono FB.out.size)
          have fd := FD.out.later hb9
          have frw := HRW.out.later hb9
          rw [← HC2.out] at frw
          have l91 : b1 < W9.heap.size := f1.lt
          have l93 : b3 < W9.heap.size := f3.lt
          unfold logN
          have haa : Below W9.heap.size W9 ((W9.alloc (.cells #[.slice An nn cn, .slice An' nn' cn', .int .i64 x9.fuse, .bool x9.down] 28)).alloc (.cells #[.int .i64 (h9 : Int), .int .i64 (g9 : Int), .int .i64 (u2 : Int), .int .i64 (c2 : Int)] 35)) := ((Below.refl _ _).alloc (Nat.le_refl _) _).alloc (by simp) _
          have HGG := Lib.hid (show (fun W => Boxed w b1 b3 x h2 g2 u2 c2 W ∧ Bk W W9.heap.size 28 #[.slice An nn cn, .slice An' nn' cn', .int .i64 x9.fuse, .bool x9.down] ∧ Bk W (W9.heap.size + 1) 35 #[.int .i64 (h9 : Int), .int .i64 (g9 : Int), .int .i64 (u2 : Int), .int .i64 (c2 : Int)] ∧ DkAt W W.heap.size (.agg #[.slice An nn cn, .slice An' nn' cn', .int .i64 x9.fuse, .bool x9.down]) x9 ∧ Rss W W.heap.size A9 c2 L2 ∧ Rss W W.heap.size Aw c2 L2) ((W9.alloc (.cells #[.slice An nn cn, .slice An' nn' cn', .int .i64 x9.fuse, .bool x9.down] 28)).alloc (.cells #[.int .i64 (h9 : Int), .int .i64 (g9 : Int), .int .i64 (u2 : Int), .int .i64 (c2 : Int)] 35)) from
            ⟨(show Boxed w b1 b3 x h2 g2 u2 c2 W9 from ⟨⟨Af, nf, cf, Af', nf', cf', f1, fd⟩, f3, fb⟩).below haa, (Bk.new W9 _ _).alloc _, Bk.new2 W9 _ _ _, hd9.later haa, hrs9.later haa, frw.later haa⟩)
          clear p0 p1 p2 p3 q0 q1 q2 q3
          obtain ⟨⟨r0, r1, r2, r3⟩, s0, s1, s2, s3⟩ := f3.four
          have hfb9 : w.heap.size ≤ W9.heap.size := fb.size
          clear f1 f3 fb fd frw hd9 hx9 hr9 hf9 hz9 hrs9 hb9 hat9 haa hh9 hg9 F1 F3 FB FD HRW
          go_wp2_with fail
          refine calls_over (fun W => Boxed w b1 b3 x h2 g2 u2 c2 W ∧ Bk W W9.heap.size 28 #[.slice An nn cn, .slice An' nn' cn', .int .i64 x9.fuse, .bool x9.down] ∧ Bk W (W9.heap.size + 1) 35 #[.int .i64 (h9 : Int), .int .i64 (g9 : Int), .int .i64 (u2 : Int), .int .i64 (c2 : Int)] ∧ DkAt W W.heap.size (.agg #[.slice An nn cn, .slice An' nn' cn', .int .i64 x9.fuse, .bool x9.down]) x9 ∧ Rss W W.heap.size A9 c2 L2 ∧ Rss W W.heap.size Aw c2 L2) HGG.out ?_
          clear HGG r0 r1 r2 r3 s0 s1 s2 s3
          rintro W10 ⟨hbx, m1, m3, md, hgot, hwant⟩
          generalize W9.heap.size = b9 at *
          refine (x5same_any A9 Aw _ c9 _ cw _ _ L2 L2 W10 hgot.bss hwant.bss (Nat.le_refl _) (Nat.le_refl _) (by omega) (by omega)).mono ?_
          rw [decide_eq_true rfl]
          rintro e W11 ⟨rfl, hb11⟩
          obtain ⟨⟨Af, nf, cf, Af', nf', cf', f1, fd⟩, f3, fb⟩ := hbx.below hb11
          replace m1 := m1.below hb11 m1.lt
          replace m3 := m3.below hb11 m3.lt
          replace md := md.later hb11
          replace hwant := hwant.later hb11
          obtain ⟨⟨p0, p1, p2, p3⟩, q0, q1, q2, q3⟩ := f1.four
          obtain ⟨⟨r0, r1, r2, r3⟩, s0, s1, s2, s3⟩ := f3.four
          obtain ⟨⟨t0, t1, t2, t3⟩, y0, y1, y2, y3⟩ := m1.four
          obtain ⟨⟨v0, v1, v2, v3⟩, x0, x1, x2, x3⟩ := m3.four
          have hv1 : b9 ≠ b1 := by omega
          have hv2 : b9 ≠ b3 := by omega
          have hv3 : b9 + 1 ≠ b1 := by omega
          have hv4 : b9 + 1 ≠ b3 := by omega
          have HBS := Lib.hid ((Boxed.store (w := w) f1 f3 hne31 md fb hw1 hw6 h9 g9 u2 c2).below ((Below.refl _ _).drew))
          have HRS := Lib.hid ((((rss_boxes hwant HOFF.out (by intro k; intro h; cases h) (by intro k; intro h; cases h) f1 f3 hne31 (.slice An nn cn) (.slice An' nn' cn') (.int .i64 x9.fuse) (.bool x9.down) (.int .i64 (h9 : Int)) (.int .i64 (g9 : Int)) (.int .i64 (u2 : Int)) (.int .i64 (c2 : Int)))).below ((Below.refl W11.heap.size _).drew) (Nat.le_refl _)).more (B' := (stored4 (stored4 W11 b1 (.slice An nn cn) (.slice An' nn' cn') (.int .i64 x9.fuse) (.bool x9.down)) b3 (.int .i64 (h9 : Int)) (.int .i64 (g9 : Int)) (.int .i64 (u2 : Int)) (.int .i64 (c2 : Int))).drew.heap.size) (by unfold stored4; simp))
          unfold stored4 at HBS HRS
          have HOF := Lib.hid HOFF.out
          clear f1 f3 fd fb m1 m3 md hwant hgot hbx hb11
          go_wp2_with fail
          go_region
          refine post_over (fun W' => Boxed w b1 b3 x9 h9 g9 u2 c2 W' ∧ Rss W' W'.heap.size Aw c2 L2) ⟨HBS.out, HRS.out⟩ ?_
          clear HBS HRS p0 p1 p2 p3 q0 q1 q2 q3 r0 r1 r2 r3 s0 s1 s2 s3 t0 t1 t2 t3 y0 y1 y2 y3 v0 v1 v2 v3 x0 x1 x2 x3
          rintro WN ⟨hbn, hrn⟩
          have HBN := Lib.hid hbn; have HRN := Lib.hid hrn
          have HKN := Lib.hid (show k + 1 ≤ n by omega)
          have HKG := Lib.hid (show g9 ≤ 1 + 2 * (k + 1) by have h1 := HG9.out; have h2 := HGK.out; have h3 := HGK.out; omega)
          clear hbn hrn
          go_wp2_with fail
          go_roundw
          case rel => (repeat apply Exists.intro); exact ⟨⟨k + 1, x9, h9, g9, L2, Aw, cw, HKN.out, by go_num, FN9.out, HZ9.out, HKG.out, by rw [← HC2.out, ← HU2.out]; exact HBN.out, by rw [← HC2.out], by rw [← HC2.out]; exact HRN.out, HOF.out⟩, rfl⟩
          case measure => simp [intOf]; omega

        · clear HWAY
          have hL5 : L2 ≠ [] := HZX.out.2.1
          have hoff5 : Off A5 b1 b3 := by
            have hp5 : 0 < L5.length := List.length_pos_iff.2 (by rw [← e3]; exact hL5)
            obtain ⟨b, o, e, hb, _⟩ := HRB.out.2 hp5
            exact ⟨b, o, e, by omega, by omega⟩
          have hcn : c3 = n5 := by rw [HC3.out, HN5.out, e3]
          have hgn : ((g2 : Int) != (g : Int) + 1) = false := by simp [bne]; omega
          have hhn : ((h2 : Int) != 1 - (h : Int)) = false := by simp [bne]; omega
          have hcn2 : ((c3 : Int) != (n5 : Int)) = false := by simp [bne]; omega
          obtain ⟨⟨p0, p1, p2, p3⟩, q0, q1, q2, q3⟩ := k1.four
          obtain ⟨⟨r0, r1, r2, r3⟩, s0, s1, s2, s3⟩ := k3.four
          obtain ⟨⟨t0, t1, t2, t3⟩, y0, y1, y2, y3⟩ := j1.four
          obtain ⟨⟨v0, v1, v2, v3⟩, x0, x1, x2, x3⟩ := j3.four
          have K1 := Lib.hid k1; have K3 := Lib.hid k3; have J1 := Lib.hid j1; have J3 := Lib.hid j3; have JD := Lib.hid jd; have KB := Lib.hid kb; have HR5 := Lib.hid hr5
          have HCN := Lib.hid hcn; have HE3 := Lib.hid e3; have HO5 := Lib.hid hoff5; have HCC := Lib.hid hcLc
          have hg2100 : g2 ≤ 101 := by omega
          have hh2 : h2 ≤ 1 := by omega
          have hbLc : bL < wc.heap.size := by have := J1.out.lt; omega
          have HE1 := Lib.hid e1; have HE2 := Lib.hid e2
          clear k1 k3 j1 j3 jd kb kd hrw hr5 hoff5 hcn e1 e2 e3 hL5
          go_wp2_with fail
          go_quiet (fail)
          refine post_over (fun W' => Below wc.heap.size wc W') (below_drewN wc nq) ?_
          clear p0 p1 p2 p3 q0 q1 q2 q3 r0 r1 r2 r3 s0 s1 s2 s3 t0 t1 t2 t3 y0 y1 y2 y3 v0 v1 v2 v3 x0 x1 x2 x3 hcLc
          intro W5 hb5
          have k1 := K1.out.below hb5 K1.out.lt
          have k3 := K3.out.below hb5 K3.out.lt
          have j1 := J1.out.below hb5 J1.out.lt
          have j3 := J3.out.below hb5 J3.out.lt
          have jd := JD.out.later hb5
          have kb := KB.out.trans (hb5.mono KB.out.size)
          have hr5 := HR5.out.later hb5
          have hcL5 : W5.cell? ⟨bL, oL + k, none⟩ = some (.slice A5 n5 c5) := (hb5.cell (p := ⟨bL, oL + k, none⟩) hbLc).trans HCC.out
          obtain ⟨⟨p0, p1, p2, p3⟩, q0, q1, q2, q3⟩ := k1.four
          obtain ⟨⟨r0, r1, r2, r3⟩, s0, s1, s2, s3⟩ := k3.four
          obtain ⟨⟨t0, t1, t2, t3⟩, y0, y1, y2, y3⟩ := j1.four
          obtain ⟨⟨v0, v1, v2, v3⟩, x0, x1, x2, x3⟩ := j3.four
          have HBS := Lib.hid ((Boxed.store (w := w) k1 k3 hne31 jd kb hw1 hw6 h2 g2 u3 c3).below ((Below.refl _ _).drew))
          have HRS := Lib.hid (((rss_boxes hr5 HO5.out (by intro k; intro h; cases h) (by intro k; intro h; cases h) k1 k3 hne31 (.slice Ae ne ce) (.slice Ae' ne' ce') (.int .i64 x.fuse) (.bool x.down) (.int .i64 (h2 : Int)) (.int .i64 (g2 : Int)) (.int .i64 (u3 : Int)) (.int .i64 (c3 : Int)))).below ((Below.refl W5.heap.size _).drew) (Nat.le_refl _))
          unfold stored4 at HBS HRS
          have hbL1 : bL ≠ b1 := by omega
          have hbL3 : bL ≠ b3 := by omega
          clear k1 k3 j1 j3 jd kb hb5 hr5 K1 K3 J1 J3 JD KB HR5 HCC
          go_wp2_with fail
          go_region
          refine post_over (fun W' => Boxed w b1 b3 x h2 g2 u3 c3 W' ∧ Rss W' W5.heap.size A5 L5.length L5 ∧ W5.heap.size ≤ W'.heap.size) ⟨HBS.out, HRS.out, by simp⟩ ?_
          clear p0 p1 p2 p3 q0 q1 q2 q3 r0 r1 r2 r3 s0 s1 s2 s3 t0 t1 t2 t3 y0 y1 y2 y3 v0 v1 v2 v3 x0 x1 x2 x3 hcL5 HBS HRS
          rintro W6b ⟨hbx6, hrw6, h65⟩
          have HBX := Lib.hid hbx6
          have HRW := Lib.hid (hrw6.more (B' := W6b.heap.size) h65)
          have HCL := Lib.hid (HCN.out.symm.trans HC3.out)
          have HGK2 := Lib.hid (show g2 ≤ 1 + 2 * k + 1 by have := HGK.out; have := HE2.out; omega)
          have HC5 := Lib.hid (show n5 = L5.length from HN5.out)
          have HU5 := Lib.hid (show u3 = sumT L5 by rw [HU3.out, HE3.out])
          have HZ5 := Lib.hid (show HoldsZ 80 x h2 g2 L5 by rw [← HE3.out]; exact HZX.out)
          rw [HCN.out] at HBX
          clear hbx6 hrw6 h65 HGK
          rename Hid (g2 ≤ 1 + 2 * k + 1) => HGK
          obtain ⟨⟨Af, nf, cf, Af', nf', cf', f1, fd⟩, f3, fb⟩ := HBX.out
          obtain ⟨⟨p0, p1, p2, p3⟩, q0, q1, q2, q3⟩ := f1.four
          have HT9 := Lib.hid (HT.out.below fb HT.out.pos)
          have F1 := Lib.hid f1; have F3 := Lib.hid f3; have FD := Lib.hid fd; have FB := Lib.hid fb
          have hcm : n5 ≤ 1000 := by have h1 := (HZ5.out.fits HFX.out.2.1); rw [HC5.out]; have h2 := h1.2.2.2.2.1; have h3 := h1.2.2.2.2.2.2; have h4 := (rightB_of.1 HFX.out.1).1; have h5 := HFX.out.2.1; omega
          have hg100b : g2 ≤ 1000 := by have := HGK.out; omega
          clear f1 fd f3 fb HBX
          go_wp2_with fail
          refine (open_ways _ x h2 g2 L5 _ FD.out HFX.out.rest HZ5.out.holds (by omega) HT9.out).mono ?_
          rintro e W9 how
          rcases how with ⟨x9, hr9, hf9, hz9, v9, A9, c9, rfl, hd9, hc9, hcm9, hrs9, hb9, hat9⟩ | ⟨hne9, -⟩
          rotate_left
          · exact absurd HFX.out.2.2.2.1 hne9
          obtain ⟨An, nn, cn, An', nn', cn', rfl, hx9⟩ := hd9
          have hd9 : DkAt W9 W9.heap.size (.agg #[.slice An nn cn, .slice An' nn' cn', .int .i64 x9.fuse, .bool x9.down]) x9 := ⟨An, nn, cn, An', nn', cn', rfl, hx9⟩
          obtain ⟨h9, hh9⟩ : ∃ u, u = 1 - h2 := ⟨_, rfl⟩
          obtain ⟨g9, hg9⟩ : ∃ u, u = g2 + 1 := ⟨_, rfl⟩
          rw [← hh9, ← hg9, ← HC5.out, ← HU5.out]
          rw [← hh9, ← hg9] at hz9
          rw [← HC5.out] at hrs9
          have hh1 : h2 ≤ 1 := HZ5.out.1
          have hgn9 : ((g9 : Int) != (g2 : Int) + 1) = false := by simp [bne]; omega
          have hhn9 : ((h9 : Int) != 1 - (h2 : Int)) = false := by simp [bne]; omega
          have FN9 := Lib.hid (hr9.fine (hf9 HFX.out.2.2.2.1)); have HZ9 := Lib.hid hz9; have HG9 := Lib.hid hg9
          have f1 := F1.out.below hb9 F1.out.lt
          have f3 := F3.out.below hb9 F3.out.lt
          have fb := FB.out.trans (hb9.mono FB.out.size)
          have fd := FD.out.later hb9
          have frw := HRW.out.later hb9
          rw [← HC5.out] at frw
          have l91 : b1 < W9.heap.size := f1.lt
          have l93 : b3 < W9.heap.size := f3.lt
          unfold logN
          have haa : Below W9.heap.size W9 ((W9.alloc (.cells #[.slice An nn cn, .slice An' nn' cn', .int .i64 x9.fuse, .bool x9.down] 28)).alloc (.cells #[.int .i64 (h9 : Int), .int .i64 (g9 : Int), .int .i64 (u3 : Int), .int .i64 (n5 : Int)] 35)) := ((Below.refl _ _).alloc (Nat.le_refl _) _).alloc (by simp) _
          have HGG := Lib.hid (show (fun W => Boxed w b1 b3 x h2 g2 u3 n5 W ∧ Bk W W9.heap.size 28 #[.slice An nn cn, .slice An' nn' cn', .int .i64 x9.fuse, .bool x9.down] ∧ Bk W (W9.heap.size + 1) 35 #[.int .i64 (h9 : Int), .int .i64 (g9 : Int), .int .i64 (u3 : Int), .int .i64 (n5 : Int)] ∧ DkAt W W.heap.size (.agg #[.slice An nn cn, .slice An' nn' cn', .int .i64 x9.fuse, .bool x9.down]) x9 ∧ Rss W W.heap.size A9 n5 L5 ∧ Rss W W.heap.size A5 n5 L5) ((W9.alloc (.cells #[.slice An nn cn, .slice An' nn' cn', .int .i64 x9.fuse, .bool x9.down] 28)).alloc (.cells #[.int .i64 (h9 : Int), .int .i64 (g9 : Int), .int .i64 (u3 : Int), .int .i64 (n5 : Int)] 35)) from
            ⟨(show Boxed w b1 b3 x h2 g2 u3 n5 W9 from ⟨⟨Af, nf, cf, Af', nf', cf', f1, fd⟩, f3, fb⟩).below haa, (Bk.new W9 _ _).alloc _, Bk.new2 W9 _ _ _, hd9.later haa, hrs9.later haa, frw.later haa⟩)
          clear p0 p1 p2 p3 q0 q1 q2 q3
          obtain ⟨⟨r0, r1, r2, r3⟩, s0, s1, s2, s3⟩ := f3.four
          have hfb9 : w.heap.size ≤ W9.heap.size := fb.size
          clear f1 f3 fb fd frw hd9 hx9 hr9 hf9 hz9 hrs9 hb9 hat9 haa hh9 hg9 F1 F3 FB FD HRW
          go_wp2_with fail
          refine calls_over (fun W => Boxed w b1 b3 x h2 g2 u3 n5 W ∧ Bk W W9.heap.size 28 #[.slice An nn cn, .slice An' nn' cn', .int .i64 x9.fuse, .bool x9.down] ∧ Bk W (W9.heap.size + 1) 35 #[.int .i64 (h9 : Int), .int .i64 (g9 : Int), .int .i64 (u3 : Int), .int .i64 (n5 : Int)] ∧ DkAt W W.heap.size (.agg #[.slice An nn cn, .slice An' nn' cn', .int .i64 x9.fuse, .bool x9.down]) x9 ∧ Rss W W.heap.size A9 n5 L5 ∧ Rss W W.heap.size A5 n5 L5) HGG.out ?_
          clear HGG r0 r1 r2 r3 s0 s1 s2 s3
          rintro W10 ⟨hbx, m1, m3, md, hgot, hwant⟩
          generalize W9.heap.size = b9 at *
          refine (x5same_any A9 A5 _ c9 _ c5 _ _ L5 L5 W10 hgot.bss hwant.bss (Nat.le_refl _) (Nat.le_refl _) (by omega) (by omega)).mono ?_
          rw [decide_eq_true rfl]
          rintro e W11 ⟨rfl, hb11⟩
          obtain ⟨⟨Af, nf, cf, Af', nf', cf', f1, fd⟩, f3, fb⟩ := hbx.below hb11
          replace m1 := m1.below hb11 m1.lt
          replace m3 := m3.below hb11 m3.lt
          replace md := md.later hb11
          replace hwant := hwant.later hb11
          obtain ⟨⟨p0, p1, p2, p3⟩, q0, q1, q2, q3⟩ := f1.four
          obtain ⟨⟨r0, r1, r2, r3⟩, s0, s1, s2, s3⟩ := f3.four
          obtain ⟨⟨t0, t1, t2, t3⟩, y0, y1, y2, y3⟩ := m1.four
          obtain ⟨⟨v0, v1, v2, v3⟩, x0, x1, x2, x3⟩ := m3.four
          have hv1 : b9 ≠ b1 := by omega
          have hv2 : b9 ≠ b3 := by omega
          have hv3 : b9 + 1 ≠ b1 := by omega
          have hv4 : b9 + 1 ≠ b3 := by omega
          have HBS := Lib.hid ((Boxed.store (w := w) f1 f3 hne31 md fb hw1 hw6 h9 g9 u3 n5).below ((Below.refl _ _).drew))
          have HRS := Lib.hid ((((rss_boxes hwant HO5.out (by intro k; intro h; cases h) (by intro k; intro h; cases h) f1 f3 hne31 (.slice An nn cn) (.slice An' nn' cn') (.int .i64 x9.fuse) (.bool x9.down) (.int .i64 (h9 : Int)) (.int .i64 (g9 : Int)) (.int .i64 (u3 : Int)) (.int .i64 (n5 : Int)))).below ((Below.refl W11.heap.size _).drew) (Nat.le_refl _)).more (B' := (stored4 (stored4 W11 b1 (.slice An nn cn) (.slice An' nn' cn') (.int .i64 x9.fuse) (.bool x9.down)) b3 (.int .i64 (h9 : Int)) (.int .i64 (g9 : Int)) (.int .i64 (u3 : Int)) (.int .i64 (n5 : Int))).drew.heap.size) (by unfold stored4; simp))
          unfold stored4 at HBS HRS
          have HOF := Lib.hid HO5.out
          clear f1 f3 fd fb m1 m3 md hwant hgot hbx hb11
          go_wp2_with fail
          go_region
          refine post_over (fun W' => Boxed w b1 b3 x9 h9 g9 u3 n5 W' ∧ Rss W' W'.heap.size A5 n5 L5) ⟨HBS.out, HRS.out⟩ ?_
          clear HBS HRS p0 p1 p2 p3 q0 q1 q2 q3 r0 r1 r2 r3 s0 s1 s2 s3 t0 t1 t2 t3 y0 y1 y2 y3 v0 v1 v2 v3 x0 x1 x2 x3
          rintro WN ⟨hbn, hrn⟩
          have HBN := Lib.hid hbn; have HRN := Lib.hid hrn
          have HKN := Lib.hid (show k + 1 ≤ n by omega)
          have HKG := Lib.hid (show g9 ≤ 1 + 2 * (k + 1) by have h1 := HG9.out; have h2 := HGK.out; have h3 := HGK.out; omega)
          clear hbn hrn
          go_wp2_with fail
          go_roundw
          case rel => (repeat apply Exists.intro); exact ⟨⟨k + 1, x9, h9, g9, L5, A5, c5, HKN.out, by go_num, FN9.out, HZ9.out, HKG.out, by rw [← HC5.out, ← HU5.out]; exact HBN.out, by rw [← HC5.out], by rw [← HC5.out]; exact HRN.out, HOF.out⟩, rfl⟩
          case measure => simp [intOf]; omega

    · have KB := Lib.hid hbx.hb
      clear hbx hF hZ hrw
      go_wp2
      go_ret
      exact ⟨rfl, KB.out⟩
end Go.Proofs.YthcdmlbefkfelaaDoor

