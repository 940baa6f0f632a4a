/-
 A part of the proof: see the last text.
-/
import Derived.Test.YtcdehejgnnnimaaGreatDoorSKvRound
import Derived.Test.YtcdehejgnnnimaaGreatDoorSKvForm
import Derived.Deep.DeepCutAuto
namespace Go.Proofs.YtcdehejgnnnimaaGreatDoor
open List renaming setIfInBounds_toArray → jA, set_cons_zero → jB, set_cons_succ → jC
set_option linter.unusedVariables false
set_option linter.unusedSimpArgs false
open Go.RowKit
set_option linter.unusedVariables false
set_option linter.unusedSimpArgs false
structure ComK (w : World) (d : Dk) (A1 A1' A5 : Option Addr) (n1 c1 n1' c1' n5 c5 h g u k b1 b2 b3 b4 : Nat) (W : World) : Prop where
 k1 : Bk W b1 27 #[.slice A1 n1 c1, .slice A1' n1' c1', .int .i64 d.fuse, .bool d.down]
 k2 : Bk W b2 35 #[.int .i64 (h : Int), .int .i64 (g : Int), .int .i64 (u : Int), .int .i64 (k : Int), .slice A5 n5 c5]
 k3 : Bk W b3 27 #[.slice none 0 0, .slice none 0 0, .int .i64 0, .bool false]
 k4 : Bk W b4 35 #[.int .i64 0, .int .i64 0, .int .i64 0, .int .i64 0, .slice none 0 0]
 hd : DkAt W W.heap.size (.agg #[.slice A1 n1 c1, .slice A1' n1' c1', .int .i64 d.fuse, .bool d.down]) d
 hb : Below w.heap.size w W
theorem ComK.below {w W W' : World} {d : Dk} {A1 A1' A5 : Option Addr} {n1 c1 n1' c1' n5 c5 h g u k b1 b2 b3 b4 : Nat} (H : ComK w d A1 A1' A5 n1 c1 n1' c1' n5 c5 h g u k b1 b2 b3 b4 W) (hb : Below W.heap.size W W') : ComK w d A1 A1' A5 n1 c1 n1' c1' n5 c5 h g u k b1 b2 b3 b4 W' :=
 ⟨H.k1.below hb H.k1.lt, H.k2.below hb H.k2.lt, H.k3.below hb H.k3.lt, H.k4.below hb H.k4.lt, H.hd.later hb, H.hb.trans (hb.mono H.hb.size)⟩
def ComNo (n : Nat) (L : List (List Nat)) (l : List Pr) (cs : List Chg) : Prop :=
 changesB cs = false ∨ 6000 < (transN cs).length ∨ (∀ m, Lists m (runF (putsF (fun _ => none) l) cs) → ¬ PairsOk m) ∨
 (n / 2 - sumT L < takesN (transN cs).length ∧ ∀ m, Lists m (runF (putsF (fun _ => none) l) cs) → n / 2 < sumT (snapL m))
def ComWays (n : Nat) (d : Dk) (h g : Nat) (L : List (List Nat)) (A5 : Option Addr) (n5 c5 : Nat) (l : List Pr) (cs : List Chg) (w : World) (e : Ending) (w' : World) : Prop :=
 (ComNo n L l cs ∧ ∃ er : Int, (er = 1 ∨ er = 4 ∨ er = 8) ∧ StoRes w (d, er) (h : Int) (g : Int) (sumT L : Nat) (L.length : Nat) A5 n5 c5 e w') ∨
 (∃ (x : Dk) (h2 g2 : Nat) (L2 : List (List Nat)) (A : Option Addr) (nn c : Nat) (m : List Pr), Rest n x ∧ (d.fuse = -1 → x.fuse = -1) ∧ HoldsZ n x h2 g2 L2 ∧ g2 ≤ g + 1 ∧ changesB cs = true ∧ PairsOk m ∧ Lists m (runF (putsF (fun _ => none) l) cs) ∧
  ((L2 = L ++ [transN cs]) ∨ L2 = snapL m) ∧ ColK 2 pairC w' w'.heap.size A nn m ∧ StoRes w (x, 0) (h2 : Int) (g2 : Int) (sumT L2 : Nat) (L2.length : Nat) A nn c e w') ∨
 (d.fuse ≠ -1 ∧ changesB cs = true ∧ ∃ (x : Dk) (m : List Pr), rightB x = true ∧ x.secs.length = n ∧ PairsOk m ∧ Lists m (runF (putsF (fun _ => none) l) cs) ∧
  (∀ i, ∃ h2 g2 L2, Holds n (startM x i).1 h2 g2 L2 ∧ g2 ≤ g + 1 ∧ (L2 = L ∨ L2 = L ++ [transN cs] ∨ L2 = snapL m)) ∧ StoRes w (x, 9) (h : Int) (g : Int) (sumT L : Nat) (L.length : Nat) A5 n5 c5 e w')
set_option maxRecDepth 20000 in
set_option maxHeartbeats 4000000 in
theorem kcommit_any {n : Nat} (v : Value) (d : Dk) (h g : Nat) (L : List (List Nat)) (A5 : Option Addr) (n5 c5 : Nat) (l : List Pr) (A6 : Option Addr) (n6 c6 : Nat) (cs : List Chg) (w : World) (hd : DkAt w w.heap.size v d) (hF : Rest n d) (hZ : HoldsZ n d h g L) (hg : g < 1099511627776) (ht : Tab w)
 (hl : ColK 2 pairC w w.heap.size A5 n5 l) (hP : PairsOk l) (hcs : ColK 3 chgC w w.heap.size A6 n6 cs) (hn6 : n6 ≤ 140737488355328) (hs6 : ∀ x ∈ cs, x.1.size ≤ 140737488355328 ∧ x.2.1.size ≤ 140737488355328) :
 Calls Tryz.prog 9 #[v, .agg #[.int .i64 (h : Int), .int .i64 (g : Int), .int .i64 (sumT L : Nat), .int .i64 (L.length : Nat), .slice A5 n5 c5], .slice A6 n6 c6] w (ComWays n d h g L A5 n5 c5 l cs w) := by
 obtain ⟨A1, n1, c1, A1', n1', c1', rfl, hx⟩ := hd
 have HD := Lib.hid (show DkAt w w.heap.size (.agg #[.slice A1 n1 c1, .slice A1' n1' c1', .int .i64 d.fuse, .bool d.down]) d from ⟨A1, n1, c1, A1', n1', c1', rfl, hx⟩)
 have hn5 : n5 ≤ 400 := by have := hP.1; have := hl.1; omega
 obtain ⟨u, hu⟩ : ∃ u, u = sumT L := ⟨_, rfl⟩
 obtain ⟨k, hk⟩ : ∃ k, k = L.length := ⟨_, rfl⟩
 have hfit := hZ.fits hF.2.1
 rw [← hu, ← hk] at hfit ⊢
 have HF := Lib.hid hF
 have HT := Lib.hid ht
 have HZ := Lib.hid hZ
 have HL := Lib.hid hl
 have HP := Lib.hid hP
 have HCS := Lib.hid hcs
 have HS6 := Lib.hid hs6
 have HFIT := Lib.hid hfit
 have HU := Lib.hid hu
 have HK := Lib.hid hk
 have HG := Lib.hid hg
 clear hF ht hx hZ hl hP hcs hs6 hfit hu hk hg
 go_enter Tryz.func9, Tryz.ntmps9
 go_wp2_with fail
 obtain ⟨b1, hb1⟩ : ∃ b, b = w.heap.size := ⟨_, rfl⟩
 obtain ⟨b2, hb2⟩ : ∃ b, b = w.heap.size + 1 := ⟨_, rfl⟩
 obtain ⟨b3, hb3⟩ : ∃ b, b = w.heap.size + 1 + 1 := ⟨_, rfl⟩
 obtain ⟨b4, hb4⟩ : ∃ b, b = w.heap.size + 1 + 1 + 1 := ⟨_, rfl⟩
 refine calls_over (ComK w d A1 A1' A5 n1 c1 n1' c1' n5 c5 h g u k b1 b2 b3 b4) ⟨by rw [hb1]; exact (((Bk.new w _ _).alloc _).alloc _).alloc _, by rw [hb2]; exact ((Bk.new2 w _ _ _).alloc _).alloc _, by rw [hb3]; exact (Bk.new3 w _ _ _ _).alloc _, by rw [hb4]; exact Bk.new4 w _ _ _ _ _, HD.out.later (((((Below.refl w.heap.size w).alloc (Nat.le_refl _) _).alloc (by simp) _).alloc (by simp only [World.size_alloc]; omega) _).alloc (by simp only [World.size_alloc]; omega) _), ((((Below.refl w.heap.size w).alloc (Nat.le_refl _) _).alloc (by simp) _).alloc (by simp only [World.size_alloc]; omega) _).alloc (by simp only [World.size_alloc]; omega) _⟩ ?_
 intro W1 H1
 rw [← hb4, ← hb3, ← hb2, ← hb1]
 have hl1 : w.heap.size ≤ b1 := by omega
 have hl2 : w.heap.size ≤ b2 := by omega
 have hl3 : w.heap.size ≤ b3 := by omega
 have hl4 : w.heap.size ≤ b4 := by omega
 obtain ⟨hn12, hn13, hn14, hn23, hn24, hn34⟩ : b2 ≠ b1 ∧ b3 ≠ b1 ∧ b4 ≠ b1 ∧ b3 ≠ b2 ∧ b4 ≠ b2 ∧ b4 ≠ b3 := by omega
 clear hb1 hb2 hb3 hb4
 refine (kright_any _ d h g u k A5 n5 c5 l W1 H1.hd HF.out.1 HFIT.out (HL.out.later H1.hb) (by omega)).mono ?_
 rintro e W2 ⟨⟨bb, rfl, hbb⟩, hba⟩
 have hbt : bb = true := hbb.2 HP.out
 subst hbt
 have H2 := Lib.hid (H1.below hba)
 clear H1 hba hbb
 go_wp2_with fail
 refine (encode_any A6 n6 c6 cs W2 (HCS.out.later H2.out.hb) HS6.out hn6).mono ?_
 intro e W3 hE
 rcases enc_ways hE with ⟨A7, n7, c7, rfl, hcc, h6, ho7, hba⟩ | ⟨A7, n7, c7, hno, rfl, hba⟩ | ⟨A7, n7, c7, hno, rfl, hba⟩
 rotate_left
 ·have H3 := Lib.hid (H2.out.below hba)
  have HNO := Lib.hid hno
  clear hE H2 hba hno
  have kd := H3.out.hd
  have HTB := two_boxesS (x := d) (h : Int) (g : Int) (u : Int) (k : Int) A5 n5 c5 H3.out.k3 H3.out.k4 hn34 H3.out.hd H3.out.hb hl3 hl4
  unfold stored5 stored4 at HTB
  obtain ⟨⟨p0, p1, p2, p3⟩, q0, q1, q2, q3⟩ := H3.out.k1.four
  obtain ⟨⟨s0, s1, s2, s3, s4⟩, _⟩ := H3.out.k2.five
  obtain ⟨⟨t0, t1, t2, t3⟩, r0, r1, r2, r3⟩ := H3.out.k3.four
  obtain ⟨⟨v0, v1, v2, v3, v4⟩, y0, y1, y2, y3, y4⟩ := H3.out.k4.five
  clear kd H3
  go_wp2_with fail
  go_region
  refine post_over (LiesS w b3 b4 A1 A1' n1 c1 n1' c1' d (h : Int) (g : Int) (u : Int) (k : Int) A5 n5 c5) HTB.out.drew ?_
  intro W' HW
  clear p0 p1 p2 p3 q0 q1 q2 q3 s0 s1 s2 s3 s4 t0 t1 t2 t3 r0 r1 r2 r3 v0 v1 v2 v3 v4 y0 y1 y2 y3 y4 HTB
  have HW' := Lib.hid HW
  clear HW
  go_wp2
  refine bodyPost_ret (v := .tuple #[.agg #[.slice A1 n1 c1, .slice A1' n1' c1', .int .i64 d.fuse, .bool d.down], .agg #[.int .i64 (h : Int), .int .i64 (g : Int), .int .i64 (u : Int), .int .i64 (k : Int), .slice A5 n5 c5], .int .i64 1]) ?_ rfl (.inl ⟨.inl HNO.out, 1, (by decide), by rw [← HU.out, ← HK.out]; exact ⟨_, rfl, HW'.out.2.2.1, HW'.out.2.2.2⟩⟩)
  exact results_cct (fn := Tryz.f9) (a1 := ⟨b3, 0, none⟩) (a2 := ⟨b4, 0, none⟩) rfl rfl rfl rfl (load_box4 HW'.out.1) (load_store5 HW'.out.2.1)
 ·have H3 := Lib.hid (H2.out.below hba)
  have HNO := Lib.hid hno
  clear hE H2 hba hno
  have kd := H3.out.hd
  have HTB := two_boxesS (x := d) (h : Int) (g : Int) (u : Int) (k : Int) A5 n5 c5 H3.out.k3 H3.out.k4 hn34 H3.out.hd H3.out.hb hl3 hl4
  unfold stored5 stored4 at HTB
  obtain ⟨⟨p0, p1, p2, p3⟩, q0, q1, q2, q3⟩ := H3.out.k1.four
  obtain ⟨⟨s0, s1, s2, s3, s4⟩, _⟩ := H3.out.k2.five
  obtain ⟨⟨t0, t1, t2, t3⟩, r0, r1, r2, r3⟩ := H3.out.k3.four
  obtain ⟨⟨v0, v1, v2, v3, v4⟩, y0, y1, y2, y3, y4⟩ := H3.out.k4.five
  clear kd H3
  go_wp2_with fail
  go_region
  refine post_over (LiesS w b3 b4 A1 A1' n1 c1 n1' c1' d (h : Int) (g : Int) (u : Int) (k : Int) A5 n5 c5) HTB.out.drew ?_
  intro W' HW
  clear p0 p1 p2 p3 q0 q1 q2 q3 s0 s1 s2 s3 s4 t0 t1 t2 t3 r0 r1 r2 r3 v0 v1 v2 v3 v4 y0 y1 y2 y3 y4 HTB
  have HW' := Lib.hid HW
  clear HW
  go_wp2
  refine bodyPost_ret (v := .tuple #[.agg #[.slice A1 n1 c1, .slice A1' n1' c1', .int .i64 d.fuse, .bool d.down], .agg #[.int .i64 (h : Int), .int .i64 (g : Int), .int .i64 (u : Int), .int .i64 (k : Int), .slice A5 n5 c5], .int .i64 4]) ?_ rfl (.inl ⟨.inr (.inl HNO.out), 4, (by decide), by rw [← HU.out, ← HK.out]; exact ⟨_, rfl, HW'.out.2.2.1, HW'.out.2.2.2⟩⟩)
  exact results_cct (fn := Tryz.f9) (a1 := ⟨b3, 0, none⟩) (a2 := ⟨b4, 0, none⟩) rfl rfl rfl rfl (load_box4 HW'.out.1) (load_store5 HW'.out.2.1)
 ·clear hE
  have H3 := Lib.hid (H2.out.below hba)
  clear H2 hba
  have HCC := Lib.hid hcc; have H6 := Lib.hid h6; have HO7 := Lib.hid ho7
  have hn64 : n6 ≤ 400 := by have := changesB_len hcc; have := HCS.out.1; omega
  clear hcc h6 ho7
  have k24 := H3.out.k2.cell 4
  go_wp2_with fail
  refine (do_any A5 n5 c5 l A6 n6 c6 cs W3 (HL.out.later H3.out.hb) (HCS.out.later H3.out.hb) (fun x hx => by have := HP.out.2.1 x hx; unfold mayB keyB at this; simp only [Bool.and_eq_true, decide_eq_true_eq] at this; omega) (fun x hx => (HS6.out x hx).1) (by omega) (by omega)).mono ?_
  rintro e W4 ⟨A8, n8, c8, m, rfl, ho8, hlm, hba⟩
  have hmn : m.length = n8 := ho8.len
  have HNB : Hid (∀ p, 0 < n8 → A8 = some p → W3.heap.size ≤ p.block ∧ p.block < W4.heap.size) := Lib.hid (fun p h0 hp => by
   obtain ⟨g0, hg0, hg1, hg2, _⟩ := ho8.range h0
   rw [hg0] at hp
   obtain rfl := Option.some.inj hp
   exact ⟨hg1, hg2⟩)
  have hn8 : n8 ≤ 800 := by have := lists_len hlm; have := HP.out.1; have := HCS.out.1; have := HL.out.1; omega
  have hb4W : b4 < W3.heap.size := H3.out.k4.lt
  have hb3W : b3 < W3.heap.size := H3.out.k3.lt
  have hb2W : b2 < W3.heap.size := H3.out.k2.lt
  have hb1W : b1 < W3.heap.size := H3.out.k1.lt
  have h43 : W3.heap.size ≤ W4.heap.size := hba.size
  have H4 := Lib.hid (H3.out.below hba)
  have HO7b := Lib.hid (HO7.out.below hba)
  have HO8 := Lib.hid ho8; have HLM := Lib.hid hlm
  clear H3 hba HO7 ho8 hlm hmn k24
  go_wp2_with fail
  refine (pairsMayBe_any A8 n8 c8 m W4 HO8.out.col (by omega)).mono ?_
  rintro e W5 ⟨⟨bb, rfl, hbb⟩, hba⟩
  have h54 : W4.heap.size ≤ W5.heap.size := hba.size
  have H5 := Lib.hid (H4.out.below hba)
  have HO7 := Lib.hid (HO7b.out.below hba)
  have HO8b := Lib.hid (HO8.out.below hba)
  clear H4 hba HO7b HO8
  cases bb
  ·have hno : ∀ m', Lists m' (runF (putsF (fun _ => none) l) cs) → ¬ PairsOk m' := fun m' hm' hp => by
    rw [hm'.unique HLM.out] at hp
    exact absurd (hbb.2 hp) (by decide)
   have HNO := Lib.hid hno
   clear hbb hno
   have kd := H5.out.hd
   have HTB := two_boxesS (x := d) (h : Int) (g : Int) (u : Int) (k : Int) A5 n5 c5 H5.out.k3 H5.out.k4 hn34 H5.out.hd H5.out.hb hl3 hl4
   unfold stored5 stored4 at HTB
   obtain ⟨⟨p0, p1, p2, p3⟩, q0, q1, q2, q3⟩ := H5.out.k1.four
   obtain ⟨⟨s0, s1, s2, s3, s4⟩, _⟩ := H5.out.k2.five
   obtain ⟨⟨t0, t1, t2, t3⟩, r0, r1, r2, r3⟩ := H5.out.k3.four
   obtain ⟨⟨v0, v1, v2, v3, v4⟩, y0, y1, y2, y3, y4⟩ := H5.out.k4.five
   clear kd H5
   go_wp2_with fail
   go_region
   refine post_over (LiesS w b3 b4 A1 A1' n1 c1 n1' c1' d (h : Int) (g : Int) (u : Int) (k : Int) A5 n5 c5) HTB.out.drew ?_
   intro W' HW
   clear p0 p1 p2 p3 q0 q1 q2 q3 s0 s1 s2 s3 s4 t0 t1 t2 t3 r0 r1 r2 r3 v0 v1 v2 v3 v4 y0 y1 y2 y3 y4 HTB
   have HW' := Lib.hid HW
   clear HW
   go_wp2
   refine bodyPost_ret (v := .tuple #[.agg #[.slice A1 n1 c1, .slice A1' n1' c1', .int .i64 d.fuse, .bool d.down], .agg #[.int .i64 (h : Int), .int .i64 (g : Int), .int .i64 (u : Int), .int .i64 (k : Int), .slice A5 n5 c5], .int .i64 8]) ?_ rfl (.inl ⟨.inr (.inr (.inl HNO.out)), 8, (by decide), by rw [← HU.out, ← HK.out]; exact ⟨_, rfl, HW'.out.2.2.1, HW'.out.2.2.2⟩⟩)
   exact results_cct (fn := Tryz.f9) (a1 := ⟨b3, 0, none⟩) (a2 := ⟨b4, 0, none⟩) rfl rfl rfl rfl (load_box4 HW'.out.1) (load_store5 HW'.out.2.1)
  ·have HM := Lib.hid (hbb.1 rfl)
   clear hbb
   obtain ⟨⟨p0, p1, p2, p3⟩, q0, q1, q2, q3⟩ := H5.out.k1.four
   obtain ⟨⟨s0, s1, s2, s3, s4⟩, _⟩ := H5.out.k2.five
   go_wp2_with fail
   have hlen7 : (transN cs).length = n7 := HO7.out.len
   have hap := append_ways _ d h g L A7 n7 c7 (transN cs) W5 H5.out.hd HF.out HZ.out HO7.out.bytes HO7.out.cap.1 HO7.out.cap.2 (HT.out.below H5.out.hb HT.out.pos) (by have := H6.out; omega)
   rw [← HU.out, ← HK.out] at hap
   unfold logN at hap
   have htk : takesN (transN cs).length ≠ 0 := by rw [takesN_ok (by have := transN_len8 cs; omega) H6.out]; omega
   refine hap.mono ?_
   clear hap hlen7
   intro e W6 hways
   unfold AppWays at hways
   rw [← HU.out, ← HK.out] at hways
   rcases hways with ⟨h0, _⟩ | ⟨_, hroom, hres⟩ | ⟨_, hroom, x, hRx, hfx, hZx, hres⟩ | ⟨_, hfd, x, hRx, hlx, hZx, hres⟩
   ·exact absurd h0 htk
   ·obtain ⟨x, hxd⟩ : ∃ x, x = d := ⟨_, rfl⟩
    rw [← hxd] at hres
    obtain ⟨v9, rfl, hd9, hba⟩ := hres
    obtain ⟨A9, n9, c9, A9', n9', c9', rfl, hx9⟩ := hd9
    have hd9 : DkAt W6 W6.heap.size (.agg #[.slice A9 n9 c9, .slice A9' n9' c9', .int .i64 x.fuse, .bool x.down]) x := ⟨A9, n9, c9, A9', n9', c9', rfl, hx9⟩
    clear hx9
    have H6b := Lib.hid (H5.out.below hba)
    have HD9 := Lib.hid hd9
    have HXD := Lib.hid hxd; have HTK := Lib.hid htk; have HROOM := Lib.hid hroom; have HSZ : Hid (∀ x ∈ m, x.1.size ≤ 140737488355328 ∧ x.2.size ≤ 140737488355328) := Lib.hid (fun x hx => by have := HM.out.2.1 x hx; unfold mayB keyB at this; simp only [Bool.and_eq_true, decide_eq_true_eq] at this; omega)
    have HO8 := Lib.hid (HO8b.out.below hba)
    have h65 : W5.heap.size ≤ W6.heap.size := hba.size
    clear p0 p1 p2 p3 q0 q1 q2 q3 s0 s1 s2 s3 s4 hba hd9 hxd htk hroom H5 HO8b
    obtain ⟨⟨p0, p1, p2, p3⟩, q0, q1, q2, q3⟩ := H6b.out.k1.four
    unfold logN
    go_wp2_with ((with_reducible show wpList _ _ _ (⟨none, _, _, _, _, _⟩ :: _) _ _); refine hold ?_)
    have hba : Below W6.heap.size W6 (W6.alloc (.cells #[.int .i64 0, .int .i64 0, .int .i64 0, .int .i64 0] 32)) := (Below.refl _ _).alloc (Nat.le_refl _) _
    have hni : NotIn A8 n8 [b1, b3, b4, W6.heap.size] := fun h0 p hp b hb => by
     have := HNB.out p h0 hp
     simp only [List.mem_cons, List.mem_nil_iff, or_false] at hb
     omega
    have hw6 : w.heap.size ≤ W6.heap.size := H6b.out.hb.size
    refine list_over (ComL w x A9 A9' A5 A8 n9 c9 n9' c9' n5 c5 n8 h g u k b1 b2 b3 b4 W6.heap.size m #[.slice A1 n1 c1, .slice A1' n1' c1', .int .i64 d.fuse, .bool d.down] #[.int .i64 0, .int .i64 0, .int .i64 0, .int .i64 0]) ⟨H6b.out.k1.below hba H6b.out.k1.lt, H6b.out.k2.below hba H6b.out.k2.lt, H6b.out.k3.below hba H6b.out.k3.lt, H6b.out.k4.below hba H6b.out.k4.lt, Bk.new _ _ _, HD9.out.later hba, HO8.out.col.later hba, H6b.out.hb.trans (hba.mono H6b.out.hb.size)⟩ ?_
    obtain ⟨b9, hb9⟩ : ∃ b, b = W6.heap.size := ⟨_, rfl⟩
    rw [← hb9] at hni hw6 ⊢
    obtain ⟨hm1, hm2, hm3, hm4⟩ : b9 ≠ b1 ∧ b9 ≠ b2 ∧ b9 ≠ b3 ∧ b9 ≠ b4 := by omega
    have HNI := Lib.hid hni
    clear hb9 hba hni p0 p1 p2 p3 q0 q1 q2 q3 H6b HD9 HO8 h65 h54 h43 HNB hb1W hb2W hb3W hb4W
    intro W7 H7
    have HS := Lib.hid (H7.disk hl1 ⟨hn12, hn13, hn14, hm1⟩ HNI.out)
    obtain ⟨⟨p0, p1, p2, p3⟩, q0, q1, q2, q3⟩ := H7.k1.four
    unfold stored4 at HS
    clear H7
    refine held ?_
    go_wp2_with ((with_reducible show wpList _ _ _ (⟨none, .store 32 _ _, _, _, _, _⟩ :: _) _ _); refine hold ?_)
    refine list_over _ HS.out ?_
    clear HS p0 p1 p2 p3 q0 q1 q2 q3
    intro W8 H8
    have HS := Lib.hid (H8.log hw6 ⟨Ne.symm hm1, Ne.symm hm2, Ne.symm hm3, Ne.symm hm4⟩ HNI.out (.int .i64 (h : Int)) (.int .i64 (g : Int)) (.int .i64 (u : Int)) (.int .i64 (k : Int)))
    obtain ⟨⟨p0, p1, p2, p3⟩, q0, q1, q2, q3⟩ := H8.k9.four
    unfold stored4 at HS
    clear H8
    refine held ?_
    go_wp2_with fail
    refine code_over _ HS.out ?_
    clear HS p0 p1 p2 p3 q0 q1 q2 q3
    intro W10 H10
    have HTX := Lib.hid (HT.out)
    go_cut [10] (fun e10 wx => ∃ (y : Dk) (er : Int) (h2 g2 u2 k2 : Nat) (B9 B9' : Option Addr) (e9 f9 e9' f9' : Nat), e10 = .int .i64 er ∧ Hid (CmpF n d h g L (snapL m) y er h2 g2 u2 k2) ∧ ComL w y B9 B9' A5 A8 e9 f9 e9' f9' n5 c5 n8 h g u k b1 b2 b3 b4 b9 m #[.slice B9 e9 f9, .slice B9' e9' f9', .int .i64 y.fuse, .bool y.down] #[.int .i64 (h2 : Int), .int .i64 (g2 : Int), .int .i64 (u2 : Int), .int .i64 (k2 : Int)] wx)
    case first =>
     go_wp2_with fail
     have hm : Tryz.prog.follows .mixedOrders = true := by kernel_rfl
     refine wp_region_held_drew (S := fun W' => Below w.heap.size w W') hm (H10.hb.drew) (fun hHeld => ?_)
     replace H10 := H10.below ((Below.refl _ _).drew)
     obtain ⟨V0, hV0⟩ : ∃ V, V = W10.drew := ⟨_, rfl⟩
     rw [← hV0] at hHeld H10 ⊢
     clear hV0
     simp only [List.size_toArray, List.length_cons, List.length_nil, Nat.reduceAdd]
     refine wpAnyH_take (i := 1) (v := .pointer (some ⟨b2, 0, none⟩)) rfl (by kernel_rfl) (by kernel_rfl) (by kernel_rfl) (fun _ _ _ h => h) (Or.inl ⟨by rfl, fun w0 hC => by simp [execOp, Act.eval, Act.put, go_sem]⟩) hHeld ?_
     try simp only [Act.put, jA, jB, jC]
     refine wpAnyH_take (i := 3) (v := .slice A8 n8 c8) rfl (by kernel_rfl) (by kernel_rfl) (by kernel_rfl) (fun _ _ _ h => h) (Or.inl ⟨by rfl, fun w0 hC => by simp [execOp, Act.eval, Act.put, go_sem]⟩) hHeld ?_
     try simp only [Act.put, jA, jB, jC]
     refine wpAnyH_ready (rs := [0, 2, 4]) (by kernel_rfl) (by simp) (AllReadyH.cons rfl (fun K hK => ?_) (AllReadyH.cons rfl (fun K hK => ?_) (AllReadyH.cons rfl (fun K hK => ?_) AllReadyH.nil)))
     ·rw [if_pos (by rfl)]
      obtain ⟨⟨p0, p1, p2, p3⟩, _⟩ := H10.k1.four
      go_wp2_with fail
      clear p0 p1 p2 p3
      have hSa := hHeld
      clear hHeld
      refine hK.out _ _ hSa (fun hHeld => ?_)
      clear hK K
      try simp only [Act.put, jA, jB, jC]
      clear hSa
      refine wpAnyH_ready (rs := [2, 4]) (by kernel_rfl) (by simp) (AllReadyH.cons rfl (fun K hK => ?_) (AllReadyH.cons rfl (fun K hK => ?_) AllReadyH.nil))
      ·rw [if_pos (by rfl)]
       obtain ⟨⟨p0, p1, p2, p3, p4⟩, _⟩ := H10.k2.five
       go_wp2_with fail
       clear p0 p1 p2 p3 p4
       have hSa := hHeld
       clear hHeld
       refine hK.out _ _ hSa (fun hHeld => ?_)
       clear hK K
       try simp only [Act.put, jA, jB, jC]
       clear hSa
       refine wpAnyH_ready (rs := [4]) (by kernel_rfl) (by simp) (AllReadyH.cons rfl (fun K hK => ?_) AllReadyH.nil)
       rw [if_pos (by rfl)]
       go_wp2_with fail
       refine (snapshot_any A8 n8 c8 m V0 H10.hm HSZ.out (by omega)).mono ?_
       rintro e V1 ⟨A4, n4, c4, us4, rfl, ho4, hr4, hba⟩
       have hrs := ho4.rss hr4 (snapL_ok HM.out.2.1)
       clear ho4 hr4
       have hSa := hHeld.trans (hba.mono hHeld.size)
       replace H10 := H10.below hba
       clear hba hHeld
       refine hK.out _ _ hSa (fun hHeld => ?_)
       clear hK K
       try simp only [Act.put, jA, jB, jC]
       clear hSa
       refine wpAnyH_ready (rs := [5]) (by kernel_rfl) (by simp) (AllReadyH.cons rfl (fun K hK => ?_) AllReadyH.nil)
       rw [if_pos (by rfl)]
       go_wp2_with fail
       refine (compact_out _ d h g u k L m A4 n4 c4 V1 (by rw [← HXD.out]; exact H10.hd) HF.out HZ.out HG.out HU.out HK.out HM.out hrs (HT.out.below hHeld HT.out.pos)).mono ?_
       rintro e V2 ⟨y, er, h2, g2, u2, k2, hcf, v9, rfl, hdy, hba⟩
       obtain ⟨B9, e9, f9, B9', e9', f9', rfl, hxy⟩ := hdy
       have hdy : DkAt V2 V2.heap.size (.agg #[.slice B9 e9 f9, .slice B9' e9' f9', .int .i64 y.fuse, .bool y.down]) y := ⟨B9, e9, f9, B9', e9', f9', rfl, hxy⟩
       clear hxy hrs
       unfold logN
       have hSa := hHeld.trans (hba.mono hHeld.size)
       replace H10 := H10.below hba
       replace H10 := H10.turn hdy
       clear hdy
       clear hba hHeld
       refine hK.out _ _ hSa (fun hHeld => ?_)
       clear hK K
       try simp only [Act.put, jA, jB, jC]
       clear hSa
       refine wpAnyH_take (i := 6) (v := .tuple #[.agg #[.slice B9 e9 f9, .slice B9' e9' f9', .int .i64 y.fuse, .bool y.down], .agg #[.int .i64 (h2 : Int), .int .i64 (g2 : Int), .int .i64 (u2 : Int), .int .i64 (k2 : Int)], .int .i64 er]) rfl (by kernel_rfl) (by kernel_rfl) (by kernel_rfl) (fun _ _ _ h => h) (Or.inl ⟨by rfl, fun w0 hC => by simp [execOp, Act.eval, Act.put, go_sem]⟩) hHeld ?_
       try simp only [Act.put, jA, jB, jC]
       refine wpAnyH_take (i := 7) (v := .agg #[.slice B9 e9 f9, .slice B9' e9' f9', .int .i64 y.fuse, .bool y.down]) rfl (by kernel_rfl) (by kernel_rfl) (by kernel_rfl) (fun _ _ _ h => h) (Or.inl ⟨by rfl, fun w0 hC => by simp [execOp, Act.eval, Act.put, go_sem]⟩) hHeld ?_
       try simp only [Act.put, jA, jB, jC]
       refine wpAnyH_take (i := 8) (v := .agg #[.int .i64 (h2 : Int), .int .i64 (g2 : Int), .int .i64 (u2 : Int), .int .i64 (k2 : Int)]) rfl (by kernel_rfl) (by kernel_rfl) (by kernel_rfl) (fun _ _ _ h => h) (Or.inl ⟨by rfl, fun w0 hC => by simp [execOp, Act.eval, Act.put, go_sem]⟩) hHeld ?_
       try simp only [Act.put, jA, jB, jC]
       refine wpAnyH_take (i := 9) (v := .int .i64 er) rfl (by kernel_rfl) (by kernel_rfl) (by kernel_rfl) (fun _ _ _ h => h) (Or.inl ⟨by rfl, fun w0 hC => by simp [execOp, Act.eval, Act.put, go_sem]⟩) hHeld ?_
       try simp only [Act.put, jA, jB, jC]
       have HS := Lib.hid (H10.disk hl1 ⟨hn12, hn13, hn14, hm1⟩ HNI.out)
       obtain ⟨⟨p0, p1, p2, p3⟩, q0, q1, q2, q3⟩ := H10.k1.four
       unfold stored4 at HS
       clear H10
       refine wpAnyH_ready (rs := [10]) (by kernel_rfl) (by simp) (AllReadyH.cons rfl (fun K hK => ?_) AllReadyH.nil)
       rw [if_pos (by rfl)]
       go_wp2_with fail
       refine k_over _ HS.out ?_
       clear HS p0 p1 p2 p3 q0 q1 q2 q3 hHeld
       intro U1 H10
       refine hK.out _ _ H10.hb (fun hHeld => ?_)
       clear hK K
       try simp only [Act.put, jA, jB, jC]
       have HS := Lib.hid (H10.log hw6 ⟨Ne.symm hm1, Ne.symm hm2, Ne.symm hm3, Ne.symm hm4⟩ HNI.out (.int .i64 (h2 : Int)) (.int .i64 (g2 : Int)) (.int .i64 (u2 : Int)) (.int .i64 (k2 : Int)))
       obtain ⟨⟨p0, p1, p2, p3⟩, q0, q1, q2, q3⟩ := H10.k9.four
       unfold stored4 at HS
       clear H10
       refine wpAnyH_ready (rs := [11]) (by kernel_rfl) (by simp) (AllReadyH.cons rfl (fun K hK => ?_) AllReadyH.nil)
       rw [if_pos (by rfl)]
       go_wp2_with fail
       refine k_over _ HS.out ?_
       clear HS p0 p1 p2 p3 q0 q1 q2 q3 hHeld
       intro U2 H10
       refine hK.out _ _ H10.hb (fun hHeld => ?_)
       clear hK K
       try simp only [Act.put, jA, jB, jC]
       refine wpAnyH_ready (rs := [12]) (by kernel_rfl) (by simp) (AllReadyH.cons rfl (fun K hK => ?_) AllReadyH.nil)
       rw [if_pos (by rfl)]
       go_wp2_with fail
       refine hK.out _ _ hHeld (fun hHeld => ?_)
       clear hK K
       try simp only [Act.put, jA, jB, jC]
       refine wpAnyH_done (by kernel_rfl) ?_ _
       go_wp2_with fail
       go_meet
       exact ⟨y, er, h2, g2, u2, k2, B9, B9', e9, f9, e9', f9', rfl, hcf, H10⟩
      ·rw [if_pos (by rfl)]
       go_wp2_with fail
       refine (snapshot_any A8 n8 c8 m V0 H10.hm HSZ.out (by omega)).mono ?_
       rintro e V3 ⟨A4, n4, c4, us4, rfl, ho4, hr4, hba⟩
       have hrs := ho4.rss hr4 (snapL_ok HM.out.2.1)
       clear ho4 hr4
       have hSa := hHeld.trans (hba.mono hHeld.size)
       replace H10 := H10.below hba
       clear hba hHeld
       refine hK.out _ _ hSa (fun hHeld => ?_)
       clear hK K
       try simp only [Act.put, jA, jB, jC]
       clear hSa
       refine wpAnyH_ready (rs := [2]) (by kernel_rfl) (by simp) (AllReadyH.cons rfl (fun K hK => ?_) AllReadyH.nil)
       rw [if_pos (by rfl)]
       obtain ⟨⟨p0, p1, p2, p3, p4⟩, _⟩ := H10.k2.five
       go_wp2_with fail
       clear p0 p1 p2 p3 p4
       have hSa := hHeld
       clear hHeld
       refine hK.out _ _ hSa (fun hHeld => ?_)
       clear hK K
       try simp only [Act.put, jA, jB, jC]
       clear hSa
       refine wpAnyH_ready (rs := [5]) (by kernel_rfl) (by simp) (AllReadyH.cons rfl (fun K hK => ?_) AllReadyH.nil)
       rw [if_pos (by rfl)]
       go_wp2_with fail
       refine (compact_out _ d h g u k L m A4 n4 c4 V3 (by rw [← HXD.out]; exact H10.hd) HF.out HZ.out HG.out HU.out HK.out HM.out hrs (HT.out.below hHeld HT.out.pos)).mono ?_
       rintro e V4 ⟨y, er, h2, g2, u2, k2, hcf, v9, rfl, hdy, hba⟩
       obtain ⟨B9, e9, f9, B9', e9', f9', rfl, hxy⟩ := hdy
       have hdy : DkAt V4 V4.heap.size (.agg #[.slice B9 e9 f9, .slice B9' e9' f9', .int .i64 y.fuse, .bool y.down]) y := ⟨B9, e9, f9, B9', e9', f9', rfl, hxy⟩
       clear hxy hrs
       unfold logN
       have hSa := hHeld.trans (hba.mono hHeld.size)
       replace H10 := H10.below hba
       replace H10 := H10.turn hdy
       clear hdy
       clear hba hHeld
       refine hK.out _ _ hSa (fun hHeld => ?_)
       clear hK K
       try simp only [Act.put, jA, jB, jC]
       clear hSa
       refine wpAnyH_take (i := 6) (v := .tuple #[.agg #[.slice B9 e9 f9, .slice B9' e9' f9', .int .i64 y.fuse, .bool y.down], .agg #[.int .i64 (h2 : Int), .int .i64 (g2 : Int), .int .i64 (u2 : Int), .int .i64 (k2 : Int)], .int .i64 er]) rfl (by kernel_rfl) (by kernel_rfl) (by kernel_rfl) (fun _ _ _ h => h) (Or.inl ⟨by rfl, fun w0 hC => by simp [execOp, Act.eval, Act.put, go_sem]⟩) hHeld ?_
       try simp only [Act.put, jA, jB, jC]
       refine wpAnyH_take (i := 7) (v := .agg #[.slice B9 e9 f9, .slice B9' e9' f9', .int .i64 y.fuse, .bool y.down]) rfl (by kernel_rfl) (by kernel_rfl) (by kernel_rfl) (fun _ _ _ h => h) (Or.inl ⟨by rfl, fun w0 hC => by simp [execOp, Act.eval, Act.put, go_sem]⟩) hHeld ?_
       try simp only [Act.put, jA, jB, jC]
       refine wpAnyH_take (i := 8) (v := .agg #[.int .i64 (h2 : Int), .int .i64 (g2 : Int), .int .i64 (u2 : Int), .int .i64 (k2 : Int)]) rfl (by kernel_rfl) (by kernel_rfl) (by kernel_rfl) (fun _ _ _ h => h) (Or.inl ⟨by rfl, fun w0 hC => by simp [execOp, Act.eval, Act.put, go_sem]⟩) hHeld ?_
       try simp only [Act.put, jA, jB, jC]
       refine wpAnyH_take (i := 9) (v := .int .i64 er) rfl (by kernel_rfl) (by kernel_rfl) (by kernel_rfl) (fun _ _ _ h => h) (Or.inl ⟨by rfl, fun w0 hC => by simp [execOp, Act.eval, Act.put, go_sem]⟩) hHeld ?_
       try simp only [Act.put, jA, jB, jC]
       have HS := Lib.hid (H10.disk hl1 ⟨hn12, hn13, hn14, hm1⟩ HNI.out)
       obtain ⟨⟨p0, p1, p2, p3⟩, q0, q1, q2, q3⟩ := H10.k1.four
       unfold stored4 at HS
       clear H10
       refine wpAnyH_ready (rs := [10]) (by kernel_rfl) (by simp) (AllReadyH.cons rfl (fun K hK => ?_) AllReadyH.nil)
       rw [if_pos (by rfl)]
       go_wp2_with fail
       refine k_over _ HS.out ?_
       clear HS p0 p1 p2 p3 q0 q1 q2 q3 hHeld
       intro U1 H10
       refine hK.out _ _ H10.hb (fun hHeld => ?_)
       clear hK K
       try simp only [Act.put, jA, jB, jC]
       have HS := Lib.hid (H10.log hw6 ⟨Ne.symm hm1, Ne.symm hm2, Ne.symm hm3, Ne.symm hm4⟩ HNI.out (.int .i64 (h2 : Int)) (.int .i64 (g2 : Int)) (.int .i64 (u2 : Int)) (.int .i64 (k2 : Int)))
       obtain ⟨⟨p0, p1, p2, p3⟩, q0, q1, q2, q3⟩ := H10.k9.four
       unfold stored4 at HS
       clear H10
       refine wpAnyH_ready (rs := [11]) (by kernel_rfl) (by simp) (AllReadyH.cons rfl (fun K hK => ?_) AllReadyH.nil)
       rw [if_pos (by rfl)]
       go_wp2_with fail
       refine k_over _ HS.out ?_
       clear HS p0 p1 p2 p3 q0 q1 q2 q3 hHeld
       intro U2 H10
       refine hK.out _ _ H10.hb (fun hHeld => ?_)
       clear hK K
       try simp only [Act.put, jA, jB, jC]
       refine wpAnyH_ready (rs := [12]) (by kernel_rfl) (by simp) (AllReadyH.cons rfl (fun K hK => ?_) AllReadyH.nil)
       rw [if_pos (by rfl)]
       go_wp2_with fail
       refine hK.out _ _ hHeld (fun hHeld => ?_)
       clear hK K
       try simp only [Act.put, jA, jB, jC]
       refine wpAnyH_done (by kernel_rfl) ?_ _
       go_wp2_with fail
       go_meet
       exact ⟨y, er, h2, g2, u2, k2, B9, B9', e9, f9, e9', f9', rfl, hcf, H10⟩
     ·rw [if_pos (by rfl)]
      obtain ⟨⟨p0, p1, p2, p3, p4⟩, _⟩ := H10.k2.five
      go_wp2_with fail
      clear p0 p1 p2 p3 p4
      have hSa := hHeld
      clear hHeld
      refine hK.out _ _ hSa (fun hHeld => ?_)
      clear hK K
      try simp only [Act.put, jA, jB, jC]
      clear hSa
      refine wpAnyH_ready (rs := [0, 4]) (by kernel_rfl) (by simp) (AllReadyH.cons rfl (fun K hK => ?_) (AllReadyH.cons rfl (fun K hK => ?_) AllReadyH.nil))
      ·rw [if_pos (by rfl)]
       obtain ⟨⟨p0, p1, p2, p3⟩, _⟩ := H10.k1.four
       go_wp2_with fail
       clear p0 p1 p2 p3
       have hSa := hHeld
       clear hHeld
       refine hK.out _ _ hSa (fun hHeld => ?_)
       clear hK K
       try simp only [Act.put, jA, jB, jC]
       clear hSa
       refine wpAnyH_ready (rs := [4]) (by kernel_rfl) (by simp) (AllReadyH.cons rfl (fun K hK => ?_) AllReadyH.nil)
       rw [if_pos (by rfl)]
       go_wp2_with fail
       refine (snapshot_any A8 n8 c8 m V0 H10.hm HSZ.out (by omega)).mono ?_
       rintro e V5 ⟨A4, n4, c4, us4, rfl, ho4, hr4, hba⟩
       have hrs := ho4.rss hr4 (snapL_ok HM.out.2.1)
       clear ho4 hr4
       have hSa := hHeld.trans (hba.mono hHeld.size)
       replace H10 := H10.below hba
       clear hba hHeld
       refine hK.out _ _ hSa (fun hHeld => ?_)
       clear hK K
       try simp only [Act.put, jA, jB, jC]
       clear hSa
       refine wpAnyH_ready (rs := [5]) (by kernel_rfl) (by simp) (AllReadyH.cons rfl (fun K hK => ?_) AllReadyH.nil)
       rw [if_pos (by rfl)]
       go_wp2_with fail
       refine (compact_out _ d h g u k L m A4 n4 c4 V5 (by rw [← HXD.out]; exact H10.hd) HF.out HZ.out HG.out HU.out HK.out HM.out hrs (HT.out.below hHeld HT.out.pos)).mono ?_
       rintro e V6 ⟨y, er, h2, g2, u2, k2, hcf, v9, rfl, hdy, hba⟩
       obtain ⟨B9, e9, f9, B9', e9', f9', rfl, hxy⟩ := hdy
       have hdy : DkAt V6 V6.heap.size (.agg #[.slice B9 e9 f9, .slice B9' e9' f9', .int .i64 y.fuse, .bool y.down]) y := ⟨B9, e9, f9, B9', e9', f9', rfl, hxy⟩
       clear hxy hrs
       unfold logN
       have hSa := hHeld.trans (hba.mono hHeld.size)
       replace H10 := H10.below hba
       replace H10 := H10.turn hdy
       clear hdy
       clear hba hHeld
       refine hK.out _ _ hSa (fun hHeld => ?_)
       clear hK K
       try simp only [Act.put, jA, jB, jC]
       clear hSa
       refine wpAnyH_take (i := 6) (v := .tuple #[.agg #[.slice B9 e9 f9, .slice B9' e9' f9', .int .i64 y.fuse, .bool y.down], .agg #[.int .i64 (h2 : Int), .int .i64 (g2 : Int), .int .i64 (u2 : Int), .int .i64 (k2 : Int)], .int .i64 er]) rfl (by kernel_rfl) (by kernel_rfl) (by kernel_rfl) (fun _ _ _ h => h) (Or.inl ⟨by rfl, fun w0 hC => by simp [execOp, Act.eval, Act.put, go_sem]⟩) hHeld ?_
       try simp only [Act.put, jA, jB, jC]
       refine wpAnyH_take (i := 7) (v := .agg #[.slice B9 e9 f9, .slice B9' e9' f9', .int .i64 y.fuse, .bool y.down]) rfl (by kernel_rfl) (by kernel_rfl) (by kernel_rfl) (fun _ _ _ h => h) (Or.inl ⟨by rfl, fun w0 hC => by simp [execOp, Act.eval, Act.put, go_sem]⟩) hHeld ?_
       try simp only [Act.put, jA, jB, jC]
       refine wpAnyH_take (i := 8) (v := .agg #[.int .i64 (h2 : Int), .int .i64 (g2 : Int), .int .i64 (u2 : Int), .int .i64 (k2 : Int)]) rfl (by kernel_rfl) (by kernel_rfl) (by kernel_rfl) (fun _ _ _ h => h) (Or.inl ⟨by rfl, fun w0 hC => by simp [execOp, Act.eval, Act.put, go_sem]⟩) hHeld ?_
       try simp only [Act.put, jA, jB, jC]
       refine wpAnyH_take (i := 9) (v := .int .i64 er) rfl (by kernel_rfl) (by kernel_rfl) (by kernel_rfl) (fun _ _ _ h => h) (Or.inl ⟨by rfl, fun w0 hC => by simp [execOp, Act.eval, Act.put, go_sem]⟩) hHeld ?_
       try simp only [Act.put, jA, jB, jC]
       have HS := Lib.hid (H10.disk hl1 ⟨hn12, hn13, hn14, hm1⟩ HNI.out)
       obtain ⟨⟨p0, p1, p2, p3⟩, q0, q1, q2, q3⟩ := H10.k1.four
       unfold stored4 at HS
       clear H10
       refine wpAnyH_ready (rs := [10]) (by kernel_rfl) (by simp) (AllReadyH.cons rfl (fun K hK => ?_) AllReadyH.nil)
       rw [if_pos (by rfl)]
       go_wp2_with fail
       refine k_over _ HS.out ?_
       clear HS p0 p1 p2 p3 q0 q1 q2 q3 hHeld
       intro U1 H10
       refine hK.out _ _ H10.hb (fun hHeld => ?_)
       clear hK K
       try simp only [Act.put, jA, jB, jC]
       have HS := Lib.hid (H10.log hw6 ⟨Ne.symm hm1, Ne.symm hm2, Ne.symm hm3, Ne.symm hm4⟩ HNI.out (.int .i64 (h2 : Int)) (.int .i64 (g2 : Int)) (.int .i64 (u2 : Int)) (.int .i64 (k2 : Int)))
       obtain ⟨⟨p0, p1, p2, p3⟩, q0, q1, q2, q3⟩ := H10.k9.four
       unfold stored4 at HS
       clear H10
       refine wpAnyH_ready (rs := [11]) (by kernel_rfl) (by simp) (AllReadyH.cons rfl (fun K hK => ?_) AllReadyH.nil)
       rw [if_pos (by rfl)]
       go_wp2_with fail
       refine k_over _ HS.out ?_
       clear HS p0 p1 p2 p3 q0 q1 q2 q3 hHeld
       intro U2 H10
       refine hK.out _ _ H10.hb (fun hHeld => ?_)
       clear hK K
       try simp only [Act.put, jA, jB, jC]
       refine wpAnyH_ready (rs := [12]) (by kernel_rfl) (by simp) (AllReadyH.cons rfl (fun K hK => ?_) AllReadyH.nil)
       rw [if_pos (by rfl)]
       go_wp2_with fail
       refine hK.out _ _ hHeld (fun hHeld => ?_)
       clear hK K
       try simp only [Act.put, jA, jB, jC]
       refine wpAnyH_done (by kernel_rfl) ?_ _
       go_wp2_with fail
       go_meet
       exact ⟨y, er, h2, g2, u2, k2, B9, B9', e9, f9, e9', f9', rfl, hcf, H10⟩
      ·rw [if_pos (by rfl)]
       go_wp2_with fail
       refine (snapshot_any A8 n8 c8 m V0 H10.hm HSZ.out (by omega)).mono ?_
       rintro e V7 ⟨A4, n4, c4, us4, rfl, ho4, hr4, hba⟩
       have hrs := ho4.rss hr4 (snapL_ok HM.out.2.1)
       clear ho4 hr4
       have hSa := hHeld.trans (hba.mono hHeld.size)
       replace H10 := H10.below hba
       clear hba hHeld
       refine hK.out _ _ hSa (fun hHeld => ?_)
       clear hK K
       try simp only [Act.put, jA, jB, jC]
       clear hSa
       refine wpAnyH_ready (rs := [0]) (by kernel_rfl) (by simp) (AllReadyH.cons rfl (fun K hK => ?_) AllReadyH.nil)
       rw [if_pos (by rfl)]
       obtain ⟨⟨p0, p1, p2, p3⟩, _⟩ := H10.k1.four
       go_wp2_with fail
       clear p0 p1 p2 p3
       have hSa := hHeld
       clear hHeld
       refine hK.out _ _ hSa (fun hHeld => ?_)
       clear hK K
       try simp only [Act.put, jA, jB, jC]
       clear hSa
       refine wpAnyH_ready (rs := [5]) (by kernel_rfl) (by simp) (AllReadyH.cons rfl (fun K hK => ?_) AllReadyH.nil)
       rw [if_pos (by rfl)]
       go_wp2_with fail
       refine (compact_out _ d h g u k L m A4 n4 c4 V7 (by rw [← HXD.out]; exact H10.hd) HF.out HZ.out HG.out HU.out HK.out HM.out hrs (HT.out.below hHeld HT.out.pos)).mono ?_
       rintro e V8 ⟨y, er, h2, g2, u2, k2, hcf, v9, rfl, hdy, hba⟩
       obtain ⟨B9, e9, f9, B9', e9', f9', rfl, hxy⟩ := hdy
       have hdy : DkAt V8 V8.heap.size (.agg #[.slice B9 e9 f9, .slice B9' e9' f9', .int .i64 y.fuse, .bool y.down]) y := ⟨B9, e9, f9, B9', e9', f9', rfl, hxy⟩
       clear hxy hrs
       unfold logN
       have hSa := hHeld.trans (hba.mono hHeld.size)
       replace H10 := H10.below hba
       replace H10 := H10.turn hdy
       clear hdy
       clear hba hHeld
       refine hK.out _ _ hSa (fun hHeld => ?_)
       clear hK K
       try simp only [Act.put, jA, jB, jC]
       clear hSa
       refine wpAnyH_take (i := 6) (v := .tuple #[.agg #[.slice B9 e9 f9, .slice B9' e9' f9', .int .i64 y.fuse, .bool y.down], .agg #[.int .i64 (h2 : Int), .int .i64 (g2 : Int), .int .i64 (u2 : Int), .int .i64 (k2 : Int)], .int .i64 er]) rfl (by kernel_rfl) (by kernel_rfl) (by kernel_rfl) (fun _ _ _ h => h) (Or.inl ⟨by rfl, fun w0 hC => by simp [execOp, Act.eval, Act.put, go_sem]⟩) hHeld ?_
       try simp only [Act.put, jA, jB, jC]
       refine wpAnyH_take (i := 7) (v := .agg #[.slice B9 e9 f9, .slice B9' e9' f9', .int .i64 y.fuse, .bool y.down]) rfl (by kernel_rfl) (by kernel_rfl) (by kernel_rfl) (fun _ _ _ h => h) (Or.inl ⟨by rfl, fun w0 hC => by simp [execOp, Act.eval, Act.put, go_sem]⟩) hHeld ?_
       try simp only [Act.put, jA, jB, jC]
       refine wpAnyH_take (i := 8) (v := .agg #[.int .i64 (h2 : Int), .int .i64 (g2 : Int), .int .i64 (u2 : Int), .int .i64 (k2 : Int)]) rfl (by kernel_rfl) (by kernel_rfl) (by kernel_rfl) (fun _ _ _ h => h) (Or.inl ⟨by rfl, fun w0 hC => by simp [execOp, Act.eval, Act.put, go_sem]⟩) hHeld ?_
       try simp only [Act.put, jA, jB, jC]
       refine wpAnyH_take (i := 9) (v := .int .i64 er) rfl (by kernel_rfl) (by kernel_rfl) (by kernel_rfl) (fun _ _ _ h => h) (Or.inl ⟨by rfl, fun w0 hC => by simp [execOp, Act.eval, Act.put, go_sem]⟩) hHeld ?_
       try simp only [Act.put, jA, jB, jC]
       have HS := Lib.hid (H10.disk hl1 ⟨hn12, hn13, hn14, hm1⟩ HNI.out)
       obtain ⟨⟨p0, p1, p2, p3⟩, q0, q1, q2, q3⟩ := H10.k1.four
       unfold stored4 at HS
       clear H10
       refine wpAnyH_ready (rs := [10]) (by kernel_rfl) (by simp) (AllReadyH.cons rfl (fun K hK => ?_) AllReadyH.nil)
       rw [if_pos (by rfl)]
       go_wp2_with fail
       refine k_over _ HS.out ?_
       clear HS p0 p1 p2 p3 q0 q1 q2 q3 hHeld
       intro U1 H10
       refine hK.out _ _ H10.hb (fun hHeld => ?_)
       clear hK K
       try simp only [Act.put, jA, jB, jC]
       have HS := Lib.hid (H10.log hw6 ⟨Ne.symm hm1, Ne.symm hm2, Ne.symm hm3, Ne.symm hm4⟩ HNI.out (.int .i64 (h2 : Int)) (.int .i64 (g2 : Int)) (.int .i64 (u2 : Int)) (.int .i64 (k2 : Int)))
       obtain ⟨⟨p0, p1, p2, p3⟩, q0, q1, q2, q3⟩ := H10.k9.four
       unfold stored4 at HS
       clear H10
       refine wpAnyH_ready (rs := [11]) (by kernel_rfl) (by simp) (AllReadyH.cons rfl (fun K hK => ?_) AllReadyH.nil)
       rw [if_pos (by rfl)]
       go_wp2_with fail
       refine k_over _ HS.out ?_
       clear HS p0 p1 p2 p3 q0 q1 q2 q3 hHeld
       intro U2 H10
       refine hK.out _ _ H10.hb (fun hHeld => ?_)
       clear hK K
       try simp only [Act.put, jA, jB, jC]
       refine wpAnyH_ready (rs := [12]) (by kernel_rfl) (by simp) (AllReadyH.cons rfl (fun K hK => ?_) AllReadyH.nil)
       rw [if_pos (by rfl)]
       go_wp2_with fail
       refine hK.out _ _ hHeld (fun hHeld => ?_)
       clear hK K
       try simp only [Act.put, jA, jB, jC]
       refine wpAnyH_done (by kernel_rfl) ?_ _
       go_wp2_with fail
       go_meet
       exact ⟨y, er, h2, g2, u2, k2, B9, B9', e9, f9, e9', f9', rfl, hcf, H10⟩
     ·rw [if_pos (by rfl)]
      go_wp2_with fail
      refine (snapshot_any A8 n8 c8 m V0 H10.hm HSZ.out (by omega)).mono ?_
      rintro e V9 ⟨A4, n4, c4, us4, rfl, ho4, hr4, hba⟩
      have hrs := ho4.rss hr4 (snapL_ok HM.out.2.1)
      clear ho4 hr4
      have hSa := hHeld.trans (hba.mono hHeld.size)
      replace H10 := H10.below hba
      clear hba hHeld
      refine hK.out _ _ hSa (fun hHeld => ?_)
      clear hK K
      try simp only [Act.put, jA, jB, jC]
      clear hSa
      refine wpAnyH_ready (rs := [0, 2]) (by kernel_rfl) (by simp) (AllReadyH.cons rfl (fun K hK => ?_) (AllReadyH.cons rfl (fun K hK => ?_) AllReadyH.nil))
      ·rw [if_pos (by rfl)]
       obtain ⟨⟨p0, p1, p2, p3⟩, _⟩ := H10.k1.four
       go_wp2_with fail
       clear p0 p1 p2 p3
       have hSa := hHeld
       clear hHeld
       refine hK.out _ _ hSa (fun hHeld => ?_)
       clear hK K
       try simp only [Act.put, jA, jB, jC]
       clear hSa
       refine wpAnyH_ready (rs := [2]) (by kernel_rfl) (by simp) (AllReadyH.cons rfl (fun K hK => ?_) AllReadyH.nil)
       rw [if_pos (by rfl)]
       obtain ⟨⟨p0, p1, p2, p3, p4⟩, _⟩ := H10.k2.five
       go_wp2_with fail
       clear p0 p1 p2 p3 p4
       have hSa := hHeld
       clear hHeld
       refine hK.out _ _ hSa (fun hHeld => ?_)
       clear hK K
       try simp only [Act.put, jA, jB, jC]
       clear hSa
       refine wpAnyH_ready (rs := [5]) (by kernel_rfl) (by simp) (AllReadyH.cons rfl (fun K hK => ?_) AllReadyH.nil)
       rw [if_pos (by rfl)]
       go_wp2_with fail
       refine (compact_out _ d h g u k L m A4 n4 c4 V9 (by rw [← HXD.out]; exact H10.hd) HF.out HZ.out HG.out HU.out HK.out HM.out hrs (HT.out.below hHeld HT.out.pos)).mono ?_
       rintro e V10 ⟨y, er, h2, g2, u2, k2, hcf, v9, rfl, hdy, hba⟩
       obtain ⟨B9, e9, f9, B9', e9', f9', rfl, hxy⟩ := hdy
       have hdy : DkAt V10 V10.heap.size (.agg #[.slice B9 e9 f9, .slice B9' e9' f9', .int .i64 y.fuse, .bool y.down]) y := ⟨B9, e9, f9, B9', e9', f9', rfl, hxy⟩
       clear hxy hrs
       unfold logN
       have hSa := hHeld.trans (hba.mono hHeld.size)
       replace H10 := H10.below hba
       replace H10 := H10.turn hdy
       clear hdy
       clear hba hHeld
       refine hK.out _ _ hSa (fun hHeld => ?_)
       clear hK K
       try simp only [Act.put, jA, jB, jC]
       clear hSa
       refine wpAnyH_take (i := 6) (v := .tuple #[.agg #[.slice B9 e9 f9, .slice B9' e9' f9', .int .i64 y.fuse, .bool y.down], .agg #[.int .i64 (h2 : Int), .int .i64 (g2 : Int), .int .i64 (u2 : Int), .int .i64 (k2 : Int)], .int .i64 er]) rfl (by kernel_rfl) (by kernel_rfl) (by kernel_rfl) (fun _ _ _ h => h) (Or.inl ⟨by rfl, fun w0 hC => by simp [execOp, Act.eval, Act.put, go_sem]⟩) hHeld ?_
       try simp only [Act.put, jA, jB, jC]
       refine wpAnyH_take (i := 7) (v := .agg #[.slice B9 e9 f9, .slice B9' e9' f9', .int .i64 y.fuse, .bool y.down]) rfl (by kernel_rfl) (by kernel_rfl) (by kernel_rfl) (fun _ _ _ h => h) (Or.inl ⟨by rfl, fun w0 hC => by simp [execOp, Act.eval, Act.put, go_sem]⟩) hHeld ?_
       try simp only [Act.put, jA, jB, jC]
       refine wpAnyH_take (i := 8) (v := .agg #[.int .i64 (h2 : Int), .int .i64 (g2 : Int), .int .i64 (u2 : Int), .int .i64 (k2 : Int)]) rfl (by kernel_rfl) (by kernel_rfl) (by kernel_rfl) (fun _ _ _ h => h) (Or.inl ⟨by rfl, fun w0 hC => by simp [execOp, Act.eval, Act.put, go_sem]⟩) hHeld ?_
       try simp only [Act.put, jA, jB, jC]
       refine wpAnyH_take (i := 9) (v := .int .i64 er) rfl (by kernel_rfl) (by kernel_rfl) (by kernel_rfl) (fun _ _ _ h => h) (Or.inl ⟨by rfl, fun w0 hC => by simp [execOp, Act.eval, Act.put, go_sem]⟩) hHeld ?_
       try simp only [Act.put, jA, jB, jC]
       have HS := Lib.hid (H10.disk hl1 ⟨hn12, hn13, hn14, hm1⟩ HNI.out)
       obtain ⟨⟨p0, p1, p2, p3⟩, q0, q1, q2, q3⟩ := H10.k1.four
       unfold stored4 at HS
       clear H10
       refine wpAnyH_ready (rs := [10]) (by kernel_rfl) (by simp) (AllReadyH.cons rfl (fun K hK => ?_) AllReadyH.nil)
       rw [if_pos (by rfl)]
       go_wp2_with fail
       refine k_over _ HS.out ?_
       clear HS p0 p1 p2 p3 q0 q1 q2 q3 hHeld
       intro U1 H10
       refine hK.out _ _ H10.hb (fun hHeld => ?_)
       clear hK K
       try simp only [Act.put, jA, jB, jC]
       have HS := Lib.hid (H10.log hw6 ⟨Ne.symm hm1, Ne.symm hm2, Ne.symm hm3, Ne.symm hm4⟩ HNI.out (.int .i64 (h2 : Int)) (.int .i64 (g2 : Int)) (.int .i64 (u2 : Int)) (.int .i64 (k2 : Int)))
       obtain ⟨⟨p0, p1, p2, p3⟩, q0, q1, q2, q3⟩ := H10.k9.four
       unfold stored4 at HS
       clear H10
       refine wpAnyH_ready (rs := [11]) (by kernel_rfl) (by simp) (AllReadyH.cons rfl (fun K hK => ?_) AllReadyH.nil)
       rw [if_pos (by rfl)]
       go_wp2_with fail
       refine k_over _ HS.out ?_
       clear HS p0 p1 p2 p3 q0 q1 q2 q3 hHeld
       intro U2 H10
       refine hK.out _ _ H10.hb (fun hHeld => ?_)
       clear hK K
       try simp only [Act.put, jA, jB, jC]
       refine wpAnyH_ready (rs := [12]) (by kernel_rfl) (by simp) (AllReadyH.cons rfl (fun K hK => ?_) AllReadyH.nil)
       rw [if_pos (by rfl)]
       go_wp2_with fail
       refine hK.out _ _ hHeld (fun hHeld => ?_)
       clear hK K
       try simp only [Act.put, jA, jB, jC]
       refine wpAnyH_done (by kernel_rfl) ?_ _
       go_wp2_with fail
       go_meet
       exact ⟨y, er, h2, g2, u2, k2, B9, B9', e9, f9, e9', f9', rfl, hcf, H10⟩
      ·rw [if_pos (by rfl)]
       obtain ⟨⟨p0, p1, p2, p3, p4⟩, _⟩ := H10.k2.five
       go_wp2_with fail
       clear p0 p1 p2 p3 p4
       have hSa := hHeld
       clear hHeld
       refine hK.out _ _ hSa (fun hHeld => ?_)
       clear hK K
       try simp only [Act.put, jA, jB, jC]
       clear hSa
       refine wpAnyH_ready (rs := [0]) (by kernel_rfl) (by simp) (AllReadyH.cons rfl (fun K hK => ?_) AllReadyH.nil)
       rw [if_pos (by rfl)]
       obtain ⟨⟨p0, p1, p2, p3⟩, _⟩ := H10.k1.four
       go_wp2_with fail
       clear p0 p1 p2 p3
       have hSa := hHeld
       clear hHeld
       refine hK.out _ _ hSa (fun hHeld => ?_)
       clear hK K
       try simp only [Act.put, jA, jB, jC]
       clear hSa
       refine wpAnyH_ready (rs := [5]) (by kernel_rfl) (by simp) (AllReadyH.cons rfl (fun K hK => ?_) AllReadyH.nil)
       rw [if_pos (by rfl)]
       go_wp2_with fail
       refine (compact_out _ d h g u k L m A4 n4 c4 V9 (by rw [← HXD.out]; exact H10.hd) HF.out HZ.out HG.out HU.out HK.out HM.out hrs (HT.out.below hHeld HT.out.pos)).mono ?_
       rintro e V11 ⟨y, er, h2, g2, u2, k2, hcf, v9, rfl, hdy, hba⟩
       obtain ⟨B9, e9, f9, B9', e9', f9', rfl, hxy⟩ := hdy
       have hdy : DkAt V11 V11.heap.size (.agg #[.slice B9 e9 f9, .slice B9' e9' f9', .int .i64 y.fuse, .bool y.down]) y := ⟨B9, e9, f9, B9', e9', f9', rfl, hxy⟩
       clear hxy hrs
       unfold logN
       have hSa := hHeld.trans (hba.mono hHeld.size)
       replace H10 := H10.below hba
       replace H10 := H10.turn hdy
       clear hdy
       clear hba hHeld
       refine hK.out _ _ hSa (fun hHeld => ?_)
       clear hK K
       try simp only [Act.put, jA, jB, jC]
       clear hSa
       refine wpAnyH_take (i := 6) (v := .tuple #[.agg #[.slice B9 e9 f9, .slice B9' e9' f9', .int .i64 y.fuse, .bool y.down], .agg #[.int .i64 (h2 : Int), .int .i64 (g2 : Int), .int .i64 (u2 : Int), .int .i64 (k2 : Int)], .int .i64 er]) rfl (by kernel_rfl) (by kernel_rfl) (by kernel_rfl) (fun _ _ _ h => h) (Or.inl ⟨by rfl, fun w0 hC => by simp [execOp, Act.eval, Act.put, go_sem]⟩) hHeld ?_
       try simp only [Act.put, jA, jB, jC]
       refine wpAnyH_take (i := 7) (v := .agg #[.slice B9 e9 f9, .slice B9' e9' f9', .int .i64 y.fuse, .bool y.down]) rfl (by kernel_rfl) (by kernel_rfl) (by kernel_rfl) (fun _ _ _ h => h) (Or.inl ⟨by rfl, fun w0 hC => by simp [execOp, Act.eval, Act.put, go_sem]⟩) hHeld ?_
       try simp only [Act.put, jA, jB, jC]
       refine wpAnyH_take (i := 8) (v := .agg #[.int .i64 (h2 : Int), .int .i64 (g2 : Int), .int .i64 (u2 : Int), .int .i64 (k2 : Int)]) rfl (by kernel_rfl) (by kernel_rfl) (by kernel_rfl) (fun _ _ _ h => h) (Or.inl ⟨by rfl, fun w0 hC => by simp [execOp, Act.eval, Act.put, go_sem]⟩) hHeld ?_
       try simp only [Act.put, jA, jB, jC]
       refine wpAnyH_take (i := 9) (v := .int .i64 er) rfl (by kernel_rfl) (by kernel_rfl) (by kernel_rfl) (fun _ _ _ h => h) (Or.inl ⟨by rfl, fun w0 hC => by simp [execOp, Act.eval, Act.put, go_sem]⟩) hHeld ?_
       try simp only [Act.put, jA, jB, jC]
       have HS := Lib.hid (H10.disk hl1 ⟨hn12, hn13, hn14, hm1⟩ HNI.out)
       obtain ⟨⟨p0, p1, p2, p3⟩, q0, q1, q2, q3⟩ := H10.k1.four
       unfold stored4 at HS
       clear H10
       refine wpAnyH_ready (rs := [10]) (by kernel_rfl) (by simp) (AllReadyH.cons rfl (fun K hK => ?_) AllReadyH.nil)
       rw [if_pos (by rfl)]
       go_wp2_with fail
       refine k_over _ HS.out ?_
       clear HS p0 p1 p2 p3 q0 q1 q2 q3 hHeld
       intro U1 H10
       refine hK.out _ _ H10.hb (fun hHeld => ?_)
       clear hK K
       try simp only [Act.put, jA, jB, jC]
       have HS := Lib.hid (H10.log hw6 ⟨Ne.symm hm1, Ne.symm hm2, Ne.symm hm3, Ne.symm hm4⟩ HNI.out (.int .i64 (h2 : Int)) (.int .i64 (g2 : Int)) (.int .i64 (u2 : Int)) (.int .i64 (k2 : Int)))
       obtain ⟨⟨p0, p1, p2, p3⟩, q0, q1, q2, q3⟩ := H10.k9.four
       unfold stored4 at HS
       clear H10
       refine wpAnyH_ready (rs := [11]) (by kernel_rfl) (by simp) (AllReadyH.cons rfl (fun K hK => ?_) AllReadyH.nil)
       rw [if_pos (by rfl)]
       go_wp2_with fail
       refine k_over _ HS.out ?_
       clear HS p0 p1 p2 p3 q0 q1 q2 q3 hHeld
       intro U2 H10
       refine hK.out _ _ H10.hb (fun hHeld => ?_)
       clear hK K
       try simp only [Act.put, jA, jB, jC]
       refine wpAnyH_ready (rs := [12]) (by kernel_rfl) (by simp) (AllReadyH.cons rfl (fun K hK => ?_) AllReadyH.nil)
       rw [if_pos (by rfl)]
       go_wp2_with fail
       refine hK.out _ _ hHeld (fun hHeld => ?_)
       clear hK K
       try simp only [Act.put, jA, jB, jC]
       refine wpAnyH_done (by kernel_rfl) ?_ _
       go_wp2_with fail
       go_meet
       exact ⟨y, er, h2, g2, u2, k2, B9, B9', e9, f9, e9', f9', rfl, hcf, H10⟩
    case rest =>
     obtain ⟨y, er, h2, g2, u2, k2, B9, B9', e9, f9, e9', f9', rfl, hcf, HC⟩ := hcut
     rcases hcf.out with ⟨hfull, hy, rfl⟩ | ⟨rfl, hh2, hg2, hu2, hk2, hRy, hfy, hZy⟩ | ⟨rfl, hfd, hRy, hly, hZy⟩
     ·have HFULL := Lib.hid hfull; have HYD := Lib.hid hy
      clear hfull hy
      have HTB := two_boxesS (x := y) (h : Int) (g : Int) (u : Int) (k : Int) A5 n5 c5 HC.k3 HC.k4 hn34 HC.hd HC.hb hl3 hl4
      unfold stored5 stored4 at HTB
      obtain ⟨⟨p0, p1, p2, p3⟩, q0, q1, q2, q3⟩ := HC.k1.four
      obtain ⟨⟨s0, s1, s2, s3, s4⟩, _⟩ := HC.k2.five
      obtain ⟨⟨t0, t1, t2, t3⟩, r0, r1, r2, r3⟩ := HC.k3.four
      obtain ⟨⟨v0, v1, v2, v3, v4⟩, y0, y1, y2, y3, y4⟩ := HC.k4.five
      clear HC hcf
      go_wp2_with fail
      go_region
      refine post_over (LiesS w b3 b4 B9 B9' e9 f9 e9' f9' y (h : Int) (g : Int) (u : Int) (k : Int) A5 n5 c5) HTB.out.drew ?_
      intro W' HW
      clear p0 p1 p2 p3 q0 q1 q2 q3 s0 s1 s2 s3 s4 t0 t1 t2 t3 r0 r1 r2 r3 v0 v1 v2 v3 v4 y0 y1 y2 y3 y4 HTB
      have HW' := Lib.hid HW
      clear HW
      go_wp2
      refine bodyPost_ret (v := .tuple #[.agg #[.slice B9 e9 f9, .slice B9' e9' f9', .int .i64 y.fuse, .bool y.down], .agg #[.int .i64 (h : Int), .int .i64 (g : Int), .int .i64 (u : Int), .int .i64 (k : Int), .slice A5 n5 c5], .int .i64 8]) ?_ rfl (.inl ⟨.inr (.inr (.inr ⟨(by rw [← HU.out]; exact HROOM.out), fun m' hm' => by rw [hm'.unique HLM.out]; exact HFULL.out⟩)), 8, (by decide), by rw [← HU.out, ← HK.out, ← HYD.out]; exact ⟨_, rfl, HW'.out.2.2.1, HW'.out.2.2.2⟩⟩)
      exact results_cct (fn := Tryz.f9) (a1 := ⟨b3, 0, none⟩) (a2 := ⟨b4, 0, none⟩) rfl rfl rfl rfl (load_box4 HW'.out.1) (load_store5 HW'.out.2.1)
     ·have HRY := Lib.hid hRy; have HFY := Lib.hid hfy; have HZY : Hid (HoldsZ n y h2 g2 (snapL m)) := Lib.hid (by rw [hh2, hg2]; exact hZy); have HG2 : Hid (g2 ≤ g + 1) := Lib.hid (by omega); have HU2 := Lib.hid hu2; have HK2 := Lib.hid hk2
      clear hRy hfy hZy hh2 hg2 hu2 hk2 hcf
      obtain ⟨⟨p0, p1, p2, p3⟩, q0, q1, q2, q3⟩ := HC.k1.four
      obtain ⟨⟨s0, s1, s2, s3⟩, _⟩ := HC.k9.four
      obtain ⟨⟨t0, t1, t2, t3⟩, r0, r1, r2, r3⟩ := HC.k3.four
      obtain ⟨⟨v0, v1, v2, v3, v4⟩, y0, y1, y2, y3, y4⟩ := HC.k4.five
      have HTB := HC.fill (c8 := c8) (y0 := (h2 : Int)) (y1 := (g2 : Int)) (y2 := (u2 : Int)) (y3 := (k2 : Int)) hl3 hl4 hn34 HNI.out
      unfold stored5 stored4 at HTB
      clear HC
      go_wp2_with fail
      go_region
      refine post_over _ HTB.out.drewC ?_
      rintro W' ⟨HW, hmW⟩
      clear p0 p1 p2 p3 q0 q1 q2 q3 s0 s1 s2 s3 t0 t1 t2 t3 r0 r1 r2 r3 v0 v1 v2 v3 v4 y0 y1 y2 y3 y4 HTB
      have HW' := Lib.hid HW
      have HMW := Lib.hid hmW
      clear HW hmW
      go_wp2
      refine bodyPost_ret (v := .tuple #[.agg #[.slice B9 e9 f9, .slice B9' e9' f9', .int .i64 y.fuse, .bool y.down], .agg #[.int .i64 (h2 : Int), .int .i64 (g2 : Int), .int .i64 (u2 : Int), .int .i64 (k2 : Int), .slice A8 n8 c8], .int .i64 0]) ?_ rfl (.inr (.inl ⟨y, h2, g2, snapL m, A8, n8, c8, m, HRY.out, HFY.out, HZY.out, HG2.out, HCC.out, HM.out, HLM.out, .inr rfl, HMW.out, by rw [← HU2.out, ← HK2.out]; exact ⟨_, rfl, HW'.out.2.2.1, HW'.out.2.2.2⟩⟩))
      exact results_cct (fn := Tryz.f9) (a1 := ⟨b3, 0, none⟩) (a2 := ⟨b4, 0, none⟩) rfl rfl rfl rfl (load_box4 HW'.out.1) (load_store5 HW'.out.2.1)
     ·have HFD := Lib.hid hfd; have HRY := Lib.hid hRy; have HLY := Lib.hid hly; have HZY := Lib.hid hZy
      clear hfd hRy hly hZy
      have HTB := two_boxesS (x := y) (h : Int) (g : Int) (u : Int) (k : Int) A5 n5 c5 HC.k3 HC.k4 hn34 HC.hd HC.hb hl3 hl4
      unfold stored5 stored4 at HTB
      obtain ⟨⟨p0, p1, p2, p3⟩, q0, q1, q2, q3⟩ := HC.k1.four
      obtain ⟨⟨s0, s1, s2, s3, s4⟩, _⟩ := HC.k2.five
      obtain ⟨⟨t0, t1, t2, t3⟩, r0, r1, r2, r3⟩ := HC.k3.four
      obtain ⟨⟨v0, v1, v2, v3, v4⟩, y0, y1, y2, y3, y4⟩ := HC.k4.five
      clear HC hcf
      go_wp2_with fail
      go_region
      refine post_over (LiesS w b3 b4 B9 B9' e9 f9 e9' f9' y (h : Int) (g : Int) (u : Int) (k : Int) A5 n5 c5) HTB.out.drew ?_
      intro W' HW
      clear p0 p1 p2 p3 q0 q1 q2 q3 s0 s1 s2 s3 s4 t0 t1 t2 t3 r0 r1 r2 r3 v0 v1 v2 v3 v4 y0 y1 y2 y3 y4 HTB
      have HW' := Lib.hid HW
      clear HW
      go_wp2
      refine bodyPost_ret (v := .tuple #[.agg #[.slice B9 e9 f9, .slice B9' e9' f9', .int .i64 y.fuse, .bool y.down], .agg #[.int .i64 (h : Int), .int .i64 (g : Int), .int .i64 (u : Int), .int .i64 (k : Int), .slice A5 n5 c5], .int .i64 9]) ?_ rfl (.inr (.inr ⟨HFD.out, HCC.out, y, m, HRY.out, HLY.out, HM.out, HLM.out, (fun i => (HZY.out i).elim (fun hh => ⟨h, g, L, hh, by omega, .inl rfl⟩) (fun hh => ⟨1 - h, g + 1, snapL m, hh, by omega, .inr (.inr rfl)⟩)), by rw [← HU.out, ← HK.out]; exact ⟨_, rfl, HW'.out.2.2.1, HW'.out.2.2.2⟩⟩))
      exact results_cct (fn := Tryz.f9) (a1 := ⟨b3, 0, none⟩) (a2 := ⟨b4, 0, none⟩) rfl rfl rfl rfl (load_box4 HW'.out.1) (load_store5 HW'.out.2.1)
   ·obtain ⟨v9, rfl, hd9, hba⟩ := hres
    obtain ⟨A9, n9, c9, A9', n9', c9', rfl, hx9⟩ := hd9
    have hd9 : DkAt W6 W6.heap.size (.agg #[.slice A9 n9 c9, .slice A9' n9' c9', .int .i64 x.fuse, .bool x.down]) x := ⟨A9, n9, c9, A9', n9', c9', rfl, hx9⟩
    clear hx9
    have H6b := Lib.hid (H5.out.below hba)
    have HD9 := Lib.hid hd9
    have HRX := Lib.hid hRx; have HFX := Lib.hid hfx; have HZX := Lib.hid hZx; have HTK := Lib.hid htk; have HROOM := Lib.hid hroom
    have HO8 := Lib.hid (HO8b.out.below hba)
    have h65 : W5.heap.size ≤ W6.heap.size := hba.size
    clear p0 p1 p2 p3 q0 q1 q2 q3 s0 s1 s2 s3 s4 hba hd9 hRx hfx hZx htk hroom H5 HO8b
    obtain ⟨⟨p0, p1, p2, p3⟩, q0, q1, q2, q3⟩ := H6b.out.k1.four
    unfold logN
    go_wp2_with ((with_reducible show wpList _ _ _ (⟨none, _, _, _, _, _⟩ :: _) _ _); refine hold ?_)
    have hba : Below W6.heap.size W6 (W6.alloc (.cells #[.int .i64 0, .int .i64 0, .int .i64 0, .int .i64 0] 32)) := (Below.refl _ _).alloc (Nat.le_refl _) _
    have hni : NotIn A8 n8 [b1, b3, b4, W6.heap.size] := fun h0 p hp b hb => by
     have := HNB.out p h0 hp
     simp only [List.mem_cons, List.mem_nil_iff, or_false] at hb
     omega
    have hw6 : w.heap.size ≤ W6.heap.size := H6b.out.hb.size
    refine list_over (ComL w x A9 A9' A5 A8 n9 c9 n9' c9' n5 c5 n8 h g u k b1 b2 b3 b4 W6.heap.size m #[.slice A1 n1 c1, .slice A1' n1' c1', .int .i64 d.fuse, .bool d.down] #[.int .i64 0, .int .i64 0, .int .i64 0, .int .i64 0]) ⟨H6b.out.k1.below hba H6b.out.k1.lt, H6b.out.k2.below hba H6b.out.k2.lt, H6b.out.k3.below hba H6b.out.k3.lt, H6b.out.k4.below hba H6b.out.k4.lt, Bk.new _ _ _, HD9.out.later hba, HO8.out.col.later hba, H6b.out.hb.trans (hba.mono H6b.out.hb.size)⟩ ?_
    obtain ⟨b9, hb9⟩ : ∃ b, b = W6.heap.size := ⟨_, rfl⟩
    rw [← hb9] at hni hw6 ⊢
    obtain ⟨hm1, hm2, hm3, hm4⟩ : b9 ≠ b1 ∧ b9 ≠ b2 ∧ b9 ≠ b3 ∧ b9 ≠ b4 := by omega
    have HNI := Lib.hid hni
    clear hb9 hba hni p0 p1 p2 p3 q0 q1 q2 q3 H6b HD9 HO8 h65 h54 h43 HNB hb1W hb2W hb3W hb4W
    intro W7 H7
    have HS := Lib.hid (H7.disk hl1 ⟨hn12, hn13, hn14, hm1⟩ HNI.out)
    obtain ⟨⟨p0, p1, p2, p3⟩, q0, q1, q2, q3⟩ := H7.k1.four
    unfold stored4 at HS
    clear H7
    refine held ?_
    go_wp2_with ((with_reducible show wpList _ _ _ (⟨none, .store 32 _ _, _, _, _, _⟩ :: _) _ _); refine hold ?_)
    refine list_over _ HS.out ?_
    clear HS p0 p1 p2 p3 q0 q1 q2 q3
    intro W8 H8
    have HS := Lib.hid (H8.log hw6 ⟨Ne.symm hm1, Ne.symm hm2, Ne.symm hm3, Ne.symm hm4⟩ HNI.out (.int .i64 (h : Int)) (.int .i64 (g : Int)) (.int .i64 ((u + takesN (transN cs).length : Nat) : Int)) (.int .i64 ((k + 1 : Nat) : Int)))
    obtain ⟨⟨p0, p1, p2, p3⟩, q0, q1, q2, q3⟩ := H8.k9.four
    unfold stored4 at HS
    clear H8
    refine held ?_
    go_wp2_with fail
    refine code_over _ HS.out ?_
    clear HS p0 p1 p2 p3 q0 q1 q2 q3
    intro W10 H10
    obtain ⟨⟨p0, p1, p2, p3⟩, q0, q1, q2, q3⟩ := H10.k1.four
    obtain ⟨⟨s0, s1, s2, s3⟩, _⟩ := H10.k9.four
    obtain ⟨⟨t0, t1, t2, t3⟩, r0, r1, r2, r3⟩ := H10.k3.four
    obtain ⟨⟨v0, v1, v2, v3, v4⟩, y0, y1, y2, y3, y4⟩ := H10.k4.five
    have HTB := H10.fill (c8 := c8) (y0 := (h : Int)) (y1 := (g : Int)) (y2 := ((u + takesN (transN cs).length : Nat) : Int)) (y3 := ((k + 1 : Nat) : Int)) hl3 hl4 hn34 HNI.out
    unfold stored5 stored4 at HTB
    clear H10
    go_region
    refine post_over _ HTB.out.drewC ?_
    rintro W' ⟨HW, hmW⟩
    clear p0 p1 p2 p3 q0 q1 q2 q3 s0 s1 s2 s3 t0 t1 t2 t3 r0 r1 r2 r3 v0 v1 v2 v3 v4 y0 y1 y2 y3 y4 HTB
    have HW' := Lib.hid HW
    have HMW := Lib.hid hmW
    clear HW hmW
    go_wp2
    refine bodyPost_ret (v := .tuple #[.agg #[.slice A9 n9 c9, .slice A9' n9' c9', .int .i64 x.fuse, .bool x.down], .agg #[.int .i64 (h : Int), .int .i64 (g : Int), .int .i64 ((u + takesN (transN cs).length : Nat) : Int), .int .i64 ((k + 1 : Nat) : Int), .slice A8 n8 c8], .int .i64 0]) ?_ rfl (.inr (.inl ⟨x, h, g, L ++ [transN cs], A8, n8, c8, m, HRX.out, HFX.out, HZX.out, by omega, HCC.out, HM.out, HLM.out, .inl rfl, HMW.out, by rw [sumT_snoc, List.length_append, ← HU.out, ← HK.out]; exact ⟨_, rfl, HW'.out.2.2.1, HW'.out.2.2.2⟩⟩))
    exact results_cct (fn := Tryz.f9) (a1 := ⟨b3, 0, none⟩) (a2 := ⟨b4, 0, none⟩) rfl rfl rfl rfl (load_box4 HW'.out.1) (load_store5 HW'.out.2.1)
   ·obtain ⟨v9, rfl, hd9, hba⟩ := hres
    obtain ⟨A9, n9, c9, A9', n9', c9', rfl, hx9⟩ := hd9
    have hd9 : DkAt W6 W6.heap.size (.agg #[.slice A9 n9 c9, .slice A9' n9' c9', .int .i64 x.fuse, .bool x.down]) x := ⟨A9, n9, c9, A9', n9', c9', rfl, hx9⟩
    clear hx9
    have H6b := Lib.hid (H5.out.below hba)
    have HD9 := Lib.hid hd9
    have HRX := Lib.hid hRx; have HFD := Lib.hid hfd; have HZX := Lib.hid hZx; have HTK := Lib.hid htk; have HLX := Lib.hid hlx
    have HO8 := Lib.hid (HO8b.out.below hba)
    have h65 : W5.heap.size ≤ W6.heap.size := hba.size
    clear p0 p1 p2 p3 q0 q1 q2 q3 s0 s1 s2 s3 s4 hba hd9 hRx hfd hZx htk hlx H5 HO8b
    obtain ⟨⟨p0, p1, p2, p3⟩, q0, q1, q2, q3⟩ := H6b.out.k1.four
    unfold logN
    go_wp2_with ((with_reducible show wpList _ _ _ (⟨none, _, _, _, _, _⟩ :: _) _ _); refine hold ?_)
    have hba : Below W6.heap.size W6 (W6.alloc (.cells #[.int .i64 0, .int .i64 0, .int .i64 0, .int .i64 0] 32)) := (Below.refl _ _).alloc (Nat.le_refl _) _
    have hni : NotIn A8 n8 [b1, b3, b4, W6.heap.size] := fun h0 p hp b hb => by
     have := HNB.out p h0 hp
     simp only [List.mem_cons, List.mem_nil_iff, or_false] at hb
     omega
    have hw6 : w.heap.size ≤ W6.heap.size := H6b.out.hb.size
    refine list_over (ComL w x A9 A9' A5 A8 n9 c9 n9' c9' n5 c5 n8 h g u k b1 b2 b3 b4 W6.heap.size m #[.slice A1 n1 c1, .slice A1' n1' c1', .int .i64 d.fuse, .bool d.down] #[.int .i64 0, .int .i64 0, .int .i64 0, .int .i64 0]) ⟨H6b.out.k1.below hba H6b.out.k1.lt, H6b.out.k2.below hba H6b.out.k2.lt, H6b.out.k3.below hba H6b.out.k3.lt, H6b.out.k4.below hba H6b.out.k4.lt, Bk.new _ _ _, HD9.out.later hba, HO8.out.col.later hba, H6b.out.hb.trans (hba.mono H6b.out.hb.size)⟩ ?_
    obtain ⟨b9, hb9⟩ : ∃ b, b = W6.heap.size := ⟨_, rfl⟩
    rw [← hb9] at hni hw6 ⊢
    obtain ⟨hm1, hm2, hm3, hm4⟩ : b9 ≠ b1 ∧ b9 ≠ b2 ∧ b9 ≠ b3 ∧ b9 ≠ b4 := by omega
    have HNI := Lib.hid hni
    clear hb9 hba hni p0 p1 p2 p3 q0 q1 q2 q3 H6b HD9 HO8 h65 h54 h43 HNB hb1W hb2W hb3W hb4W
    intro W7 H7
    have HS := Lib.hid (H7.disk hl1 ⟨hn12, hn13, hn14, hm1⟩ HNI.out)
    obtain ⟨⟨p0, p1, p2, p3⟩, q0, q1, q2, q3⟩ := H7.k1.four
    unfold stored4 at HS
    clear H7
    refine held ?_
    go_wp2_with ((with_reducible show wpList _ _ _ (⟨none, .store 32 _ _, _, _, _, _⟩ :: _) _ _); refine hold ?_)
    refine list_over _ HS.out ?_
    clear HS p0 p1 p2 p3 q0 q1 q2 q3
    intro W8 H8
    have HS := Lib.hid (H8.log hw6 ⟨Ne.symm hm1, Ne.symm hm2, Ne.symm hm3, Ne.symm hm4⟩ HNI.out (.int .i64 (h : Int)) (.int .i64 (g : Int)) (.int .i64 (u : Int)) (.int .i64 (k : Int)))
    obtain ⟨⟨p0, p1, p2, p3⟩, q0, q1, q2, q3⟩ := H8.k9.four
    unfold stored4 at HS
    clear H8
    refine held ?_
    go_wp2_with fail
    refine code_over _ HS.out ?_
    clear HS p0 p1 p2 p3 q0 q1 q2 q3
    intro W10 H10
    have HTB := two_boxesS (x := x) (h : Int) (g : Int) (u : Int) (k : Int) A5 n5 c5 H10.k3 H10.k4 hn34 H10.hd H10.hb hl3 hl4
    unfold stored5 stored4 at HTB
    obtain ⟨⟨p0, p1, p2, p3⟩, q0, q1, q2, q3⟩ := H10.k1.four
    obtain ⟨⟨s0, s1, s2, s3, s4⟩, _⟩ := H10.k2.five
    obtain ⟨⟨t0, t1, t2, t3⟩, r0, r1, r2, r3⟩ := H10.k3.four
    obtain ⟨⟨v0, v1, v2, v3, v4⟩, y0, y1, y2, y3, y4⟩ := H10.k4.five
    clear H10
    go_region
    refine post_over (LiesS w b3 b4 A9 A9' n9 c9 n9' c9' x (h : Int) (g : Int) (u : Int) (k : Int) A5 n5 c5) HTB.out.drew ?_
    intro W' HW
    clear p0 p1 p2 p3 q0 q1 q2 q3 s0 s1 s2 s3 s4 t0 t1 t2 t3 r0 r1 r2 r3 v0 v1 v2 v3 v4 y0 y1 y2 y3 y4 HTB
    have HW' := Lib.hid HW
    clear HW
    go_wp2
    refine bodyPost_ret (v := .tuple #[.agg #[.slice A9 n9 c9, .slice A9' n9' c9', .int .i64 x.fuse, .bool x.down], .agg #[.int .i64 (h : Int), .int .i64 (g : Int), .int .i64 (u : Int), .int .i64 (k : Int), .slice A5 n5 c5], .int .i64 9]) ?_ rfl (.inr (.inr ⟨HFD.out, HCC.out, x, m, HRX.out, HLX.out, HM.out, HLM.out, (fun i => (HZX.out i).elim (fun hh => ⟨h, g, L, hh, by omega, .inl rfl⟩) (fun hh => ⟨h, g, L ++ [transN cs], hh, by omega, .inr (.inl rfl)⟩)), by rw [← HU.out, ← HK.out]; exact ⟨_, rfl, HW'.out.2.2.1, HW'.out.2.2.2⟩⟩))
    exact results_cct (fn := Tryz.f9) (a1 := ⟨b3, 0, none⟩) (a2 := ⟨b4, 0, none⟩) rfl rfl rfl rfl (load_box4 HW'.out.1) (load_store5 HW'.out.2.1)
end Go.Proofs.YtcdehejgnnnimaaGreatDoor
