/-
 A part of the proof: see the last text.
-/
import Derived.Test.YtcdehejgnnnimaaGreatDoorSWalAppend
namespace Go.Proofs.YtcdehejgnnnimaaGreatDoor
set_option linter.unusedVariables false
set_option linter.unusedSimpArgs false
open Go.RowKit
structure CmpB (w : World) (d : Dk) (h g u k : Int) (A A' A1 : Option Addr) (n c n' c' n1 c1 : Nat) (W : World) : Prop where
 b3 : Bk W w.heap.size 27 #[.slice A n c, .slice A' n' c', .int .i64 d.fuse, .bool d.down]
 b4 : Bk W (w.heap.size + 1) 32 #[.int .i64 h, .int .i64 g, .int .i64 u, .int .i64 k]
 b5 : Bk W (w.heap.size + 1 + 1) 57 #[.slice A1 n1 c1]
 b6 : Bk W (w.heap.size + 1 + 1 + 1) 27 #[.slice none 0 0, .slice none 0 0, .int .i64 0, .bool false]
 b7 : Bk W (w.heap.size + 1 + 1 + 1 + 1) 32 #[.int .i64 0, .int .i64 0, .int .i64 0, .int .i64 0]
 hb : Below w.heap.size w W
theorem CmpB.below {w W W' : World} {d : Dk} {h g u k : Int} {A A' A1 : Option Addr} {n c n' c' n1 c1 : Nat} (H : CmpB w d h g u k A A' A1 n c n' c' n1 c1 W) (hb : Below W.heap.size W W') : CmpB w d h g u k A A' A1 n c n' c' n1 c1 W' :=
 ⟨H.b3.below hb H.b3.lt, H.b4.below hb H.b4.lt, H.b5.below hb H.b5.lt, H.b6.below hb H.b6.lt, H.b7.below hb H.b7.lt, H.hb.trans (hb.mono H.hb.size)⟩
theorem CmpB.start (w : World) (d : Dk) (h g u k : Int) (A A' A1 : Option Addr) (n c n' c' n1 c1 : Nat) : CmpB w d h g u k A A' A1 n c n' c' n1 c1 (((((w.alloc (.cells #[.slice A n c, .slice A' n' c', .int .i64 d.fuse, .bool d.down] 27)).alloc (.cells #[.int .i64 h, .int .i64 g, .int .i64 u, .int .i64 k] 32)).alloc (.cells #[.slice A1 n1 c1] 57)).alloc (.cells #[.slice none 0 0, .slice none 0 0, .int .i64 0, .bool false] 27)).alloc (.cells #[.int .i64 0, .int .i64 0, .int .i64 0, .int .i64 0] 32)) :=
 ⟨((((Bk.new w _ _).alloc _).alloc _).alloc _).alloc _, (((Bk.new2 w _ _ _).alloc _).alloc _).alloc _, ((Bk.new3 w _ _ _ _).alloc _).alloc _, (Bk.new4 w _ _ _ _ _).alloc _, Bk.new' _ _ _ _ (by simp),
   (((((Below.refl w.heap.size w).alloc (Nat.le_refl _) _).alloc (by simp) _).alloc (by simp only [World.size_alloc]; omega) _).alloc (by simp only [World.size_alloc]; omega) _).alloc (by simp only [World.size_alloc]; omega) _⟩
def cmpLog (x : Dk × Int) (h g u k : Nat) (L : List (List Nat)) : Value := if x.2 = 0 then logN (1 - h) (g + 1) (sumT L) L.length else logN h g u k
theorem Rss.lens {w : World} {B n : Nat} {A : Option Addr} {L : List (List Nat)} (h : Rss w B A n L) : L.length = n := h.1
set_option maxRecDepth 20000 in
set_option maxHeartbeats 4000000 in
theorem compact_arg0 (v : Value) (d : Dk) (g u k : Nat) (A1 : Option Addr) (n1 c1 : Nat) (L : List (List Nat)) (w : World) (hd : DkAt w w.heap.size v d) (hr : rightB d = true) (hl : LogFits d 0 g u k) (hL : Rss w w.heap.size A1 n1 L) (hn : n1 ≤ 1000000) (h0 : needN L = 0) :
 Calls Tryz.prog 24 #[v, logN 0 g u k, .slice A1 n1 c1] w (LogRes w (d, 1) (logN 0 g u k)) := by
 have h0i : (((needN L : Nat) : Int) == 0) = true := by simp; omega
 obtain ⟨A, n, c, A', n', c', rfl, hx⟩ := hd
 have HD := Lib.hid (show DkAt w w.heap.size (.agg #[.slice A n c, .slice A' n' c', .int .i64 d.fuse, .bool d.down]) d from ⟨A, n, c, A', n', c', rfl, hx⟩)
 have hgg : 1 ≤ g ∧ g ≤ 1099511627776 := ⟨hl.2.1, hl.2.2.1⟩
 have HL := Lib.hid hl
 have HR := Lib.hid hr
 have HSS := Lib.hid hL
 have HLEN := Lib.hid hL.lens
 have hsl : d.secs.length ≤ 4096 := (rightB_of.1 hr).1
 clear hx hr hl hL
 unfold logN at *
 go_enter Tryz.func24, Tryz.ntmps24
 go_wp2_with fail
 refine calls_over (CmpB w d 0 g u k A A' A1 n c n' c' n1 c1) (CmpB.start _ _ _ _ _ _ _ _ _ _ _ _ _ _ _) ?_
 intro W0 H0
 refine (need_any A1 n1 c1 W0.heap.size L W0 (HSS.out.later H0.hb).bss hn).mono ?_
 rintro e W0' ⟨rfl, rfl⟩
 obtain ⟨⟨p0, p1, p2, p3⟩, _⟩ := H0.b3.four
 obtain ⟨⟨r0, r1, r2, r3⟩, _⟩ := H0.b4.four
 have HH0 := Lib.hid H0
 clear H0
 go_wp2_with fail
 refine (wright_any _ d 0 g u k W0 (HD.out.later HH0.out.hb) HR.out HL.out).mono ?_
 rintro e W ⟨rfl, hbR⟩
 have H := HH0.out.below hbR
 clear HH0 hbR p0 p1 p2 p3 r0 r1 r2 r3
 obtain ⟨⟨p0, p1, p2, p3⟩, q0, q1, q2, q3⟩ := H.b3.four
 obtain ⟨⟨r0, r1, r2, r3⟩, s0, s1, s2, s3⟩ := H.b4.four
 obtain ⟨⟨t0, t1, t2, t3⟩, u0, u1, u2, u3⟩ := H.b6.four
 obtain ⟨⟨v0, v1, v2, v3⟩, x0, x1, x2, x3⟩ := H.b7.four
 have y0 := H.b5.one
 have HT := two_boxes (x := d) 0 (g : Int) (u : Int) (k : Int) H.b6 H.b7 (by omega) (HD.out.later H.hb) H.hb (by omega) (by omega)
 unfold stored4 at HT
 clear H
 go_wp2_with fail
 go_region
 refine post_over (Lies w (w.heap.size + 1 + 1 + 1) (w.heap.size + 1 + 1 + 1 + 1) A A' n c n' c' d 0 g u k) HT.out.drew ?_
 intro W' HW
 clear p0 p1 p2 p3 q0 q1 q2 q3 r0 r1 r2 r3 s0 s1 s2 s3 t0 t1 t2 t3 u0 u1 u2 u3 v0 v1 v2 v3 x0 x1 x2 x3 HT
 have HW' := Lib.hid HW
 clear HW
 go_wp2
 refine bodyPost_ret (v := .tuple #[.agg #[.slice A n c, .slice A' n' c', .int .i64 d.fuse, .bool d.down], .agg #[.int .i64 0, .int .i64 (g : Int), .int .i64 (u : Int), .int .i64 (k : Int)], .int .i64 1]) ?_ rfl ⟨_, rfl, HW'.out.2.2.1, HW'.out.2.2.2⟩
 exact results_cct (fn := Tryz.f24) (a1 := ⟨w.heap.size + 1 + 1 + 1, 0, none⟩) (a2 := ⟨w.heap.size + 1 + 1 + 1 + 1, 0, none⟩) rfl rfl rfl rfl (load_box4 HW'.out.1) (load_log4 HW'.out.2.1)
set_option maxRecDepth 20000 in
set_option maxHeartbeats 4000000 in
theorem compact_full0 (v : Value) (d : Dk) (g u k : Nat) (A1 : Option Addr) (n1 c1 : Nat) (L : List (List Nat)) (w : World) (hd : DkAt w w.heap.size v d) (hr : rightB d = true) (hl : LogFits d 0 g u k) (hL : Rss w w.heap.size A1 n1 L) (hn : n1 ≤ 1000000) (hok : ∀ b ∈ L, okR b) (hne : L ≠ []) (hfull : d.secs.length / 2 < sumT L) :
 Calls Tryz.prog 24 #[v, logN 0 g u k, .slice A1 n1 c1] w (LogRes w (d, 8) (logN 0 g u k)) := by
 have hneed : needN L = sumT L := needN_ok hok
 have hpos : 0 < sumT L := by omega
 have h0i : (((sumT L : Nat) : Int) == 0) = false := by simp; omega
 have hfi : ((d.secs.length / 2 : Nat) : Int) < ((sumT L : Nat) : Int) := by omega
 have HNEED := Lib.hid hneed
 have HOK := Lib.hid hok; have HNE := Lib.hid hne; have HFU := Lib.hid hfull
 clear hneed hok hne hfull
 generalize hq : sumT L = q at *
 have HQ := Lib.hid hq
 clear hq
 obtain ⟨A, n, c, A', n', c', rfl, hx⟩ := hd
 have HD := Lib.hid (show DkAt w w.heap.size (.agg #[.slice A n c, .slice A' n' c', .int .i64 d.fuse, .bool d.down]) d from ⟨A, n, c, A', n', c', rfl, hx⟩)
 have hgg : 1 ≤ g ∧ g ≤ 1099511627776 := ⟨hl.2.1, hl.2.2.1⟩
 have HL := Lib.hid hl
 have HR := Lib.hid hr
 have HSS := Lib.hid hL
 have HLEN := Lib.hid hL.lens
 have hsl : d.secs.length ≤ 4096 := (rightB_of.1 hr).1
 clear hx hr hl hL
 unfold logN at *
 go_enter Tryz.func24, Tryz.ntmps24
 go_wp2_with fail
 refine calls_over (CmpB w d 0 g u k A A' A1 n c n' c' n1 c1) (CmpB.start _ _ _ _ _ _ _ _ _ _ _ _ _ _ _) ?_
 intro W0 H0
 refine (need_any A1 n1 c1 W0.heap.size L W0 (HSS.out.later H0.hb).bss hn).mono ?_
 rw [HNEED.out]
 rintro e W0' ⟨rfl, rfl⟩
 obtain ⟨⟨p0, p1, p2, p3⟩, _⟩ := H0.b3.four
 obtain ⟨⟨r0, r1, r2, r3⟩, _⟩ := H0.b4.four
 have HH0 := Lib.hid H0
 clear H0
 go_wp2_with fail
 refine (wright_any _ d 0 g u k W0 (HD.out.later HH0.out.hb) HR.out HL.out).mono ?_
 rintro e W ⟨rfl, hbR⟩
 have H := HH0.out.below hbR
 clear HH0 hbR p0 p1 p2 p3 r0 r1 r2 r3
 obtain ⟨⟨p0, p1, p2, p3⟩, q0, q1, q2, q3⟩ := H.b3.four
 obtain ⟨⟨r0, r1, r2, r3⟩, s0, s1, s2, s3⟩ := H.b4.four
 obtain ⟨⟨t0, t1, t2, t3⟩, u0, u1, u2, u3⟩ := H.b6.four
 obtain ⟨⟨v0, v1, v2, v3⟩, x0, x1, x2, x3⟩ := H.b7.four
 have y0 := H.b5.one
 have hz4 := H.b7.lt
 have hz0 := H.b3.lt
 have hz1 := H.b4.lt
 have hz2 := H.b5.lt
 have HH := Lib.hid H
 clear H
 have hg2 : (g : Int) ≤ 1099511627776 := by omega
 have hg0 : 0 ≤ (g : Int) := by omega
 clear hgg
 go_wp2_with fail
 refine calls_over (fun W' => CmpB w d 0 g u k A A' A1 n c n' c' n1 c1 W' ∧ Bk W' W.heap.size 32 #[.int .i64 1, .int .i64 ((g : Int) + 1), .int .i64 (q : Int), .int .i64 (n1 : Int)]) ⟨HH.out.below ((Below.refl _ _).alloc (Nat.le_refl _) _), by simpa using Bk.new W 32 _⟩ ?_
 clear p0 p1 p2 p3 q0 q1 q2 q3 r0 r1 r2 r3 s0 s1 s2 s3 t0 t1 t2 t3 u0 u1 u2 u3 v0 v1 v2 v3 x0 x1 x2 x3 y0
 rintro W2 ⟨H2, hb10⟩
 refine (halfOf_any _ d 1 W2 (HD.out.later H2.hb) (by omega) hsl).mono ?_
 rintro e W3 ⟨rfl, hb3⟩
 unfold halfV
 have hsz2 := HH.out.b3.lt
 have HH3 := Lib.hid (H2.below hb3)
 have HB10 := Lib.hid (hb10.below hb3 hb10.lt)
 have hne10 : W.heap.size ≠ w.heap.size ∧ W.heap.size ≠ w.heap.size + 1 ∧ W.heap.size ≠ w.heap.size + 1 + 1 ∧ W.heap.size ≠ w.heap.size + 1 + 1 + 1 ∧ W.heap.size ≠ w.heap.size + 1 + 1 + 1 + 1 := by
  have h1 := HH.out.b7.lt
  omega
 have hwW : w.heap.size ≤ W.heap.size := HH.out.hb.size
 clear H2 hb10 hb3 HH
 generalize W.heap.size = bo at *
 obtain ⟨⟨p0, p1, p2, p3⟩, _⟩ := HH3.out.b3.four
 obtain ⟨⟨r0, r1, r2, r3⟩, _⟩ := HH3.out.b4.four
 have y0 := HH3.out.b5.one
 obtain ⟨⟨l0, l1, l2, l3⟩, _⟩ := HB10.out.four
 have hz5 := HH3.out.b3.lt
 have hz6 := HH3.out.b4.lt
 have hz7 := HH3.out.b5.lt
 have hzo := HB10.out.lt
 generalize hsz9 : d.secs.length / 2 = sz at *
 have HS9 := Lib.hid hsz9
 clear hsz9
 go_wp2_with fail
 refine code_over (CmpB w d 0 g u k A A' A1 n c n' c' n1 c1) (HH3.out.below ((Below.refl _ _).alloc (Nat.le_refl _) _)) ?_
 clear p0 p1 p2 p3 r0 r1 r2 r3 y0 l0 l1 l2 l3 hz5 hz6 hz7 hzo hz0 hz1 hz2 hz4 hsz2 hne10 hwW HH3 HB10
 intro W4 H
 obtain ⟨⟨p0, p1, p2, p3⟩, q0, q1, q2, q3⟩ := H.b3.four
 obtain ⟨⟨r0, r1, r2, r3⟩, s0, s1, s2, s3⟩ := H.b4.four
 obtain ⟨⟨t0, t1, t2, t3⟩, u0, u1, u2, u3⟩ := H.b6.four
 obtain ⟨⟨v0, v1, v2, v3⟩, x0, x1, x2, x3⟩ := H.b7.four
 have y0 := H.b5.one
 have HT := two_boxes (x := d) 0 (g : Int) (u : Int) (k : Int) H.b6 H.b7 (by omega) (HD.out.later H.hb) H.hb (by omega) (by omega)
 unfold stored4 at HT
 clear H y0
 go_region
 refine post_over (Lies w (w.heap.size + 1 + 1 + 1) (w.heap.size + 1 + 1 + 1 + 1) A A' n c n' c' d 0 g u k) HT.out.drew ?_
 intro W' HW
 clear p0 p1 p2 p3 q0 q1 q2 q3 r0 r1 r2 r3 s0 s1 s2 s3 t0 t1 t2 t3 u0 u1 u2 u3 v0 v1 v2 v3 x0 x1 x2 x3 HT
 have HW' := Lib.hid HW
 clear HW
 go_wp2
 refine bodyPost_ret (v := .tuple #[.agg #[.slice A n c, .slice A' n' c', .int .i64 d.fuse, .bool d.down], .agg #[.int .i64 0, .int .i64 (g : Int), .int .i64 (u : Int), .int .i64 (k : Int)], .int .i64 8]) ?_ rfl ⟨_, rfl, HW'.out.2.2.1, HW'.out.2.2.2⟩
 exact results_cct (fn := Tryz.f24) (a1 := ⟨w.heap.size + 1 + 1 + 1, 0, none⟩) (a2 := ⟨w.heap.size + 1 + 1 + 1 + 1, 0, none⟩) rfl rfl rfl rfl (load_box4 HW'.out.1) (load_log4 HW'.out.2.1)
set_option maxRecDepth 20000 in
set_option maxHeartbeats 8000000 in
theorem compact_run0 (v : Value) (d : Dk) (g u k : Nat) (A1 : Option Addr) (n1 c1 : Nat) (L : List (List Nat)) (w : World) (hd : DkAt w w.heap.size v d) (hr : rightB d = true) (hl : LogFits d 0 g u k) (hL : Rss w w.heap.size A1 n1 L) (hn : n1 ≤ 1000000) (hok : ∀ b ∈ L, okR b) (hne : L ≠ []) (hfit : sumT L ≤ d.secs.length / 2) (hgm : g < 1099511627776) (ht : Tab w)
 (hx09 : (runM d (layD (d.secs.length / 2) (d.secs.length / 2) (g + 1) L)).2 = 0 ∨ (runM d (layD (d.secs.length / 2) (d.secs.length / 2) (g + 1) L)).2 = 9) :
 Calls Tryz.prog 24 #[v, logN 0 g u k, .slice A1 n1 c1] w (LogRes w (runM d (layD (d.secs.length / 2) (d.secs.length / 2) (g + 1) L)) (cmpLog (runM d (layD (d.secs.length / 2) (d.secs.length / 2) (g + 1) L)) 0 g u k L)) := by
 have hneed : needN L = sumT L := needN_ok hok
 have hge := sumT_ge hok
 have hlp : 0 < L.length := List.length_pos_iff.2 hne
 have hn1p : 0 < n1 := by rw [← hL.lens]; exact hlp
 have hn1q : 2 * n1 ≤ sumT L := by rw [← hL.lens]; exact hge
 have hpos : 0 < sumT L := by omega
 have h0i : (((sumT L : Nat) : Int) == 0) = false := by simp; omega
 have hfi : ¬ ((d.secs.length / 2 : Nat) : Int) < ((sumT L : Nat) : Int) := by omega
 generalize hX : runM d (layD (d.secs.length / 2) (d.secs.length / 2) (g + 1) L) = x at *
 have HXX := Lib.hid hX
 have HX := Lib.hid hx09
 have HTAB := Lib.hid ht
 have HLOG0 : Hid (x.2 = 0 → cmpLog x 0 g u k L = .agg #[.int .i64 1, .int .i64 ((g : Int) + 1), .int .i64 ((sumT L : Nat) : Int), .int .i64 (n1 : Int)]) := Lib.hid (fun h0 => by unfold cmpLog logN; rw [if_pos h0, hL.lens]; simp)
 have HLOG9 : Hid (x.2 ≠ 0 → cmpLog x 0 g u k L = .agg #[.int .i64 0, .int .i64 (g : Int), .int .i64 (u : Int), .int .i64 (k : Int)]) := Lib.hid (fun h0 => by unfold cmpLog logN; rw [if_neg h0]; simp)
 have HNEED := Lib.hid hneed
 have HOK := Lib.hid hok; have HFU := Lib.hid hfit
 clear hneed hok hne hfit hX hx09 ht hge hlp
 generalize hq : sumT L = q at *
 have HQ := Lib.hid hq
 clear hq
 obtain ⟨A, n, c, A', n', c', rfl, hx⟩ := hd
 have HD := Lib.hid (show DkAt w w.heap.size (.agg #[.slice A n c, .slice A' n' c', .int .i64 d.fuse, .bool d.down]) d from ⟨A, n, c, A', n', c', rfl, hx⟩)
 have hgg : 1 ≤ g ∧ g ≤ 1099511627776 := ⟨hl.2.1, hl.2.2.1⟩
 have HL := Lib.hid hl
 have HR := Lib.hid hr
 have HSS := Lib.hid hL
 have HLEN := Lib.hid hL.lens
 have hsl : d.secs.length ≤ 4096 := (rightB_of.1 hr).1
 clear hx hr hl hL
 unfold logN at *
 go_enter Tryz.func24, Tryz.ntmps24
 go_wp2_with fail
 refine calls_over (CmpB w d 0 g u k A A' A1 n c n' c' n1 c1) (CmpB.start _ _ _ _ _ _ _ _ _ _ _ _ _ _ _) ?_
 intro W0 H0
 refine (need_any A1 n1 c1 W0.heap.size L W0 (HSS.out.later H0.hb).bss hn).mono ?_
 rw [HNEED.out]
 rintro e W0' ⟨rfl, rfl⟩
 obtain ⟨⟨p0, p1, p2, p3⟩, _⟩ := H0.b3.four
 obtain ⟨⟨r0, r1, r2, r3⟩, _⟩ := H0.b4.four
 have HH0 := Lib.hid H0
 clear H0
 go_wp2_with fail
 refine (wright_any _ d 0 g u k W0 (HD.out.later HH0.out.hb) HR.out HL.out).mono ?_
 rintro e W ⟨rfl, hbR⟩
 have H := HH0.out.below hbR
 clear HH0 hbR p0 p1 p2 p3 r0 r1 r2 r3
 obtain ⟨⟨p0, p1, p2, p3⟩, q0, q1, q2, q3⟩ := H.b3.four
 obtain ⟨⟨r0, r1, r2, r3⟩, s0, s1, s2, s3⟩ := H.b4.four
 obtain ⟨⟨t0, t1, t2, t3⟩, u0, u1, u2, u3⟩ := H.b6.four
 obtain ⟨⟨v0, v1, v2, v3⟩, x0, x1, x2, x3⟩ := H.b7.four
 have y0 := H.b5.one
 have hz4 := H.b7.lt
 have hz0 := H.b3.lt
 have hz1 := H.b4.lt
 have hz2 := H.b5.lt
 have HH := Lib.hid H
 clear H
 have hg2 : (g : Int) ≤ 1099511627776 := by omega
 have hg0 : 0 ≤ (g : Int) := by omega
 clear hgg
 go_wp2_with fail
 refine calls_over (fun W' => CmpB w d 0 g u k A A' A1 n c n' c' n1 c1 W' ∧ Bk W' W.heap.size 32 #[.int .i64 1, .int .i64 ((g : Int) + 1), .int .i64 (q : Int), .int .i64 (n1 : Int)]) ⟨HH.out.below ((Below.refl _ _).alloc (Nat.le_refl _) _), by simpa using Bk.new W 32 _⟩ ?_
 clear p0 p1 p2 p3 q0 q1 q2 q3 r0 r1 r2 r3 s0 s1 s2 s3 t0 t1 t2 t3 u0 u1 u2 u3 v0 v1 v2 v3 x0 x1 x2 x3 y0
 rintro W2 ⟨H2, hb10⟩
 refine (halfOf_any _ d 1 W2 (HD.out.later H2.hb) (by omega) hsl).mono ?_
 rintro e W3 ⟨rfl, hb3⟩
 unfold halfV
 simp only [Nat.one_mul, Nat.zero_mul, Int.natCast_zero]
 have hsz2 := HH.out.b3.lt
 have HH3 := Lib.hid (H2.below hb3)
 have HB10 := Lib.hid (hb10.below hb3 hb10.lt)
 have hne10 : W.heap.size ≠ w.heap.size ∧ W.heap.size ≠ w.heap.size + 1 ∧ W.heap.size ≠ w.heap.size + 1 + 1 ∧ W.heap.size ≠ w.heap.size + 1 + 1 + 1 ∧ W.heap.size ≠ w.heap.size + 1 + 1 + 1 + 1 := by
  have h1 := HH.out.b7.lt
  omega
 have hwW : w.heap.size ≤ W.heap.size := HH.out.hb.size
 clear H2 hb10 hb3 HH
 generalize W.heap.size = bo at *
 obtain ⟨⟨p0, p1, p2, p3⟩, _⟩ := HH3.out.b3.four
 obtain ⟨⟨r0, r1, r2, r3⟩, _⟩ := HH3.out.b4.four
 have y0 := HH3.out.b5.one
 obtain ⟨⟨l0, l1, l2, l3⟩, _⟩ := HB10.out.four
 have hz5 := HH3.out.b3.lt
 have hz6 := HH3.out.b4.lt
 have hz7 := HH3.out.b5.lt
 have hzo := HB10.out.lt
 have hmf : ∀ (fn : Fn) (first cap : Array Value) (w : World), (Instr.makeFunc fn first cap).run Tryz.prog w = .ok (.func fn first cap) w := fun _ _ _ _ => rfl
 have hgne : ((g : Int) == 1099511627776) = false := by simp; omega
 have hsz4 : d.secs.length / 2 ≤ 2048 := by omega
 generalize hsz9 : d.secs.length / 2 = sz at *
 have HS9 := Lib.hid hsz9
 clear hsz9
 go_wp2_with fail
 refine calls_over (fun W' => CmpB w d 0 g u k A A' A1 n c n' c' n1 c1 W' ∧ Bk W' W3.heap.size 79 #[.int .i64 ((sz : Nat) : Int), .int .i64 (sz : Int)] ∧ Bk W' bo 32 #[.int .i64 1, .int .i64 ((g : Int) + 1), .int .i64 (q : Int), .int .i64 (n1 : Int)]) ⟨HH3.out.below ((Below.refl _ _).alloc (Nat.le_refl _) _), Bk.new _ _ _, HB10.out.alloc _⟩ ?_
 clear p0 p1 p2 p3 r0 r1 r2 r3 y0 l0 l1 l2 l3 hz5 hz6 hz7 hz0 hz1 hz2 hz4 hsz2 HH3 HB10
 generalize W3.heap.size = bh at *
 rintro W4 ⟨H4, hbh, hbo⟩
 have hWr := writes_compact W4 d bh bo (w.heap.size + 1 + 1) sz sz (g + 1) 1 q n1 A1 n1 c1 L hbh (by simpa [logV] using hbo) H4.b5 (HSS.out.later H4.hb) (HTAB.out.below H4.hb HTAB.out.pos) HOK.out hn1p (by omega) (by omega) (by omega) (by omega)
 rw [HXX.out] at hWr
 refine (written_any _ d 49 _ x W4 (HD.out.later H4.hb) HX.out hWr (enters_of Tryz.func49 (by kernel_rfl) rfl)).mono ?_
 clear hWr
 intro e W5 hres
 obtain ⟨A2, n2, c2, A2', n2', c2', rfl, hd5, hb5⟩ := hres.zero
 have H5 := H4.below hb5
 replace hbo := hbo.below hb5 hbo.lt
 clear hb5 hres H4 hbh
 obtain ⟨⟨p0, p1, p2, p3⟩, q0, q1, q2, q3⟩ := H5.b3.four
 have hf3 := stored4_facts H5.b3 (.slice A2 n2 c2) (.slice A2' n2' c2') (.int .i64 x.1.fuse) (.bool x.1.down)
 have HG : Hid (AppF w x A2 A2' n2 c2 n2' c2' 0 g u k (stored4 W5 w.heap.size (.slice A2 n2 c2) (.slice A2' n2' c2') (.int .i64 x.1.fuse) (.bool x.1.down)) ∧ Bk (stored4 W5 w.heap.size (.slice A2 n2 c2) (.slice A2' n2' c2') (.int .i64 x.1.fuse) (.bool x.1.down)) bo 32 #[.int .i64 1, .int .i64 ((g : Int) + 1), .int .i64 (q : Int), .int .i64 (n1 : Int)]) :=
  Lib.hid ⟨⟨hf3.1, hf3.2.2.2 _ _ _ (by omega) H5.b4, hf3.2.2.2 _ _ _ (by omega) H5.b6, hf3.2.2.2 _ _ _ (by omega) H5.b7, hf3.2.1 _ _ hd5, hf3.2.2.1 _ _ H5.hb (Nat.le_refl _)⟩, hf3.2.2.2 _ _ _ hne10.1 hbo⟩
 unfold stored4 at HG
 clear hf3 hd5 H5 hbo
 by_cases hx0 : x.2 = 0
 ·have hxi : (x.2 != 0) = false := by simp [hx0]
  have HX0 := Lib.hid hx0
  clear hx0
  go_wp2_with fail
  refine code_over (fun W' => AppF w x A2 A2' n2 c2 n2' c2' 0 g u k W' ∧ Bk W' bo 32 #[.int .i64 1, .int .i64 ((g : Int) + 1), .int .i64 (q : Int), .int .i64 (n1 : Int)]) HG.out ?_
  clear p0 p1 p2 p3 q0 q1 q2 q3 HG
  rintro W6 ⟨H6, hbo⟩
  obtain ⟨⟨p0, p1, p2, p3⟩, q0, q1, q2, q3⟩ := H6.b3.four
  obtain ⟨⟨r0, r1, r2, r3⟩, s0, s1, s2, s3⟩ := hbo.four
  obtain ⟨⟨t0, t1, t2, t3⟩, u0, u1, u2, u3⟩ := H6.b6.four
  obtain ⟨⟨v0, v1, v2, v3⟩, x0, x1, x2, x3⟩ := H6.b7.four
  have HT := two_boxes (x := x.1) 1 ((g : Int) + 1) (q : Int) (n1 : Int) H6.b6 H6.b7 (by omega) H6.hd H6.hb (by omega) (by omega)
  unfold stored4 at HT
  have hn6 : bo ≠ w.heap.size + 1 + 1 + 1 := hne10.2.2.2.1
  have hn7 : bo ≠ w.heap.size + 1 + 1 + 1 + 1 := hne10.2.2.2.2
  clear H6 hbo hne10 hwW hzo
  generalize (g : Int) + 1 = g9 at *
  go_region
  refine post_over (Lies w (w.heap.size + 1 + 1 + 1) (w.heap.size + 1 + 1 + 1 + 1) A2 A2' n2 c2 n2' c2' x.1 1 g9 q n1) HT.out.drew ?_
  intro W' HW
  clear p0 p1 p2 p3 q0 q1 q2 q3 r0 r1 r2 r3 s0 s1 s2 s3 t0 t1 t2 t3 u0 u1 u2 u3 v0 v1 v2 v3 x0 x1 x2 x3 HT
  have HW' := Lib.hid HW
  clear HW
  go_wp2
  rw [HLOG0.out HX0.out]
  refine bodyPost_ret (v := .tuple #[.agg #[.slice A2 n2 c2, .slice A2' n2' c2', .int .i64 x.1.fuse, .bool x.1.down], .agg #[.int .i64 1, .int .i64 g9, .int .i64 (q : Int), .int .i64 (n1 : Int)], .int .i64 0]) ?_ rfl ⟨_, by rw [HX0.out], HW'.out.2.2.1, HW'.out.2.2.2⟩
  exact results_cct (fn := Tryz.f24) (a1 := ⟨w.heap.size + 1 + 1 + 1, 0, none⟩) (a2 := ⟨w.heap.size + 1 + 1 + 1 + 1, 0, none⟩) rfl rfl rfl rfl (load_box4 HW'.out.1) (load_log4 HW'.out.2.1)
 ·have hxi : (x.2 != 0) = true := by simpa using hx0
  have HX0 := Lib.hid hx0
  clear hx0
  go_wp2_with fail
  refine code_over (AppF w x A2 A2' n2 c2 n2' c2' 0 g u k) HG.out.1 ?_
  clear p0 p1 p2 p3 q0 q1 q2 q3 HG
  intro W6 H6
  obtain ⟨⟨p0, p1, p2, p3⟩, q0, q1, q2, q3⟩ := H6.b3.four
  obtain ⟨⟨r0, r1, r2, r3⟩, s0, s1, s2, s3⟩ := H6.b4.four
  obtain ⟨⟨t0, t1, t2, t3⟩, u0, u1, u2, u3⟩ := H6.b6.four
  obtain ⟨⟨v0, v1, v2, v3⟩, x0, x1, x2, x3⟩ := H6.b7.four
  have HT := two_boxes (x := x.1) 0 (g : Int) (u : Int) (k : Int) H6.b6 H6.b7 (by omega) H6.hd H6.hb (by omega) (by omega)
  unfold stored4 at HT
  clear H6 hne10 hwW hzo
  go_region
  refine post_over (Lies w (w.heap.size + 1 + 1 + 1) (w.heap.size + 1 + 1 + 1 + 1) A2 A2' n2 c2 n2' c2' x.1 0 g u k) HT.out.drew ?_
  intro W' HW
  clear p0 p1 p2 p3 q0 q1 q2 q3 r0 r1 r2 r3 s0 s1 s2 s3 t0 t1 t2 t3 u0 u1 u2 u3 v0 v1 v2 v3 x0 x1 x2 x3 HT
  have HW' := Lib.hid HW
  clear HW
  go_wp2
  rw [HLOG9.out HX0.out]
  refine bodyPost_ret (v := .tuple #[.agg #[.slice A2 n2 c2, .slice A2' n2' c2', .int .i64 x.1.fuse, .bool x.1.down], .agg #[.int .i64 0, .int .i64 (g : Int), .int .i64 (u : Int), .int .i64 (k : Int)], .int .i64 x.2]) ?_ rfl ⟨_, rfl, HW'.out.2.2.1, HW'.out.2.2.2⟩
  exact results_cct (fn := Tryz.f24) (a1 := ⟨w.heap.size + 1 + 1 + 1, 0, none⟩) (a2 := ⟨w.heap.size + 1 + 1 + 1 + 1, 0, none⟩) rfl rfl rfl rfl (load_box4 HW'.out.1) (load_log4 HW'.out.2.1)
set_option maxRecDepth 20000 in
set_option maxHeartbeats 4000000 in
theorem compact_arg1 (v : Value) (d : Dk) (g u k : Nat) (A1 : Option Addr) (n1 c1 : Nat) (L : List (List Nat)) (w : World) (hd : DkAt w w.heap.size v d) (hr : rightB d = true) (hl : LogFits d 1 g u k) (hL : Rss w w.heap.size A1 n1 L) (hn : n1 ≤ 1000000) (h0 : needN L = 0) :
 Calls Tryz.prog 24 #[v, logN 1 g u k, .slice A1 n1 c1] w (LogRes w (d, 1) (logN 1 g u k)) := by
 have h0i : (((needN L : Nat) : Int) == 0) = true := by simp; omega
 obtain ⟨A, n, c, A', n', c', rfl, hx⟩ := hd
 have HD := Lib.hid (show DkAt w w.heap.size (.agg #[.slice A n c, .slice A' n' c', .int .i64 d.fuse, .bool d.down]) d from ⟨A, n, c, A', n', c', rfl, hx⟩)
 have hgg : 1 ≤ g ∧ g ≤ 1099511627776 := ⟨hl.2.1, hl.2.2.1⟩
 have HL := Lib.hid hl
 have HR := Lib.hid hr
 have HSS := Lib.hid hL
 have HLEN := Lib.hid hL.lens
 have hsl : d.secs.length ≤ 4096 := (rightB_of.1 hr).1
 clear hx hr hl hL
 unfold logN at *
 go_enter Tryz.func24, Tryz.ntmps24
 go_wp2_with fail
 refine calls_over (CmpB w d 1 g u k A A' A1 n c n' c' n1 c1) (CmpB.start _ _ _ _ _ _ _ _ _ _ _ _ _ _ _) ?_
 intro W0 H0
 refine (need_any A1 n1 c1 W0.heap.size L W0 (HSS.out.later H0.hb).bss hn).mono ?_
 rintro e W0' ⟨rfl, rfl⟩
 obtain ⟨⟨p0, p1, p2, p3⟩, _⟩ := H0.b3.four
 obtain ⟨⟨r0, r1, r2, r3⟩, _⟩ := H0.b4.four
 have HH0 := Lib.hid H0
 clear H0
 go_wp2_with fail
 refine (wright_any _ d 1 g u k W0 (HD.out.later HH0.out.hb) HR.out HL.out).mono ?_
 rintro e W ⟨rfl, hbR⟩
 have H := HH0.out.below hbR
 clear HH0 hbR p0 p1 p2 p3 r0 r1 r2 r3
 obtain ⟨⟨p0, p1, p2, p3⟩, q0, q1, q2, q3⟩ := H.b3.four
 obtain ⟨⟨r0, r1, r2, r3⟩, s0, s1, s2, s3⟩ := H.b4.four
 obtain ⟨⟨t0, t1, t2, t3⟩, u0, u1, u2, u3⟩ := H.b6.four
 obtain ⟨⟨v0, v1, v2, v3⟩, x0, x1, x2, x3⟩ := H.b7.four
 have y0 := H.b5.one
 have HT := two_boxes (x := d) 1 (g : Int) (u : Int) (k : Int) H.b6 H.b7 (by omega) (HD.out.later H.hb) H.hb (by omega) (by omega)
 unfold stored4 at HT
 clear H
 go_wp2_with fail
 go_region
 refine post_over (Lies w (w.heap.size + 1 + 1 + 1) (w.heap.size + 1 + 1 + 1 + 1) A A' n c n' c' d 1 g u k) HT.out.drew ?_
 intro W' HW
 clear p0 p1 p2 p3 q0 q1 q2 q3 r0 r1 r2 r3 s0 s1 s2 s3 t0 t1 t2 t3 u0 u1 u2 u3 v0 v1 v2 v3 x0 x1 x2 x3 HT
 have HW' := Lib.hid HW
 clear HW
 go_wp2
 refine bodyPost_ret (v := .tuple #[.agg #[.slice A n c, .slice A' n' c', .int .i64 d.fuse, .bool d.down], .agg #[.int .i64 1, .int .i64 (g : Int), .int .i64 (u : Int), .int .i64 (k : Int)], .int .i64 1]) ?_ rfl ⟨_, rfl, HW'.out.2.2.1, HW'.out.2.2.2⟩
 exact results_cct (fn := Tryz.f24) (a1 := ⟨w.heap.size + 1 + 1 + 1, 0, none⟩) (a2 := ⟨w.heap.size + 1 + 1 + 1 + 1, 0, none⟩) rfl rfl rfl rfl (load_box4 HW'.out.1) (load_log4 HW'.out.2.1)
set_option maxRecDepth 20000 in
set_option maxHeartbeats 4000000 in
theorem compact_full1 (v : Value) (d : Dk) (g u k : Nat) (A1 : Option Addr) (n1 c1 : Nat) (L : List (List Nat)) (w : World) (hd : DkAt w w.heap.size v d) (hr : rightB d = true) (hl : LogFits d 1 g u k) (hL : Rss w w.heap.size A1 n1 L) (hn : n1 ≤ 1000000) (hok : ∀ b ∈ L, okR b) (hne : L ≠ []) (hfull : d.secs.length / 2 < sumT L) :
 Calls Tryz.prog 24 #[v, logN 1 g u k, .slice A1 n1 c1] w (LogRes w (d, 8) (logN 1 g u k)) := by
 have hneed : needN L = sumT L := needN_ok hok
 have hpos : 0 < sumT L := by omega
 have h0i : (((sumT L : Nat) : Int) == 0) = false := by simp; omega
 have hfi : ((d.secs.length / 2 : Nat) : Int) < ((sumT L : Nat) : Int) := by omega
 have HNEED := Lib.hid hneed
 have HOK := Lib.hid hok; have HNE := Lib.hid hne; have HFU := Lib.hid hfull
 clear hneed hok hne hfull
 generalize hq : sumT L = q at *
 have HQ := Lib.hid hq
 clear hq
 obtain ⟨A, n, c, A', n', c', rfl, hx⟩ := hd
 have HD := Lib.hid (show DkAt w w.heap.size (.agg #[.slice A n c, .slice A' n' c', .int .i64 d.fuse, .bool d.down]) d from ⟨A, n, c, A', n', c', rfl, hx⟩)
 have hgg : 1 ≤ g ∧ g ≤ 1099511627776 := ⟨hl.2.1, hl.2.2.1⟩
 have HL := Lib.hid hl
 have HR := Lib.hid hr
 have HSS := Lib.hid hL
 have HLEN := Lib.hid hL.lens
 have hsl : d.secs.length ≤ 4096 := (rightB_of.1 hr).1
 clear hx hr hl hL
 unfold logN at *
 go_enter Tryz.func24, Tryz.ntmps24
 go_wp2_with fail
 refine calls_over (CmpB w d 1 g u k A A' A1 n c n' c' n1 c1) (CmpB.start _ _ _ _ _ _ _ _ _ _ _ _ _ _ _) ?_
 intro W0 H0
 refine (need_any A1 n1 c1 W0.heap.size L W0 (HSS.out.later H0.hb).bss hn).mono ?_
 rw [HNEED.out]
 rintro e W0' ⟨rfl, rfl⟩
 obtain ⟨⟨p0, p1, p2, p3⟩, _⟩ := H0.b3.four
 obtain ⟨⟨r0, r1, r2, r3⟩, _⟩ := H0.b4.four
 have HH0 := Lib.hid H0
 clear H0
 go_wp2_with fail
 refine (wright_any _ d 1 g u k W0 (HD.out.later HH0.out.hb) HR.out HL.out).mono ?_
 rintro e W ⟨rfl, hbR⟩
 have H := HH0.out.below hbR
 clear HH0 hbR p0 p1 p2 p3 r0 r1 r2 r3
 obtain ⟨⟨p0, p1, p2, p3⟩, q0, q1, q2, q3⟩ := H.b3.four
 obtain ⟨⟨r0, r1, r2, r3⟩, s0, s1, s2, s3⟩ := H.b4.four
 obtain ⟨⟨t0, t1, t2, t3⟩, u0, u1, u2, u3⟩ := H.b6.four
 obtain ⟨⟨v0, v1, v2, v3⟩, x0, x1, x2, x3⟩ := H.b7.four
 have y0 := H.b5.one
 have hz4 := H.b7.lt
 have hz0 := H.b3.lt
 have hz1 := H.b4.lt
 have hz2 := H.b5.lt
 have HH := Lib.hid H
 clear H
 have hg2 : (g : Int) ≤ 1099511627776 := by omega
 have hg0 : 0 ≤ (g : Int) := by omega
 clear hgg
 go_wp2_with fail
 refine calls_over (fun W' => CmpB w d 1 g u k A A' A1 n c n' c' n1 c1 W' ∧ Bk W' W.heap.size 32 #[.int .i64 0, .int .i64 ((g : Int) + 1), .int .i64 (q : Int), .int .i64 (n1 : Int)]) ⟨HH.out.below ((Below.refl _ _).alloc (Nat.le_refl _) _), by simpa using Bk.new W 32 _⟩ ?_
 clear p0 p1 p2 p3 q0 q1 q2 q3 r0 r1 r2 r3 s0 s1 s2 s3 t0 t1 t2 t3 u0 u1 u2 u3 v0 v1 v2 v3 x0 x1 x2 x3 y0
 rintro W2 ⟨H2, hb10⟩
 refine (halfOf_any _ d 0 W2 (HD.out.later H2.hb) (by omega) hsl).mono ?_
 rintro e W3 ⟨rfl, hb3⟩
 unfold halfV
 have hsz2 := HH.out.b3.lt
 have HH3 := Lib.hid (H2.below hb3)
 have HB10 := Lib.hid (hb10.below hb3 hb10.lt)
 have hne10 : W.heap.size ≠ w.heap.size ∧ W.heap.size ≠ w.heap.size + 1 ∧ W.heap.size ≠ w.heap.size + 1 + 1 ∧ W.heap.size ≠ w.heap.size + 1 + 1 + 1 ∧ W.heap.size ≠ w.heap.size + 1 + 1 + 1 + 1 := by
  have h1 := HH.out.b7.lt
  omega
 have hwW : w.heap.size ≤ W.heap.size := HH.out.hb.size
 clear H2 hb10 hb3 HH
 generalize W.heap.size = bo at *
 obtain ⟨⟨p0, p1, p2, p3⟩, _⟩ := HH3.out.b3.four
 obtain ⟨⟨r0, r1, r2, r3⟩, _⟩ := HH3.out.b4.four
 have y0 := HH3.out.b5.one
 obtain ⟨⟨l0, l1, l2, l3⟩, _⟩ := HB10.out.four
 have hz5 := HH3.out.b3.lt
 have hz6 := HH3.out.b4.lt
 have hz7 := HH3.out.b5.lt
 have hzo := HB10.out.lt
 generalize hsz9 : d.secs.length / 2 = sz at *
 have HS9 := Lib.hid hsz9
 clear hsz9
 go_wp2_with fail
 refine code_over (CmpB w d 1 g u k A A' A1 n c n' c' n1 c1) (HH3.out.below ((Below.refl _ _).alloc (Nat.le_refl _) _)) ?_
 clear p0 p1 p2 p3 r0 r1 r2 r3 y0 l0 l1 l2 l3 hz5 hz6 hz7 hzo hz0 hz1 hz2 hz4 hsz2 hne10 hwW HH3 HB10
 intro W4 H
 obtain ⟨⟨p0, p1, p2, p3⟩, q0, q1, q2, q3⟩ := H.b3.four
 obtain ⟨⟨r0, r1, r2, r3⟩, s0, s1, s2, s3⟩ := H.b4.four
 obtain ⟨⟨t0, t1, t2, t3⟩, u0, u1, u2, u3⟩ := H.b6.four
 obtain ⟨⟨v0, v1, v2, v3⟩, x0, x1, x2, x3⟩ := H.b7.four
 have y0 := H.b5.one
 have HT := two_boxes (x := d) 1 (g : Int) (u : Int) (k : Int) H.b6 H.b7 (by omega) (HD.out.later H.hb) H.hb (by omega) (by omega)
 unfold stored4 at HT
 clear H y0
 go_region
 refine post_over (Lies w (w.heap.size + 1 + 1 + 1) (w.heap.size + 1 + 1 + 1 + 1) A A' n c n' c' d 1 g u k) HT.out.drew ?_
 intro W' HW
 clear p0 p1 p2 p3 q0 q1 q2 q3 r0 r1 r2 r3 s0 s1 s2 s3 t0 t1 t2 t3 u0 u1 u2 u3 v0 v1 v2 v3 x0 x1 x2 x3 HT
 have HW' := Lib.hid HW
 clear HW
 go_wp2
 refine bodyPost_ret (v := .tuple #[.agg #[.slice A n c, .slice A' n' c', .int .i64 d.fuse, .bool d.down], .agg #[.int .i64 1, .int .i64 (g : Int), .int .i64 (u : Int), .int .i64 (k : Int)], .int .i64 8]) ?_ rfl ⟨_, rfl, HW'.out.2.2.1, HW'.out.2.2.2⟩
 exact results_cct (fn := Tryz.f24) (a1 := ⟨w.heap.size + 1 + 1 + 1, 0, none⟩) (a2 := ⟨w.heap.size + 1 + 1 + 1 + 1, 0, none⟩) rfl rfl rfl rfl (load_box4 HW'.out.1) (load_log4 HW'.out.2.1)
set_option maxRecDepth 20000 in
set_option maxHeartbeats 8000000 in
theorem compact_run1 (v : Value) (d : Dk) (g u k : Nat) (A1 : Option Addr) (n1 c1 : Nat) (L : List (List Nat)) (w : World) (hd : DkAt w w.heap.size v d) (hr : rightB d = true) (hl : LogFits d 1 g u k) (hL : Rss w w.heap.size A1 n1 L) (hn : n1 ≤ 1000000) (hok : ∀ b ∈ L, okR b) (hne : L ≠ []) (hfit : sumT L ≤ d.secs.length / 2) (hgm : g < 1099511627776) (ht : Tab w)
 (hx09 : (runM d (layD 0 (d.secs.length / 2) (g + 1) L)).2 = 0 ∨ (runM d (layD 0 (d.secs.length / 2) (g + 1) L)).2 = 9) :
 Calls Tryz.prog 24 #[v, logN 1 g u k, .slice A1 n1 c1] w (LogRes w (runM d (layD 0 (d.secs.length / 2) (g + 1) L)) (cmpLog (runM d (layD 0 (d.secs.length / 2) (g + 1) L)) 1 g u k L)) := by
 have hneed : needN L = sumT L := needN_ok hok
 have hge := sumT_ge hok
 have hlp : 0 < L.length := List.length_pos_iff.2 hne
 have hn1p : 0 < n1 := by rw [← hL.lens]; exact hlp
 have hn1q : 2 * n1 ≤ sumT L := by rw [← hL.lens]; exact hge
 have hpos : 0 < sumT L := by omega
 have h0i : (((sumT L : Nat) : Int) == 0) = false := by simp; omega
 have hfi : ¬ ((d.secs.length / 2 : Nat) : Int) < ((sumT L : Nat) : Int) := by omega
 generalize hX : runM d (layD 0 (d.secs.length / 2) (g + 1) L) = x at *
 have HXX := Lib.hid hX
 have HX := Lib.hid hx09
 have HTAB := Lib.hid ht
 have HLOG0 : Hid (x.2 = 0 → cmpLog x 1 g u k L = .agg #[.int .i64 0, .int .i64 ((g : Int) + 1), .int .i64 ((sumT L : Nat) : Int), .int .i64 (n1 : Int)]) := Lib.hid (fun h0 => by unfold cmpLog logN; rw [if_pos h0, hL.lens]; simp)
 have HLOG9 : Hid (x.2 ≠ 0 → cmpLog x 1 g u k L = .agg #[.int .i64 1, .int .i64 (g : Int), .int .i64 (u : Int), .int .i64 (k : Int)]) := Lib.hid (fun h0 => by unfold cmpLog logN; rw [if_neg h0]; simp)
 have HNEED := Lib.hid hneed
 have HOK := Lib.hid hok; have HFU := Lib.hid hfit
 clear hneed hok hne hfit hX hx09 ht hge hlp
 generalize hq : sumT L = q at *
 have HQ := Lib.hid hq
 clear hq
 obtain ⟨A, n, c, A', n', c', rfl, hx⟩ := hd
 have HD := Lib.hid (show DkAt w w.heap.size (.agg #[.slice A n c, .slice A' n' c', .int .i64 d.fuse, .bool d.down]) d from ⟨A, n, c, A', n', c', rfl, hx⟩)
 have hgg : 1 ≤ g ∧ g ≤ 1099511627776 := ⟨hl.2.1, hl.2.2.1⟩
 have HL := Lib.hid hl
 have HR := Lib.hid hr
 have HSS := Lib.hid hL
 have HLEN := Lib.hid hL.lens
 have hsl : d.secs.length ≤ 4096 := (rightB_of.1 hr).1
 clear hx hr hl hL
 unfold logN at *
 go_enter Tryz.func24, Tryz.ntmps24
 go_wp2_with fail
 refine calls_over (CmpB w d 1 g u k A A' A1 n c n' c' n1 c1) (CmpB.start _ _ _ _ _ _ _ _ _ _ _ _ _ _ _) ?_
 intro W0 H0
 refine (need_any A1 n1 c1 W0.heap.size L W0 (HSS.out.later H0.hb).bss hn).mono ?_
 rw [HNEED.out]
 rintro e W0' ⟨rfl, rfl⟩
 obtain ⟨⟨p0, p1, p2, p3⟩, _⟩ := H0.b3.four
 obtain ⟨⟨r0, r1, r2, r3⟩, _⟩ := H0.b4.four
 have HH0 := Lib.hid H0
 clear H0
 go_wp2_with fail
 refine (wright_any _ d 1 g u k W0 (HD.out.later HH0.out.hb) HR.out HL.out).mono ?_
 rintro e W ⟨rfl, hbR⟩
 have H := HH0.out.below hbR
 clear HH0 hbR p0 p1 p2 p3 r0 r1 r2 r3
 obtain ⟨⟨p0, p1, p2, p3⟩, q0, q1, q2, q3⟩ := H.b3.four
 obtain ⟨⟨r0, r1, r2, r3⟩, s0, s1, s2, s3⟩ := H.b4.four
 obtain ⟨⟨t0, t1, t2, t3⟩, u0, u1, u2, u3⟩ := H.b6.four
 obtain ⟨⟨v0, v1, v2, v3⟩, x0, x1, x2, x3⟩ := H.b7.four
 have y0 := H.b5.one
 have hz4 := H.b7.lt
 have hz0 := H.b3.lt
 have hz1 := H.b4.lt
 have hz2 := H.b5.lt
 have HH := Lib.hid H
 clear H
 have hg2 : (g : Int) ≤ 1099511627776 := by omega
 have hg0 : 0 ≤ (g : Int) := by omega
 clear hgg
 go_wp2_with fail
 refine calls_over (fun W' => CmpB w d 1 g u k A A' A1 n c n' c' n1 c1 W' ∧ Bk W' W.heap.size 32 #[.int .i64 0, .int .i64 ((g : Int) + 1), .int .i64 (q : Int), .int .i64 (n1 : Int)]) ⟨HH.out.below ((Below.refl _ _).alloc (Nat.le_refl _) _), by simpa using Bk.new W 32 _⟩ ?_
 clear p0 p1 p2 p3 q0 q1 q2 q3 r0 r1 r2 r3 s0 s1 s2 s3 t0 t1 t2 t3 u0 u1 u2 u3 v0 v1 v2 v3 x0 x1 x2 x3 y0
 rintro W2 ⟨H2, hb10⟩
 refine (halfOf_any _ d 0 W2 (HD.out.later H2.hb) (by omega) hsl).mono ?_
 rintro e W3 ⟨rfl, hb3⟩
 unfold halfV
 simp only [Nat.one_mul, Nat.zero_mul, Int.natCast_zero]
 have hsz2 := HH.out.b3.lt
 have HH3 := Lib.hid (H2.below hb3)
 have HB10 := Lib.hid (hb10.below hb3 hb10.lt)
 have hne10 : W.heap.size ≠ w.heap.size ∧ W.heap.size ≠ w.heap.size + 1 ∧ W.heap.size ≠ w.heap.size + 1 + 1 ∧ W.heap.size ≠ w.heap.size + 1 + 1 + 1 ∧ W.heap.size ≠ w.heap.size + 1 + 1 + 1 + 1 := by
  have h1 := HH.out.b7.lt
  omega
 have hwW : w.heap.size ≤ W.heap.size := HH.out.hb.size
 clear H2 hb10 hb3 HH
 generalize W.heap.size = bo at *
 obtain ⟨⟨p0, p1, p2, p3⟩, _⟩ := HH3.out.b3.four
 obtain ⟨⟨r0, r1, r2, r3⟩, _⟩ := HH3.out.b4.four
 have y0 := HH3.out.b5.one
 obtain ⟨⟨l0, l1, l2, l3⟩, _⟩ := HB10.out.four
 have hz5 := HH3.out.b3.lt
 have hz6 := HH3.out.b4.lt
 have hz7 := HH3.out.b5.lt
 have hzo := HB10.out.lt
 have hmf : ∀ (fn : Fn) (first cap : Array Value) (w : World), (Instr.makeFunc fn first cap).run Tryz.prog w = .ok (.func fn first cap) w := fun _ _ _ _ => rfl
 have hgne : ((g : Int) == 1099511627776) = false := by simp; omega
 have hsz4 : d.secs.length / 2 ≤ 2048 := by omega
 generalize hsz9 : d.secs.length / 2 = sz at *
 have HS9 := Lib.hid hsz9
 clear hsz9
 go_wp2_with fail
 refine calls_over (fun W' => CmpB w d 1 g u k A A' A1 n c n' c' n1 c1 W' ∧ Bk W' W3.heap.size 79 #[.int .i64 0, .int .i64 (sz : Int)] ∧ Bk W' bo 32 #[.int .i64 0, .int .i64 ((g : Int) + 1), .int .i64 (q : Int), .int .i64 (n1 : Int)]) ⟨HH3.out.below ((Below.refl _ _).alloc (Nat.le_refl _) _), Bk.new _ _ _, HB10.out.alloc _⟩ ?_
 clear p0 p1 p2 p3 r0 r1 r2 r3 y0 l0 l1 l2 l3 hz5 hz6 hz7 hz0 hz1 hz2 hz4 hsz2 HH3 HB10
 generalize W3.heap.size = bh at *
 rintro W4 ⟨H4, hbh, hbo⟩
 have hWr := writes_compact W4 d bh bo (w.heap.size + 1 + 1) 0 sz (g + 1) 0 q n1 A1 n1 c1 L hbh (by simpa [logV] using hbo) H4.b5 (HSS.out.later H4.hb) (HTAB.out.below H4.hb HTAB.out.pos) HOK.out hn1p (by omega) (by omega) (by omega) (by omega)
 rw [HXX.out] at hWr
 refine (written_any _ d 49 _ x W4 (HD.out.later H4.hb) HX.out hWr (enters_of Tryz.func49 (by kernel_rfl) rfl)).mono ?_
 clear hWr
 intro e W5 hres
 obtain ⟨A2, n2, c2, A2', n2', c2', rfl, hd5, hb5⟩ := hres.zero
 have H5 := H4.below hb5
 replace hbo := hbo.below hb5 hbo.lt
 clear hb5 hres H4 hbh
 obtain ⟨⟨p0, p1, p2, p3⟩, q0, q1, q2, q3⟩ := H5.b3.four
 have hf3 := stored4_facts H5.b3 (.slice A2 n2 c2) (.slice A2' n2' c2') (.int .i64 x.1.fuse) (.bool x.1.down)
 have HG : Hid (AppF w x A2 A2' n2 c2 n2' c2' 1 g u k (stored4 W5 w.heap.size (.slice A2 n2 c2) (.slice A2' n2' c2') (.int .i64 x.1.fuse) (.bool x.1.down)) ∧ Bk (stored4 W5 w.heap.size (.slice A2 n2 c2) (.slice A2' n2' c2') (.int .i64 x.1.fuse) (.bool x.1.down)) bo 32 #[.int .i64 0, .int .i64 ((g : Int) + 1), .int .i64 (q : Int), .int .i64 (n1 : Int)]) :=
  Lib.hid ⟨⟨hf3.1, hf3.2.2.2 _ _ _ (by omega) H5.b4, hf3.2.2.2 _ _ _ (by omega) H5.b6, hf3.2.2.2 _ _ _ (by omega) H5.b7, hf3.2.1 _ _ hd5, hf3.2.2.1 _ _ H5.hb (Nat.le_refl _)⟩, hf3.2.2.2 _ _ _ hne10.1 hbo⟩
 unfold stored4 at HG
 clear hf3 hd5 H5 hbo
 by_cases hx0 : x.2 = 0
 ·have hxi : (x.2 != 0) = false := by simp [hx0]
  have HX0 := Lib.hid hx0
  clear hx0
  go_wp2_with fail
  refine code_over (fun W' => AppF w x A2 A2' n2 c2 n2' c2' 1 g u k W' ∧ Bk W' bo 32 #[.int .i64 0, .int .i64 ((g : Int) + 1), .int .i64 (q : Int), .int .i64 (n1 : Int)]) HG.out ?_
  clear p0 p1 p2 p3 q0 q1 q2 q3 HG
  rintro W6 ⟨H6, hbo⟩
  obtain ⟨⟨p0, p1, p2, p3⟩, q0, q1, q2, q3⟩ := H6.b3.four
  obtain ⟨⟨r0, r1, r2, r3⟩, s0, s1, s2, s3⟩ := hbo.four
  obtain ⟨⟨t0, t1, t2, t3⟩, u0, u1, u2, u3⟩ := H6.b6.four
  obtain ⟨⟨v0, v1, v2, v3⟩, x0, x1, x2, x3⟩ := H6.b7.four
  have HT := two_boxes (x := x.1) 0 ((g : Int) + 1) (q : Int) (n1 : Int) H6.b6 H6.b7 (by omega) H6.hd H6.hb (by omega) (by omega)
  unfold stored4 at HT
  have hn6 : bo ≠ w.heap.size + 1 + 1 + 1 := hne10.2.2.2.1
  have hn7 : bo ≠ w.heap.size + 1 + 1 + 1 + 1 := hne10.2.2.2.2
  clear H6 hbo hne10 hwW hzo
  generalize (g : Int) + 1 = g9 at *
  go_region
  refine post_over (Lies w (w.heap.size + 1 + 1 + 1) (w.heap.size + 1 + 1 + 1 + 1) A2 A2' n2 c2 n2' c2' x.1 0 g9 q n1) HT.out.drew ?_
  intro W' HW
  clear p0 p1 p2 p3 q0 q1 q2 q3 r0 r1 r2 r3 s0 s1 s2 s3 t0 t1 t2 t3 u0 u1 u2 u3 v0 v1 v2 v3 x0 x1 x2 x3 HT
  have HW' := Lib.hid HW
  clear HW
  go_wp2
  rw [HLOG0.out HX0.out]
  refine bodyPost_ret (v := .tuple #[.agg #[.slice A2 n2 c2, .slice A2' n2' c2', .int .i64 x.1.fuse, .bool x.1.down], .agg #[.int .i64 0, .int .i64 g9, .int .i64 (q : Int), .int .i64 (n1 : Int)], .int .i64 0]) ?_ rfl ⟨_, by rw [HX0.out], HW'.out.2.2.1, HW'.out.2.2.2⟩
  exact results_cct (fn := Tryz.f24) (a1 := ⟨w.heap.size + 1 + 1 + 1, 0, none⟩) (a2 := ⟨w.heap.size + 1 + 1 + 1 + 1, 0, none⟩) rfl rfl rfl rfl (load_box4 HW'.out.1) (load_log4 HW'.out.2.1)
 ·have hxi : (x.2 != 0) = true := by simpa using hx0
  have HX0 := Lib.hid hx0
  clear hx0
  go_wp2_with fail
  refine code_over (AppF w x A2 A2' n2 c2 n2' c2' 1 g u k) HG.out.1 ?_
  clear p0 p1 p2 p3 q0 q1 q2 q3 HG
  intro W6 H6
  obtain ⟨⟨p0, p1, p2, p3⟩, q0, q1, q2, q3⟩ := H6.b3.four
  obtain ⟨⟨r0, r1, r2, r3⟩, s0, s1, s2, s3⟩ := H6.b4.four
  obtain ⟨⟨t0, t1, t2, t3⟩, u0, u1, u2, u3⟩ := H6.b6.four
  obtain ⟨⟨v0, v1, v2, v3⟩, x0, x1, x2, x3⟩ := H6.b7.four
  have HT := two_boxes (x := x.1) 1 (g : Int) (u : Int) (k : Int) H6.b6 H6.b7 (by omega) H6.hd H6.hb (by omega) (by omega)
  unfold stored4 at HT
  clear H6 hne10 hwW hzo
  go_region
  refine post_over (Lies w (w.heap.size + 1 + 1 + 1) (w.heap.size + 1 + 1 + 1 + 1) A2 A2' n2 c2 n2' c2' x.1 1 g u k) HT.out.drew ?_
  intro W' HW
  clear p0 p1 p2 p3 q0 q1 q2 q3 r0 r1 r2 r3 s0 s1 s2 s3 t0 t1 t2 t3 u0 u1 u2 u3 v0 v1 v2 v3 x0 x1 x2 x3 HT
  have HW' := Lib.hid HW
  clear HW
  go_wp2
  rw [HLOG9.out HX0.out]
  refine bodyPost_ret (v := .tuple #[.agg #[.slice A2 n2 c2, .slice A2' n2' c2', .int .i64 x.1.fuse, .bool x.1.down], .agg #[.int .i64 1, .int .i64 (g : Int), .int .i64 (u : Int), .int .i64 (k : Int)], .int .i64 x.2]) ?_ rfl ⟨_, rfl, HW'.out.2.2.1, HW'.out.2.2.2⟩
  exact results_cct (fn := Tryz.f24) (a1 := ⟨w.heap.size + 1 + 1 + 1, 0, none⟩) (a2 := ⟨w.heap.size + 1 + 1 + 1 + 1, 0, none⟩) rfl rfl rfl rfl (load_box4 HW'.out.1) (load_log4 HW'.out.2.1)
end Go.Proofs.YtcdehejgnnnimaaGreatDoor
