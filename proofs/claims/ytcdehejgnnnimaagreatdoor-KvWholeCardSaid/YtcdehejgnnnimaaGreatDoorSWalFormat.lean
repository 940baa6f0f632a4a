/-
 A part of the proof: see the last text.
-/
import Derived.Test.YtcdehejgnnnimaaGreatDoorSWalCompact
namespace Go.Proofs.YtcdehejgnnnimaaGreatDoor
set_option linter.unusedVariables false
set_option linter.unusedSimpArgs false
open Go.RowKit
structure FmtB (w : World) (d : Dk) (A A' A1 : Option Addr) (n c n' c' n1 c1 : Nat) (W : World) : Prop where
 b3 : Bk W w.heap.size 27 #[.slice A n c, .slice A' n' c', .int .i64 d.fuse, .bool d.down]
 b5 : Bk W (w.heap.size + 1) 57 #[.slice A1 n1 c1]
 b6 : Bk W (w.heap.size + 1 + 1) 27 #[.slice none 0 0, .slice none 0 0, .int .i64 0, .bool false]
 b7 : Bk W (w.heap.size + 1 + 1 + 1) 32 #[.int .i64 0, .int .i64 0, .int .i64 0, .int .i64 0]
 hb : Below w.heap.size w W
theorem FmtB.below {w W W' : World} {d : Dk} {A A' A1 : Option Addr} {n c n' c' n1 c1 : Nat} (H : FmtB w d A A' A1 n c n' c' n1 c1 W) (hb : Below W.heap.size W W') : FmtB w d A A' A1 n c n' c' n1 c1 W' :=
 ⟨H.b3.below hb H.b3.lt, H.b5.below hb H.b5.lt, H.b6.below hb H.b6.lt, H.b7.below hb H.b7.lt, H.hb.trans (hb.mono H.hb.size)⟩
theorem FmtB.start (w : World) (d : Dk) (A A' A1 : Option Addr) (n c n' c' n1 c1 : Nat) : FmtB w d A A' A1 n c n' c' n1 c1 ((((w.alloc (.cells #[.slice A n c, .slice A' n' c', .int .i64 d.fuse, .bool d.down] 27)).alloc (.cells #[.slice A1 n1 c1] 57)).alloc (.cells #[.slice none 0 0, .slice none 0 0, .int .i64 0, .bool false] 27)).alloc (.cells #[.int .i64 0, .int .i64 0, .int .i64 0, .int .i64 0] 32)) :=
 ⟨(((Bk.new w _ _).alloc _).alloc _).alloc _, ((Bk.new2 w _ _ _).alloc _).alloc _, (Bk.new3 w _ _ _ _).alloc _, Bk.new4 w _ _ _ _ _,
   ((((Below.refl w.heap.size w).alloc (Nat.le_refl _) _).alloc (by simp) _).alloc (by simp only [World.size_alloc]; omega) _).alloc (by simp only [World.size_alloc]; omega) _⟩
theorem Lies.alloc {w : World} {b6 b7 : Nat} {A A' : Option Addr} {n c n' c' : Nat} {x : Dk} {z0 z1 z2 z3 : Int} {W : World} (h : Lies w b6 b7 A A' n c n' c' x z0 z1 z2 z3 W) (o : Obj) : Lies w b6 b7 A A' n c n' c' x z0 z1 z2 z3 (W.alloc o) :=
 ⟨h.1.alloc o, h.2.1.alloc o, h.2.2.1.later ((Below.refl _ _).alloc (Nat.le_refl _) _), h.2.2.2.alloc h.2.2.2.size o⟩
structure FmtF (w : World) (x : Dk × Int) (A A' A1 : Option Addr) (n c n' c' n1 c1 : Nat) (W : World) : Prop where
 b3 : Bk W w.heap.size 27 #[.slice A n c, .slice A' n' c', .int .i64 x.1.fuse, .bool x.1.down]
 b5 : Bk W (w.heap.size + 1) 57 #[.slice A1 n1 c1]
 b6 : Bk W (w.heap.size + 1 + 1) 27 #[.slice none 0 0, .slice none 0 0, .int .i64 0, .bool false]
 b7 : Bk W (w.heap.size + 1 + 1 + 1) 32 #[.int .i64 0, .int .i64 0, .int .i64 0, .int .i64 0]
 hd : DkAt W W.heap.size (.agg #[.slice A n c, .slice A' n' c', .int .i64 x.1.fuse, .bool x.1.down]) x.1
 hb : Below w.heap.size w W
set_option maxRecDepth 20000 in
set_option maxHeartbeats 8000000 in
theorem format_run (v : Value) (d : Dk) (A1 : Option Addr) (n1 c1 : Nat) (L : List (List Nat)) (w : World) (hd : DkAt w w.heap.size v d) (hr : rightB d = true) (hL : Rss w w.heap.size A1 n1 L) (hn : n1 ≤ 1000000) (hok : ∀ b ∈ L, okR b) (hne : L ≠ []) (hfit : sumT L ≤ d.secs.length / 2) (ht : Tab w) (hx0 : (runM d (formD (d.secs.length / 2) L)).2 = 0) :
 Calls Tryz.prog 16 #[v, .slice A1 n1 c1] w (LogRes w (runM d (formD (d.secs.length / 2) L)) (logN 0 1 (sumT L) L.length)) := by
 have hge := sumT_ge hok
 have hlp : 0 < L.length := List.length_pos_iff.2 hne
 have hn1p : 0 < n1 := by rw [← hL.lens]; exact hlp
 have hn1q : 2 * n1 ≤ sumT L := by rw [← hL.lens]; exact hge
 have hpos : 0 < sumT L := by omega
 have h0i : (((sumT L : Nat) : Int) == 0) = false := by simp; omega
 have hfi : ¬ ((d.secs.length / 2 : Nat) : Int) < ((sumT L : Nat) : Int) := by omega
 generalize hX : runM d (formD (d.secs.length / 2) L) = x at *
 have HXX := Lib.hid hX
 have HX := Lib.hid hx0
 have hxi : (x.2 != 0) = false := by simp [hx0]
 have HTAB := Lib.hid ht
 have HLOG : Hid (logN 0 1 (sumT L) L.length = .agg #[.int .i64 0, .int .i64 1, .int .i64 ((sumT L : Nat) : Int), .int .i64 (n1 : Int)]) := Lib.hid (by unfold logN; rw [hL.lens]; simp)
 have hneed : needN L = sumT L := needN_ok hok
 have HNEED := Lib.hid hneed
 have HOK := Lib.hid hok
 clear hneed hok
 have HFU := Lib.hid hfit
 clear hne hfit hX hx0 ht hge hlp
 rw [HLOG.out]
 clear HLOG
 generalize hq : sumT L = q at *
 have HQ := Lib.hid hq
 clear hq
 obtain ⟨A, n, c, A', n', c', rfl, hx⟩ := hd
 have HD := Lib.hid (show DkAt w w.heap.size (.agg #[.slice A n c, .slice A' n' c', .int .i64 d.fuse, .bool d.down]) d from ⟨A, n, c, A', n', c', rfl, hx⟩)
 have HR := Lib.hid hr
 have HSS := Lib.hid hL
 have HLEN := Lib.hid hL.lens
 have hsl : d.secs.length ≤ 4096 := (rightB_of.1 hr).1
 clear hx hr hL
 go_enter Tryz.func16, Tryz.ntmps16
 go_wp2_with fail
 refine calls_over (FmtB w d A A' A1 n c n' c' n1 c1) (FmtB.start _ _ _ _ _ _ _ _ _ _ _) ?_
 intro W0 H0
 refine (need_any A1 n1 c1 W0.heap.size L W0 (HSS.out.later H0.hb).bss hn).mono ?_
 rw [HNEED.out]
 rintro e W0' ⟨rfl, rfl⟩
 obtain ⟨⟨p0, p1, p2, p3⟩, _⟩ := H0.b3.four
 have y0 := H0.b5.one
 have HH0 := Lib.hid H0
 clear H0
 go_wp2_with fail
 refine (right_any _ d W0 (HD.out.later HH0.out.hb)).mono ?_
 rw [HR.out]
 rintro e W ⟨rfl, hbR⟩
 have H := HH0.out.below hbR
 clear HH0 hbR p0 p1 p2 p3 y0
 obtain ⟨⟨p0, p1, p2, p3⟩, q0, q1, q2, q3⟩ := H.b3.four
 obtain ⟨⟨t0, t1, t2, t3⟩, u0, u1, u2, u3⟩ := H.b6.four
 obtain ⟨⟨v0, v1, v2, v3⟩, x0, x1, x2, x3⟩ := H.b7.four
 have y0 := H.b5.one
 have HH := Lib.hid H
 clear H
 go_wp2_with fail
 refine (halfOf_any _ d 0 W (HD.out.later HH.out.hb) (by omega) hsl).mono ?_
 rintro e W3 ⟨rfl, hb3⟩
 unfold halfV
 simp only [Nat.zero_mul, Int.natCast_zero]
 have HH3 := Lib.hid (HH.out.below hb3)
 clear p0 p1 p2 p3 q0 q1 q2 q3 y0 t0 t1 t2 t3 u0 u1 u2 u3 v0 v1 v2 v3 x0 x1 x2 x3 HH hb3
 obtain ⟨⟨p0, p1, p2, p3⟩, _⟩ := HH3.out.b3.four
 have y0 := HH3.out.b5.one
 have hz5 := HH3.out.b3.lt
 have hz7 := HH3.out.b5.lt
 have hz8 := HH3.out.b6.lt
 have hz9 := HH3.out.b7.lt
 obtain ⟨⟨t0, t1, t2, t3⟩, u0, u1, u2, u3⟩ := HH3.out.b6.four
 obtain ⟨⟨v0, v1, v2, v3⟩, x0, x1, x2, x3⟩ := HH3.out.b7.four
 generalize hsz9 : d.secs.length / 2 = sz at *
 have HS9 := Lib.hid hsz9
 clear hsz9
 clear t0 t1 t2 t3 u0 u1 u2 u3 v0 v1 v2 v3 x0 x1 x2 x3
 have hmf : ∀ (fn : Fn) (first cap : Array Value) (w : World), (Instr.makeFunc fn first cap).run Tryz.prog w = .ok (.func fn first cap) w := fun _ _ _ _ => rfl
 have hsz4 : sz ≤ 2048 := by have := HS9.out; omega
 have hn9 : n1 ≤ 4096 := by have := HFU.out; omega
 go_wp2_with fail
 refine calls_over (fun W' => FmtB w d A A' A1 n c n' c' n1 c1 W' ∧ Bk W' W3.heap.size 79 #[.int .i64 0, .int .i64 (sz : Int)]) ⟨HH3.out.below ((Below.refl _ _).alloc (Nat.le_refl _) _), Bk.new _ _ _⟩ ?_
 clear p0 p1 p2 p3 y0 hz5 hz7 hz8 hz9 HH3
 generalize W3.heap.size = bh at *
 rintro W4 ⟨H4, hbh⟩
 have hWr := writes_format W4 d bh (w.heap.size + 1) sz A1 n1 c1 L hbh H4.b5 (HSS.out.later H4.hb) (HTAB.out.below H4.hb HTAB.out.pos) HOK.out hn1p hn9 (by omega)
 rw [HXX.out] at hWr
 refine (written_any _ d 34 _ x W4 (HD.out.later H4.hb) (.inl HX.out) hWr (enters_of Tryz.func34 (by kernel_rfl) rfl)).mono ?_
 clear hWr
 intro e W5 hres
 obtain ⟨A2, n2, c2, A2', n2', c2', rfl, hd5, hb5⟩ := hres.zero
 have H5 := H4.below hb5
 clear hb5 hres H4 hbh
 obtain ⟨⟨p0, p1, p2, p3⟩, q0, q1, q2, q3⟩ := H5.b3.four
 have hf3 := stored4_facts H5.b3 (.slice A2 n2 c2) (.slice A2' n2' c2') (.int .i64 x.1.fuse) (.bool x.1.down)
 have HG : Hid (FmtF w x A2 A2' A1 n2 c2 n2' c2' n1 c1 (stored4 W5 w.heap.size (.slice A2 n2 c2) (.slice A2' n2' c2') (.int .i64 x.1.fuse) (.bool x.1.down))) :=
  Lib.hid ⟨hf3.1, hf3.2.2.2 _ _ _ (by omega) H5.b5, hf3.2.2.2 _ _ _ (by omega) H5.b6, hf3.2.2.2 _ _ _ (by omega) H5.b7, hf3.2.1 _ _ hd5, hf3.2.2.1 _ _ H5.hb (Nat.le_refl _)⟩
 unfold stored4 at HG
 clear hf3 hd5 H5
 go_wp2_with fail
 refine code_over (FmtF w x A2 A2' A1 n2 c2 n2' c2' n1 c1) HG.out ?_
 clear p0 p1 p2 p3 q0 q1 q2 q3 HG
 intro W6 H
 obtain ⟨⟨p0, p1, p2, p3⟩, q0, q1, q2, q3⟩ := H.b3.four
 obtain ⟨⟨t0, t1, t2, t3⟩, u0, u1, u2, u3⟩ := H.b6.four
 obtain ⟨⟨v0, v1, v2, v3⟩, x0, x1, x2, x3⟩ := H.b7.four
 have y0 := H.b5.one
 have HT := two_boxes (x := x.1) 0 1 (q : Int) (n1 : Int) H.b6 H.b7 (by omega) H.hd H.hb (by omega) (by omega)
 unfold stored4 at HT
 clear H
 go_region
 refine post_over (Lies w (w.heap.size + 1 + 1) (w.heap.size + 1 + 1 + 1) A2 A2' n2 c2 n2' c2' x.1 0 1 q n1) HT.out.drew ?_
 intro W' HW
 clear p0 p1 p2 p3 q0 q1 q2 q3 y0 t0 t1 t2 t3 u0 u1 u2 u3 v0 v1 v2 v3 x0 x1 x2 x3 HT
 have HW' := Lib.hid HW
 clear HW
 go_wp2
 refine bodyPost_ret (v := .tuple #[.agg #[.slice A2 n2 c2, .slice A2' n2' c2', .int .i64 x.1.fuse, .bool x.1.down], .agg #[.int .i64 0, .int .i64 1, .int .i64 (q : Int), .int .i64 (n1 : Int)], .int .i64 0]) ?_ rfl ⟨_, by rw [HX.out], HW'.out.2.2.1, HW'.out.2.2.2⟩
 exact results_cct (fn := Tryz.f16) (a1 := ⟨w.heap.size + 1 + 1, 0, none⟩) (a2 := ⟨w.heap.size + 1 + 1 + 1, 0, none⟩) rfl rfl rfl rfl (load_box4 HW'.out.1) (load_log4 HW'.out.2.1)
end Go.Proofs.YtcdehejgnnnimaaGreatDoor
