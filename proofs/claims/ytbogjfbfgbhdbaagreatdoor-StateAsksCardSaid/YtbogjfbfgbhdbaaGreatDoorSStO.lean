/-
 A part of the proof: see the last text.
-/
import Derived.Test.YtbogjfbfgbhdbaaGreatDoorSStL
import Derived.Test.YtbogjfbfgbhdbaaGreatDoorSStKSt
import Derived.Test.YtbogjfbfgbhdbaaGreatDoorSStE
import Derived.Test.YtbogjfbfgbhdbaaGreatDoorSStG
namespace Go.Proofs.YtbogjfbfgbhdbaaGreatDoor
set_option linter.unusedVariables false
set_option linter.unusedSimpArgs false
open Go.RowKit
set_option linter.unusedVariables false
set_option linter.unusedSimpArgs false
def Writes (h : Eh) : Prop := ∀ (base bs : Nat) (s : Sta) (p : StaAt) (w : World), ScAt 73 w base bs s p → OkSta s → EvIn w base h → Calls Tryz.prog 38 #[.pointer (some ⟨bs, 0, none⟩), .agg (evC h)] w (DoIs 73 base bs (doS s h.e) w)
def AppIs (s : Sta) (e0 : Ev) (w : World) (e : Ending) (w' : World) : Prop := ∃ p, e = .returned (.tuple #[staV (appS s e0) p, .int .i64 (appE s e0)]) ∧ StaO w' w.heap.size (appS s e0) p ∧ Below w.heap.size w w'
theorem app_arg {s : Sta} {e : Ev} (h : ¬ (OkSta s ∧ rightE e = true)) : appE s e = 1 ∧ appS s e = s := by
 have h1 : appE s e = 1 := by unfold appE; rw [if_neg h]
 exact ⟨h1, by unfold appS; rw [if_neg (by rw [h1]; omega)]⟩
theorem app_do {s : Sta} {e : Ev} (h1 : OkSta s) (h2 : rightE e = true) : appE s e = (doS (tick s e.at_) e).2 := by
 unfold appE; rw [if_pos ⟨h1, h2⟩]
theorem app_yes {s : Sta} {e : Ev} (h : appE s e = 0) : appS s e = (doS (tick s e.at_) e).1 := by unfold appS; rw [if_pos h]
theorem app_noS {s : Sta} {e : Ev} (h : appE s e ≠ 0) : appS s e = s := by unfold appS; rw [if_neg h]
structure ApAt (w : World) (s : Sta) (p : StaAt) (h : Eh) (wx : World) : Prop where
 st : Bk wx w.heap.size 28 (staA s p)
 ev : Bk wx (w.heap.size + 1) 33 (evC h)
 re : Bk wx (w.heap.size + 2) 28 #[.int .i64 0, .slice none 0 0, .slice none 0 0, .slice none 0 0, .slice none 0 0, .slice none 0 0, .int .i64 0, .int .i64 0, .int .i64 0]
 hb : Below w.heap.size w wx
 sz : w.heap.size + 3 ≤ wx.heap.size
theorem ApAt.below {w wx W : World} {s : Sta} {p : StaAt} {h : Eh} (a : ApAt w s p h wx) {B : Nat} (hB : w.heap.size + 3 ≤ B) (hb : Below B wx W) : ApAt w s p h W :=
 ⟨a.st.below hb (by omega), a.ev.below hb (by omega), a.re.below hb (by omega), a.hb.trans (hb.mono (by omega)), Nat.le_trans a.sz hb.size⟩
set_option maxRecDepth 20000 in
set_option maxHeartbeats 16000000 in
theorem stApply_any (s : Sta) (p : StaAt) (h : Eh) (w : World) (hs : StaIn w w.heap.size s p) (hsm : SmSta s) (hbg : BigS s) (hi : EvIn w w.heap.size h) (hK : Kinds w) (hw : Writes h) :
 Calls Tryz.prog 13 #[staV s p, .agg (evC h)] w (AppIs s h.e w) := by
 obtain ⟨cl, boxes, subs, rules, tombs, holds, nv, nt, nh⟩ := s
 obtain ⟨⟨bA, bn, bc⟩, ⟨sA, sn, sc⟩, ⟨rA, rn, rc⟩, ⟨tA, tn, tc⟩, ⟨gA, gn, gc⟩⟩ := p
 obtain ⟨⟨kind, at_, box, to_, ids, set, mode, flags, date, n, body⟩, A1, n1, c1, A2, n2, c2, A3, n3, c3⟩ := h
 have AT : Hid (ApAt w ⟨cl, boxes, subs, rules, tombs, holds, nv, nt, nh⟩ ⟨⟨bA, bn, bc⟩, ⟨sA, sn, sc⟩, ⟨rA, rn, rc⟩, ⟨tA, tn, tc⟩, ⟨gA, gn, gc⟩⟩ ⟨⟨kind, at_, box, to_, ids, set, mode, flags, date, n, body⟩, A1, n1, c1, A2, n2, c2, A3, n3, c3⟩ (((w.alloc (.cells #[.int .i64 cl, .slice bA bn bc, .slice sA sn sc, .slice rA rn rc, .slice tA tn tc, .slice gA gn gc, .int .i64 nv, .int .i64 nt, .int .i64 nh] 28)).alloc (.cells #[.int .i64 kind, .int .i64 at_, .string box, .string to_, .slice A1 n1 c1, .slice A2 n2 c2, .int .i64 mode, .int .i64 flags, .int .i64 date, .int .i64 n, .slice A3 n3 c3] 33)).alloc (.cells #[.int .i64 0, .slice none 0 0, .slice none 0 0, .slice none 0 0, .slice none 0 0, .slice none 0 0, .int .i64 0, .int .i64 0, .int .i64 0] 28))) := Lib.hid ⟨((Bk.new _ _ _).alloc _).alloc _, (Bk.new2 _ _ _ _).alloc _, Bk.new3 _ _ _ _ _, (((Below.refl _ _).alloc (Nat.le_refl _) _).alloc (by simp) _).alloc (by simp; omega) _, by simp⟩
 have HS := Lib.hid hs
 have HSM := Lib.hid hsm
 have HBG := Lib.hid hbg
 have HI := Lib.hid hi
 have HK := Lib.hid hK
 have HW := Lib.hid hw
 clear hs hsm hbg hi hK hw
 show Calls Tryz.prog 13 #[.agg #[.int .i64 cl, .slice bA bn bc, .slice sA sn sc, .slice rA rn rc, .slice tA tn tc, .slice gA gn gc, .int .i64 nv, .int .i64 nt, .int .i64 nh], .agg #[.int .i64 kind, .int .i64 at_, .string box, .string to_, .slice A1 n1 c1, .slice A2 n2 c2, .int .i64 mode, .int .i64 flags, .int .i64 date, .int .i64 n, .slice A3 n3 c3]] w _
 have hst : Bk (((w.alloc (.cells #[.int .i64 cl, .slice bA bn bc, .slice sA sn sc, .slice rA rn rc, .slice tA tn tc, .slice gA gn gc, .int .i64 nv, .int .i64 nt, .int .i64 nh] 28)).alloc (.cells #[.int .i64 kind, .int .i64 at_, .string box, .string to_, .slice A1 n1 c1, .slice A2 n2 c2, .int .i64 mode, .int .i64 flags, .int .i64 date, .int .i64 n, .slice A3 n3 c3] 33)).alloc (.cells #[.int .i64 0, .slice none 0 0, .slice none 0 0, .slice none 0 0, .slice none 0 0, .slice none 0 0, .int .i64 0, .int .i64 0, .int .i64 0] 28)) w.heap.size 28 #[.int .i64 cl, .slice bA bn bc, .slice sA sn sc, .slice rA rn rc, .slice tA tn tc, .slice gA gn gc, .int .i64 nv, .int .i64 nt, .int .i64 nh] := AT.out.st
 have k0 := hst.cell 0
 have k1 := hst.cell 1
 have k2 := hst.cell 2
 have k3 := hst.cell 3
 have k4 := hst.cell 4
 have k5 := hst.cell 5
 have k6 := hst.cell 6
 have k7 := hst.cell 7
 have k8 := hst.cell 8
 clear hst
 go_enter Tryz.func13, Tryz.ntmps13
 go_wp2_with fail
 generalize (((w.alloc (.cells #[.int .i64 cl, .slice bA bn bc, .slice sA sn sc, .slice rA rn rc, .slice tA tn tc, .slice gA gn gc, .int .i64 nv, .int .i64 nt, .int .i64 nh] 28)).alloc (.cells #[.int .i64 kind, .int .i64 at_, .string box, .string to_, .slice A1 n1 c1, .slice A2 n2 c2, .int .i64 mode, .int .i64 flags, .int .i64 date, .int .i64 n, .slice A3 n3 c3] 33)).alloc (.cells #[.int .i64 0, .slice none 0 0, .slice none 0 0, .slice none 0 0, .slice none 0 0, .slice none 0 0, .int .i64 0, .int .i64 0, .int .i64 0] 28)) = w1 at *
 refine (stRight_any ⟨cl, boxes, subs, rules, tombs, holds, nv, nt, nh⟩ ⟨⟨bA, bn, bc⟩, ⟨sA, sn, sc⟩, ⟨rA, rn, rc⟩, ⟨tA, tn, tc⟩, ⟨gA, gn, gc⟩⟩ w1 (HS.out.later AT.out.hb) HBG.out (HK.out.below AT.out.hb)).mono ?_
 rintro e w2 ⟨rfl, hb⟩
 have AT2 := Lib.hid (AT.out.below AT.out.sz hb)
 clear hb k0 k1 k2 k3 k4 k5 k6 k7 k8 AT
 cases hok : okS ⟨cl, boxes, subs, rules, tombs, holds, nv, nt, nh⟩
 ·have HA := Lib.hid (app_arg (s := ⟨cl, boxes, subs, rules, tombs, holds, nv, nt, nh⟩) (e := ⟨kind, at_, box, to_, ids, set, mode, flags, date, n, body⟩) (fun q => by rw [okS_yes q.1] at hok; cases hok))
  clear hok
  have hst : Bk w2 w.heap.size 28 #[.int .i64 cl, .slice bA bn bc, .slice sA sn sc, .slice rA rn rc, .slice tA tn tc, .slice gA gn gc, .int .i64 nv, .int .i64 nt, .int .i64 nh] := AT2.out.st
  have k0 := hst.cell 0
  have k1 := hst.cell 1
  have k2 := hst.cell 2
  have k3 := hst.cell 3
  have k4 := hst.cell 4
  have k5 := hst.cell 5
  have k6 := hst.cell 6
  have k7 := hst.cell 7
  have k8 := hst.cell 8
  clear hst
  go_wp2_with fail
  refine (stCopy_any ⟨cl, boxes, subs, rules, tombs, holds, nv, nt, nh⟩ ⟨⟨bA, bn, bc⟩, ⟨sA, sn, sc⟩, ⟨rA, rn, rc⟩, ⟨tA, tn, tc⟩, ⟨gA, gn, gc⟩⟩ w2 (HS.out.later AT2.out.hb) HSM.out).mono ?_
  rintro e w3 ⟨p3, rfl, ho, hb⟩
  have AT4 := Lib.hid (AT2.out.below AT2.out.sz hb)
  have HO4 := Lib.hid (ho.from_ (base' := w.heap.size) (Nat.le_trans (by omega) AT2.out.sz))
  obtain ⟨⟨xA, xn, xc⟩, ⟨yA, yn, yc⟩, ⟨uA, un, uc⟩, ⟨vA, vn, vc⟩, ⟨zA, zn, zc⟩⟩ := p3
  clear hb ho k0 k1 k2 k3 k4 k5 k6 k7 k8 AT2
  unfold staV
  have hre : Bk w3 (w.heap.size + 2) 28 #[.int .i64 0, .slice none 0 0, .slice none 0 0, .slice none 0 0, .slice none 0 0, .slice none 0 0, .int .i64 0, .int .i64 0, .int .i64 0] := AT4.out.re
  have j0 := hre.cell 0
  have j1 := hre.cell 1
  have j2 := hre.cell 2
  have j3 := hre.cell 3
  have j4 := hre.cell 4
  have j5 := hre.cell 5
  have j6 := hre.cell 6
  have j7 := hre.cell 7
  have j8 := hre.cell 8
  have y0 := hre.frozen 0
  have y1 := hre.frozen 1
  have y2 := hre.frozen 2
  have y3 := hre.frozen 3
  have y4 := hre.frozen 4
  have y5 := hre.frozen 5
  have y6 := hre.frozen 6
  have y7 := hre.frozen 7
  have y8 := hre.frozen 8
  go_wp2_with fail
  refine bodyPost_ret (results_cell2 rfl _ _ ⟨w.heap.size + 2, 0, none⟩ _ _ rfl rfl (Bk.state_ (Bk.put9 AT4.out.re _ _ _ _ _ _ _ _ _))) rfl ⟨⟨⟨xA, xn, xc⟩, ⟨yA, yn, yc⟩, ⟨uA, un, uc⟩, ⟨vA, vn, vc⟩, ⟨zA, zn, zc⟩⟩, ?_, ?_, ?_⟩
  ·rw [HA.out.1, HA.out.2] <;> rfl
  ·rw [HA.out.2]
   refine (HO4.out).chg (Chg.of AT4.out.re (grown_put9 _ _ _ _ _ _ _ _ _ _ _) ?_) staT_not
   exact (Below.refl _ _).grown (grown_put9 _ _ _ _ _ _ _ _ _ _ _) (Nat.le_trans (by omega) AT4.out.sz) (fun q hq => by injection hq with hq; omega)
  ·exact below_of' AT4.out.hb (grown_put9 _ _ _ _ _ _ _ _ _ _ _) (by omega) (Nat.le_refl _)
 have HOK := Lib.hid (okS_of hok)
 clear hok
 have hev : Bk w2 (w.heap.size + 1) 33 #[.int .i64 kind, .int .i64 at_, .string box, .string to_, .slice A1 n1 c1, .slice A2 n2 c2, .int .i64 mode, .int .i64 flags, .int .i64 date, .int .i64 n, .slice A3 n3 c3] := AT2.out.ev
 have e0 := hev.cell 0
 have e1 := hev.cell 1
 have e2 := hev.cell 2
 have e3 := hev.cell 3
 have e4 := hev.cell 4
 have e5 := hev.cell 5
 have e6 := hev.cell 6
 have e7 := hev.cell 7
 have e8 := hev.cell 8
 have e9 := hev.cell 9
 have e10 := hev.cell 10
 clear hev
 go_wp2_with fail
 refine (evRight_any ⟨⟨kind, at_, box, to_, ids, set, mode, flags, date, n, body⟩, A1, n1, c1, A2, n2, c2, A3, n3, c3⟩ w2 (HI.out.later AT2.out.hb) (HK.out.below AT2.out.hb)).mono ?_
 rintro e w3 ⟨rfl, hb⟩
 have AT3 := Lib.hid (AT2.out.below AT2.out.sz hb)
 clear hb e0 e1 e2 e3 e4 e5 e6 e7 e8 e9 e10 AT2
 cases hre0 : rightE ⟨kind, at_, box, to_, ids, set, mode, flags, date, n, body⟩
 ·have HA := Lib.hid (app_arg (s := ⟨cl, boxes, subs, rules, tombs, holds, nv, nt, nh⟩) (e := ⟨kind, at_, box, to_, ids, set, mode, flags, date, n, body⟩) (fun q => by rw [q.2] at hre0; cases hre0))
  clear hre0
  have hst : Bk w3 w.heap.size 28 #[.int .i64 cl, .slice bA bn bc, .slice sA sn sc, .slice rA rn rc, .slice tA tn tc, .slice gA gn gc, .int .i64 nv, .int .i64 nt, .int .i64 nh] := AT3.out.st
  have k0 := hst.cell 0
  have k1 := hst.cell 1
  have k2 := hst.cell 2
  have k3 := hst.cell 3
  have k4 := hst.cell 4
  have k5 := hst.cell 5
  have k6 := hst.cell 6
  have k7 := hst.cell 7
  have k8 := hst.cell 8
  clear hst
  go_wp2_with fail
  refine (stCopy_any ⟨cl, boxes, subs, rules, tombs, holds, nv, nt, nh⟩ ⟨⟨bA, bn, bc⟩, ⟨sA, sn, sc⟩, ⟨rA, rn, rc⟩, ⟨tA, tn, tc⟩, ⟨gA, gn, gc⟩⟩ w3 (HS.out.later AT3.out.hb) HSM.out).mono ?_
  rintro e w4 ⟨p3, rfl, ho, hb⟩
  have AT4 := Lib.hid (AT3.out.below AT3.out.sz hb)
  have HO4 := Lib.hid (ho.from_ (base' := w.heap.size) (Nat.le_trans (by omega) AT3.out.sz))
  obtain ⟨⟨xA, xn, xc⟩, ⟨yA, yn, yc⟩, ⟨uA, un, uc⟩, ⟨vA, vn, vc⟩, ⟨zA, zn, zc⟩⟩ := p3
  clear hb ho k0 k1 k2 k3 k4 k5 k6 k7 k8 AT3
  unfold staV
  have hre : Bk w4 (w.heap.size + 2) 28 #[.int .i64 0, .slice none 0 0, .slice none 0 0, .slice none 0 0, .slice none 0 0, .slice none 0 0, .int .i64 0, .int .i64 0, .int .i64 0] := AT4.out.re
  have j0 := hre.cell 0
  have j1 := hre.cell 1
  have j2 := hre.cell 2
  have j3 := hre.cell 3
  have j4 := hre.cell 4
  have j5 := hre.cell 5
  have j6 := hre.cell 6
  have j7 := hre.cell 7
  have j8 := hre.cell 8
  have y0 := hre.frozen 0
  have y1 := hre.frozen 1
  have y2 := hre.frozen 2
  have y3 := hre.frozen 3
  have y4 := hre.frozen 4
  have y5 := hre.frozen 5
  have y6 := hre.frozen 6
  have y7 := hre.frozen 7
  have y8 := hre.frozen 8
  go_wp2_with fail
  refine bodyPost_ret (results_cell2 rfl _ _ ⟨w.heap.size + 2, 0, none⟩ _ _ rfl rfl (Bk.state_ (Bk.put9 AT4.out.re _ _ _ _ _ _ _ _ _))) rfl ⟨⟨⟨xA, xn, xc⟩, ⟨yA, yn, yc⟩, ⟨uA, un, uc⟩, ⟨vA, vn, vc⟩, ⟨zA, zn, zc⟩⟩, ?_, ?_, ?_⟩
  ·rw [HA.out.1, HA.out.2] <;> rfl
  ·rw [HA.out.2]
   refine (HO4.out).chg (Chg.of AT4.out.re (grown_put9 _ _ _ _ _ _ _ _ _ _ _) ?_) staT_not
   exact (Below.refl _ _).grown (grown_put9 _ _ _ _ _ _ _ _ _ _ _) (Nat.le_trans (by omega) AT4.out.sz) (fun q hq => by injection hq with hq; omega)
  ·exact below_of' AT4.out.hb (grown_put9 _ _ _ _ _ _ _ _ _ _ _) (by omega) (Nat.le_refl _)
 have HRE := Lib.hid hre0
 clear hre0
 have hst : Bk w3 w.heap.size 28 #[.int .i64 cl, .slice bA bn bc, .slice sA sn sc, .slice rA rn rc, .slice tA tn tc, .slice gA gn gc, .int .i64 nv, .int .i64 nt, .int .i64 nh] := AT3.out.st
 have k0 := hst.cell 0
 have k1 := hst.cell 1
 have k2 := hst.cell 2
 have k3 := hst.cell 3
 have k4 := hst.cell 4
 have k5 := hst.cell 5
 have k6 := hst.cell 6
 have k7 := hst.cell 7
 have k8 := hst.cell 8
 clear hst
 go_wp2_with fail
 refine (stCopy_any ⟨cl, boxes, subs, rules, tombs, holds, nv, nt, nh⟩ ⟨⟨bA, bn, bc⟩, ⟨sA, sn, sc⟩, ⟨rA, rn, rc⟩, ⟨tA, tn, tc⟩, ⟨gA, gn, gc⟩⟩ w3 (HS.out.later AT3.out.hb) HSM.out).mono ?_
 rintro e w4 ⟨p3, rfl, ho, hb⟩
 have AT4 := Lib.hid (AT3.out.below AT3.out.sz hb)
 have HO4 := Lib.hid ho
 have HB34 : Hid (w3.heap.size ≤ w4.heap.size) := Lib.hid hb.size
 have HSZ3 : Hid (w.heap.size + 3 ≤ w3.heap.size) := Lib.hid AT3.out.sz
 obtain ⟨⟨xA, xn, xc⟩, ⟨yA, yn, yc⟩, ⟨uA, un, uc⟩, ⟨vA, vn, vc⟩, ⟨zA, zn, zc⟩⟩ := p3
 obtain ⟨base, hbase⟩ : ∃ base, w3.heap.size = base := ⟨_, rfl⟩
 rw [hbase] at HO4 HB34 HSZ3
 clear hb ho k0 k1 k2 k3 k4 k5 k6 k7 k8 AT3 hbase
 unfold staV
 have e1' : (w4.alloc (.cells #[.int .i64 cl, .slice xA xn xc, .slice yA yn yc, .slice uA un uc, .slice vA vn vc, .slice zA zn zc, .int .i64 nv, .int .i64 nt, .int .i64 nh] 73)).cell? ⟨w.heap.size + 1, 1, none⟩ = some (.int .i64 at_) := ((AT4.out.below AT4.out.sz ((Below.refl w4.heap.size w4).alloc (Nat.le_refl _) (.cells #[.int .i64 cl, .slice xA xn xc, .slice yA yn yc, .slice uA un uc, .slice vA vn vc, .slice zA zn zc, .int .i64 nv, .int .i64 nt, .int .i64 nh] 73))).ev).cell 1
 have hal : Below w4.heap.size w4 (w4.alloc (.cells #[.int .i64 (max cl at_), .slice xA xn xc, .slice yA yn yc, .slice uA un uc, .slice vA vn vc, .slice zA zn zc, .int .i64 nv, .int .i64 nt, .int .i64 nh] 73)) := (Below.refl _ _).alloc (Nat.le_refl _) _
 have hsc5 : Bk (w4.alloc (.cells #[.int .i64 (max cl at_), .slice xA xn xc, .slice yA yn yc, .slice uA un uc, .slice vA vn vc, .slice zA zn zc, .int .i64 nv, .int .i64 nt, .int .i64 nh] 73)) w4.heap.size 73 #[.int .i64 (max cl at_), .slice xA xn xc, .slice yA yn yc, .slice uA un uc, .slice vA vn vc, .slice zA zn zc, .int .i64 nv, .int .i64 nt, .int .i64 nh] := Bk.new _ _ _
 have AT5 := Lib.hid (AT4.out.below AT4.out.sz hal)
 have HO5 : Hid (StaO (w4.alloc (.cells #[.int .i64 (max cl at_), .slice xA xn xc, .slice yA yn yc, .slice uA un uc, .slice vA vn vc, .slice zA zn zc, .int .i64 nv, .int .i64 nt, .int .i64 nh] 73)) base (tick ⟨cl, boxes, subs, rules, tombs, holds, nv, nt, nh⟩ at_) ⟨⟨xA, xn, xc⟩, ⟨yA, yn, yc⟩, ⟨uA, un, uc⟩, ⟨vA, vn, vc⟩, ⟨zA, zn, zc⟩⟩) := Lib.hid (by
  have h5 := HO4.out.below hal
  exact ⟨h5.bx, h5.sb, h5.ru, h5.tb, h5.ho⟩)
 have HSCA : Hid (ScAt 73 (w4.alloc (.cells #[.int .i64 (max cl at_), .slice xA xn xc, .slice yA yn yc, .slice uA un uc, .slice vA vn vc, .slice zA zn zc, .int .i64 nv, .int .i64 nt, .int .i64 nh] 73)) base w4.heap.size (tick ⟨cl, boxes, subs, rules, tombs, holds, nv, nt, nh⟩ at_) ⟨⟨xA, xn, xc⟩, ⟨yA, yn, yc⟩, ⟨uA, un, uc⟩, ⟨vA, vn, vc⟩, ⟨zA, zn, zc⟩⟩) := Lib.hid ⟨HO5.out, hsc5, HB34.out⟩
 have hev : Bk (w4.alloc (.cells #[.int .i64 (max cl at_), .slice xA xn xc, .slice yA yn yc, .slice uA un uc, .slice vA vn vc, .slice zA zn zc, .int .i64 nv, .int .i64 nt, .int .i64 nh] 73)) (w.heap.size + 1) 33 #[.int .i64 kind, .int .i64 at_, .string box, .string to_, .slice A1 n1 c1, .slice A2 n2 c2, .int .i64 mode, .int .i64 flags, .int .i64 date, .int .i64 n, .slice A3 n3 c3] := AT5.out.ev
 have e0 := hev.cell 0
 have e1 := hev.cell 1
 have e2 := hev.cell 2
 have e3 := hev.cell 3
 have e4 := hev.cell 4
 have e5 := hev.cell 5
 have e6 := hev.cell 6
 have e7 := hev.cell 7
 have e8 := hev.cell 8
 have e9 := hev.cell 9
 have e10 := hev.cell 10
 clear hev hal hsc5
 go_wp2_with fail
 obtain ⟨bs, hbs⟩ : ∃ bs, w4.heap.size = bs := ⟨_, rfl⟩
 rw [hbs] at HSCA ⊢
 generalize w4.alloc (.cells #[.int .i64 (max cl at_), .slice xA xn xc, .slice yA yn yc, .slice uA un uc, .slice vA vn vc, .slice zA zn zc, .int .i64 nv, .int .i64 nt, .int .i64 nh] 73) = w5 at *
 have HT : Hid (OkSta (tick ⟨cl, boxes, subs, rules, tombs, holds, nv, nt, nh⟩ at_)) := Lib.hid (HOK.out.tick (rightS_parts HRE.out).2.1)
 have HBS : Hid (base ≤ bs) := Lib.hid (by have := HB34.out; omega)
 have HIB : Hid (EvIn w5 base ⟨⟨kind, at_, box, to_, ids, set, mode, flags, date, n, body⟩, A1, n1, c1, A2, n2, c2, A3, n3, c3⟩) := Lib.hid ((HI.out.below AT5.out.hb (Nat.le_refl _)).more (by have := HSZ3.out; omega))
 have HAD : Hid (appE ⟨cl, boxes, subs, rules, tombs, holds, nv, nt, nh⟩ ⟨kind, at_, box, to_, ids, set, mode, flags, date, n, body⟩ = (doS (tick ⟨cl, boxes, subs, rules, tombs, holds, nv, nt, nh⟩ at_) ⟨kind, at_, box, to_, ids, set, mode, flags, date, n, body⟩).2) := Lib.hid (app_do HOK.out HRE.out)
 clear hbs e1' HO5 HO4 AT4 e0 e1 e2 e3 e4 e5 e6 e7 e8 e9 e10
 refine (HW.out base bs (tick ⟨cl, boxes, subs, rules, tombs, holds, nv, nt, nh⟩ at_) _ w5 HSCA.out HT.out HIB.out).mono ?_
 rintro e w6 ⟨rfl, hb6, hp6⟩
 have AT6 := Lib.hid (AT5.out.below HSZ3.out hb6)
 have HP6 := Lib.hid hp6
 obtain ⟨ee, hee⟩ : ∃ ee, (doS (tick ⟨cl, boxes, subs, rules, tombs, holds, nv, nt, nh⟩ at_) ⟨kind, at_, box, to_, ids, set, mode, flags, date, n, body⟩).2 = ee := ⟨_, rfl⟩
 try simp only at hee
 rw [hee] at HP6 HAD ⊢
 have HEE := Lib.hid hee
 clear hb6 hp6 hee AT5 HSCA HIB
 by_cases he : ee = 0
 ·have HA : Hid (appE ⟨cl, boxes, subs, rules, tombs, holds, nv, nt, nh⟩ ⟨kind, at_, box, to_, ids, set, mode, flags, date, n, body⟩ = 0 ∧ appS ⟨cl, boxes, subs, rules, tombs, holds, nv, nt, nh⟩ ⟨kind, at_, box, to_, ids, set, mode, flags, date, n, body⟩ = (doS (tick ⟨cl, boxes, subs, rules, tombs, holds, nv, nt, nh⟩ at_) ⟨kind, at_, box, to_, ids, set, mode, flags, date, n, body⟩).1) := Lib.hid ⟨by rw [HAD.out, he], app_yes (by rw [HAD.out, he])⟩
  obtain ⟨⟨cl2, boxes2, subs2, rules2, tombs2, holds2, nv2, nt2, nh2⟩, hq⟩ : ∃ q, (doS (tick ⟨cl, boxes, subs, rules, tombs, holds, nv, nt, nh⟩ at_) ⟨kind, at_, box, to_, ids, set, mode, flags, date, n, body⟩).1 = q := ⟨_, rfl⟩
  obtain ⟨⟨⟨xA, xn, xc⟩, ⟨yA, yn, yc⟩, ⟨uA, un, uc⟩, ⟨vA, vn, vc⟩, ⟨zA, zn, zc⟩⟩, h6⟩ := HP6.out he
  try simp only at hq
  rw [hq] at h6 HA
  have HO6 := Lib.hid (h6.own.from_ (base' := w.heap.size) (by have := HSZ3.out; omega))
  have hbk : Bk w6 bs 73 #[.int .i64 cl2, .slice xA xn xc, .slice yA yn yc, .slice uA un uc, .slice vA vn vc, .slice zA zn zc, .int .i64 nv2, .int .i64 nt2, .int .i64 nh2] := h6.bk
  have k0 := hbk.cell 0
  have k1 := hbk.cell 1
  have k2 := hbk.cell 2
  have k3 := hbk.cell 3
  have k4 := hbk.cell 4
  have k5 := hbk.cell 5
  have k6 := hbk.cell 6
  have k7 := hbk.cell 7
  have k8 := hbk.cell 8
  subst he
  have AT4 := AT6
  have HO4 := HO6
  clear hq h6 hbk HP6 AT6 HO6
  have hre : Bk w6 (w.heap.size + 2) 28 #[.int .i64 0, .slice none 0 0, .slice none 0 0, .slice none 0 0, .slice none 0 0, .slice none 0 0, .int .i64 0, .int .i64 0, .int .i64 0] := AT4.out.re
  have j0 := hre.cell 0
  have j1 := hre.cell 1
  have j2 := hre.cell 2
  have j3 := hre.cell 3
  have j4 := hre.cell 4
  have j5 := hre.cell 5
  have j6 := hre.cell 6
  have j7 := hre.cell 7
  have j8 := hre.cell 8
  have y0 := hre.frozen 0
  have y1 := hre.frozen 1
  have y2 := hre.frozen 2
  have y3 := hre.frozen 3
  have y4 := hre.frozen 4
  have y5 := hre.frozen 5
  have y6 := hre.frozen 6
  have y7 := hre.frozen 7
  have y8 := hre.frozen 8
  go_wp2_with fail
  refine bodyPost_ret (results_cell2 rfl _ _ ⟨w.heap.size + 2, 0, none⟩ _ _ rfl rfl (Bk.state_ (Bk.put9 AT4.out.re _ _ _ _ _ _ _ _ _))) rfl ⟨⟨⟨xA, xn, xc⟩, ⟨yA, yn, yc⟩, ⟨uA, un, uc⟩, ⟨vA, vn, vc⟩, ⟨zA, zn, zc⟩⟩, ?_, ?_, ?_⟩
  ·rw [HA.out.1, HA.out.2] <;> rfl
  ·rw [HA.out.2]
   refine (HO4.out).chg (Chg.of AT4.out.re (grown_put9 _ _ _ _ _ _ _ _ _ _ _) ?_) staT_not
   exact (Below.refl _ _).grown (grown_put9 _ _ _ _ _ _ _ _ _ _ _) (Nat.le_trans (by omega) AT4.out.sz) (fun q hq => by injection hq with hq; omega)
  ·exact below_of' AT4.out.hb (grown_put9 _ _ _ _ _ _ _ _ _ _ _) (by omega) (Nat.le_refl _)
 ·have HA : Hid (appE ⟨cl, boxes, subs, rules, tombs, holds, nv, nt, nh⟩ ⟨kind, at_, box, to_, ids, set, mode, flags, date, n, body⟩ = ee ∧ appS ⟨cl, boxes, subs, rules, tombs, holds, nv, nt, nh⟩ ⟨kind, at_, box, to_, ids, set, mode, flags, date, n, body⟩ = ⟨cl, boxes, subs, rules, tombs, holds, nv, nt, nh⟩) := Lib.hid ⟨HAD.out, app_noS (by rw [HAD.out]; exact he)⟩
  have hen : (ee == 0) = false := by simpa using he
  have hst : Bk w6 w.heap.size 28 #[.int .i64 cl, .slice bA bn bc, .slice sA sn sc, .slice rA rn rc, .slice tA tn tc, .slice gA gn gc, .int .i64 nv, .int .i64 nt, .int .i64 nh] := AT6.out.st
  have k0 := hst.cell 0
  have k1 := hst.cell 1
  have k2 := hst.cell 2
  have k3 := hst.cell 3
  have k4 := hst.cell 4
  have k5 := hst.cell 5
  have k6 := hst.cell 6
  have k7 := hst.cell 7
  have k8 := hst.cell 8
  clear hst
  go_wp2_with fail
  refine (stCopy_any ⟨cl, boxes, subs, rules, tombs, holds, nv, nt, nh⟩ ⟨⟨bA, bn, bc⟩, ⟨sA, sn, sc⟩, ⟨rA, rn, rc⟩, ⟨tA, tn, tc⟩, ⟨gA, gn, gc⟩⟩ w6 (HS.out.later AT6.out.hb) HSM.out).mono ?_
  rintro e w7 ⟨p3, rfl, ho, hb⟩
  have AT4 := Lib.hid (AT6.out.below AT6.out.sz hb)
  have HO4 := Lib.hid (ho.from_ (base' := w.heap.size) (Nat.le_trans (by omega) AT6.out.sz))
  obtain ⟨⟨xA, xn, xc⟩, ⟨yA, yn, yc⟩, ⟨uA, un, uc⟩, ⟨vA, vn, vc⟩, ⟨zA, zn, zc⟩⟩ := p3
  clear hb ho k0 k1 k2 k3 k4 k5 k6 k7 k8 AT6
  unfold staV
  have hre : Bk w7 (w.heap.size + 2) 28 #[.int .i64 0, .slice none 0 0, .slice none 0 0, .slice none 0 0, .slice none 0 0, .slice none 0 0, .int .i64 0, .int .i64 0, .int .i64 0] := AT4.out.re
  have j0 := hre.cell 0
  have j1 := hre.cell 1
  have j2 := hre.cell 2
  have j3 := hre.cell 3
  have j4 := hre.cell 4
  have j5 := hre.cell 5
  have j6 := hre.cell 6
  have j7 := hre.cell 7
  have j8 := hre.cell 8
  have y0 := hre.frozen 0
  have y1 := hre.frozen 1
  have y2 := hre.frozen 2
  have y3 := hre.frozen 3
  have y4 := hre.frozen 4
  have y5 := hre.frozen 5
  have y6 := hre.frozen 6
  have y7 := hre.frozen 7
  have y8 := hre.frozen 8
  go_wp2_with fail
  refine bodyPost_ret (results_cell2 rfl _ _ ⟨w.heap.size + 2, 0, none⟩ _ _ rfl rfl (Bk.state_ (Bk.put9 AT4.out.re _ _ _ _ _ _ _ _ _))) rfl ⟨⟨⟨xA, xn, xc⟩, ⟨yA, yn, yc⟩, ⟨uA, un, uc⟩, ⟨vA, vn, vc⟩, ⟨zA, zn, zc⟩⟩, ?_, ?_, ?_⟩
  ·rw [HA.out.1, HA.out.2] <;> rfl
  ·rw [HA.out.2]
   refine (HO4.out).chg (Chg.of AT4.out.re (grown_put9 _ _ _ _ _ _ _ _ _ _ _) ?_) staT_not
   exact (Below.refl _ _).grown (grown_put9 _ _ _ _ _ _ _ _ _ _ _) (Nat.le_trans (by omega) AT4.out.sz) (fun q hq => by injection hq with hq; omega)
  ·exact below_of' AT4.out.hb (grown_put9 _ _ _ _ _ _ _ _ _ _ _) (by omega) (Nat.le_refl _)
end Go.Proofs.YtbogjfbfgbhdbaaGreatDoor
namespace Go.Proofs.YtbogjfbfgbhdbaaGreatDoor
set_option linter.unusedVariables false
set_option linter.unusedSimpArgs false
open Go.RowKit
set_option linter.unusedVariables false
set_option linter.unusedSimpArgs false
theorem idx_le {β : Type} (p : β → Bool) (l : List β) : idxN p l ≤ l.length := by
 induction l with
 | nil => exact Nat.le_refl _
 | cons b l ih =>
   unfold idxN
   rw [List.length_cons]
   split
   ·omega
   ·split <;> omega
def boxG (l : List Bx) (u : ByteArray) : Bx := if boxN l u = 0 then noBx else boxAt l u
def noTmb : Tmb := ⟨0, ⟨#[]⟩, 0, ⟨0, 0, 0, []⟩⟩
def tombN (l : List Tmb) (id : Int) : Nat := idxN (fun t => decide (t.id = id)) l
def tombG (l : List Tmb) (id : Int) : Tmb := if tombN l id = 0 then noTmb else l.getD (tombN l id - 1) noTmb
def GiveBx (l : List Bx) (u : ByteArray) (w : World) (e : Ending) (w' : World) : Prop :=
 ∃ A n c, e = .returned (.tuple #[.agg (bhA ⟨boxG l u, A, n, c⟩), .bool (decide (boxN l u ≠ 0))]) ∧ OwnM w' w.heap.size A n c (boxG l u).msgs ∧ Below w.heap.size w w'
def GiveTm (l : List Tmb) (u : Int) (w : World) (e : Ending) (w' : World) : Prop :=
 ∃ A n c, e = .returned (.tuple #[.agg (thA ⟨tombG l u, A, n, c⟩), .bool (decide (tombN l u ≠ 0))]) ∧ OwnB w' w.heap.size 5 A n c (tombG l u).msg.body ∧ Below w.heap.size w w'
theorem boxG_none {l : List Bx} {u : ByteArray} (h : boxN l u = 0) : boxG l u = noBx ∧ decide (boxN l u ≠ 0) = false := ⟨by unfold boxG; rw [if_pos h], by rw [h]; rfl⟩
theorem boxG_some {l : List Bx} {u : ByteArray} {k : Nat} {b : Bx} (h : boxN l u = k + 1) (hb : l[k]? = some b) : boxG l u = b ∧ decide (boxN l u ≠ 0) = true := by
 refine ⟨?_, by rw [h]; rfl⟩
 unfold boxG boxAt
 rw [if_neg (by omega), h]
 simp [hb]
theorem tombG_none {l : List Tmb} {u : Int} (h : tombN l u = 0) : tombG l u = noTmb ∧ decide (tombN l u ≠ 0) = false := ⟨by unfold tombG; rw [if_pos h], by rw [h]; rfl⟩
theorem tombG_some {l : List Tmb} {u : Int} {k : Nat} {b : Tmb} (h : tombN l u = k + 1) (hb : l[k]? = some b) : tombG l u = b ∧ decide (tombN l u ≠ 0) = true := by
 refine ⟨?_, by rw [h]; rfl⟩
 unfold tombG
 rw [if_neg (by omega), h]
 simp [hb]
set_option maxRecDepth 20000 in
set_option maxHeartbeats 4000000 in
theorem stNew_any (w : World) : Calls Tryz.prog 27 #[] w (GiveS14 staNew w) := by
 go_enter Tryz.func27, Tryz.ntmps27
 go_wp2_with fail
 have HK : Hid (Bk ((w.alloc (.cells #[.int .i64 0, .slice (some ⟨w.heap.size + 1, 0, none⟩) 1 1, .slice none 0 0, .slice none 0 0, .slice none 0 0, .slice none 0 0, .int .i64 2, .int .i64 1, .int .i64 1] 28)).alloc (.cells #[.string inboxS, .int .i64 1, .int .i64 1, .slice none 0 0] 44)) (w.heap.size + 1) 44 #[.string inboxS, .int .i64 1, .int .i64 1, .slice none 0 0]) := Lib.hid (Bk.new2 _ _ _ _)
 have HX : Hid (Bk ((w.alloc (.cells #[.int .i64 0, .slice (some ⟨w.heap.size + 1, 0, none⟩) 1 1, .slice none 0 0, .slice none 0 0, .slice none 0 0, .slice none 0 0, .int .i64 2, .int .i64 1, .int .i64 1] 28)).alloc (.cells #[.string inboxS, .int .i64 1, .int .i64 1, .slice none 0 0] 44)) w.heap.size 28 #[.int .i64 0, .slice (some ⟨w.heap.size + 1, 0, none⟩) 1 1, .slice none 0 0, .slice none 0 0, .slice none 0 0, .slice none 0 0, .int .i64 2, .int .i64 1, .int .i64 1]) := Lib.hid ((Bk.new _ _ _).alloc _)
 have HBB : Hid (Below w.heap.size w ((w.alloc (.cells #[.int .i64 0, .slice (some ⟨w.heap.size + 1, 0, none⟩) 1 1, .slice none 0 0, .slice none 0 0, .slice none 0 0, .slice none 0 0, .int .i64 2, .int .i64 1, .int .i64 1] 28)).alloc (.cells #[.string inboxS, .int .i64 1, .int .i64 1, .slice none 0 0] 44))) := Lib.hid (((Below.refl _ _).alloc (Nat.le_refl _) _).alloc (by simp) _)
 change bodyPost _ _ _ _ _ ((w.alloc (.cells #[.int .i64 0, .slice (some ⟨w.heap.size + 1, 0, none⟩) 1 1, .slice none 0 0, .slice none 0 0, .slice none 0 0, .slice none 0 0, .int .i64 2, .int .i64 1, .int .i64 1] 28)).alloc (.cells #[.string inboxS, .int .i64 1, .int .i64 1, .slice none 0 0] 44))
 generalize ((w.alloc (.cells #[.int .i64 0, .slice (some ⟨w.heap.size + 1, 0, none⟩) 1 1, .slice none 0 0, .slice none 0 0, .slice none 0 0, .slice none 0 0, .int .i64 2, .int .i64 1, .int .i64 1] 28)).alloc (.cells #[.string inboxS, .int .i64 1, .int .i64 1, .slice none 0 0] 44)) = W at *
 refine bodyPost_ret (results_cell (a := ⟨w.heap.size, 0, none⟩) rfl rfl (Bk.state_ HX.out)) rfl ⟨⟨⟨some ⟨w.heap.size + 1, 0, none⟩, 1, 1⟩, ⟨none, 0, 0⟩, ⟨none, 0, 0⟩, ⟨none, 0, 0⟩, ⟨none, 0, 0⟩⟩, rfl, ?_, HBB.out⟩
 refine ⟨⟨[⟨⟨inboxS, 1, 1, []⟩, none, 0, 0⟩], ⟨⟨rfl, .inr ⟨w.heap.size + 1, 1, #[.string inboxS, .int .i64 1, .int .i64 1, .slice none 0 0], rfl, by omega, HK.out, Nat.le_refl _, by unfold maxLen; omega, rfl, rfl⟩⟩, rfl, bhC_len⟩, fun x hx => ?_, rfl⟩, OwnK.nil strC_len, OwnK.nil rulC_len, NestO.nil thC_len, NestO.nil hhC_len⟩
 rw [List.mem_singleton.1 hx]
 exact OwnM.nil
set_option maxRecDepth 20000 in
set_option maxHeartbeats 4000000 in
theorem xsNew_any (w : World) : Calls Tryz.prog 28 #[] w (GiveS14 staNew w) := by
 go_enter Tryz.func28, Tryz.ntmps28
 go_wp2_with fail
 have HK : Hid (Bk ((w.alloc (.cells #[.int .i64 0, .slice (some ⟨w.heap.size + 1, 0, none⟩) 1 1, .slice none 0 0, .slice none 0 0, .slice none 0 0, .slice none 0 0, .int .i64 2, .int .i64 1, .int .i64 1] 28)).alloc (.cells #[.string inboxS, .int .i64 1, .int .i64 1, .slice none 0 0] 44)) (w.heap.size + 1) 44 #[.string inboxS, .int .i64 1, .int .i64 1, .slice none 0 0]) := Lib.hid (Bk.new2 _ _ _ _)
 have HX : Hid (Bk ((w.alloc (.cells #[.int .i64 0, .slice (some ⟨w.heap.size + 1, 0, none⟩) 1 1, .slice none 0 0, .slice none 0 0, .slice none 0 0, .slice none 0 0, .int .i64 2, .int .i64 1, .int .i64 1] 28)).alloc (.cells #[.string inboxS, .int .i64 1, .int .i64 1, .slice none 0 0] 44)) w.heap.size 28 #[.int .i64 0, .slice (some ⟨w.heap.size + 1, 0, none⟩) 1 1, .slice none 0 0, .slice none 0 0, .slice none 0 0, .slice none 0 0, .int .i64 2, .int .i64 1, .int .i64 1]) := Lib.hid ((Bk.new _ _ _).alloc _)
 have HBB : Hid (Below w.heap.size w ((w.alloc (.cells #[.int .i64 0, .slice (some ⟨w.heap.size + 1, 0, none⟩) 1 1, .slice none 0 0, .slice none 0 0, .slice none 0 0, .slice none 0 0, .int .i64 2, .int .i64 1, .int .i64 1] 28)).alloc (.cells #[.string inboxS, .int .i64 1, .int .i64 1, .slice none 0 0] 44))) := Lib.hid (((Below.refl _ _).alloc (Nat.le_refl _) _).alloc (by simp) _)
 change bodyPost _ _ _ _ _ ((w.alloc (.cells #[.int .i64 0, .slice (some ⟨w.heap.size + 1, 0, none⟩) 1 1, .slice none 0 0, .slice none 0 0, .slice none 0 0, .slice none 0 0, .int .i64 2, .int .i64 1, .int .i64 1] 28)).alloc (.cells #[.string inboxS, .int .i64 1, .int .i64 1, .slice none 0 0] 44))
 generalize ((w.alloc (.cells #[.int .i64 0, .slice (some ⟨w.heap.size + 1, 0, none⟩) 1 1, .slice none 0 0, .slice none 0 0, .slice none 0 0, .slice none 0 0, .int .i64 2, .int .i64 1, .int .i64 1] 28)).alloc (.cells #[.string inboxS, .int .i64 1, .int .i64 1, .slice none 0 0] 44)) = W at *
 refine bodyPost_ret (results_cell (a := ⟨w.heap.size, 0, none⟩) rfl rfl (Bk.state_ HX.out)) rfl ⟨⟨⟨some ⟨w.heap.size + 1, 0, none⟩, 1, 1⟩, ⟨none, 0, 0⟩, ⟨none, 0, 0⟩, ⟨none, 0, 0⟩, ⟨none, 0, 0⟩⟩, rfl, ?_, HBB.out⟩
 refine ⟨⟨[⟨⟨inboxS, 1, 1, []⟩, none, 0, 0⟩], ⟨⟨rfl, .inr ⟨w.heap.size + 1, 1, #[.string inboxS, .int .i64 1, .int .i64 1, .slice none 0 0], rfl, by omega, HK.out, Nat.le_refl _, by unfold maxLen; omega, rfl, rfl⟩⟩, rfl, bhC_len⟩, fun x hx => ?_, rfl⟩, OwnK.nil strC_len, OwnK.nil rulC_len, NestO.nil thC_len, NestO.nil hhC_len⟩
 rw [List.mem_singleton.1 hx]
 exact OwnM.nil
set_option maxRecDepth 20000 in
set_option maxHeartbeats 4000000 in
theorem xsat_any (cl nv nt nh : Int) (bA sA rA tA gA : Option Addr) (bn bc sn sc rn rc tn tc gn gc : Nat) (l : List Bx) (u : ByteArray) (w : World) (hl : BoxesIn w w.heap.size bA bn l) (hn : bn ≤ 140737488355328) :
 Calls Tryz.prog 57 #[.agg #[.int .i64 cl, .slice bA bn bc, .slice sA sn sc, .slice rA rn rc, .slice tA tn tc, .slice gA gn gc, .int .i64 nv, .int .i64 nt, .int .i64 nh], .string u] w (IsAt l (fun b => decide (b.name = u)) w) := by
 have HB : Hid (Below w.heap.size w (w.alloc (.cells #[.int .i64 cl, .slice bA bn bc, .slice sA sn sc, .slice rA rn rc, .slice tA tn tc, .slice gA gn gc, .int .i64 nv, .int .i64 nt, .int .i64 nh] 28))) := Lib.hid ((Below.refl _ _).alloc (Nat.le_refl _) _)
 have hk : Bk (w.alloc (.cells #[.int .i64 cl, .slice bA bn bc, .slice sA sn sc, .slice rA rn rc, .slice tA tn tc, .slice gA gn gc, .int .i64 nv, .int .i64 nt, .int .i64 nh] 28)) w.heap.size 28 #[.int .i64 cl, .slice bA bn bc, .slice sA sn sc, .slice rA rn rc, .slice tA tn tc, .slice gA gn gc, .int .i64 nv, .int .i64 nt, .int .i64 nh] := Bk.new _ _ _
 have HL := Lib.hid (hl.below bhStays HB.out (Nat.le_refl _))
 have k1 := hk.cell 1
 clear hk hl
 go_enter Tryz.func57, Tryz.ntmps57
 go_wp2_with fail
 generalize hw1 : w.alloc (.cells #[.int .i64 cl, .slice bA bn bc, .slice sA sn sc, .slice rA rn rc, .slice tA tn tc, .slice gA gn gc, .int .i64 nv, .int .i64 nt, .int .i64 nh] 28) = w1 at *
 clear hw1
 go_loopw [5] (fun i wx => ∃ k : Nat, k ≤ bn ∧ i = .int .i64 (k : Int) ∧ (∀ b ∈ l.take k, decide (b.name = u) = false) ∧ wx = w1) (fun i _ => bn - (intOf i).toNat)
 case atStart => exact ⟨0, Nat.zero_le _, rfl, fun b hb => by simp at hb, rfl⟩
 case round =>
  obtain ⟨k, hk, rfl, ha, rfl⟩ := hrel
  have HU := Lib.hid ha
  clear ha
  by_cases hlt : k < bn
  ·obtain ⟨b, o, x, rfl, hbb, hla, htk, hrow, hin⟩ := HL.out.at_ hlt
   have HLA := Lib.hid hla
   have HTK := Lib.hid htk
   have r0 := hrow 0 _ rfl
   rw [Nat.add_zero] at r0
   have hk0 : (0 : Int) ≤ (k : Int) := by omega
   have hkn : (k : Int) < (bn : Int) := by omega
   clear hla htk hrow hin
   by_cases he : x.b.name = u
   ·have hq : (x.b.name.toList == u.toList) = true := by rw [text_eqb11]; exact decide_eq_true he
    have HS := Lib.hid (idx_hit HU.out HLA.out (decide_eq_true he))
    clear he
    go_wp2_with fail
    go_ret
    exact ⟨(k : Int), rfl, by rw [HS.out]; simp, by omega, by omega, HB.out⟩
   ·have hq : (x.b.name.toList == u.toList) = false := by rw [text_eqb11]; exact decide_eq_false he
    have HS := Lib.hid (none_next (p := fun b : Bx => decide (b.name = u)) HU.out HTK.out (decide_eq_false he))
    clear he
    go_wp2_with fail
    go_roundw
    case rel => exact ⟨k + 1, by omega, by go_num, HS.out, by first | rfl | trivial⟩
    case measure => simp [intOf]; omega
  ·have hkn : ¬ (k : Int) < (bn : Int) := by omega
   have HS := Lib.hid (none_all HU.out HL.out.len hlt)
   go_wp2_with fail
   go_ret
   exact ⟨-1, rfl, by rw [HS.out]; rfl, by omega, by omega, HB.out⟩
set_option maxRecDepth 20000 in
set_option maxHeartbeats 4000000 in
theorem stBox_any (cl nv nt nh : Int) (bA sA rA tA gA : Option Addr) (bn bc sn sc rn rc tn tc gn gc : Nat) (l : List Bx) (u : ByteArray) (w : World) (hl : BoxesIn w w.heap.size bA bn l) (hn : bn ≤ 140737488355328) (hs : ∀ b ∈ l, b.msgs.length ≤ 100000 ∧ ∀ m ∈ b.msgs, m.body.length ≤ 100000) :
 Calls Tryz.prog 19 #[.agg #[.int .i64 cl, .slice bA bn bc, .slice sA sn sc, .slice rA rn rc, .slice tA tn tc, .slice gA gn gc, .int .i64 nv, .int .i64 nt, .int .i64 nh], .string u] w (GiveBx l u w) := by
 have hB : Below w.heap.size w ((w.alloc (.cells #[.int .i64 cl, .slice bA bn bc, .slice sA sn sc, .slice rA rn rc, .slice tA tn tc, .slice gA gn gc, .int .i64 nv, .int .i64 nt, .int .i64 nh] 28)).alloc (.cells #[.string ⟨#[]⟩, .int .i64 0, .int .i64 0, .slice none 0 0] 44)) := ((Below.refl _ _).alloc (Nat.le_refl _) _).alloc (by simp) _
 have h1 : Bk ((w.alloc (.cells #[.int .i64 cl, .slice bA bn bc, .slice sA sn sc, .slice rA rn rc, .slice tA tn tc, .slice gA gn gc, .int .i64 nv, .int .i64 nt, .int .i64 nh] 28)).alloc (.cells #[.string ⟨#[]⟩, .int .i64 0, .int .i64 0, .slice none 0 0] 44)) w.heap.size 28 #[.int .i64 cl, .slice bA bn bc, .slice sA sn sc, .slice rA rn rc, .slice tA tn tc, .slice gA gn gc, .int .i64 nv, .int .i64 nt, .int .i64 nh] := (Bk.new _ _ _).alloc _
 have h2 : Bk ((w.alloc (.cells #[.int .i64 cl, .slice bA bn bc, .slice sA sn sc, .slice rA rn rc, .slice tA tn tc, .slice gA gn gc, .int .i64 nv, .int .i64 nt, .int .i64 nh] 28)).alloc (.cells #[.string ⟨#[]⟩, .int .i64 0, .int .i64 0, .slice none 0 0] 44)) (w.heap.size + 1) 44 #[.string ⟨#[]⟩, .int .i64 0, .int .i64 0, .slice none 0 0] := Bk.new2 _ _ _ _
 have HZ : Hid (w.heap.size + 2 ≤ ((w.alloc (.cells #[.int .i64 cl, .slice bA bn bc, .slice sA sn sc, .slice rA rn rc, .slice tA tn tc, .slice gA gn gc, .int .i64 nv, .int .i64 nt, .int .i64 nh] 28)).alloc (.cells #[.string ⟨#[]⟩, .int .i64 0, .int .i64 0, .slice none 0 0] 44)).heap.size) := Lib.hid (by simp)
 have HL := Lib.hid (hl.later_ bhStays hB)
 have HB := Lib.hid hB
 have H1 := Lib.hid h1
 have H2 := Lib.hid h2
 have HS := Lib.hid hs
 have HLE := Lib.hid hl.len
 obtain ⟨k0, k1, k2, k3, k4, k5, k6, k7, k8⟩ := h1.nine
 clear hl hB h1 h2 hs
 go_enter Tryz.func19, Tryz.ntmps19
 go_wp2_with fail
 generalize ((w.alloc (.cells #[.int .i64 cl, .slice bA bn bc, .slice sA sn sc, .slice rA rn rc, .slice tA tn tc, .slice gA gn gc, .int .i64 nv, .int .i64 nt, .int .i64 nh] 28)).alloc (.cells #[.string ⟨#[]⟩, .int .i64 0, .int .i64 0, .slice none 0 0] 44)) = W at *
 refine (stboxAt_any cl nv nt nh bA sA rA tA gA bn bc sn sc rn rc tn tc gn gc l u W HL.out hn).mono ?_
 rintro e w1 ⟨z, rfl, hz, hz1, hz2, hb⟩
 rw [← boxN_idx] at hz
 have HL1 := Lib.hid (HL.out.later_ bhStays hb)
 have HB1 := Lib.hid (HB.out.trans (hb.mono HB.out.size))
 have HS1 : Hid (w.heap.size + 2 ≤ w1.heap.size) := Lib.hid (by have := HZ.out; have := hb.size; omega)
 have hk1 := H1.out.below hb (by have := HZ.out; omega)
 have hk2 := H2.out.below hb (by have := HZ.out; omega)
 have H1' := Lib.hid hk1
 have H2' := Lib.hid hk2
 clear k0 k1 k2 k3 k4 k5 k6 k7 k8 hb HL HB H1 H2
 obtain ⟨k0, k1, k2, k3, k4, k5, k6, k7, k8⟩ := hk1.nine
 obtain ⟨⟨c0, c1, c2, c3⟩, g0, g1, g2, g3⟩ := hk2.four
 clear hk1 hk2
 by_cases hz0 : z < 0
 ·have HN := Lib.hid (boxG_none (l := l) (u := u) (by omega))
  go_wp2_with fail
  refine bodyPost_ret (results_cell2 rfl _ _ ⟨w.heap.size + 1, 0, none⟩ _ _ rfl rfl (Bk.box_ (Bk.put4 H2'.out _ _ _ _))) rfl ⟨none, 0, 0, ?_, ?_, ?_⟩
  ·rw [HN.out.1, HN.out.2] <;> rfl
  ·rw [HN.out.1]; exact OwnM.nil
  ·exact below_of' HB1.out (grown_put4 _ _ _ _ _ _) (by omega) (Nat.le_refl _)
 obtain ⟨k, rfl⟩ : ∃ k : Nat, z = (k : Int) := ⟨z.toNat, by omega⟩
 have hkn : k < bn := by have := boxN_le l u; have := HLE.out; omega
 obtain ⟨b, o, x, rfl, hbb, hla, htk, hrow, hin⟩ := HL1.out.at_ hkn
 have HN := Lib.hid (boxG_some (l := l) (u := u) (k := k) (by omega) hla)
 have HS2 := Lib.hid (HS.out x.b (List.mem_of_getElem? hla))
 have HROW := Lib.hid hrow
 have HIN := Lib.hid hin
 obtain ⟨⟨nm, v, nx, ms⟩, xA, xn, xc⟩ := x
 have q0 : (0 : Int) ≤ (k : Int) := by omega
 have q1 : (k : Int) < (bn : Int) := by omega
 have q2 : ¬ (k : Int) < 0 := by omega
 clear hz hz1 hz2 hz0 hla htk hrow hin HLE HS
 go_wp2_with ((with_reducible show wpList _ _ _ (⟨some 17, _, _, _, _, _⟩ :: _) _ _); refine hold ?_)
 refine held (wpList_load_mid rfl 44 (.tmp 16) rfl b (o + k * 4) rfl _ _ HROW.out Tryz.underlying44 rfl (by kernel_rfl) ?_)
 rw [show (bhC ⟨⟨nm, v, nx, ms⟩, xA, xn, xc⟩).toArray = #[.string nm, .int .i64 v, .int .i64 nx, .slice xA xn xc] from rfl]
 go_wp2_with fail
 refine (copy_any nm v nx xA xn xc ms w1 HIN.out.1 (by have h3 : ms.length ≤ 100000 := HS2.out.1; have h4 : ms.length = xn := HIN.out.1.len; omega) (fun m hm => Nat.le_trans (HS2.out.2 m hm) (by omega))).mono ?_
 rintro e w2 ⟨yA, yc, rfl, ho, hb⟩
 have HO := Lib.hid (ho.from_ (base' := w.heap.size + 2) HS1.out)
 have HB2 := Lib.hid (HB1.out.trans (hb.mono (by have := HS1.out; omega)))
 have hk2 := H2'.out.below hb (by have := HS1.out; omega)
 have H3 := Lib.hid hk2
 clear k0 k1 k2 k3 k4 k5 k6 k7 k8 c0 c1 c2 c3 g0 g1 g2 g3 ho hb H1' H2'
 obtain ⟨⟨c0, c1, c2, c3⟩, g0, g1, g2, g3⟩ := hk2.four
 clear hk2
 go_wp2_with fail
 refine bodyPost_ret (results_cell2 rfl _ _ ⟨w.heap.size + 1, 0, none⟩ _ _ rfl rfl (Bk.box_ (Bk.put4 H3.out _ _ _ _))) rfl ⟨yA, xn, yc, ?_, ?_, ?_⟩
 ·rw [HN.out.1, HN.out.2] <;> rfl
 ·rw [HN.out.1]; exact (HO.out.far (grown_put4 _ _ _ _ _ _) (by omega)).from_ (by omega)
 ·exact below_of' HB2.out (grown_put4 _ _ _ _ _ _) (by omega) (Nat.le_refl _)
set_option maxRecDepth 20000 in
set_option maxHeartbeats 4000000 in
theorem xsBox_any (cl nv nt nh : Int) (bA sA rA tA gA : Option Addr) (bn bc sn sc rn rc tn tc gn gc : Nat) (l : List Bx) (u : ByteArray) (w : World) (hl : BoxesIn w w.heap.size bA bn l) (hn : bn ≤ 140737488355328) (hs : ∀ b ∈ l, b.msgs.length ≤ 100000 ∧ ∀ m ∈ b.msgs, m.body.length ≤ 100000) :
 Calls Tryz.prog 20 #[.agg #[.int .i64 cl, .slice bA bn bc, .slice sA sn sc, .slice rA rn rc, .slice tA tn tc, .slice gA gn gc, .int .i64 nv, .int .i64 nt, .int .i64 nh], .string u] w (GiveBx l u w) := by
 have hB : Below w.heap.size w ((w.alloc (.cells #[.int .i64 cl, .slice bA bn bc, .slice sA sn sc, .slice rA rn rc, .slice tA tn tc, .slice gA gn gc, .int .i64 nv, .int .i64 nt, .int .i64 nh] 28)).alloc (.cells #[.string ⟨#[]⟩, .int .i64 0, .int .i64 0, .slice none 0 0] 44)) := ((Below.refl _ _).alloc (Nat.le_refl _) _).alloc (by simp) _
 have h1 : Bk ((w.alloc (.cells #[.int .i64 cl, .slice bA bn bc, .slice sA sn sc, .slice rA rn rc, .slice tA tn tc, .slice gA gn gc, .int .i64 nv, .int .i64 nt, .int .i64 nh] 28)).alloc (.cells #[.string ⟨#[]⟩, .int .i64 0, .int .i64 0, .slice none 0 0] 44)) w.heap.size 28 #[.int .i64 cl, .slice bA bn bc, .slice sA sn sc, .slice rA rn rc, .slice tA tn tc, .slice gA gn gc, .int .i64 nv, .int .i64 nt, .int .i64 nh] := (Bk.new _ _ _).alloc _
 have h2 : Bk ((w.alloc (.cells #[.int .i64 cl, .slice bA bn bc, .slice sA sn sc, .slice rA rn rc, .slice tA tn tc, .slice gA gn gc, .int .i64 nv, .int .i64 nt, .int .i64 nh] 28)).alloc (.cells #[.string ⟨#[]⟩, .int .i64 0, .int .i64 0, .slice none 0 0] 44)) (w.heap.size + 1) 44 #[.string ⟨#[]⟩, .int .i64 0, .int .i64 0, .slice none 0 0] := Bk.new2 _ _ _ _
 have HZ : Hid (w.heap.size + 2 ≤ ((w.alloc (.cells #[.int .i64 cl, .slice bA bn bc, .slice sA sn sc, .slice rA rn rc, .slice tA tn tc, .slice gA gn gc, .int .i64 nv, .int .i64 nt, .int .i64 nh] 28)).alloc (.cells #[.string ⟨#[]⟩, .int .i64 0, .int .i64 0, .slice none 0 0] 44)).heap.size) := Lib.hid (by simp)
 have HL := Lib.hid (hl.later_ bhStays hB)
 have HB := Lib.hid hB
 have H1 := Lib.hid h1
 have H2 := Lib.hid h2
 have HS := Lib.hid hs
 have HLE := Lib.hid hl.len
 obtain ⟨k0, k1, k2, k3, k4, k5, k6, k7, k8⟩ := h1.nine
 clear hl hB h1 h2 hs
 go_enter Tryz.func20, Tryz.ntmps20
 go_wp2_with fail
 generalize ((w.alloc (.cells #[.int .i64 cl, .slice bA bn bc, .slice sA sn sc, .slice rA rn rc, .slice tA tn tc, .slice gA gn gc, .int .i64 nv, .int .i64 nt, .int .i64 nh] 28)).alloc (.cells #[.string ⟨#[]⟩, .int .i64 0, .int .i64 0, .slice none 0 0] 44)) = W at *
 refine (xsat_any cl nv nt nh bA sA rA tA gA bn bc sn sc rn rc tn tc gn gc l u W HL.out hn).mono ?_
 rintro e w1 ⟨z, rfl, hz, hz1, hz2, hb⟩
 rw [← boxN_idx] at hz
 have HL1 := Lib.hid (HL.out.later_ bhStays hb)
 have HB1 := Lib.hid (HB.out.trans (hb.mono HB.out.size))
 have HS1 : Hid (w.heap.size + 2 ≤ w1.heap.size) := Lib.hid (by have := HZ.out; have := hb.size; omega)
 have hk1 := H1.out.below hb (by have := HZ.out; omega)
 have hk2 := H2.out.below hb (by have := HZ.out; omega)
 have H1' := Lib.hid hk1
 have H2' := Lib.hid hk2
 clear k0 k1 k2 k3 k4 k5 k6 k7 k8 hb HL HB H1 H2
 obtain ⟨k0, k1, k2, k3, k4, k5, k6, k7, k8⟩ := hk1.nine
 obtain ⟨⟨c0, c1, c2, c3⟩, g0, g1, g2, g3⟩ := hk2.four
 clear hk1 hk2
 by_cases hz0 : z < 0
 ·have HN := Lib.hid (boxG_none (l := l) (u := u) (by omega))
  go_wp2_with fail
  refine bodyPost_ret (results_cell2 rfl _ _ ⟨w.heap.size + 1, 0, none⟩ _ _ rfl rfl (Bk.box_ (Bk.put4 H2'.out _ _ _ _))) rfl ⟨none, 0, 0, ?_, ?_, ?_⟩
  ·rw [HN.out.1, HN.out.2] <;> rfl
  ·rw [HN.out.1]; exact OwnM.nil
  ·exact below_of' HB1.out (grown_put4 _ _ _ _ _ _) (by omega) (Nat.le_refl _)
 obtain ⟨k, rfl⟩ : ∃ k : Nat, z = (k : Int) := ⟨z.toNat, by omega⟩
 have hkn : k < bn := by have := boxN_le l u; have := HLE.out; omega
 obtain ⟨b, o, x, rfl, hbb, hla, htk, hrow, hin⟩ := HL1.out.at_ hkn
 have HN := Lib.hid (boxG_some (l := l) (u := u) (k := k) (by omega) hla)
 have HS2 := Lib.hid (HS.out x.b (List.mem_of_getElem? hla))
 have HROW := Lib.hid hrow
 have HIN := Lib.hid hin
 obtain ⟨⟨nm, v, nx, ms⟩, xA, xn, xc⟩ := x
 have q0 : (0 : Int) ≤ (k : Int) := by omega
 have q1 : (k : Int) < (bn : Int) := by omega
 have q2 : ¬ (k : Int) < 0 := by omega
 clear hz hz1 hz2 hz0 hla htk hrow hin HLE HS
 go_wp2_with ((with_reducible show wpList _ _ _ (⟨some 17, _, _, _, _, _⟩ :: _) _ _); refine hold ?_)
 refine held (wpList_load_mid rfl 44 (.tmp 16) rfl b (o + k * 4) rfl _ _ HROW.out Tryz.underlying44 rfl (by kernel_rfl) ?_)
 rw [show (bhC ⟨⟨nm, v, nx, ms⟩, xA, xn, xc⟩).toArray = #[.string nm, .int .i64 v, .int .i64 nx, .slice xA xn xc] from rfl]
 go_wp2_with fail
 refine (x11copy_any nm v nx xA xn xc ms w1 HIN.out.1 (by have h3 : ms.length ≤ 100000 := HS2.out.1; have h4 : ms.length = xn := HIN.out.1.len; omega) (fun m hm => Nat.le_trans (HS2.out.2 m hm) (by omega))).mono ?_
 rintro e w2 ⟨yA, yc, rfl, ho, hb⟩
 have HO := Lib.hid (ho.from_ (base' := w.heap.size + 2) HS1.out)
 have HB2 := Lib.hid (HB1.out.trans (hb.mono (by have := HS1.out; omega)))
 have hk2 := H2'.out.below hb (by have := HS1.out; omega)
 have H3 := Lib.hid hk2
 clear k0 k1 k2 k3 k4 k5 k6 k7 k8 c0 c1 c2 c3 g0 g1 g2 g3 ho hb H1' H2'
 obtain ⟨⟨c0, c1, c2, c3⟩, g0, g1, g2, g3⟩ := hk2.four
 clear hk2
 go_wp2_with fail
 refine bodyPost_ret (results_cell2 rfl _ _ ⟨w.heap.size + 1, 0, none⟩ _ _ rfl rfl (Bk.box_ (Bk.put4 H3.out _ _ _ _))) rfl ⟨yA, xn, yc, ?_, ?_, ?_⟩
 ·rw [HN.out.1, HN.out.2] <;> rfl
 ·rw [HN.out.1]; exact (HO.out.far (grown_put4 _ _ _ _ _ _) (by omega)).from_ (by omega)
 ·exact below_of' HB2.out (grown_put4 _ _ _ _ _ _) (by omega) (Nat.le_refl _)
set_option maxRecDepth 20000 in
set_option maxHeartbeats 4000000 in
theorem stTomb_any (cl nv nt nh : Int) (bA sA rA tA gA : Option Addr) (bn bc sn sc rn rc tn tc gn gc : Nat) (l : List Tmb) (u : Int) (w : World) (hl : TombsIn w w.heap.size tA tn l) (hn : tn ≤ 140737488355328) (hs : ∀ t ∈ l, t.msg.body.length ≤ 100000) :
 Calls Tryz.prog 22 #[.agg #[.int .i64 cl, .slice bA bn bc, .slice sA sn sc, .slice rA rn rc, .slice tA tn tc, .slice gA gn gc, .int .i64 nv, .int .i64 nt, .int .i64 nh], .int .i64 u] w (GiveTm l u w) := by
 have hB : Below w.heap.size w ((w.alloc (.cells #[.int .i64 cl, .slice bA bn bc, .slice sA sn sc, .slice rA rn rc, .slice tA tn tc, .slice gA gn gc, .int .i64 nv, .int .i64 nt, .int .i64 nh] 28)).alloc (.cells #[.int .i64 0, .string ⟨#[]⟩, .int .i64 0, .int .i64 0, .int .i64 0, .int .i64 0, .slice none 0 0] 51)) := ((Below.refl _ _).alloc (Nat.le_refl _) _).alloc (by simp) _
 have h1 : Bk ((w.alloc (.cells #[.int .i64 cl, .slice bA bn bc, .slice sA sn sc, .slice rA rn rc, .slice tA tn tc, .slice gA gn gc, .int .i64 nv, .int .i64 nt, .int .i64 nh] 28)).alloc (.cells #[.int .i64 0, .string ⟨#[]⟩, .int .i64 0, .int .i64 0, .int .i64 0, .int .i64 0, .slice none 0 0] 51)) w.heap.size 28 #[.int .i64 cl, .slice bA bn bc, .slice sA sn sc, .slice rA rn rc, .slice tA tn tc, .slice gA gn gc, .int .i64 nv, .int .i64 nt, .int .i64 nh] := (Bk.new _ _ _).alloc _
 have h2 : Bk ((w.alloc (.cells #[.int .i64 cl, .slice bA bn bc, .slice sA sn sc, .slice rA rn rc, .slice tA tn tc, .slice gA gn gc, .int .i64 nv, .int .i64 nt, .int .i64 nh] 28)).alloc (.cells #[.int .i64 0, .string ⟨#[]⟩, .int .i64 0, .int .i64 0, .int .i64 0, .int .i64 0, .slice none 0 0] 51)) (w.heap.size + 1) 51 #[.int .i64 0, .string ⟨#[]⟩, .int .i64 0, .int .i64 0, .int .i64 0, .int .i64 0, .slice none 0 0] := Bk.new2 _ _ _ _
 have HZ : Hid (w.heap.size + 2 ≤ ((w.alloc (.cells #[.int .i64 cl, .slice bA bn bc, .slice sA sn sc, .slice rA rn rc, .slice tA tn tc, .slice gA gn gc, .int .i64 nv, .int .i64 nt, .int .i64 nh] 28)).alloc (.cells #[.int .i64 0, .string ⟨#[]⟩, .int .i64 0, .int .i64 0, .int .i64 0, .int .i64 0, .slice none 0 0] 51)).heap.size) := Lib.hid (by simp)
 have HL := Lib.hid (hl.later_ thStays hB)
 have HB := Lib.hid hB
 have H1 := Lib.hid h1
 have H2 := Lib.hid h2
 have HS := Lib.hid hs
 have HLE := Lib.hid hl.len
 obtain ⟨k0, k1, k2, k3, k4, k5, k6, k7, k8⟩ := h1.nine
 clear hl hB h1 h2 hs
 go_enter Tryz.func22, Tryz.ntmps22
 go_wp2_with fail
 generalize ((w.alloc (.cells #[.int .i64 cl, .slice bA bn bc, .slice sA sn sc, .slice rA rn rc, .slice tA tn tc, .slice gA gn gc, .int .i64 nv, .int .i64 nt, .int .i64 nh] 28)).alloc (.cells #[.int .i64 0, .string ⟨#[]⟩, .int .i64 0, .int .i64 0, .int .i64 0, .int .i64 0, .slice none 0 0] 51)) = W at *
 refine (sttombAt_any cl nv nt nh bA sA rA tA gA bn bc sn sc rn rc tn tc gn gc l u W HL.out hn).mono ?_
 rintro e w1 ⟨z, rfl, hz, hz1, hz2, hb⟩
 have hz : z + 1 = (tombN l u : Int) := hz
 have HL1 := Lib.hid (HL.out.later_ thStays hb)
 have HB1 := Lib.hid (HB.out.trans (hb.mono HB.out.size))
 have HS1 : Hid (w.heap.size + 2 ≤ w1.heap.size) := Lib.hid (by have := HZ.out; have := hb.size; omega)
 have hk1 := H1.out.below hb (by have := HZ.out; omega)
 have hk2 := H2.out.below hb (by have := HZ.out; omega)
 have H1' := Lib.hid hk1
 have H2' := Lib.hid hk2
 clear k0 k1 k2 k3 k4 k5 k6 k7 k8 hb HL HB H1 H2
 obtain ⟨k0, k1, k2, k3, k4, k5, k6, k7, k8⟩ := hk1.nine
 have z0 := hk2.frozen 0
 have z1 := hk2.frozen 1
 have z2 := hk2.frozen 2
 have z3 := hk2.frozen 3
 have z4 := hk2.frozen 4
 have z5 := hk2.frozen 5
 have z6 := hk2.frozen 6
 obtain ⟨c0, c1, c2, c3, c4, c5, c6⟩ := hk2.seven
 clear hk1 hk2
 by_cases hz0 : z < 0
 ·have HN := Lib.hid (tombG_none (l := l) (u := u) (by omega))
  go_wp2_with fail
  refine bodyPost_ret (results_cell2 rfl _ _ ⟨w.heap.size + 1, 0, none⟩ _ _ rfl rfl (Bk.tomb_ (Bk.put7 H2'.out _ _ _ _ _ _ _))) rfl ⟨none, 0, 0, ?_, ?_, ?_⟩
  ·rw [HN.out.1, HN.out.2] <;> rfl
  ·rw [HN.out.1]; exact OwnB.nil
  ·exact below_of' HB1.out (grown_put7 _ _ _ _ _ _ _ _ _) (by omega) (Nat.le_refl _)
 obtain ⟨k, rfl⟩ : ∃ k : Nat, z = (k : Int) := ⟨z.toNat, by omega⟩
 have hkn : k < tn := by have h3 := idx_le (fun t : Tmb => decide (t.id = u)) l; have h4 := HLE.out; unfold tombN at hz; omega
 obtain ⟨b, o, x, rfl, hbb, hla, htk, hrow, hin⟩ := HL1.out.at_ hkn
 have HN := Lib.hid (tombG_some (l := l) (u := u) (k := k) (by omega) hla)
 have HS2 : Hid (x.n ≤ 100000) := Lib.hid (by have h3 := HS.out x.t (List.mem_of_getElem? hla); have h4 : x.t.msg.body.length = x.n := hin.1.1; omega)
 have HROW := Lib.hid hrow
 have HIN := Lib.hid hin
 obtain ⟨⟨id, nm, a, ⟨mu, mf, md, bl⟩⟩, xA, xn, xc⟩ := x
 have q0 : (0 : Int) ≤ (k : Int) := by omega
 have q1 : (k : Int) < (tn : Int) := by omega
 have q2 : ¬ (k : Int) < 0 := by omega
 clear hz hz1 hz2 hz0 hla htk hrow hin HLE HS
 go_wp2_with ((with_reducible show wpList _ _ _ (⟨some 17, _, _, _, _, _⟩ :: _) _ _); refine hold ?_)
 refine held (wpList_load_mid rfl 51 (.tmp 16) rfl b (o + k * 7) rfl _ _ HROW.out Tryz.underlying51 rfl (by kernel_rfl) ?_)
 rw [thC_A]
 go_wp2_with fail
 refine (stownTomb_any ⟨⟨id, nm, a, ⟨mu, mf, md, bl⟩⟩, xA, xn, xc⟩ w1 HIN.out HS2.out).mono ?_
 rintro e w2 ⟨yA, yc, rfl, ho, hb⟩
 have HO := Lib.hid (ho.base_le (base' := w.heap.size + 2) HS1.out)
 have HB2 := Lib.hid (HB1.out.trans (hb.mono (by have := HS1.out; omega)))
 have hk2 := H2'.out.below hb (by have := HS1.out; omega)
 have H3 := Lib.hid hk2
 unfold thA
 simp only
 clear k0 k1 k2 k3 k4 k5 k6 k7 k8 c0 c1 c2 c3 c4 c5 c6 z0 z1 z2 z3 z4 z5 z6 ho hb H1' H2'
 have z0 := hk2.frozen 0
 have z1 := hk2.frozen 1
 have z2 := hk2.frozen 2
 have z3 := hk2.frozen 3
 have z4 := hk2.frozen 4
 have z5 := hk2.frozen 5
 have z6 := hk2.frozen 6
 obtain ⟨c0, c1, c2, c3, c4, c5, c6⟩ := hk2.seven
 clear hk2
 go_wp2_with fail
 refine bodyPost_ret (results_cell2 rfl _ _ ⟨w.heap.size + 1, 0, none⟩ _ _ rfl rfl (Bk.tomb_ (Bk.put7 H3.out _ _ _ _ _ _ _))) rfl ⟨yA, xn, yc, ?_, ?_, ?_⟩
 ·rw [HN.out.1, HN.out.2] <;> rfl
 ·rw [HN.out.1]; exact (HO.out.farG (grown_put7 _ _ _ _ _ _ _ _ _) (by omega)).base_le (by omega)
 ·exact below_of' HB2.out (grown_put7 _ _ _ _ _ _ _ _ _) (by omega) (Nat.le_refl _)
set_option maxRecDepth 20000 in
set_option maxHeartbeats 4000000 in
theorem xsTomb_any (cl nv nt nh : Int) (bA sA rA tA gA : Option Addr) (bn bc sn sc rn rc tn tc gn gc : Nat) (l : List Tmb) (u : Int) (w : World) (hl : TombsIn w w.heap.size tA tn l) (hn : tn ≤ 140737488355328) (hs : ∀ t ∈ l, t.msg.body.length ≤ 100000) :
 Calls Tryz.prog 23 #[.agg #[.int .i64 cl, .slice bA bn bc, .slice sA sn sc, .slice rA rn rc, .slice tA tn tc, .slice gA gn gc, .int .i64 nv, .int .i64 nt, .int .i64 nh], .int .i64 u] w (GiveTm l u w) := by
 have hB : Below w.heap.size w ((w.alloc (.cells #[.int .i64 cl, .slice bA bn bc, .slice sA sn sc, .slice rA rn rc, .slice tA tn tc, .slice gA gn gc, .int .i64 nv, .int .i64 nt, .int .i64 nh] 28)).alloc (.cells #[.int .i64 0, .string ⟨#[]⟩, .int .i64 0, .int .i64 0, .int .i64 0, .int .i64 0, .slice none 0 0] 51)) := ((Below.refl _ _).alloc (Nat.le_refl _) _).alloc (by simp) _
 have h1 : Bk ((w.alloc (.cells #[.int .i64 cl, .slice bA bn bc, .slice sA sn sc, .slice rA rn rc, .slice tA tn tc, .slice gA gn gc, .int .i64 nv, .int .i64 nt, .int .i64 nh] 28)).alloc (.cells #[.int .i64 0, .string ⟨#[]⟩, .int .i64 0, .int .i64 0, .int .i64 0, .int .i64 0, .slice none 0 0] 51)) w.heap.size 28 #[.int .i64 cl, .slice bA bn bc, .slice sA sn sc, .slice rA rn rc, .slice tA tn tc, .slice gA gn gc, .int .i64 nv, .int .i64 nt, .int .i64 nh] := (Bk.new _ _ _).alloc _
 have h2 : Bk ((w.alloc (.cells #[.int .i64 cl, .slice bA bn bc, .slice sA sn sc, .slice rA rn rc, .slice tA tn tc, .slice gA gn gc, .int .i64 nv, .int .i64 nt, .int .i64 nh] 28)).alloc (.cells #[.int .i64 0, .string ⟨#[]⟩, .int .i64 0, .int .i64 0, .int .i64 0, .int .i64 0, .slice none 0 0] 51)) (w.heap.size + 1) 51 #[.int .i64 0, .string ⟨#[]⟩, .int .i64 0, .int .i64 0, .int .i64 0, .int .i64 0, .slice none 0 0] := Bk.new2 _ _ _ _
 have HZ : Hid (w.heap.size + 2 ≤ ((w.alloc (.cells #[.int .i64 cl, .slice bA bn bc, .slice sA sn sc, .slice rA rn rc, .slice tA tn tc, .slice gA gn gc, .int .i64 nv, .int .i64 nt, .int .i64 nh] 28)).alloc (.cells #[.int .i64 0, .string ⟨#[]⟩, .int .i64 0, .int .i64 0, .int .i64 0, .int .i64 0, .slice none 0 0] 51)).heap.size) := Lib.hid (by simp)
 have HL := Lib.hid (hl.later_ thStays hB)
 have HB := Lib.hid hB
 have H1 := Lib.hid h1
 have H2 := Lib.hid h2
 have HS := Lib.hid hs
 have HLE := Lib.hid hl.len
 obtain ⟨k0, k1, k2, k3, k4, k5, k6, k7, k8⟩ := h1.nine
 clear hl hB h1
 have hk2 := h2
 have z0 := hk2.frozen 0
 have z1 := hk2.frozen 1
 have z2 := hk2.frozen 2
 have z3 := hk2.frozen 3
 have z4 := hk2.frozen 4
 have z5 := hk2.frozen 5
 have z6 := hk2.frozen 6
 obtain ⟨c0, c1, c2, c3, c4, c5, c6⟩ := hk2.seven
 clear h2 hs hk2
 go_enter Tryz.func23, Tryz.ntmps23
 go_wp2_with fail
 generalize hw1 : ((w.alloc (.cells #[.int .i64 cl, .slice bA bn bc, .slice sA sn sc, .slice rA rn rc, .slice tA tn tc, .slice gA gn gc, .int .i64 nv, .int .i64 nt, .int .i64 nh] 28)).alloc (.cells #[.int .i64 0, .string ⟨#[]⟩, .int .i64 0, .int .i64 0, .int .i64 0, .int .i64 0, .slice none 0 0] 51)) = w1 at *
 clear hw1
 go_loopw [6] (fun i wx => ∃ k : Nat, k ≤ tn ∧ i = .int .i64 (k : Int) ∧ (∀ b ∈ l.take k, decide (b.id = u) = false) ∧ wx = w1) (fun i _ => tn - (intOf i).toNat)
 case atStart => exact ⟨0, Nat.zero_le _, rfl, fun b hb => by simp at hb, rfl⟩
 case round =>
  obtain ⟨k, hk, rfl, ha, rfl⟩ := hrel
  have HU := Lib.hid ha
  clear ha
  by_cases hlt : k < tn
  ·obtain ⟨b, o, x, rfl, hbb, hla, htk, hrow, hin⟩ := HL.out.at_ hlt
   have HLA := Lib.hid hla
   have HTK := Lib.hid htk
   have HROW := Lib.hid hrow
   have HIN := Lib.hid hin
   have HS2 : Hid (x.n ≤ 100000) := Lib.hid (by have h3 := HS.out x.t (List.mem_of_getElem? hla); have h4 : x.t.msg.body.length = x.n := hin.1.1; omega)
   obtain ⟨⟨id, nm, a, ⟨mu, mf, md, bl⟩⟩, xA, xn, xc⟩ := x
   have r0 := hrow 0 _ rfl
   rw [Nat.add_zero] at r0
   have hk0 : (0 : Int) ≤ (k : Int) := by omega
   have hkn : (k : Int) < (tn : Int) := by omega
   clear hla htk hrow hin
   by_cases he : id = u
   ·have hq : (id == u) = true := beq_iff_eq.2 he
    have HE : Hid (tombN l u = k + 1) := Lib.hid (idx_hit HU.out HLA.out (decide_eq_true he))
    have HN := Lib.hid (tombG_some (l := l) (u := u) (k := k) HE.out HLA.out)
    clear he
    go_wp2_with ((with_reducible show wpList _ _ _ (⟨some 26, _, _, _, _, _⟩ :: _) _ _); refine hold ?_)
    refine held (wpList_load_mid rfl 51 (.tmp 25) rfl b (o + k * 7) rfl _ _ HROW.out Tryz.underlying51 rfl (by kernel_rfl) ?_)
    rw [thC_A]
    go_wp2_with fail
    refine (xsCopyTomb_any ⟨⟨id, nm, a, ⟨mu, mf, md, bl⟩⟩, xA, xn, xc⟩ wr HIN.out HS2.out).mono ?_
    rintro e w2 ⟨yA, yc, rfl, ho, hb⟩
    have HO := Lib.hid (ho.base_le (base' := w.heap.size + 2) HZ.out)
    have HB2 := Lib.hid (HB.out.trans (hb.mono (by have := HZ.out; omega)))
    have hk2 := H2.out.below hb (by have := HZ.out; omega)
    have H3 := Lib.hid hk2
    unfold thA
    simp only
    clear k0 k1 k2 k3 k4 k5 k6 k7 k8 c0 c1 c2 c3 c4 c5 c6 z0 z1 z2 z3 z4 z5 z6 ho hb r0
    have z0 := hk2.frozen 0
    have z1 := hk2.frozen 1
    have z2 := hk2.frozen 2
    have z3 := hk2.frozen 3
    have z4 := hk2.frozen 4
    have z5 := hk2.frozen 5
    have z6 := hk2.frozen 6
    obtain ⟨c0, c1, c2, c3, c4, c5, c6⟩ := hk2.seven
    clear hk2
    go_wp2_with fail
    refine bodyPost_ret (results_cell2 rfl _ _ ⟨w.heap.size + 1, 0, none⟩ _ _ rfl rfl (Bk.tomb_ (Bk.put7 H3.out _ _ _ _ _ _ _))) rfl ⟨yA, xn, yc, ?_, ?_, ?_⟩
    ·rw [HN.out.1, HN.out.2] <;> rfl
    ·rw [HN.out.1]; exact (HO.out.farG (grown_put7 _ _ _ _ _ _ _ _ _) (by omega)).base_le (by omega)
    ·exact below_of' HB2.out (grown_put7 _ _ _ _ _ _ _ _ _) (by omega) (Nat.le_refl _)
   ·have hq : (id == u) = false := beq_eq_false_iff_ne.2 he
    have HS3 := Lib.hid (none_next (p := fun b : Tmb => decide (b.id = u)) HU.out HTK.out (decide_eq_false he))
    clear he
    go_wp2_with fail
    go_roundw
    case rel => exact ⟨k + 1, by omega, by go_num, HS3.out, by first | rfl | trivial⟩
    case measure => simp [intOf]; omega
  ·have hkn : ¬ (k : Int) < (tn : Int) := by omega
   have HE : Hid (tombN l u = 0) := Lib.hid (none_all HU.out HL.out.len hlt)
   have HN := Lib.hid (tombG_none (l := l) (u := u) HE.out)
   go_wp2_with fail
   refine bodyPost_ret (results_cell2 rfl _ _ ⟨w.heap.size + 1, 0, none⟩ _ _ rfl rfl (Bk.tomb_ (Bk.put7 H2.out _ _ _ _ _ _ _))) rfl ⟨none, 0, 0, ?_, ?_, ?_⟩
   ·rw [HN.out.1, HN.out.2] <;> rfl
   ·rw [HN.out.1]; exact OwnB.nil
   ·exact below_of' HB.out (grown_put7 _ _ _ _ _ _ _ _ _) (by omega) (Nat.le_refl _)
end Go.Proofs.YtbogjfbfgbhdbaaGreatDoor
