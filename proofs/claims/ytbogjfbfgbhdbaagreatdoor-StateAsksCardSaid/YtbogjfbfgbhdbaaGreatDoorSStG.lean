/-
  A part of the proof: see the last text.
-/
import Derived.Test.YtbogjfbfgbhdbaaGreatDoorSStE
import Derived.Test.YtbogjfbfgbhdbaaGreatDoorSStKSt
import Derived.Test.YtbogjfbfgbhdbaaGreatDoorSNameMore
import Derived.Lib.Overlaps
import Derived.Deep.RegionHeld3
import Derived.Shelf.Small.Strs
import Derived.Shelf.Strings.Search1
import Derived.Shelf.Strings.Search2
import Derived.Shelf.Strings.Search3
import Derived.Shelf.Strings.Cut
import Derived.Shelf.Strings.Count
import Derived.Shelf.LaysM
import Derived.Shelf.Strings.Shaped
import Derived.Shelf.Strings.Split
import Derived.Shelf.Unicode.DecodeSlow
import Derived.Test.YtbogjfbfgbhdbaaGreatDoorChecked
namespace Go.Proofs.YtbogjfbfgbhdbaaGreatDoor
open List renaming setIfInBounds_toArray → jA, set_cons_zero → jB, set_cons_succ → jC, getElem_toArray → jD, getElem_cons_zero → jE, getElem_cons_succ → jF
set_option linter.unusedVariables false
set_option linter.unusedSimpArgs false
open Go.RowKit
set_option linter.unusedVariables false
set_option linter.unusedSimpArgs false
theorem copyBx_own (l : List Bx) (hs : ∀ b ∈ l, b.msgs.length ≤ 100000 ∧ ∀ m ∈ b.msgs, m.body.length ≤ 100000) : CallO Tryz.prog 56 (fun x => .agg (bhA x)) BhIn BhO Bh.b l := by
  intro W x hm hx
  obtain ⟨⟨nm, v, nx, ms⟩, xA, xn, xc⟩ := x
  have h1 := hs _ hm
  have hl : ms.length = xn := hx.1.len
  refine (copy_any nm v nx xA xn xc ms W hx.1 (by have := h1.1; simp only at this; omega) (fun m hm => Nat.le_trans (h1.2 m hm) (by omega))).mono ?_
  rintro e W' ⟨A', c', rfl, ho, hb⟩
  exact ⟨⟨⟨nm, v, nx, ms⟩, A', xn, c'⟩, rfl, rfl, ho, hb⟩
theorem ownTomb_own (l : List Tmb) (hs : ∀ t ∈ l, t.msg.body.length ≤ 100000) : CallO Tryz.prog 60 (fun x => .agg (thA x)) ThIn ThO Th.t l := by
  intro W x hm hx
  have h1 := hs _ hm
  have hl : x.t.msg.body.length = x.n := hx.1.1
  refine (stownTomb_any x W hx (by omega)).mono ?_
  rintro e W' ⟨A', c', rfl, ho, hb⟩
  exact ⟨⟨x.t, A', x.n, c'⟩, rfl, rfl, ho, hb⟩
theorem ownHold_own (l : List Hol) (hs : ∀ t ∈ l, t.set.length ≤ 100000) : CallO Tryz.prog 75 (fun x => .agg (hhA x)) HhIn HhO Hh.hol l := by
  intro W x hm hx
  have h1 : x.set.length ≤ 100000 := hs _ hm
  have hl : x.set.length = x.n := hx.1.1
  refine (stownHold_any x W hx (by omega)).mono ?_
  rintro e W' ⟨A', c', rfl, ho, hb⟩
  exact ⟨⟨x.id, x.box, A', x.n, c', x.set⟩, rfl, rfl, ho, hb⟩
theorem Bk.put9 {w : World} {b : Nat} {t : TypeId} {v0 v1 v2 v3 v4 v5 v6 v7 v8 : Value} (h : Bk w b t #[v0, v1, v2, v3, v4, v5, v6, v7, v8]) (a0 a1 a2 a3 a4 a5 a6 a7 a8 : Value) :
    Bk (((((((((w.setCell ⟨b, 0, none⟩ a0).setCell ⟨b, 1, none⟩ a1).setCell ⟨b, 2, none⟩ a2).setCell ⟨b, 3, none⟩ a3).setCell ⟨b, 4, none⟩ a4).setCell ⟨b, 5, none⟩ a5).setCell ⟨b, 6, none⟩ a6).setCell ⟨b, 7, none⟩ a7).setCell ⟨b, 8, none⟩ a8) b t #[a0, a1, a2, a3, a4, a5, a6, a7, a8] := by simpa using ((((((((h.put 0 a0).put 1 a1).put 2 a2).put 3 a3).put 4 a4).put 5 a5).put 6 a6).put 7 a7).put 8 a8
theorem grown_put9 (w : World) (b : Nat) (a0 a1 a2 a3 a4 a5 a6 a7 a8 : Value) : w.grownBy (((((((((w.setCell ⟨b, 0, none⟩ a0).setCell ⟨b, 1, none⟩ a1).setCell ⟨b, 2, none⟩ a2).setCell ⟨b, 3, none⟩ a3).setCell ⟨b, 4, none⟩ a4).setCell ⟨b, 5, none⟩ a5).setCell ⟨b, 6, none⟩ a6).setCell ⟨b, 7, none⟩ a7).setCell ⟨b, 8, none⟩ a8) (some b) :=
  grown_trans (grown_trans (grown_put7 w b a0 a1 a2 a3 a4 a5 a6) (grownBy_cell _ b 7 a7)) (grownBy_cell _ b 8 a8)
theorem Bk.state_ {w : World} {b : Nat} {t : TypeId} {u0 u1 u2 u3 u4 u5 u6 u7 u8 : Value} (h : Bk w b t #[u0, u1, u2, u3, u4, u5, u6, u7, u8]) : (loadVar 28 ⟨b, 0, none⟩).run Tryz.prog w = .ok (.agg #[u0, u1, u2, u3, u4, u5, u6, u7, u8]) w := Bk.load h Tryz.underlying28 rfl (by kernel_rfl)
theorem staT_not : ¬ StaT 28 := by unfold StaT; decide
theorem small_n {w : World} {B : Nat} {s : Sta} {p : StaAt} (h : StaIn w B s p) (hs : SmSta s) : p.bx.n ≤ 1000 ∧ p.sb.n ≤ 1000 ∧ p.ru.n ≤ 1000 ∧ p.tb.n ≤ 1000 ∧ p.ho.n ≤ 1000 := by
  have h1 := hs.lens
  rw [h.bx.len, h.sb.1, h.ru.1, h.tb.len, h.ho.len] at h1
  exact h1
def GiveS14 (s : Sta) (w : World) (e : Ending) (w' : World) : Prop := ∃ p, e = .returned (staV s p) ∧ StaO w' w.heap.size s p ∧ Below w.heap.size w w'
set_option maxRecDepth 20000 in
set_option maxHeartbeats 8000000 in
theorem stCopy_any (s : Sta) (p : StaAt) (w : World) (h : StaIn w w.heap.size s p) (hs : SmSta s) : Calls Tryz.prog 26 #[staV s p] w (GiveS14 s w) := by
  obtain ⟨cl, boxes, subs, rules, tombs, holds, nv, nt, nh⟩ := s
  obtain ⟨⟨bA, bn, bc⟩, ⟨sA, sn, sc⟩, ⟨rA, rn, rc⟩, ⟨tA, tn, tc⟩, ⟨gA, gn, gc⟩⟩ := p
  show Calls Tryz.prog 26 #[.agg #[.int .i64 cl, .slice bA bn bc, .slice sA sn sc, .slice rA rn rc, .slice tA tn tc, .slice gA gn gc, .int .i64 nv, .int .i64 nt, .int .i64 nh]] w _
  have hB : Below w.heap.size w ((w.alloc (.cells #[.int .i64 cl, .slice bA bn bc, .slice sA sn sc, .slice rA rn rc, .slice tA tn tc, .slice gA gn gc, .int .i64 nv, .int .i64 nt, .int .i64 nh] 28)).alloc (.cells #[.int .i64 0, .slice none 0 0, .slice none 0 0, .slice none 0 0, .slice none 0 0, .slice none 0 0, .int .i64 0, .int .i64 0, .int .i64 0] 28)) := ((Below.refl _ _).alloc (Nat.le_refl _) _).alloc (by simp) _
  have hk : Bk ((w.alloc (.cells #[.int .i64 cl, .slice bA bn bc, .slice sA sn sc, .slice rA rn rc, .slice tA tn tc, .slice gA gn gc, .int .i64 nv, .int .i64 nt, .int .i64 nh] 28)).alloc (.cells #[.int .i64 0, .slice none 0 0, .slice none 0 0, .slice none 0 0, .slice none 0 0, .slice none 0 0, .int .i64 0, .int .i64 0, .int .i64 0] 28)) w.heap.size 28 #[.int .i64 cl, .slice bA bn bc, .slice sA sn sc, .slice rA rn rc, .slice tA tn tc, .slice gA gn gc, .int .i64 nv, .int .i64 nt, .int .i64 nh] := (Bk.new _ _ _).alloc _
  have hj : Bk ((w.alloc (.cells #[.int .i64 cl, .slice bA bn bc, .slice sA sn sc, .slice rA rn rc, .slice tA tn tc, .slice gA gn gc, .int .i64 nv, .int .i64 nt, .int .i64 nh] 28)).alloc (.cells #[.int .i64 0, .slice none 0 0, .slice none 0 0, .slice none 0 0, .slice none 0 0, .slice none 0 0, .int .i64 0, .int .i64 0, .int .i64 0] 28)) (w.heap.size + 1) 28 #[.int .i64 0, .slice none 0 0, .slice none 0 0, .slice none 0 0, .slice none 0 0, .slice none 0 0, .int .i64 0, .int .i64 0, .int .i64 0] := Bk.new2 _ _ _ _
  have HZ : Hid (w.heap.size + 2 ≤ ((w.alloc (.cells #[.int .i64 cl, .slice bA bn bc, .slice sA sn sc, .slice rA rn rc, .slice tA tn tc, .slice gA gn gc, .int .i64 nv, .int .i64 nt, .int .i64 nh] 28)).alloc (.cells #[.int .i64 0, .slice none 0 0, .slice none 0 0, .slice none 0 0, .slice none 0 0, .slice none 0 0, .int .i64 0, .int .i64 0, .int .i64 0] 28)).heap.size) := Lib.hid (by simp)
  have HB := Lib.hid hB
  have HK := Lib.hid hk
  have HJ := Lib.hid hj
  have HH := Lib.hid h
  have HSM := Lib.hid hs
  have HSZ : Hid (bn ≤ 1000 ∧ sn ≤ 1000 ∧ rn ≤ 1000 ∧ tn ≤ 1000 ∧ gn ≤ 1000) := Lib.hid (small_n h hs)
  clear h hs hB hk hj
  have k1 := HK.out.cell 1
  go_enter Tryz.func26, Tryz.ntmps26
  go_wp2_with fail
  generalize ((w.alloc (.cells #[.int .i64 cl, .slice bA bn bc, .slice sA sn sc, .slice rA rn rc, .slice tA tn tc, .slice gA gn gc, .int .i64 nv, .int .i64 nt, .int .i64 nh] 28)).alloc (.cells #[.int .i64 0, .slice none 0 0, .slice none 0 0, .slice none 0 0, .slice none 0 0, .slice none 0 0, .int .i64 0, .int .i64 0, .int .i64 0] 28)) = W0 at *
  refine (zownedBx_any 56 bA bn bc boxes W0 (HH.out.bx.later_ bhStays HB.out) (Nat.le_trans HSZ.out.1 (by omega)) (enters_of Tryz.func56 (by decide) (by kernel_rfl)) (copyBx_own boxes HSM.out.bx)).mono ?_
  rintro e V1 ⟨bB, bd, rfl, ho, hb⟩
  have HP1 := Lib.hid (ho.from_ bhOwns (base' := w.heap.size) HB.out.size)
  have HBN := Lib.hid (HB.out.trans (hb.mono HB.out.size))
  have HKN := Lib.hid (HK.out.below hb (by have := HZ.out; omega))
  have HJN := Lib.hid (HJ.out.below hb (by have := HZ.out; omega))
  have HZN := Lib.hid (Nat.le_trans HZ.out hb.size)
  clear hb ho k1 HB HK HJ HZ
  have HB := HBN
  have HK := HKN
  have HJ := HJN
  have HZ := HZN
  clear HBN HKN HJN HZN
  have z1 := HK.out.frozen 1
  have k2 := HK.out.cell 2
  have y1 := HK.out.cell 1
  go_wp2_with fail
  have hch : Chg 28 w.heap.size V1 (V1.setCell ⟨w.heap.size, 1, none⟩ (.slice bB bn bd)) := Chg.cell HK.out (Nat.le_refl _) _ _
  have HKN : Hid (Bk (V1.setCell ⟨w.heap.size, 1, none⟩ (.slice bB bn bd)) w.heap.size 28 #[.int .i64 cl, .slice bB bn bd, .slice sA sn sc, .slice rA rn rc, .slice tA tn tc, .slice gA gn gc, .int .i64 nv, .int .i64 nt, .int .i64 nh]) := Lib.hid (by simpa using HK.out.put 1 (.slice bB bn bd))
  have HJN : Hid (Bk (V1.setCell ⟨w.heap.size, 1, none⟩ (.slice bB bn bd)) (w.heap.size + 1) 28 #[.int .i64 0, .slice none 0 0, .slice none 0 0, .slice none 0 0, .slice none 0 0, .slice none 0 0, .int .i64 0, .int .i64 0, .int .i64 0]) := Lib.hid (HJ.out.far (show w.heap.size + 1 ≠ w.heap.size by omega) _)
  have HBN : Hid (Below w.heap.size w (V1.setCell ⟨w.heap.size, 1, none⟩ (.slice bB bn bd))) := Lib.hid (HB.out.trans hch.1)
  have HZN : Hid (w.heap.size + 2 ≤ (V1.setCell ⟨w.heap.size, 1, none⟩ (.slice bB bn bd)).heap.size) := Lib.hid (Nat.le_trans HZ.out hch.1.size)
  have HQ1 := Lib.hid (HP1.out.chg bhOwns hch (by decide) (by decide))
  clear hch HB HK HJ HZ z1 y1 HP1
  have HP1 := HQ1
  clear HQ1
  have HB := HBN
  have HK := HKN
  have HJ := HJN
  have HZ := HZN
  clear HBN HKN HJN HZN
  clear k2
  have k2 := HK.out.cell 2
  generalize (V1.setCell ⟨w.heap.size, 1, none⟩ (.slice bB bn bd)) = W1 at *
  refine (zCloneSt_any sA sn sc subs W1 (HH.out.sb.later HB.out) (Nat.le_trans HSZ.out.2.1 (by omega))).mono ?_
  rintro e V2 ⟨sB, sd, rfl, ho, hb⟩
  have HP2 := Lib.hid (ho.from_ (base' := w.heap.size) HB.out.size)
  have HBN := Lib.hid (HB.out.trans (hb.mono HB.out.size))
  have HKN := Lib.hid (HK.out.below hb (by have := HZ.out; omega))
  have HJN := Lib.hid (HJ.out.below hb (by have := HZ.out; omega))
  have HZN := Lib.hid (Nat.le_trans HZ.out hb.size)
  have HQ1 := Lib.hid (HP1.out.below bhOwns hb)
  clear hb ho k2 HB HK HJ HZ HP1
  have HP1 := HQ1
  clear HQ1
  have HB := HBN
  have HK := HKN
  have HJ := HJN
  have HZ := HZN
  clear HBN HKN HJN HZN
  have z2 := HK.out.frozen 2
  have k3 := HK.out.cell 3
  have y2 := HK.out.cell 2
  go_wp2_with fail
  have hch : Chg 28 w.heap.size V2 (V2.setCell ⟨w.heap.size, 2, none⟩ (.slice sB sn sd)) := Chg.cell HK.out (Nat.le_refl _) _ _
  have HKN : Hid (Bk (V2.setCell ⟨w.heap.size, 2, none⟩ (.slice sB sn sd)) w.heap.size 28 #[.int .i64 cl, .slice bB bn bd, .slice sB sn sd, .slice rA rn rc, .slice tA tn tc, .slice gA gn gc, .int .i64 nv, .int .i64 nt, .int .i64 nh]) := Lib.hid (by simpa using HK.out.put 2 (.slice sB sn sd))
  have HJN : Hid (Bk (V2.setCell ⟨w.heap.size, 2, none⟩ (.slice sB sn sd)) (w.heap.size + 1) 28 #[.int .i64 0, .slice none 0 0, .slice none 0 0, .slice none 0 0, .slice none 0 0, .slice none 0 0, .int .i64 0, .int .i64 0, .int .i64 0]) := Lib.hid (HJ.out.far (show w.heap.size + 1 ≠ w.heap.size by omega) _)
  have HBN : Hid (Below w.heap.size w (V2.setCell ⟨w.heap.size, 2, none⟩ (.slice sB sn sd))) := Lib.hid (HB.out.trans hch.1)
  have HZN : Hid (w.heap.size + 2 ≤ (V2.setCell ⟨w.heap.size, 2, none⟩ (.slice sB sn sd)).heap.size) := Lib.hid (Nat.le_trans HZ.out hch.1.size)
  have HQ1 := Lib.hid (HP1.out.chg bhOwns hch (by decide) (by decide))
  have HQ2 := Lib.hid (HP2.out.chg hch (by decide))
  clear hch HB HK HJ HZ z2 y2 HP1 HP2
  have HP1 := HQ1
  clear HQ1
  have HP2 := HQ2
  clear HQ2
  have HB := HBN
  have HK := HKN
  have HJ := HJN
  have HZ := HZN
  clear HBN HKN HJN HZN
  clear k3
  have k3 := HK.out.cell 3
  generalize (V2.setCell ⟨w.heap.size, 2, none⟩ (.slice sB sn sd)) = W2 at *
  refine (zCloneRu_any rA rn rc rules W2 (HH.out.ru.later HB.out) (Nat.le_trans HSZ.out.2.2.1 (by omega))).mono ?_
  rintro e V3 ⟨rB, rd, rfl, ho, hb⟩
  have HP3 := Lib.hid (ho.from_ (base' := w.heap.size) HB.out.size)
  have HBN := Lib.hid (HB.out.trans (hb.mono HB.out.size))
  have HKN := Lib.hid (HK.out.below hb (by have := HZ.out; omega))
  have HJN := Lib.hid (HJ.out.below hb (by have := HZ.out; omega))
  have HZN := Lib.hid (Nat.le_trans HZ.out hb.size)
  have HQ1 := Lib.hid (HP1.out.below bhOwns hb)
  have HQ2 := Lib.hid (HP2.out.below hb)
  clear hb ho k3 HB HK HJ HZ HP1 HP2
  have HP1 := HQ1
  clear HQ1
  have HP2 := HQ2
  clear HQ2
  have HB := HBN
  have HK := HKN
  have HJ := HJN
  have HZ := HZN
  clear HBN HKN HJN HZN
  have z3 := HK.out.frozen 3
  have k4 := HK.out.cell 4
  have y3 := HK.out.cell 3
  go_wp2_with fail
  have hch : Chg 28 w.heap.size V3 (V3.setCell ⟨w.heap.size, 3, none⟩ (.slice rB rn rd)) := Chg.cell HK.out (Nat.le_refl _) _ _
  have HKN : Hid (Bk (V3.setCell ⟨w.heap.size, 3, none⟩ (.slice rB rn rd)) w.heap.size 28 #[.int .i64 cl, .slice bB bn bd, .slice sB sn sd, .slice rB rn rd, .slice tA tn tc, .slice gA gn gc, .int .i64 nv, .int .i64 nt, .int .i64 nh]) := Lib.hid (by simpa using HK.out.put 3 (.slice rB rn rd))
  have HJN : Hid (Bk (V3.setCell ⟨w.heap.size, 3, none⟩ (.slice rB rn rd)) (w.heap.size + 1) 28 #[.int .i64 0, .slice none 0 0, .slice none 0 0, .slice none 0 0, .slice none 0 0, .slice none 0 0, .int .i64 0, .int .i64 0, .int .i64 0]) := Lib.hid (HJ.out.far (show w.heap.size + 1 ≠ w.heap.size by omega) _)
  have HBN : Hid (Below w.heap.size w (V3.setCell ⟨w.heap.size, 3, none⟩ (.slice rB rn rd))) := Lib.hid (HB.out.trans hch.1)
  have HZN : Hid (w.heap.size + 2 ≤ (V3.setCell ⟨w.heap.size, 3, none⟩ (.slice rB rn rd)).heap.size) := Lib.hid (Nat.le_trans HZ.out hch.1.size)
  have HQ1 := Lib.hid (HP1.out.chg bhOwns hch (by decide) (by decide))
  have HQ2 := Lib.hid (HP2.out.chg hch (by decide))
  have HQ3 := Lib.hid (HP3.out.chg hch (by decide))
  clear hch HB HK HJ HZ z3 y3 HP1 HP2 HP3
  have HP1 := HQ1
  clear HQ1
  have HP2 := HQ2
  clear HQ2
  have HP3 := HQ3
  clear HQ3
  have HB := HBN
  have HK := HKN
  have HJ := HJN
  have HZ := HZN
  clear HBN HKN HJN HZN
  clear k4
  have k4 := HK.out.cell 4
  generalize (V3.setCell ⟨w.heap.size, 3, none⟩ (.slice rB rn rd)) = W3 at *
  refine (zownedTb_any 60 tA tn tc tombs W3 (HH.out.tb.later_ thStays HB.out) (Nat.le_trans HSZ.out.2.2.2.1 (by omega)) (enters_of Tryz.func60 (by decide) (by kernel_rfl)) (ownTomb_own tombs HSM.out.tb)).mono ?_
  rintro e V4 ⟨tB, td, rfl, ho, hb⟩
  have HP4 := Lib.hid (ho.from_ thOwns (base' := w.heap.size) HB.out.size)
  have HBN := Lib.hid (HB.out.trans (hb.mono HB.out.size))
  have HKN := Lib.hid (HK.out.below hb (by have := HZ.out; omega))
  have HJN := Lib.hid (HJ.out.below hb (by have := HZ.out; omega))
  have HZN := Lib.hid (Nat.le_trans HZ.out hb.size)
  have HQ1 := Lib.hid (HP1.out.below bhOwns hb)
  have HQ2 := Lib.hid (HP2.out.below hb)
  have HQ3 := Lib.hid (HP3.out.below hb)
  clear hb ho k4 HB HK HJ HZ HP1 HP2 HP3
  have HP1 := HQ1
  clear HQ1
  have HP2 := HQ2
  clear HQ2
  have HP3 := HQ3
  clear HQ3
  have HB := HBN
  have HK := HKN
  have HJ := HJN
  have HZ := HZN
  clear HBN HKN HJN HZN
  have z4 := HK.out.frozen 4
  have k5 := HK.out.cell 5
  have y4 := HK.out.cell 4
  go_wp2_with fail
  have hch : Chg 28 w.heap.size V4 (V4.setCell ⟨w.heap.size, 4, none⟩ (.slice tB tn td)) := Chg.cell HK.out (Nat.le_refl _) _ _
  have HKN : Hid (Bk (V4.setCell ⟨w.heap.size, 4, none⟩ (.slice tB tn td)) w.heap.size 28 #[.int .i64 cl, .slice bB bn bd, .slice sB sn sd, .slice rB rn rd, .slice tB tn td, .slice gA gn gc, .int .i64 nv, .int .i64 nt, .int .i64 nh]) := Lib.hid (by simpa using HK.out.put 4 (.slice tB tn td))
  have HJN : Hid (Bk (V4.setCell ⟨w.heap.size, 4, none⟩ (.slice tB tn td)) (w.heap.size + 1) 28 #[.int .i64 0, .slice none 0 0, .slice none 0 0, .slice none 0 0, .slice none 0 0, .slice none 0 0, .int .i64 0, .int .i64 0, .int .i64 0]) := Lib.hid (HJ.out.far (show w.heap.size + 1 ≠ w.heap.size by omega) _)
  have HBN : Hid (Below w.heap.size w (V4.setCell ⟨w.heap.size, 4, none⟩ (.slice tB tn td))) := Lib.hid (HB.out.trans hch.1)
  have HZN : Hid (w.heap.size + 2 ≤ (V4.setCell ⟨w.heap.size, 4, none⟩ (.slice tB tn td)).heap.size) := Lib.hid (Nat.le_trans HZ.out hch.1.size)
  have HQ1 := Lib.hid (HP1.out.chg bhOwns hch (by decide) (by decide))
  have HQ2 := Lib.hid (HP2.out.chg hch (by decide))
  have HQ3 := Lib.hid (HP3.out.chg hch (by decide))
  have HQ4 := Lib.hid (HP4.out.chg thOwns hch (by decide) (by decide))
  clear hch HB HK HJ HZ z4 y4 HP1 HP2 HP3 HP4
  have HP1 := HQ1
  clear HQ1
  have HP2 := HQ2
  clear HQ2
  have HP3 := HQ3
  clear HQ3
  have HP4 := HQ4
  clear HQ4
  have HB := HBN
  have HK := HKN
  have HJ := HJN
  have HZ := HZN
  clear HBN HKN HJN HZN
  clear k5
  have k5 := HK.out.cell 5
  generalize (V4.setCell ⟨w.heap.size, 4, none⟩ (.slice tB tn td)) = W4 at *
  refine (zownedHo_any 75 gA gn gc holds W4 (HH.out.ho.later_ hhStays HB.out) (Nat.le_trans HSZ.out.2.2.2.2 (by omega)) (enters_of Tryz.func75 (by decide) (by kernel_rfl)) (ownHold_own holds HSM.out.ho)).mono ?_
  rintro e V5 ⟨gB, gd, rfl, ho, hb⟩
  have HP5 := Lib.hid (ho.from_ hhOwns (base' := w.heap.size) HB.out.size)
  have HBN := Lib.hid (HB.out.trans (hb.mono HB.out.size))
  have HKN := Lib.hid (HK.out.below hb (by have := HZ.out; omega))
  have HJN := Lib.hid (HJ.out.below hb (by have := HZ.out; omega))
  have HZN := Lib.hid (Nat.le_trans HZ.out hb.size)
  have HQ1 := Lib.hid (HP1.out.below bhOwns hb)
  have HQ2 := Lib.hid (HP2.out.below hb)
  have HQ3 := Lib.hid (HP3.out.below hb)
  have HQ4 := Lib.hid (HP4.out.below thOwns hb)
  clear hb ho k5 HB HK HJ HZ HP1 HP2 HP3 HP4
  have HP1 := HQ1
  clear HQ1
  have HP2 := HQ2
  clear HQ2
  have HP3 := HQ3
  clear HQ3
  have HP4 := HQ4
  clear HQ4
  have HB := HBN
  have HK := HKN
  have HJ := HJN
  have HZ := HZN
  clear HBN HKN HJN HZN
  obtain ⟨k0, k1, k2, k3, k4, k5, k6, k7, k8⟩ := HK.out.nine
  obtain ⟨j0, j1, j2, j3, j4, j5, j6, j7, j8⟩ := HJ.out.nine
  have z5 := HK.out.frozen 5
  have y0 := HJ.out.frozen 0
  have y1 := HJ.out.frozen 1
  have y2 := HJ.out.frozen 2
  have y3 := HJ.out.frozen 3
  have y4 := HJ.out.frozen 4
  have y5 := HJ.out.frozen 5
  have y6 := HJ.out.frozen 6
  have y7 := HJ.out.frozen 7
  have y8 := HJ.out.frozen 8
  go_wp2_with fail
  have hch : Chg 28 w.heap.size V5 (V5.setCell ⟨w.heap.size, 5, none⟩ (.slice gB gn gd)) := Chg.cell HK.out (Nat.le_refl _) _ _
  have hj2 := HJ.out.far (show w.heap.size + 1 ≠ w.heap.size by omega) (p := ⟨w.heap.size, 5, none⟩) (.slice gB gn gd)
  refine bodyPost_ret (results_cell (a := ⟨w.heap.size + 1, 0, none⟩) rfl rfl (Bk.state_ (Bk.put9 hj2 _ _ _ _ _ _ _ _ _))) rfl ⟨⟨⟨bB, bn, bd⟩, ⟨sB, sn, sd⟩, ⟨rB, rn, rd⟩, ⟨tB, tn, td⟩, ⟨gB, gn, gd⟩⟩, rfl, ?_, ?_⟩
  · have hst : StaO V5 w.heap.size ⟨cl, boxes, subs, rules, tombs, holds, nv, nt, nh⟩ ⟨⟨bB, bn, bd⟩, ⟨sB, sn, sd⟩, ⟨rB, rn, rd⟩, ⟨tB, tn, td⟩, ⟨gB, gn, gd⟩⟩ := ⟨HP1.out, HP2.out, HP3.out, HP4.out, HP5.out⟩
    refine (hst.chg hch staT_not).chg (Chg.of hj2 (grown_put9 _ _ _ _ _ _ _ _ _ _ _) ?_) staT_not
    exact (Below.refl _ _).grown (grown_put9 _ _ _ _ _ _ _ _ _ _ _) (Nat.le_trans HB.out.size hch.1.size) (fun q hq => by injection hq with hq; omega)
  · exact below_of' (HB.out.trans hch.1) (grown_put9 _ _ _ _ _ _ _ _ _ _ _) (by omega) (Nat.le_refl _)
end Go.Proofs.YtbogjfbfgbhdbaaGreatDoor
namespace Go.Proofs.YtbogjfbfgbhdbaaGreatDoor
open List renaming setIfInBounds_toArray → jA, set_cons_zero → jB, set_cons_succ → jC, getElem_toArray → jD, getElem_cons_zero → jE, getElem_cons_succ → jF
set_option linter.unusedVariables false
set_option linter.unusedSimpArgs false
open Go.RowKit
set_option linter.unusedVariables false
set_option linter.unusedSimpArgs false
def neR (box : ByteArray) (l : List Rul) : List Rul := l.filter (fun r => decide (r.1 ≠ box))
theorem neR_all {box : ByteArray} {l : List Rul} (h : ∀ r ∈ l, r.1 ≠ box) : neR box l = l := List.filter_eq_self.2 fun r hr => decide_eq_true (h r hr)
theorem neR_snoc_no {box : ByteArray} {l : List Rul} {k : Nat} {r : Rul} (e : l[k]? = some r) (h : r.1 = box) : neR box (l.take (k + 1)) = neR box (l.take k) := by
  rw [take_snoc_l l k r e]; unfold neR; rw [List.filter_append, List.filter_cons_of_neg (by simp [h]), List.filter_nil, List.append_nil]
theorem neR_snoc_yes {box : ByteArray} {l : List Rul} {k : Nat} {r : Rul} (e : l[k]? = some r) (h : r.1 ≠ box) : neR box (l.take (k + 1)) = neR box (l.take k) ++ [r] := by
  rw [take_snoc_l l k r e]; unfold neR; rw [List.filter_append, List.filter_cons_of_pos (by simp [h]), List.filter_nil]
def Swept (box : ByteArray) (l m : List Rul) (i j : Nat) : Prop := m.length = l.length ∧ i < j ∧ j ≤ l.length ∧ m.take i = neR box (l.take j) ∧ m.drop j = l.drop j
theorem Swept.at_ {box : ByteArray} {l m : List Rul} {i j : Nat} (h : Swept box l m i j) : m[j]? = l[j]? := by
  obtain ⟨_, _, _, _, h⟩ := h
  have := congrArg (fun q => q[0]?) h
  simpa using this
theorem Swept.no {box : ByteArray} {l m : List Rul} {i j : Nat} {r : Rul} (h : Swept box l m i j) (e : l[j]? = some r) (hr : r.1 = box) : Swept box l m i (j + 1) := by
  obtain ⟨h1, h2, h3, h4, h5⟩ := h
  have hj : j < l.length := (List.getElem?_eq_some_iff.1 e).1
  refine ⟨h1, by omega, by omega, by rw [neR_snoc_no e hr, h4], ?_⟩
  rw [← List.drop_drop, ← List.drop_drop, h5]
theorem Swept.yes {box : ByteArray} {l m : List Rul} {i j : Nat} {r : Rul} (h : Swept box l m i j) (e : l[j]? = some r) (hr : r.1 ≠ box) : Swept box l (m.set i r) (i + 1) (j + 1) := by
  obtain ⟨h1, h2, h3, h4, h5⟩ := h
  have hj : j < l.length := (List.getElem?_eq_some_iff.1 e).1
  refine ⟨by rw [List.length_set, h1], by omega, by omega, ?_, ?_⟩
  · rw [neR_snoc_yes e hr, ← h4, take_snoc_l (m.set i r) i r (by rw [List.getElem?_set_self (by omega)]), List.take_set_of_le (Nat.le_refl _)]
  · rw [List.drop_set_of_lt (by omega), ← List.drop_drop, ← List.drop_drop, h5]
theorem Swept.start {box : ByteArray} {l : List Rul} {j : Nat} {r : Rul} (hu : ∀ x ∈ l.take j, x.1 ≠ box) (e : l[j]? = some r) (hr : r.1 = box) : Swept box l l j (j + 1) := by
  have hj : j < l.length := (List.getElem?_eq_some_iff.1 e).1
  exact ⟨rfl, by omega, by omega, by rw [neR_snoc_no e hr, neR_all hu], rfl⟩
theorem Swept.done {box : ByteArray} {l m : List Rul} {i : Nat} (h : Swept box l m i l.length) : m.take i = neR box l ∧ i < l.length ∧ i ≤ m.length := by
  obtain ⟨h1, h2, h3, h4, h5⟩ := h
  rw [List.take_of_length_le (Nat.le_refl _)] at h4
  exact ⟨h4, h2, by omega⟩
theorem wp_clear_k {P : Program} {o : Oper} {a : Act} {w w' : World} {K : Act → World → Prop} {Q : Exit → Act → World → Prop} {s : Operand} {t : TypeId} {v z : Value} (ho : o.op = .call { callee := .builtin .clear, args := #[s], argTypes := #[t] })
    (hs : a.eval s = v) (hrun : (Builtin.clear_ #[t] o.type #[v]).run P w = .ok z w') (hK : K (a.put o.dst z) w') : o.wp P a w K Q := by
  unfold Oper.wp execOp
  simp only [ho, resolve, invoke, builtin, Sem.run_bind, Sem.run_pure, Result.andThen_ok, List.map_toArray, List.map_cons, List.map_nil, hs, hrun]
  exact hK
theorem zero_rul : ∀ n, ∀ v ∈ (Builtin.zeroCells (Value.agg #[.string ByteArray.empty, .int .i64 0]).cells n).toList, v.oneCell' = true := by
  intro n
  refine zero_one ?_ (by decide) n
  intro v hv
  simp only [Value.cells, List.mem_cons, List.not_mem_nil, or_false] at hv
  rcases hv with rfl | rfl <;> rfl
set_option maxRecDepth 20000 in
set_option maxHeartbeats 8000000 in
theorem rlDelete_any (base : Nat) (A : Option Addr) (n c bb : Nat) (box : ByteArray) (l : List Rul) (w : World) (hl : OwnK 2 rulC w base 83 A n c l) (hn : n ≤ 1000000) (hA : w.cell? ⟨bb, 0, none⟩ = some (.string box)) (hbb : bb < base) (hbw : base ≤ w.heap.size) :
    Calls Tryz.prog 224 #[.slice A n c, .func (.func 225) #[] #[.pointer (some ⟨bb, 0, none⟩)]] w fun e w' => ∃ A' n', e = .returned (.slice A' n' c) ∧ n' ≤ n ∧ OwnK 2 rulC w' base 83 A' n' c (neR box l) ∧ Below base w w' := by
  have HO := Lib.hid hl
  have HA := Lib.hid hA
  have CI := Lib.hid (rlindexR_any A n c bb box l w hl.col (by omega) hA)
  clear hl hA
  go_enter Tryz.func224, Tryz.ntmps224
  go_wp2_with fail
  refine CI.out.mono ?_
  rintro e w1 ⟨z, rfl, hf, ha, hb⟩
  have HB := Lib.hid hb
  have HAT := Lib.hid ha
  have HF := Lib.hid hf
  clear hb ha hf CI
  rcases HF.out with ⟨hz, hall⟩ | ⟨j, hz, hj, hu⟩
  · have HALL := Lib.hid hall
    clear hall
    subst hz
    go_wp2_with fail
    go_ret
    exact ⟨A, n, rfl, Nat.le_refl _, by rw [neR_all HALL.out]; exact HO.out.below HB.out, HB.out.mono hbw⟩
  · obtain ⟨r, hr, hrb⟩ := HAT.out j hz
    subst hz
    obtain ⟨g, rfl, hbg, hR⟩ := HO.out.rows (by omega)
    have HL := Lib.hid HO.out.len
    have HSW := Lib.hid (Swept.start hu hr hrb)
    have HR := Lib.hid (hR.below HB.out)
    have HGB := Lib.hid hbg
    have hj1 : ((j : Int) == -1) = false := by simp
    have hnc : n ≤ c := HO.out.cap.1
    have hcm : c ≤ 9223372036854775807 := HO.out.cap.2
    clear hu hr hrb hR hbg HF
    go_wp2_with fail
    go_loopw [5, 6] (fun a b wx => ∃ (i j : Nat) (m : List Rul), a = .int .i64 (i : Int) ∧ b = .int .i64 (j : Int) ∧ j ≤ n ∧ i < j ∧ Swept box l m i j ∧ RowsK 2 rulC wx 83 g c m ∧ Below base w wx) (fun _ b _ => n - (intOf b).toNat)
    case atStart => exact ⟨j, j + 1, l, rfl, by go_num, by omega, by omega, HSW.out, HR.out, HB.out.mono hbw⟩
    case round =>
      clear HSW HR HB
      obtain ⟨i, q, m, rfl, rfl, hq, hiq, hsw, hrw, hb⟩ := hrel
      have HSW := Lib.hid hsw
      have HR := Lib.hid hrw
      have HB := Lib.hid hb
      clear hsw hrw hb
      by_cases hlt : q < n
      · obtain ⟨x, hx⟩ : ∃ x, l[q]? = some x := ⟨l[q]'(by rw [HL.out]; exact hlt), List.getElem?_eq_getElem _⟩
        have HX := Lib.hid hx
        have HRX := Lib.hid (HR.out.range (HSW.out.at_.trans hx))
        have hq0 : (0 : Int) ≤ (q : Int) := by omega
        have hqn : (q : Int) < (n : Int) := by omega
        clear hx
        obtain ⟨x1, x2⟩ := x
        have CS := Lib.hid (fun W h => (show Calls Tryz.prog 225 #[.agg #[.string x1, .int .i64 x2], .pointer (some ⟨bb, 0, none⟩)] W fun e w' => e = .returned (.bool (decide (x1 = box))) ∧ Below W.heap.size W w' from rlSet1_any (x1, x2) bb box W h))
        have hsz := Nat.le_trans hbw HB.out.size
        have HAC : Hid (wr.cell? ⟨bb, 0, none⟩ = some (.string box)) := Lib.hid ((HB.out.cell (p := ⟨bb, 0, none⟩) hbb).trans HA.out)
        go_wp2_with ((with_reducible show wpList _ _ _ (⟨some 25, _, _, _, _, _⟩ :: _) _ _); refine hold ?_)
        refine held (wpList_load_mid rfl 83 (.tmp 24) rfl g (q * 2) rfl (rulC (x1, x2)) _ HRX.out Tryz.underlying83 rfl (by kernel_rfl) ?_)
        unfold rulC
        go_wp2_with fail
        have hba : Below wr.heap.size wr (wr.alloc (.cells #[.string x1, .int .i64 x2] 83)) := (Below.refl _ _).alloc (Nat.le_refl _) _
        refine (CS.out _ ((hba.cell (p := ⟨bb, 0, none⟩) (show bb < wr.heap.size by omega)).trans HAC.out)).mono ?_
        rintro e w3 ⟨rfl, hb3⟩
        have hb4 := hba.trans (hb3.mono hba.size)
        have K3 := Lib.hid ((Bk.new wr 83 #[.string x1, .int .i64 x2]).below hb3 (by simp))
        have R3 := Lib.hid (HR.out.below hb4)
        have B3 := Lib.hid (HB.out.trans (hb4.mono hsz))
        clear hb3 hb4 hba HR HB HAC HRX CS
        by_cases hok : x1 = box
        · rw [decide_eq_true hok]
          have HS := Lib.hid (HSW.out.no HX.out hok)
          clear hok K3
          go_wp2_with fail
          go_roundw
          case rel => exact ⟨i, q + 1, m, rfl, by go_num, by omega, by omega, HS.out, R3.out, B3.out⟩
          case measure => simp [intOf]; omega
        · rw [decide_eq_false hok]
          have HS := Lib.hid (HSW.out.yes HX.out hok)
          have hi0 : (0 : Int) ≤ (i : Int) := by omega
          have hin : (i : Int) < (n : Int) := by omega
          have him : i < m.length := by have := HSW.out.1; have := HL.out; omega
          clear hok
          go_wp2_with ((with_reducible show wpList _ _ _ (⟨some 32, _, _, _, _, _⟩ :: _) _ _); refine hold ?_)
          refine held (wpList_load_mid rfl 83 (.tmp 7) rfl wr.heap.size 0 rfl _ _ K3.out.range Tryz.underlying83 rfl (by kernel_rfl) ?_)
          go_wp2_with ((with_reducible show wpList _ _ _ (⟨none, _, _, _, _, _⟩ :: _) _ _); refine hold ?_)
          refine held (wpList_store_row rfl 83 (.tmp 33) (.tmp 32) rfl R3.out i him (x1, x2) rfl rfl (by kernel_rfl) (rulC_one _) ?_)
          intro w5 hR5 hg5
          have R5 := Lib.hid hR5
          have B5 := Lib.hid (B3.out.grown hg5 (Nat.le_trans hbw B3.out.size) (fun k hk => by cases hk; exact HGB.out))
          clear hR5 hg5 R3 B3 K3
          go_wp2_with fail
          go_roundw
          case rel => exact ⟨i + 1, q + 1, _, by go_num, by go_num, by omega, by omega, HS.out, R5.out, B5.out⟩
          case measure => simp [intOf]; omega
      · have hqn : ¬ (q : Int) < (n : Int) := by omega
        obtain rfl : q = l.length := by have := HL.out; omega
        have HD := Lib.hid HSW.out.done
        have hin : i < n := by have := HD.out.2.1; have := HL.out; omega
        have him : i ≤ m.length := HD.out.2.2
        have hi0 : (0 : Int) ≤ (i : Int) := by omega
        have hil : (i : Int) ≤ (n : Int) := by omega
        have hic : ¬ (c = i) := by omega
        obtain ⟨cur, hB, hs, hP⟩ := HR.out.cut him
        have HP := Lib.hid hP
        have hzs : (Builtin.zeroCells (Value.agg #[.string ByteArray.empty, .int .i64 0]).cells (n - i)).size = (n - i) * 2 := by rw [size_zeroCells]; rfl
        have HCL := Lib.hid (fun ty cc => run_clear_k (P := Tryz.prog) wr 24 83 ty (.agg #[.string ByteArray.empty, .int .i64 0]) Tryz.underlying24 Tryz.zeroValue83 g (i * 2) (n - i) cc (by omega) cur 83 hB (zero_rul _) (by rw [hzs, hs, ← Nat.add_mul]; exact Nat.mul_le_mul_right _ (by omega)))
        have HP2 := Lib.hid (HP.out (Builtin.zeroCells (Value.agg #[.string ByteArray.empty, .int .i64 0]).cells (n - i)).toList (by rw [Array.length_toList, hzs, ← Nat.add_mul]; exact Nat.mul_le_mul_right _ (by omega)))
        clear hP hB hs hzs HP
        go_wp2_with ((with_reducible show wpList _ _ _ (⟨none, _, _, _, _, _⟩ :: _) _ _); refine hold ?_)
        refine held (wpList_plain rfl fun K hK => wp_clear_k (s := .tmp 38) rfl rfl (HCL.out _ _) (hK _ _ ?_))
        have R5 := Lib.hid HP2.out
        have B5 := Lib.hid (fun cs => YtbogjfbfgbhdbaaGreatDoor.below_setRow HB.out HGB.out cs)
        go_wp2_with fail
        go_ret
        exact ⟨some ⟨g, 0, none⟩, i, rfl, by omega, by
          have := R5.out.own HGB.out
          rw [HD.out.1, show (neR box l).length = i by rw [← HD.out.1, List.length_take]; omega] at this
          exact this, B5.out _⟩
end Go.Proofs.YtbogjfbfgbhdbaaGreatDoor
namespace Go.Proofs.YtbogjfbfgbhdbaaGreatDoor
open List renaming setIfInBounds_toArray → jA, set_cons_zero → jB, set_cons_succ → jC, getElem_toArray → jD, getElem_cons_zero → jE, getElem_cons_succ → jF
set_option linter.unusedVariables false
set_option linter.unusedSimpArgs false
open Go.RowKit
set_option linter.unusedVariables false
set_option linter.unusedSimpArgs false
def InsIs (w : World) (base : Nat) (l : List Rul) (e : Ending) (w' : World) : Prop := ∃ A' n' c', e = .returned (.slice A' n' c') ∧ OwnK 2 rulC w' base 83 A' n' c' l ∧ Below base w w'
set_option maxRecDepth 20000 in
set_option maxHeartbeats 4000000 in
theorem rlInsert_end (base : Nat) (A : Option Addr) (n c vb : Nat) (x : Rul) (l : List Rul) (w : World) (hl : OwnK 2 rulC w base 83 A n c l) (hn : n ≤ 100000) (hv : Bk w vb 83 (rulA x)) (hbw : base ≤ w.heap.size) :
    Calls Tryz.prog 228 #[.slice A n c, .int .i64 n, .slice (some ⟨vb, 0, none⟩) 1 1] w (InsIs w base (l ++ [x])) := by
  obtain ⟨A3, c3, w3, hrun, ho3, hb3, hg3⟩ := run_append_ks (P := Tryz.prog) (f := rulC) hl 24 24 Tryz.underlying24 info_rul rfl (by omega) (by omega) (A' := some ⟨vb, 0, none⟩) (m := 1) (c' := 1) (us := [x]) (B := w.heap.size)
    ⟨rfl, fun _ => ⟨vb, 0, rfl, hv.lt, fun i a ha => by
      cases i with
      | zero => cases ha; rw [Nat.zero_mul, Nat.add_zero]; exact hv.range
      | succ i => cases ha⟩⟩ (ruls_one _) (by omega) hbw
  have HRUN := Lib.hid hrun
  have hnc : n ≤ c := hl.cap.1
  have hcm : c ≤ 9223372036854775807 := hl.cap.2
  clear hrun hl hg3 hv
  have HO3 := Lib.hid ho3
  have HB3 := Lib.hid hb3
  clear ho3 hb3
  by_cases hcn : c = n
  · subst hcn
    go_enter Tryz.func228, Tryz.ntmps228
    go_wp2_with ((with_reducible show wpList _ _ _ (⟨some 25, _, _, _, _, _⟩ :: _) _ _); refine hold ?_)
    refine held (wpList_plain rfl fun K hK => wp_append_ks (s := .tmp 23) (x := .tmp 24) rfl rfl rfl HRUN.out (hK _ _ ?_))
    go_wp2_with fail
    go_ret
    exact ⟨_, _, _, rfl, HO3.out, HB3.out⟩
  · go_enter Tryz.func228, Tryz.ntmps228
    go_wp2_with ((with_reducible show wpList _ _ _ (⟨some 25, _, _, _, _, _⟩ :: _) _ _); refine hold ?_)
    refine held (wpList_plain rfl fun K hK => wp_append_ks (s := .tmp 23) (x := .tmp 24) rfl rfl rfl HRUN.out (hK _ _ ?_))
    go_wp2_with fail
    go_ret
    exact ⟨_, _, _, rfl, HO3.out, HB3.out⟩
theorem wp_copy_ks {P : Program} {o : Oper} {a : Act} {w w' : World} {K : Act → World → Prop} {Q : Exit → Act → World → Prop} {d s : Operand} {t t' : TypeId} {u v z : Value} (ho : o.op = .call { callee := .builtin .copy, args := #[d, s], argTypes := #[t, t'] })
    (hd : a.eval d = u) (hs : a.eval s = v) (hrun : (Builtin.copy_ #[t, t'] o.type #[u, v]).run P w = .ok z w') (hK : K (a.put o.dst z) w') : o.wp P a w K Q := by
  unfold Oper.wp execOp
  simp only [ho, resolve, invoke, builtin, Sem.run_bind, Sem.run_pure, Result.andThen_ok, List.map_toArray, List.map_cons, List.map_nil, hd, hs, hrun]
  exact hK
theorem wp_append_ks2 {P : Program} {o : Oper} {a : Act} {w w' : World} {K : Act → World → Prop} {Q : Exit → Act → World → Prop} {s x : Operand} {t t' : TypeId} {v y z : Value} (ho : o.op = .call { callee := .builtin .append, args := #[s, x], argTypes := #[t, t'] })
    (hs : a.eval s = v) (hx : a.eval x = y) (hrun : (Builtin.append_ #[t, t'] o.type #[v, y]).run P w = .ok z w') (hK : K (a.put o.dst z) w') : o.wp P a w K Q := by
  unfold Oper.wp execOp
  simp only [ho, resolve, invoke, builtin, Sem.run_bind, Sem.run_pure, Result.andThen_ok, List.map_toArray, List.map_cons, List.map_nil, hs, hx, hrun]
  exact hK
theorem RowsK.copied {P : Program} {α : Type} {k : Nat} {f : α → List Value} {w : World} {e : TypeId} {g c : Nat} {l : List α} (h : RowsK k f w e g c l) {j : Nat} (hj : j ≤ l.length) (us : List α) (hc : j + us.length ≤ c)
    (dT sT ty : TypeId) (hu : P.underlying dT = some (.slice e)) (hs : (P.info? e).map (·.size) = some k) (dLen dCap sLen sCap b o : Nat) (hm : Nat.min sLen dLen = us.length) (hsrc : w.rangeAt b o (us.flatMap f)) (h1 : ∀ u ∈ us, ∀ v ∈ f u, v.oneCell' = true) :
    ∃ cur : Array Value, (Builtin.copy_ #[dT, sT] ty #[.slice (some ⟨g, j * k, none⟩) dLen dCap, .slice (some ⟨b, o, none⟩) sLen sCap]).run P w = .ok (goInt us.length) (w.setRow g cur) ∧ RowsK k f (w.setRow g cur) e g c (l.take j ++ us ++ l.drop (j + us.length)) := by
  obtain ⟨cur, hB, hsz, hR⟩ := h.put hj us hc
  refine ⟨_, ?_, hR⟩
  exact run_copy_k w dT sT ty e g (j * k) dLen dCap ⟨b, o, none⟩ sLen sCap cur e (us.flatMap f) hu hs hm hB (by rw [flat_len h.1]) (fun i v hv => by rw [Addr.add_mid]; exact hsrc i v hv)
    (by rw [flat_len h.1, ← Nat.add_mul, hsz]; exact Nat.mul_le_mul_right _ hc) (fun v hv => by obtain ⟨u, hu, hv⟩ := List.mem_flatMap.1 hv; exact h1 u hu v hv)
theorem Bk.shape {w : World} {b : Nat} {t : TypeId} {cs : Array Value} (h : Bk w b t cs) : w.shape? b = some (t, cs.size) := by
  unfold Bk at h
  simp [World.shape?, h]
theorem overlaps_no {w : World} {vb g o la ca lb cb : Nat} {cs cur : Array Value} (hv : Bk w vb 83 cs) (hg : Bk w g 83 cur) (hne : vb ≠ g) (h0 : cur.size ≠ 0) :
    (callFunc 249 #[.slice (some ⟨vb, 0, none⟩) la ca, .slice (some ⟨g, o, none⟩) lb cb]).run Tryz.prog w = .ok (.value (.bool false)) w := by
  rw [run_callFunc_extern Tryz.func249 (by kernel_rfl) (by kernel_rfl) (by kernel_rfl) (e := Extern.SlicesOverlaps.overlaps #[24, 24] #[4]) (by kernel_rfl),
    Lib.run_overlaps_apart w 24 4 83 Tryz.underlying24 2 Tryz.sizeOf83 ⟨vb, 0, none⟩ ⟨g, o, none⟩ la ca lb cb hne 83 83 cs.size cur.size hv.shape hg.shape h0 (hv.frozen 0) (hv.frozen cs.size)]
  rfl
theorem ins_shift {l : List Rul} {i : Nat} (hi : i < l.length) (x : Rul) : (l.take (i + 1) ++ l.drop i).take i ++ [x] ++ (l.take (i + 1) ++ l.drop i).drop (i + 1) = l.take i ++ [x] ++ l.drop i := by
  have h1 : (l.take (i + 1)).length = i + 1 := by rw [List.length_take]; omega
  rw [List.take_append_of_le_length (by omega), List.take_take, List.drop_append, List.drop_eq_nil_of_le (by omega), h1, Nat.sub_self, List.drop_zero, List.nil_append, show min i (i + 1) = i by omega]
theorem size_rul (w : World) : (sizeOf (Tryz.prog.elem 24)).run Tryz.prog w = .ok 2 w := by
  have hel : Tryz.prog.elem 24 = 83 := by simp [Program.elem, Tryz.underlying24]
  rw [hel]; exact Tryz.sizeOf83 w
theorem und_ruls : Tryz.prog.underlying 24 = some (.slice (Tryz.prog.elem 24)) := by
  have hel : Tryz.prog.elem 24 = 83 := by simp [Program.elem, Tryz.underlying24]
  rw [hel]; exact Tryz.underlying24
theorem exec_from13 {o : Oper} {ρ : Operand → Value} {x lo : Operand} {g n c j : Nat} {w : World} (ho : o.op = .slice 24 x (some lo) none none) (hx : ρ x = .slice (some ⟨g, 0, none⟩) n c) (hl : ρ lo = .int .i64 (j : Int)) (hj : j ≤ n) (hc : n ≤ c) (hcj : ¬ (c = j)) :
    (execOp ρ o).run Tryz.prog w = .ok (.value (.slice (some ⟨g, j * 2, none⟩) (n - j) (c - j))) w := by
  have hrun : (Instr.sliceAt 24 (.slice (some ⟨g, 0, none⟩) n c) (some (.int .i64 (j : Int))) none none).run Tryz.prog w = .ok (.slice (some ⟨g, j * 2, none⟩) (n - j) (c - j)) w := by
    rw [run_sliceAt_slice w 24 _ _ _ _ und_ruls, run_slice_l w 24 _ n c und_ruls .i64 (j : Int) (by omega) (by omega), size_rul]
    simp [Result.andThen_ok, sliced, hcj]
    rw [Addr.add_mid, Nat.zero_add]
  unfold execOp
  simp [ho, hx, hl, hrun]
set_option maxRecDepth 20000 in
set_option maxHeartbeats 4000000 in
theorem rlInsert_shift (base g n c i vb : Nat) (x : Rul) (l : List Rul) (w : World) (hl : RowsK 2 rulC w 83 g c l) (hln : l.length = n) (hbg : base ≤ g) (hn : n ≤ 100000) (hi : i < n) (hroom : n + 1 ≤ c) (hv : Bk w vb 83 (rulA x)) (hne : vb ≠ g) (hbw : base ≤ w.heap.size) :
    Calls Tryz.prog 228 #[.slice (some ⟨g, 0, none⟩) n c, .int .i64 i, .slice (some ⟨vb, 0, none⟩) 1 1] w (InsIs w base (l.take i ++ [x] ++ l.drop i)) := by
  have hcm : c ≤ 9223372036854775807 := hl.2.2.1
  have hinfo : (Tryz.prog.info? 83).map (·.size) = some 2 := by kernel_rfl
  have HOV : Hid (∀ la ca lb cb o, (callFunc 249 #[.slice (some ⟨vb, 0, none⟩) la ca, .slice (some ⟨g, o, none⟩) lb cb]).run Tryz.prog w = .ok (.value (.bool false)) w) := Lib.hid (by
    intro la ca lb cb o
    obtain ⟨_, _, _, cur, rest, hB, hs, _⟩ := hl
    exact overlaps_no hv hB hne (by rw [hs]; omega))
  have HC1 : Hid (∃ W1 : World, RowsK 2 rulC W1 83 g c (l.take (i + 1) ++ l.drop i) ∧ Below base w W1 ∧ Bk W1 vb 83 (rulA x) ∧ ∀ ty dc sc, (Builtin.copy_ #[24, 24] ty #[.slice (some ⟨g, (i + 1) * 2, none⟩) (n - i) dc, .slice (some ⟨g, i * 2, none⟩) (n + 1 - i) sc]).run Tryz.prog w.drew = .ok (goInt ((n - i : Nat) : Int)) W1) := Lib.hid (by
    have hd : (l.drop i).length = n - i := by rw [List.length_drop, hln]
    obtain ⟨cur, hB, hsz, hR⟩ := hl.drew.put (j := i + 1) (by omega) (l.drop i) (by omega)
    rw [show l.take (i + 1) ++ l.drop i ++ l.drop (i + 1 + (l.drop i).length) = l.take (i + 1) ++ l.drop i by rw [show l.drop (i + 1 + (l.drop i).length) = [] from List.drop_eq_nil_of_le (by rw [hd]; omega), List.append_nil]] at hR
    refine ⟨_, hR, YtbogjfbfgbhdbaaGreatDoor.below_setRow (Below.refl _ _).drew hbg _, hv.drew.setRow_other hne _, fun ty dc sc => ?_⟩
    rw [← hd]
    exact run_copy_k w.drew 24 24 ty 83 g ((i + 1) * 2) _ dc ⟨g, i * 2, none⟩ _ sc cur 83 ((l.drop i).flatMap rulC) Tryz.underlying24 hinfo (by rw [hd]; exact Nat.min_eq_right (by omega)) hB (by rw [flat_len rulC_len])
      (fun j v hj => by rw [Addr.add_mid]; exact hl.drew.flat i j v hj) (by rw [flat_len rulC_len, ← Nat.add_mul, hsz]; exact Nat.mul_le_mul_right _ (by omega)) (fun v hv => by obtain ⟨u, hu, hv⟩ := List.mem_flatMap.1 hv; exact rulC_one u v hv))
  obtain ⟨W1, hR1, hb1, hv1, hrun1⟩ := HC1.out
  have HC2 : Hid (∃ W2 : World, RowsK 2 rulC W2 83 g c (l.take i ++ [x] ++ l.drop i) ∧ Below base w W2 ∧ ∀ ty dc, (Builtin.copy_ #[24, 24] ty #[.slice (some ⟨g, i * 2, none⟩) (n + 1 - i) dc, .slice (some ⟨vb, 0, none⟩) 1 1]).run Tryz.prog W1 = .ok (goInt 1) W2) := Lib.hid (by
    have hl1 : (l.take (i + 1) ++ l.drop i).length = n + 1 := by rw [List.length_append, List.length_take, List.length_drop, hln]; omega
    obtain ⟨cur, hB, hsz, hR⟩ := hR1.put (j := i) (by omega) [x] (by simp; omega)
    rw [show i + [x].length = i + 1 from rfl, ins_shift (by omega)] at hR
    refine ⟨_, hR, YtbogjfbfgbhdbaaGreatDoor.below_setRow hb1 hbg _, fun ty dc => ?_⟩
    exact run_copy_k W1 24 24 ty 83 g (i * 2) _ dc ⟨vb, 0, none⟩ 1 1 cur 83 ([x].flatMap rulC) Tryz.underlying24 hinfo (m := 1) (Nat.min_eq_left (by omega)) hB (by simp; rfl)
      (fun j v hj => by rw [Addr.add_mid]; exact hv1.range j v (by simpa [rulA] using hj)) (by rw [flat_len rulC_len, ← Nat.add_mul, hsz]; exact Nat.mul_le_mul_right _ (by simp; omega)) (fun v hv => by obtain ⟨u, hu, hv⟩ := List.mem_flatMap.1 hv; exact rulC_one u v hv))
  obtain ⟨W2, hR2, hb2, hrun2⟩ := HC2.out
  have HR2 := Lib.hid hR2
  have HB2 := Lib.hid hb2
  have HRUN1 := Lib.hid hrun1
  have HRUN2 := Lib.hid hrun2
  have HLN : Hid ((l.take i ++ [x] ++ l.drop i).length = n + 1) := Lib.hid (by simp only [List.length_append, List.length_take, List.length_drop, List.length_cons, List.length_nil, hln]; omega)
  have hz2 : ¬ ((i : Int) = (n : Int)) := by omega
  have hz3 : ¬ ((c : Int) < (n : Int) + 1) := by omega
  have hw1 : IntKind.i64.wrap ((i : Int) + 1) = (i : Int) + 1 := IntWalk.i64_in _ (by omega)
  have hb1' : (0 : Int) ≤ (i : Int) + 1 := by omega
  have hi0 : (0 : Int) ≤ (i : Int) := by omega
  have hin : (i : Int) ≤ (n : Int) := by omega
  have htn : ((i : Int) + 1).toNat = i + 1 := by omega
  have hci : ¬ (c = i) := by omega
  have hci1 : ¬ (c = i + 1) := by omega
  have hi1n : (i : Int) + 1 ≤ (n : Int) + 1 := by omega
  have hin1 : (i : Int) ≤ (n : Int) + 1 := by omega
  clear hR1 hb1 hv1 hrun1 hR2 hb2 hrun2 HC1 HC2 hl hv hln
  go_enter Tryz.func228, Tryz.ntmps228
  go_wp2_with (simp only [HOV.out])
  have hm : Tryz.prog.follows .mixedOrders = true := by kernel_rfl
  have hwq : IntKind.i64.wrap ((i : Int) + 1) = ((i + 1 : Nat) : Int) := by rw [hw1]; omega
  refine wp_region_held_drew (S := fun _ => True) hm trivial (fun hHeld => ?_)
  simp only [List.size_toArray, List.length_cons, List.length_nil, Nat.reduceAdd]
  refine wpAnyH_take (i := 0) (v := .slice (some ⟨g, 0, none⟩) (n + 1) c) rfl (by kernel_rfl) (by kernel_rfl) (by kernel_rfl) (fun _ _ _ h => h) (Or.inl ⟨by rfl, fun w0 hC => by simp [execOp, Act.eval, Act.put, go_sem]⟩) hHeld ?_
  try simp only [Act.put, jA, jB, jC, jD, jE, jF]
  refine wpAnyH_take (i := 1) (v := .int .i64 (i : Int)) rfl (by kernel_rfl) (by kernel_rfl) (by kernel_rfl) (fun _ _ _ h => h) (Or.inl ⟨by rfl, fun w0 hC => by simp [execOp, Act.eval, Act.put, go_sem]⟩) hHeld ?_
  try simp only [Act.put, jA, jB, jC, jD, jE, jF]
  refine wpAnyH_take (i := 2) (v := .int .i64 1) rfl (by kernel_rfl) (by kernel_rfl) (by kernel_rfl) (fun _ _ _ h => h) (Or.inl ⟨by rfl, fun w0 hC => by simp [execOp, Act.eval, Act.put, go_sem]⟩) hHeld ?_
  try simp only [Act.put, jA, jB, jC, jD, jE, jF]
  refine wpAnyH_take (i := 3) (v := .int .i64 ((i + 1 : Nat) : Int)) rfl (by kernel_rfl) (by kernel_rfl) (by kernel_rfl) (fun _ _ _ h => h) (Or.inl ⟨by rfl, fun w0 hC => by simp [execOp, Act.eval, Act.put, go_sem, hwq]⟩) hHeld ?_
  try simp only [Act.put, jA, jB, jC, jD, jE, jF]
  refine wpAnyH_take (i := 4) (v := .slice (some ⟨g, (i + 1) * 2, none⟩) (n + 1 - (i + 1)) (c - (i + 1))) rfl (by kernel_rfl) (by kernel_rfl) (by kernel_rfl) (fun _ _ _ h => h) (Or.inl ⟨by rfl, fun w0 hC => exec_from13 rfl rfl rfl (by omega) hroom hci1⟩) hHeld ?_
  try simp only [Act.put, jA, jB, jC, jD, jE, jF]
  refine wpAnyH_take (i := 5) (v := .slice (some ⟨g, 0, none⟩) (n + 1) c) rfl (by kernel_rfl) (by kernel_rfl) (by kernel_rfl) (fun _ _ _ h => h) (Or.inl ⟨by rfl, fun w0 hC => by simp [execOp, Act.eval, Act.put, go_sem]⟩) hHeld ?_
  try simp only [Act.put, jA, jB, jC, jD, jE, jF]
  refine wpAnyH_take (i := 6) (v := .int .i64 (i : Int)) rfl (by kernel_rfl) (by kernel_rfl) (by kernel_rfl) (fun _ _ _ h => h) (Or.inl ⟨by rfl, fun w0 hC => by simp [execOp, Act.eval, Act.put, go_sem]⟩) hHeld ?_
  try simp only [Act.put, jA, jB, jC, jD, jE, jF]
  refine wpAnyH_take (i := 7) (v := .slice (some ⟨g, i * 2, none⟩) (n + 1 - i) (c - i)) rfl (by kernel_rfl) (by kernel_rfl) (by kernel_rfl) (fun _ _ _ h => h) (Or.inl ⟨by rfl, fun w0 hC => exec_from13 rfl rfl rfl (by omega) hroom hci⟩) hHeld ?_
  try simp only [Act.put, jA, jB, jC, jD, jE, jF]
  refine wpAnyH_ready (rs := [8]) (by kernel_rfl) (by simp) (AllReadyH.cons rfl (fun K hK => ?_) AllReadyH.nil)
  rw [if_pos (by rfl)]
  refine wp_copy_ks (d := .tmp 73) (s := .tmp 76) rfl rfl rfl (by rw [show n + 1 - (i + 1) = n - i by omega]; exact HRUN1.out _ _ _) ?_
  refine hK.out _ _ trivial (fun hHeld => ?_)
  clear hK K
  try simp only [Act.put, jA, jB, jC, jD, jE, jF]
  refine wpAnyH_done (by kernel_rfl) ?_ _
  go_wp2_with ((with_reducible show wpList _ _ _ (⟨some 82, _, _, _, _, _⟩ :: _) _ _); refine hold ?_)
  refine held (wpList_plain rfl fun K hK => wp_copy_ks (d := .tmp 80) (s := .tmp 81) rfl rfl rfl (HRUN2.out _ _) (hK _ _ ?_))
  go_wp2_with fail
  go_ret
  refine ⟨some ⟨g, 0, none⟩, n + 1, c, rfl, ?_, HB2.out⟩
  have := HR2.out.own hbg
  rw [HLN.out] at this
  simpa using this
theorem run_grow13 (w : World) (g n c i : Nat) (l : List Rul) (hl : RowsK 2 rulC w 83 g c l) (hln : l.length = n) (hn : n ≤ 100000) (hi : i < n) (hroom : c < n + 1) (ty : TypeId) :
    ∃ W1 c2, (Builtin.append_ #[24, 3] ty #[.slice (some ⟨g, 0, none⟩) i c, .int .i64 ((n + 1 - i : Nat) : Int)]).run Tryz.prog w = .ok (.slice (some ⟨w.heap.size, 0, none⟩) (n + 1) c2) W1 ∧ n + 1 ≤ c2 ∧ c2 ≤ maxLen ∧
      RowsK 2 rulC W1 83 w.heap.size c2 (l.take i) ∧ Below w.heap.size w W1 := by
  obtain ⟨inf, hinf, hz, hs, hb⟩ := info_parts info_rul
  have hlt : (l.take i).length = i := by rw [List.length_take]; omega
  have hold : (Builtin.firstCells inf.size i (.slice (some ⟨g, 0, none⟩) i c)).run Tryz.prog w.drew = .ok ((l.take i).flatMap rulC).toArray w.drew := by
    rw [hs]
    refine run_firstCells_some w.drew 2 i ⟨g, 0, none⟩ i c _ (by rw [flat_len rulC_len, hlt]) (fun j v hj => ?_)
    rw [Addr.add_mid, Nat.zero_add]
    have := (hl.drew.to i).flat 0 j v (by simpa using hj)
    simpa using this
  have h := Lib.run_append_grow_zeros w 24 3 ty 83 inf _ .i64 .i64 Tryz.underlying24 Tryz.underlying3 hinf hz (some ⟨g, 0, none⟩) i c _ hold (n + 1 - i) (by omega) (by rw [hs]; omega) (by omega) (by omega) (by rw [hb]; omega) (by rw [hb]; exact growslice_fits (by omega) (by omega))
  rw [show i + (n + 1 - i) = n + 1 by omega] at h
  have hg1 := grownCap_ge w (n + 1) c 83
  have hg2 := grownCap_le_maxLen w (n + 1) c 83 (by unfold maxLen; omega)
  refine ⟨_, _, h, hg1, hg2, ⟨rulC_len, by rw [hlt]; omega, hg2, _, (Builtin.zeroCells (Value.agg #[.string ByteArray.empty, .int .i64 0]).cells (n + 1 - i)).toList ++ (Builtin.zeroCells (Value.agg #[.string ByteArray.empty, .int .i64 0]).cells (grownCap w (n + 1) c 83 - (n + 1))).toList, Bk.new w.drew _ _, ?_, ?_⟩, (Below.refl _ _).drew.alloc (Nat.le_refl _) _⟩
  · rw [Array.size_append, Array.size_append, size_zeroCells, size_zeroCells, List.size_toArray, flat_len rulC_len, hlt]
    show i * 2 + (n + 1 - i) * 2 + (grownCap w (n + 1) c 83 - (n + 1)) * 2 = _
    omega
  · simp
set_option maxRecDepth 20000 in
set_option maxHeartbeats 4000000 in
theorem rlInsert_grow (base g n c i vb : Nat) (x : Rul) (l : List Rul) (w : World) (hl : RowsK 2 rulC w 83 g c l) (hln : l.length = n) (hn : n ≤ 100000) (hi : i < n) (hnc : n ≤ c) (hroom : c < n + 1) (hv : Bk w vb 83 (rulA x)) (hbw : base ≤ w.heap.size) :
    Calls Tryz.prog 228 #[.slice (some ⟨g, 0, none⟩) n c, .int .i64 i, .slice (some ⟨vb, 0, none⟩) 1 1] w (InsIs w base (l.take i ++ [x] ++ l.drop i)) := by
  have hinfo : (Tryz.prog.info? 83).map (·.size) = some 2 := by kernel_rfl
  obtain ⟨W1, c2, hrun0, hc2, hcm2, hR1, hb1⟩ := run_grow13 w g n c i l hl hln hn hi hroom 24
  have hlt : (l.take i).length = i := by rw [List.length_take]; omega
  obtain ⟨h, hh⟩ : ∃ h, h = w.heap.size := ⟨_, rfl⟩
  rw [← hh] at hrun0 hR1
  have hvh : vb ≠ h := by have := hv.lt; omega
  have hgh : g ≠ h := by have := hl.lt; omega
  have hbh : base ≤ h := by omega
  have hd : (l.drop i).length = n - i := by rw [List.length_drop, hln]
  have hg1 : RowsK 2 rulC W1 83 g c l := hl.below hb1
  have hv1 : Bk W1 vb 83 (rulA x) := hv.below hb1 hv.lt
  have hbb1 : Below base w W1 := hb1.mono hbw
  have HC2 : Hid (∃ W2 : World, RowsK 2 rulC W2 83 h c2 (l.take i ++ [x]) ∧ RowsK 2 rulC W2 83 g c l ∧ Below base w W2 ∧ ∀ ty dc, (Builtin.copy_ #[24, 24] ty #[.slice (some ⟨h, i * 2, none⟩) (n + 1 - i) dc, .slice (some ⟨vb, 0, none⟩) 1 1]).run Tryz.prog W1 = .ok (goInt 1) W2) := Lib.hid (by
    obtain ⟨cur, hB, hsz, hR⟩ := hR1.put (j := i) (by omega) [x] (by simp; omega)
    rw [show (l.take i).take i ++ [x] ++ (l.take i).drop (i + [x].length) = l.take i ++ [x] by rw [List.take_take, Nat.min_self, List.drop_eq_nil_of_le (by rw [hlt]; simp), List.append_nil]] at hR
    refine ⟨_, hR, ?_, YtbogjfbfgbhdbaaGreatDoor.below_setRow hbb1 hbh _, fun ty dc => ?_⟩
    · obtain ⟨a1, a2, a3, cur', rest, a4, a5⟩ := hg1
      exact ⟨a1, a2, a3, cur', rest, a4.setRow_other hgh _, a5⟩
    exact run_copy_k W1 24 24 ty 83 h (i * 2) _ dc ⟨vb, 0, none⟩ 1 1 cur 83 ([x].flatMap rulC) Tryz.underlying24 hinfo (m := 1) (Nat.min_eq_left (by omega)) hB (by simp; rfl)
      (fun j v hj => by rw [Addr.add_mid]; exact hv1.range j v (by simpa [rulA] using hj)) (by rw [flat_len rulC_len, ← Nat.add_mul, hsz]; exact Nat.mul_le_mul_right _ (by simp; omega)) (fun v hv => by obtain ⟨u, hu, hv⟩ := List.mem_flatMap.1 hv; exact rulC_one u v hv))
  obtain ⟨W2, hR2, hg2, hb2, hrun1⟩ := HC2.out
  have HC3 : Hid (∃ W3 : World, RowsK 2 rulC W3 83 h c2 (l.take i ++ [x] ++ l.drop i) ∧ Below base w W3 ∧ ∀ ty dc sc, (Builtin.copy_ #[24, 24] ty #[.slice (some ⟨h, (i + 1) * 2, none⟩) (n - i) dc, .slice (some ⟨g, i * 2, none⟩) (n - i) sc]).run Tryz.prog W2.drew = .ok (goInt ((n - i : Nat) : Int)) W3) := Lib.hid (by
    have hl2 : (l.take i ++ [x]).length = i + 1 := by rw [List.length_append, hlt]; rfl
    obtain ⟨cur, hB, hsz, hR⟩ := hR2.drew.put (j := i + 1) (by omega) (l.drop i) (by omega)
    rw [show (l.take i ++ [x]).take (i + 1) ++ l.drop i ++ (l.take i ++ [x]).drop (i + 1 + (l.drop i).length) = l.take i ++ [x] ++ l.drop i by
      rw [List.take_of_length_le (by omega), show (l.take i ++ [x]).drop (i + 1 + (l.drop i).length) = [] from List.drop_eq_nil_of_le (by omega), List.append_nil]] at hR
    refine ⟨_, hR, YtbogjfbfgbhdbaaGreatDoor.below_setRow hb2.drew hbh _, fun ty dc sc => ?_⟩
    rw [← hd]
    exact run_copy_k W2.drew 24 24 ty 83 h ((i + 1) * 2) _ dc ⟨g, i * 2, none⟩ _ sc cur 83 ((l.drop i).flatMap rulC) Tryz.underlying24 hinfo (Nat.min_self _) hB (by rw [flat_len rulC_len])
      (fun j v hj => by rw [Addr.add_mid]; exact hg2.drew.flat i j v hj) (by rw [flat_len rulC_len, ← Nat.add_mul, hsz]; exact Nat.mul_le_mul_right _ (by omega)) (fun v hv => by obtain ⟨u, hu, hv⟩ := List.mem_flatMap.1 hv; exact rulC_one u v hv))
  obtain ⟨W3, hR3, hb3, hrun2⟩ := HC3.out
  have HR3 := Lib.hid hR3
  have HB3 := Lib.hid hb3
  have HRUN0 := Lib.hid hrun0
  have HRUN1 := Lib.hid hrun1
  have HRUN2 := Lib.hid hrun2
  have HLN : Hid ((l.take i ++ [x] ++ l.drop i).length = n + 1) := Lib.hid (by simp only [List.length_append, List.length_take, List.length_drop, List.length_cons, List.length_nil, hln]; omega)
  have hcm : c ≤ 9223372036854775807 := hl.2.2.1
  have hz2 : ¬ ((i : Int) = (n : Int)) := by omega
  have hz3 : (c : Int) < (n : Int) + 1 := by omega
  have hw1 : IntKind.i64.wrap ((i : Int) + 1) = (i : Int) + 1 := IntWalk.i64_in _ (by omega)
  have hb1' : (0 : Int) ≤ (i : Int) + 1 := by omega
  have hi0 : (0 : Int) ≤ (i : Int) := by omega
  have hin : (i : Int) ≤ (n : Int) := by omega
  have htn : ((i : Int) + 1).toNat = i + 1 := by omega
  have hci : ¬ (c = i) := by omega
  have hc2i : ¬ (c2 = i) := by omega
  have hc2i1 : ¬ (c2 = i + 1) := by omega
  have hkk : (n : Int) + 1 - (i : Int) = ((n + 1 - i : Nat) : Int) := by omega
  have hcm3 : c2 ≤ 9223372036854775807 := hcm2
  have hic : (i : Int) ≤ (c : Int) := by omega
  clear hR1 hb1 hv1 hrun1 hR2 hb2 hrun2 HC2 HC3 hl hv hln hh hrun0 hg1 hg2 hR3 hb3 hbb1 hd hlt
  go_enter Tryz.func228, Tryz.ntmps228
  go_wp2_with ((with_reducible show wpList _ _ _ (⟨some 40, _, _, _, _, _⟩ :: _) _ _); refine hold ?_)
  refine held (wpList_plain rfl fun K hK => wp_append_ks2 (s := .tmp 34) (x := .tmp 39) rfl rfl rfl HRUN0.out (hK _ _ ?_))
  go_wp2_with ((with_reducible show wpList _ _ _ (⟨some 45, _, _, _, _, _⟩ :: _) _ _); refine hold ?_)
  refine held (wpList_plain rfl fun K hK => wp_copy_ks (d := .tmp 43) (s := .tmp 44) rfl rfl rfl (HRUN1.out _ _) (hK _ _ ?_))
  go_wp2_with fail
  have hm : Tryz.prog.follows .mixedOrders = true := by kernel_rfl
  have hwq : IntKind.i64.wrap ((i : Int) + 1) = ((i + 1 : Nat) : Int) := by rw [hw1]; omega
  refine wp_region_held_drew (S := fun _ => True) hm trivial (fun hHeld => ?_)
  simp only [List.size_toArray, List.length_cons, List.length_nil, Nat.reduceAdd]
  refine wpAnyH_take (i := 0) (v := .slice (some ⟨h, 0, none⟩) (n + 1) c2) rfl (by kernel_rfl) (by kernel_rfl) (by kernel_rfl) (fun _ _ _ h => h) (Or.inl ⟨by rfl, fun w0 hC => by simp [execOp, Act.eval, Act.put, go_sem]⟩) hHeld ?_
  try simp only [Act.put, jA, jB, jC, jD, jE, jF]
  refine wpAnyH_take (i := 1) (v := .int .i64 (i : Int)) rfl (by kernel_rfl) (by kernel_rfl) (by kernel_rfl) (fun _ _ _ h => h) (Or.inl ⟨by rfl, fun w0 hC => by simp [execOp, Act.eval, Act.put, go_sem]⟩) hHeld ?_
  try simp only [Act.put, jA, jB, jC, jD, jE, jF]
  refine wpAnyH_take (i := 2) (v := .int .i64 1) rfl (by kernel_rfl) (by kernel_rfl) (by kernel_rfl) (fun _ _ _ h => h) (Or.inl ⟨by rfl, fun w0 hC => by simp [execOp, Act.eval, Act.put, go_sem]⟩) hHeld ?_
  try simp only [Act.put, jA, jB, jC, jD, jE, jF]
  refine wpAnyH_take (i := 3) (v := .int .i64 ((i + 1 : Nat) : Int)) rfl (by kernel_rfl) (by kernel_rfl) (by kernel_rfl) (fun _ _ _ h => h) (Or.inl ⟨by rfl, fun w0 hC => by simp [execOp, Act.eval, Act.put, go_sem, hwq]⟩) hHeld ?_
  try simp only [Act.put, jA, jB, jC, jD, jE, jF]
  refine wpAnyH_take (i := 4) (v := .slice (some ⟨h, (i + 1) * 2, none⟩) (n + 1 - (i + 1)) (c2 - (i + 1))) rfl (by kernel_rfl) (by kernel_rfl) (by kernel_rfl) (fun _ _ _ h => h) (Or.inl ⟨by rfl, fun w0 hC => exec_from13 rfl rfl rfl (by omega) hc2 hc2i1⟩) hHeld ?_
  try simp only [Act.put, jA, jB, jC, jD, jE, jF]
  refine wpAnyH_take (i := 5) (v := .slice (some ⟨g, 0, none⟩) n c) rfl (by kernel_rfl) (by kernel_rfl) (by kernel_rfl) (fun _ _ _ h => h) (Or.inl ⟨by rfl, fun w0 hC => by simp [execOp, Act.eval, Act.put, go_sem]⟩) hHeld ?_
  try simp only [Act.put, jA, jB, jC, jD, jE, jF]
  refine wpAnyH_take (i := 6) (v := .int .i64 (i : Int)) rfl (by kernel_rfl) (by kernel_rfl) (by kernel_rfl) (fun _ _ _ h => h) (Or.inl ⟨by rfl, fun w0 hC => by simp [execOp, Act.eval, Act.put, go_sem]⟩) hHeld ?_
  try simp only [Act.put, jA, jB, jC, jD, jE, jF]
  refine wpAnyH_take (i := 7) (v := .slice (some ⟨g, i * 2, none⟩) (n - i) (c - i)) rfl (by kernel_rfl) (by kernel_rfl) (by kernel_rfl) (fun _ _ _ h => h) (Or.inl ⟨by rfl, fun w0 hC => exec_from13 rfl rfl rfl (by omega) hnc hci⟩) hHeld ?_
  try simp only [Act.put, jA, jB, jC, jD, jE, jF]
  refine wpAnyH_ready (rs := [8]) (by kernel_rfl) (by simp) (AllReadyH.cons rfl (fun K hK => ?_) AllReadyH.nil)
  rw [if_pos (by rfl)]
  refine wp_copy_ks (d := .tmp 50) (s := .tmp 53) rfl rfl rfl (by rw [show n + 1 - (i + 1) = n - i by omega]; exact HRUN2.out _ _ _) ?_
  refine hK.out _ _ trivial (fun hHeld => ?_)
  clear hK K
  try simp only [Act.put, jA, jB, jC, jD, jE, jF]
  refine wpAnyH_done (by kernel_rfl) ?_ _
  go_wp2_with fail
  go_ret
  refine ⟨some ⟨h, 0, none⟩, n + 1, c2, rfl, ?_, HB3.out⟩
  have := HR3.out.own hbh
  rw [HLN.out] at this
  simpa using this
theorem rlInsert_any (base : Nat) (A : Option Addr) (n c i vb : Nat) (x : Rul) (l : List Rul) (w : World) (hl : OwnK 2 rulC w base 83 A n c l) (hn : n ≤ 100000) (hi : i ≤ n) (hv : Bk w vb 83 (rulA x)) (hne : ∀ a, A = some a → vb ≠ a.block) (hbw : base ≤ w.heap.size) :
    Calls Tryz.prog 228 #[.slice A n c, .int .i64 i, .slice (some ⟨vb, 0, none⟩) 1 1] w (InsIs w base (l.take i ++ [x] ++ l.drop i)) := by
  rcases Nat.lt_or_ge i n with h | h
  · obtain ⟨g, rfl, hbg, hR⟩ := hl.rows (by omega)
    rcases Nat.lt_or_ge n c with h2 | h2
    · exact rlInsert_shift base g n c i vb x l w hR hl.len hbg hn h h2 hv (hne _ rfl) hbw
    · exact rlInsert_grow base g n c i vb x l w hR hl.len hn h hl.cap.1 (by omega) hv hbw
  · obtain rfl : i = n := by omega
    have := rlInsert_end base A i c vb x l w hl hn hv hbw
    have hlen := hl.len
    rw [List.take_of_length_le (by omega), List.drop_eq_nil_of_le (by omega), List.append_nil]
    exact this
end Go.Proofs.YtbogjfbfgbhdbaaGreatDoor
namespace Go.Proofs.YtbogjfbfgbhdbaaGreatDoor
open List renaming setIfInBounds_toArray → jA, set_cons_zero → jB, set_cons_succ → jC, getElem_toArray → jD, getElem_cons_zero → jE, getElem_cons_succ → jF
set_option linter.unusedVariables false
set_option linter.unusedSimpArgs false
open Go.Shelf
def rS106_ren : Go.Shelf.Ren := ⟨fun | 106 => 214 | 213 => 242 | 265 => 268 | n => n, fun | 9 => 9 | 3 => 3 | n => n, fun | n => n⟩
theorem rS106 : Go.Proofs.Lays.n106 Tryz.prog rS106_ren := {
  mixed := by kernel_rfl
  f106 := Tryz.func214.trans (congrArg some (by kernel_rfl))
  f213 := Tryz.func242.trans (congrArg some (by kernel_rfl))
  f265 := Tryz.func268.trans (congrArg some (by kernel_rfl))
  t3 := Tryz.underlying3
  a3 := Tryz.isAgg3
  z3 := Tryz.sizeOf3
  v3 := Tryz.zeroValue3
  t9 := Tryz.underlying9
  a9 := Tryz.isAgg9
  z9 := Tryz.sizeOf9
  v9 := Tryz.zeroValue9 }
end Go.Proofs.YtbogjfbfgbhdbaaGreatDoor
