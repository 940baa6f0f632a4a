/-
 A part of the proof: see the last text.
-/
import Derived.Test.YtbogjfbfgbhdbaaGreatDoorSRuleH
import Derived.Test.YtbogjfbfgbhdbaaGreatDoorSStO
import Derived.Lib.SlBytesConst
import Derived.Lib.SmallJoins
import Derived.Test.YtbogjfbfgbhdbaaGreatDoorSBoxE2
import Derived.Test.YtbogjfbfgbhdbaaGreatDoorSStKSt
import Derived.IntWalk
namespace Go.Proofs.YtbogjfbfgbhdbaaGreatDoor
set_option linter.unusedVariables false
set_option linter.unusedSimpArgs false
def evA1 : Ev := ⟨6, 5, inboxS, noText, [], [], 0, 0, 0, 0, [120]⟩
def evA2 : Ev := ⟨11, 0, inboxS, noText, [], [], 0, 0, 0, 60, []⟩
def evA3 : Ev := ⟨9, 0, inboxS, noText, [1], [], 0, 0, 0, 0, []⟩
def evA4 : Ev := ⟨14, 64, noText, noText, [1], [], 0, 0, 0, 0, []⟩
def evA5 : Ev := ⟨10, 0, noText, noText, [], [], 0, 0, 0, 1, []⟩
def sA1 : Sta := ⟨5, [⟨inboxS, 1, 2, [⟨1, 0, 0, [120]⟩]⟩], [], [], [], [], 2, 1, 1⟩
def sA2 : Sta := ⟨5, [⟨inboxS, 1, 2, [⟨1, 0, 0, [120]⟩]⟩], [], [(inboxS, 60)], [], [], 2, 1, 1⟩
def sA3 : Sta := ⟨5, [⟨inboxS, 1, 2, []⟩], [], [(inboxS, 60)], [⟨1, inboxS, 5, ⟨1, 0, 0, [120]⟩⟩], [], 2, 2, 1⟩
def sA5 : Sta := ⟨5, [⟨inboxS, 1, 3, [⟨2, 0, 0, [120]⟩]⟩], [], [(inboxS, 60)], [], [], 2, 2, 1⟩
theorem app_by {s t : Sta} {e : Ev} (h1 : OkSta s) (h2 : rightE e = true) (h3 : doS (tick s e.at_) e = (t, 0)) : appE s e = 0 ∧ appS s e = t := by
 have h4 : appE s e = 0 := by unfold appE; rw [if_pos ⟨h1, h2⟩, h3]
 refine ⟨h4, ?_⟩
 unfold appS
 rw [if_pos h4, h3]
theorem rA1 : rightE evA1 = true := by decide
theorem rA2 : rightE evA2 = true := by decide
theorem rA3 : rightE evA3 = true := by decide
theorem rA4 : rightE evA4 = true := by decide
theorem rA5 : rightE evA5 = true := by decide
theorem bxA {n : Int} {l : List Mg} {s : Sta} (h : OkSta s) (hb : s.boxes = [⟨inboxS, 1, n, l⟩]) : OkBx ⟨inboxS, 1, n, l⟩ := (h.boxes.each _ (by rw [hb]; exact List.mem_singleton_self _)).1
theorem alA1 : appE staNew evA1 = 0 ∧ appS staNew evA1 = sA1 := by
 refine app_by new_right rA1 ?_
 rw [do_6 rfl]
 have hb : boxAt (tick staNew 5).boxes inboxS = ⟨inboxS, 1, 1, []⟩ := by simp [tick, staNew, boxAt, boxN]
 have hn : boxN (tick staNew 5).boxes inboxS = 1 := by simp [tick, staNew, boxN]
 have he : addE ⟨inboxS, 1, 1, []⟩ ⟨0, 0, 0, [120]⟩ = 0 := addE_ok (bxA new_right rfl) (by decide) (by simp) (by simp)
 have hA := (addB_ok he).1
 show appendS (tick staNew 5) inboxS ⟨0, 0, 0, [120]⟩ = (sA1, 0)
 unfold appendS
 rw [if_neg (by rw [hn]; decide), hb, he, hA]
 unfold setAt
 rw [hn]
 rfl
theorem okA1 : OkSta sA1 := by rw [← alA1.2]; exact app_keep new_right
theorem alA2 : appE sA1 evA2 = 0 ∧ appS sA1 evA2 = sA2 := by
 refine app_by okA1 rA2 ?_
 rw [do_11 rfl]
 rfl
theorem okA2 : OkSta sA2 := by rw [← alA2.2]; exact app_keep okA1
theorem alA3 : appE sA2 evA3 = 0 ∧ appS sA2 evA3 = sA3 := by
 refine app_by okA2 rA3 ?_
 rw [do_9 rfl]
 have hb : boxAt (tick sA2 0).boxes inboxS = ⟨inboxS, 1, 2, [⟨1, 0, 0, [120]⟩]⟩ := by simp [tick, sA2, boxAt, boxN]
 have hn : boxN (tick sA2 0).boxes inboxS = 1 := by simp [tick, sA2, boxN]
 have he : tkE ⟨inboxS, 1, 2, [⟨1, 0, 0, [120]⟩]⟩ [1] = 0 := tkE_ok (bxA okA2 rfl) (by decide)
 show expungeS (tick sA2 0) evA3 = (sA3, 0)
 unfold expungeS
 show (if boxN (tick sA2 0).boxes inboxS = 0 then _ else _) = _
 rw [if_neg (by rw [hn]; decide)]
 show (if tkE (boxAt (tick sA2 0).boxes inboxS) [1] ≠ 0 then _ else _) = _
 rw [hb, he, if_neg (by decide)]
 have hm : tkM ⟨inboxS, 1, 2, [⟨1, 0, 0, [120]⟩]⟩ [1] = [⟨1, 0, 0, [120]⟩] := by unfold tkM; rw [if_pos he]; rfl
 have hB : tkB ⟨inboxS, 1, 2, [⟨1, 0, 0, [120]⟩]⟩ [1] = ⟨inboxS, 1, 2, []⟩ := by unfold tkB; rw [if_pos he]; rfl
 show (if buryE (tick sA2 0) (tkM (boxAt (tick sA2 0).boxes inboxS) [1]).length ≠ 0 then _ else (buryS (setAt (tick sA2 0) inboxS (tkB (boxAt (tick sA2 0).boxes inboxS) [1])) inboxS (tkM (boxAt (tick sA2 0).boxes inboxS) [1]), (0 : Int))) = _
 rw [hb, hm, hB, if_neg (by decide)]
 unfold setAt
 rw [hn]
 rfl
theorem okA3 : OkSta sA3 := by rw [← alA3.2]; exact app_keep okA2
theorem alA4 : appE sA3 evA4 = 12 ∧ appS sA3 evA4 = sA3 := by
 have h : doS (tick sA3 64) evA4 = ((tick sA3 64), 12) := by
  rw [do_14 rfl]
  show purgeS (tick sA3 64) [1] = _
  unfold purgeS
  rw [if_neg (by simp [tick, sA3]), if_pos]
  intro h
  have := h ⟨1, inboxS, 5, ⟨1, 0, 0, [120]⟩⟩ (by simp [tick, sA3]) (by simp)
  revert this
  decide
 have h4 : appE sA3 evA4 = 12 := by unfold appE; rw [if_pos ⟨okA3, rA4⟩]; show (doS (tick sA3 64) evA4).2 = 12; rw [h]
 refine ⟨h4, ?_⟩
 unfold appS
 rw [if_neg (by rw [h4]; decide)]
theorem alA5 : appE sA3 evA5 = 0 ∧ appS sA3 evA5 = sA5 := by
 refine app_by okA3 rA5 ?_
 rw [do_10 rfl]
 have hb : boxAt (tick sA3 0).boxes inboxS = ⟨inboxS, 1, 2, []⟩ := by simp [tick, sA3, boxAt, boxN]
 have hn : boxN (tick sA3 0).boxes inboxS = 1 := by simp [tick, sA3, boxN]
 have he : addE ⟨inboxS, 1, 2, []⟩ ⟨1, 0, 0, [120]⟩ = 0 := addE_ok (bxA okA3 rfl) (by decide) (by simp) (by simp)
 have hA := (addB_ok he).1
 have ht : tombO (tick sA3 0) 1 = some ⟨1, inboxS, 5, ⟨1, 0, 0, [120]⟩⟩ := rfl
 show restoreS (tick sA3 0) 1 = _
 unfold restoreS
 rw [ht]
 show (if boxN (tick sA3 0).boxes inboxS = 0 then _ else _) = _
 rw [if_neg (by rw [hn]; decide)]
 show ({ setAt (tick sA3 0) inboxS (addB (boxAt (tick sA3 0).boxes inboxS) ⟨1, 0, 0, [120]⟩) with tombs := (tick sA3 0).tombs.filter fun x => decide (x.id ≠ 1) }, addE (boxAt (tick sA3 0).boxes inboxS) ⟨1, 0, 0, [120]⟩) = _
 rw [hb, he, hA]
 unfold setAt
 rw [hn]
 rfl
theorem okA5 : OkSta sA5 := by rw [← alA5.2]; exact app_keep okA3
end Go.Proofs.YtbogjfbfgbhdbaaGreatDoor
namespace Go.Proofs.YtbogjfbfgbhdbaaGreatDoor
set_option linter.unusedVariables false
set_option linter.unusedSimpArgs false
open Go.RowKit
set_option linter.unusedVariables false
set_option linter.unusedSimpArgs false
structure AlAt (w0 : World) (b : Nat) (s : Sta) (p : StaAt) (W : World) : Prop where
 st : Bk W b 28 (staA s p)
 own : StaO W w0.heap.size s p
 hb : Below w0.heap.size w0 W
 lo : w0.heap.size ≤ b
theorem AlAt.lt {w0 : World} {b : Nat} {s : Sta} {p : StaAt} {W : World} (h : AlAt w0 b s p W) : b < W.heap.size := h.st.lt
theorem AlAt.below {w0 : World} {b : Nat} {s : Sta} {p : StaAt} {W W' : World} (h : AlAt w0 b s p W) (hb : Below W.heap.size W W') : AlAt w0 b s p W' :=
 ⟨h.st.below hb h.lt, h.own.below hb, h.hb.trans (hb.mono h.hb.size), h.lo⟩
theorem AlAt.next {w0 : World} {b : Nat} {s s' : Sta} {p p' : StaAt} {W W' : World} (h : AlAt w0 b s p W) (hb : Below W.heap.size W W') (ho : StaO W' W.heap.size s' p') :
 AlAt w0 b s' p' (((((((((W'.setCell ⟨b, 0, none⟩ (.int .i64 s'.clock)).setCell ⟨b, 1, none⟩ (.slice p'.bx.A p'.bx.n p'.bx.c)).setCell ⟨b, 2, none⟩ (.slice p'.sb.A p'.sb.n p'.sb.c)).setCell ⟨b, 3, none⟩ (.slice p'.ru.A p'.ru.n p'.ru.c)).setCell ⟨b, 4, none⟩ (.slice p'.tb.A p'.tb.n p'.tb.c)).setCell ⟨b, 5, none⟩ (.slice p'.ho.A p'.ho.n p'.ho.c)).setCell ⟨b, 6, none⟩ (.int .i64 s'.nv)).setCell ⟨b, 7, none⟩ (.int .i64 s'.nt)).setCell ⟨b, 8, none⟩ (.int .i64 s'.nh)) := by
 have h1 : Bk W' b 28 (staA s p) := h.st.below hb h.lt
 have hz : w0.heap.size ≤ W.heap.size := h.hb.size
 refine ⟨Bk.put9 h1 _ _ _ _ _ _ _ _ _, ?_, ?_, h.lo⟩
 ·refine (ho.from_ hz).chg (Chg.of h1 (grown_put9 _ _ _ _ _ _ _ _ _ _ _) ?_) staT_not
  exact (Below.refl _ _).grown (grown_put9 _ _ _ _ _ _ _ _ _ _ _) (Nat.le_trans hz hb.size) (fun q hq => by injection hq with hq; have := h.lo; omega)
 ·exact below_of' (h.hb.trans (hb.mono hz)) (grown_put9 _ _ _ _ _ _ _ _ _ _ _) h.lo (Nat.le_refl _)
theorem bgA {s : Sta} (h1 : ∀ b ∈ s.boxes, b.name = inboxS) (h2 : s.subs = []) (h3 : ∀ r ∈ s.rules, r.1 = inboxS) (h4 : ∀ t ∈ s.tombs, t.box = inboxS) (h5 : s.holds = []) : BigS s :=
 ⟨fun b hb => (by rw [h1 b hb]; decide), fun b hb => (by rw [h2] at hb; cases hb), fun b hb => (by rw [h3 b hb]; decide), fun b hb => (by rw [h4 b hb]; decide), fun b hb => (by rw [h5] at hb; cases hb)⟩
theorem bg0 : BigS staNew := bgA (by decide) rfl (by decide) (by decide) rfl
theorem bg1 : BigS sA1 := bgA (by decide) rfl (by decide) (by decide) rfl
theorem bg2 : BigS sA2 := bgA (by decide) rfl (by decide) (by decide) rfl
theorem bg3 : BigS sA3 := bgA (by decide) rfl (by decide) (by decide) rfl
theorem wr6 {h : Eh} (hk : h.e.kind = 6) : Writes h := fun base bs s p w hs hok hi => swwrite_6 base bs s p h w hs hok hi hk
theorem wr9 {h : Eh} (hk : h.e.kind = 9) : Writes h := fun base bs s p w hs hok hi => swwrite_9 base bs s p h w hs hok hi hk
theorem wr10 {h : Eh} (hk : h.e.kind = 10) : Writes h := fun base bs s p w hs hok hi => swwrite_10 base bs s p h w hs hok hi hk
theorem wr11 {h : Eh} (hk : h.e.kind = 11) : Writes h := fun base bs s p w hs hok hi => swwrite_11 base bs s p h w hs hok hi hk
theorem wr14 {h : Eh} (hk : h.e.kind = 14) : Writes h := fun base bs s p w hs hok hi => swwrite_14 base bs s p h w hs hok hi hk
theorem AppIs.to {s t : Sta} {e0 : Ev} {z : Int} {w w' : World} {e : Ending} (h : AppIs s e0 w e w') (h1 : appE s e0 = z ∧ appS s e0 = t) :
 ∃ p, e = .returned (.tuple #[staV t p, .int .i64 z]) ∧ StaO w' w.heap.size t p ∧ Below w.heap.size w w' := by
 obtain ⟨p, h2, h3, h4⟩ := h
 rw [h1.1, h1.2] at h2
 rw [h1.2] at h3
 exact ⟨p, h2, h3, h4⟩
theorem bytes_newS (w : World) (c : Nat) (hc : c < 256) (fr : Nat × Nat) : Bytes (w.alloc (.cells #[.int .u8 (c : Int)] 5 fr)) (w.alloc (.cells #[.int .u8 (c : Int)] 5 fr)).heap.size (some ⟨w.heap.size, 0, none⟩) 1 [c] := by
 refine ⟨rfl, by simpa using hc, fun _ => ⟨w.heap.size, 0, rfl, by simp, fun i hi => ?_⟩⟩
 obtain rfl : i = 0 := by omega
 exact cell_of_row (w.alloc (.cells #[.int .u8 (c : Int)] 5 fr)) w.heap.size 0 _ _ fr (heap_alloc_new w _)
theorem colA (w : World) : Col ints (w.alloc (.cells #[.int .i64 1] 3)) (w.alloc (.cells #[.int .i64 1] 3)).heap.size (some ⟨w.heap.size, 0, none⟩) 1 [1] := by
 have hk : Bk (w.alloc (.cells #[.int .i64 1] 3)) w.heap.size 3 #[.int .i64 1] := Bk.new _ _ _
 refine ⟨rfl, fun _ => ⟨w.heap.size, 0, rfl, hk.lt, fun i a ha => ?_⟩⟩
 cases i with
 | zero =>
   have e : (1 : Int) = a := by simpa using ha
   subst e
   exact hk.cell 0
 | succ i => simp at ha
set_option maxRecDepth 20000 in
set_option maxHeartbeats 16000000 in
theorem alive14_any (w : World) (hK : Kinds w) : Calls Tryz.prog 10 #[] w (SaysB true w) := by
 have HK := Lib.hid hK
 clear hK
 go_enter Tryz.func10, Tryz.ntmps10
 go_wp2_with fail
 refine (stNew_any w).mono ?_
 rintro e w1 ⟨p0, rfl, ho, hb⟩
 have HO0 := Lib.hid ho
 have HB0 := Lib.hid hb
 obtain ⟨⟨bA0', bn0', bc0'⟩, ⟨sA0', sn0', sc0'⟩, ⟨rA0', rn0', rc0'⟩, ⟨tA0', tn0', tc0'⟩, ⟨gA0', gn0', gc0'⟩⟩ := p0
 clear ho hb
 unfold staV
 unfold staNew
 simp only
 have kc := Go.Joins.run_convert_bytes_const_at (P := Tryz.prog) w1 31 5 #[.int .u8 120] 1 1 w1.heap.size rfl Tryz.underlying31 Tryz.underlying5
 go_wp2_with fail
 clear kc
 have hal : Below w1.heap.size w1 (w1.alloc (.cells #[.int .u8 120] 5 (1, 2))) := (Below.refl _ _).alloc (Nat.le_refl _) _
 have hby := bytes_newS w1 120 (by omega) (1, 2)
 have HO1 := Lib.hid (HO0.out.below hal)
 have HB1 := Lib.hid (HB0.out.trans (hal.mono HB0.out.size))
 have HBY := Lib.hid hby
 clear hal hby HO0 HB0
 generalize w1.alloc (.cells #[.int .u8 120] 5 (1, 2)) = W1 at *
 refine (stApply_any staNew ⟨⟨bA0', bn0', bc0'⟩, ⟨sA0', sn0', sc0'⟩, ⟨rA0', rn0', rc0'⟩, ⟨tA0', tn0', tc0'⟩, ⟨gA0', gn0', gc0'⟩⟩ ⟨evA1, none, 0, 0, none, 0, 0, some ⟨w1.heap.size, 0, none⟩, 1, 1⟩ W1 (HO1.out.in_ new_right.small HB1.out.size) new_right.small bg0 ⟨Col.nil, ColK.nil, HBY.out, Nat.le_of_ble_eq_true rfl, Nat.le_of_ble_eq_true rfl, Nat.le_of_ble_eq_true rfl, Nat.le_of_ble_eq_true rfl, Nat.le_of_ble_eq_true rfl⟩ (HK.out.below HB1.out) (wr6 rfl)).mono ?_
 rintro e w2 hap
 obtain ⟨p1, rfl, ho, hb⟩ := hap.to alA1
 clear hap
 have HB2 := Lib.hid (HB1.out.trans (hb.mono HB1.out.size))
 have HO2 := Lib.hid (ho.from_ (base' := w.heap.size) HB1.out.size)
 clear ho hb HO1 HB1 HBY
 obtain ⟨⟨bA1', bn1', bc1'⟩, ⟨sA1', sn1', sc1'⟩, ⟨rA1', rn1', rc1'⟩, ⟨tA1', tn1', tc1'⟩, ⟨gA1', gn1', gc1'⟩⟩ := p1
 unfold staV
 unfold sA1
 simp only
 go_wp2_with ((with_reducible show wpList _ _ _ (⟨some 19, _, _, _, _, _⟩ :: _) _ _); refine hold ?_)
 have HA : Hid (AlAt w w2.heap.size sA1 ⟨⟨bA1', bn1', bc1'⟩, ⟨sA1', sn1', sc1'⟩, ⟨rA1', rn1', rc1'⟩, ⟨tA1', tn1', tc1'⟩, ⟨gA1', gn1', gc1'⟩⟩ (w2.alloc (.cells #[.int .i64 5, .slice bA1' bn1' bc1', .slice sA1' sn1' sc1', .slice rA1' rn1' rc1', .slice tA1' tn1' tc1', .slice gA1' gn1' gc1', .int .i64 2, .int .i64 1, .int .i64 1] 28))) := Lib.hid ⟨Bk.new _ _ _, HO2.out.below ((Below.refl _ _).alloc (Nat.le_refl _) _), HB2.out.alloc HB2.out.size _, HB2.out.size⟩
 clear HB2 HO2
 generalize w2.alloc (.cells #[.int .i64 5, .slice bA1' bn1' bc1', .slice sA1' sn1' sc1', .slice rA1' rn1' rc1', .slice tA1' tn1' tc1', .slice gA1' gn1' gc1', .int .i64 2, .int .i64 1, .int .i64 1] 28) = W2 at *
 obtain ⟨b1, hb1⟩ : ∃ b1, w2.heap.size = b1 := ⟨_, rfl⟩
 simp only [hb1] at HA ⊢
 clear hb1
 refine held (wpList_load_mid rfl 28 (.tmp 1) rfl b1 0 rfl _ _ HA.out.st.range Tryz.underlying28 rfl (by kernel_rfl) ?_)
 rw [show (staA sA1 ⟨⟨bA1', bn1', bc1'⟩, ⟨sA1', sn1', sc1'⟩, ⟨rA1', rn1', rc1'⟩, ⟨tA1', tn1', tc1'⟩, ⟨gA1', gn1', gc1'⟩⟩).toList.toArray = #[.int .i64 5, .slice bA1' bn1' bc1', .slice sA1' sn1' sc1', .slice rA1' rn1' rc1', .slice tA1' tn1' tc1', .slice gA1' gn1' gc1', .int .i64 2, .int .i64 1, .int .i64 1] from rfl]
 go_wp2_with fail
 refine (stApply_any sA1 ⟨⟨bA1', bn1', bc1'⟩, ⟨sA1', sn1', sc1'⟩, ⟨rA1', rn1', rc1'⟩, ⟨tA1', tn1', tc1'⟩, ⟨gA1', gn1', gc1'⟩⟩ ⟨evA2, none, 0, 0, none, 0, 0, none, 0, 0⟩ W2 (HA.out.own.in_ okA1.small HA.out.hb.size) okA1.small bg1 ⟨Col.nil, ColK.nil, Bytes.nil, Nat.le_of_ble_eq_true rfl, Nat.le_of_ble_eq_true rfl, Nat.le_of_ble_eq_true rfl, Nat.le_of_ble_eq_true rfl, Nat.le_of_ble_eq_true rfl⟩ (HK.out.below HA.out.hb) (wr11 rfl)).mono ?_
 rintro e V hap
 obtain ⟨q, rfl, ho, hb⟩ := hap.to alA2
 clear hap
 have HN := Lib.hid (HA.out.next hb ho)
 have hnx : Bk V b1 28 #[.int .i64 5, .slice bA1' bn1' bc1', .slice sA1' sn1' sc1', .slice rA1' rn1' rc1', .slice tA1' tn1' tc1', .slice gA1' gn1' gc1', .int .i64 2, .int .i64 1, .int .i64 1] := HA.out.st.below hb HA.out.lt
 have k0 := hnx.cell 0
 have k1 := hnx.cell 1
 have k2 := hnx.cell 2
 have k3 := hnx.cell 3
 have k4 := hnx.cell 4
 have k5 := hnx.cell 5
 have k6 := hnx.cell 6
 have k7 := hnx.cell 7
 have k8 := hnx.cell 8
 have y0 := hnx.frozen 0
 have y1 := hnx.frozen 1
 have y2 := hnx.frozen 2
 have y3 := hnx.frozen 3
 have y4 := hnx.frozen 4
 have y5 := hnx.frozen 5
 have y6 := hnx.frozen 6
 have y7 := hnx.frozen 7
 have y8 := hnx.frozen 8
 obtain ⟨⟨bA2', bn2', bc2'⟩, ⟨sA2', sn2', sc2'⟩, ⟨rA2', rn2', rc2'⟩, ⟨tA2', tn2', tc2'⟩, ⟨gA2', gn2', gc2'⟩⟩ := q
 clear ho hb hnx HA
 unfold staV
 unfold sA2
 simp only
 go_wp2_with ((with_reducible show wpList _ _ _ (⟨some 25, _, _, _, _, _⟩ :: _) _ _); refine hold ?_)
 have HA := HN
 clear HN k0 k1 k2 k3 k4 k5 k6 k7 k8 y0 y1 y2 y3 y4 y5 y6 y7 y8
 change Hid (AlAt w b1 sA2 ⟨⟨bA2', bn2', bc2'⟩, ⟨sA2', sn2', sc2'⟩, ⟨rA2', rn2', rc2'⟩, ⟨tA2', tn2', tc2'⟩, ⟨gA2', gn2', gc2'⟩⟩ (((((((((V.setCell ⟨b1, 0, none⟩ (.int .i64 5)).setCell ⟨b1, 1, none⟩ (.slice bA2' bn2' bc2')).setCell ⟨b1, 2, none⟩ (.slice sA2' sn2' sc2')).setCell ⟨b1, 3, none⟩ (.slice rA2' rn2' rc2')).setCell ⟨b1, 4, none⟩ (.slice tA2' tn2' tc2')).setCell ⟨b1, 5, none⟩ (.slice gA2' gn2' gc2')).setCell ⟨b1, 6, none⟩ (.int .i64 2)).setCell ⟨b1, 7, none⟩ (.int .i64 1)).setCell ⟨b1, 8, none⟩ (.int .i64 1))) at HA
 generalize (((((((((V.setCell ⟨b1, 0, none⟩ (.int .i64 5)).setCell ⟨b1, 1, none⟩ (.slice bA2' bn2' bc2')).setCell ⟨b1, 2, none⟩ (.slice sA2' sn2' sc2')).setCell ⟨b1, 3, none⟩ (.slice rA2' rn2' rc2')).setCell ⟨b1, 4, none⟩ (.slice tA2' tn2' tc2')).setCell ⟨b1, 5, none⟩ (.slice gA2' gn2' gc2')).setCell ⟨b1, 6, none⟩ (.int .i64 2)).setCell ⟨b1, 7, none⟩ (.int .i64 1)).setCell ⟨b1, 8, none⟩ (.int .i64 1)) = W12 at *
 clear V
 refine held (wpList_load_mid rfl 28 (.tmp 1) rfl b1 0 rfl _ _ HA.out.st.range Tryz.underlying28 rfl (by kernel_rfl) ?_)
 rw [show (staA sA2 ⟨⟨bA2', bn2', bc2'⟩, ⟨sA2', sn2', sc2'⟩, ⟨rA2', rn2', rc2'⟩, ⟨tA2', tn2', tc2'⟩, ⟨gA2', gn2', gc2'⟩⟩).toList.toArray = #[.int .i64 5, .slice bA2' bn2' bc2', .slice sA2' sn2' sc2', .slice rA2' rn2' rc2', .slice tA2' tn2' tc2', .slice gA2' gn2' gc2', .int .i64 2, .int .i64 1, .int .i64 1] from rfl]
 go_wp2_with fail
 have hal : Below W12.heap.size W12 (W12.alloc (.cells #[.int .i64 1] 3)) := (Below.refl _ _).alloc (Nat.le_refl _) _
 have HC : Hid (Col ints (W12.alloc (.cells #[.int .i64 1] 3)) (W12.alloc (.cells #[.int .i64 1] 3)).heap.size (some ⟨W12.heap.size, 0, none⟩) 1 [1]) := Lib.hid (colA _)
 have HN := Lib.hid (HA.out.below hal)
 clear hal HA
 have HA := HN
 clear HN
 generalize W12.alloc (.cells #[.int .i64 1] 3) = W3 at *
 refine (stApply_any sA2 ⟨⟨bA2', bn2', bc2'⟩, ⟨sA2', sn2', sc2'⟩, ⟨rA2', rn2', rc2'⟩, ⟨tA2', tn2', tc2'⟩, ⟨gA2', gn2', gc2'⟩⟩ ⟨evA3, some ⟨W12.heap.size, 0, none⟩, 1, 1, none, 0, 0, none, 0, 0⟩ W3 (HA.out.own.in_ okA2.small HA.out.hb.size) okA2.small bg2 ⟨HC.out, ColK.nil, Bytes.nil, Nat.le_of_ble_eq_true rfl, Nat.le_of_ble_eq_true rfl, Nat.le_of_ble_eq_true rfl, Nat.le_of_ble_eq_true rfl, Nat.le_of_ble_eq_true rfl⟩ (HK.out.below HA.out.hb) (wr9 rfl)).mono ?_
 rintro e V hap
 obtain ⟨q, rfl, ho, hb⟩ := hap.to alA3
 clear hap
 clear HC
 have HN := Lib.hid (HA.out.next hb ho)
 have hnx : Bk V b1 28 #[.int .i64 5, .slice bA2' bn2' bc2', .slice sA2' sn2' sc2', .slice rA2' rn2' rc2', .slice tA2' tn2' tc2', .slice gA2' gn2' gc2', .int .i64 2, .int .i64 1, .int .i64 1] := HA.out.st.below hb HA.out.lt
 have k0 := hnx.cell 0
 have k1 := hnx.cell 1
 have k2 := hnx.cell 2
 have k3 := hnx.cell 3
 have k4 := hnx.cell 4
 have k5 := hnx.cell 5
 have k6 := hnx.cell 6
 have k7 := hnx.cell 7
 have k8 := hnx.cell 8
 have y0 := hnx.frozen 0
 have y1 := hnx.frozen 1
 have y2 := hnx.frozen 2
 have y3 := hnx.frozen 3
 have y4 := hnx.frozen 4
 have y5 := hnx.frozen 5
 have y6 := hnx.frozen 6
 have y7 := hnx.frozen 7
 have y8 := hnx.frozen 8
 obtain ⟨⟨bA3', bn3', bc3'⟩, ⟨sA3', sn3', sc3'⟩, ⟨rA3', rn3', rc3'⟩, ⟨tA3', tn3', tc3'⟩, ⟨gA3', gn3', gc3'⟩⟩ := q
 clear ho hb hnx HA
 unfold staV
 unfold sA3
 simp only
 go_wp2_with ((with_reducible show wpList _ _ _ (⟨some 32, _, _, _, _, _⟩ :: _) _ _); refine hold ?_)
 have HA := HN
 clear HN k0 k1 k2 k3 k4 k5 k6 k7 k8 y0 y1 y2 y3 y4 y5 y6 y7 y8
 change Hid (AlAt w b1 sA3 ⟨⟨bA3', bn3', bc3'⟩, ⟨sA3', sn3', sc3'⟩, ⟨rA3', rn3', rc3'⟩, ⟨tA3', tn3', tc3'⟩, ⟨gA3', gn3', gc3'⟩⟩ (((((((((V.setCell ⟨b1, 0, none⟩ (.int .i64 5)).setCell ⟨b1, 1, none⟩ (.slice bA3' bn3' bc3')).setCell ⟨b1, 2, none⟩ (.slice sA3' sn3' sc3')).setCell ⟨b1, 3, none⟩ (.slice rA3' rn3' rc3')).setCell ⟨b1, 4, none⟩ (.slice tA3' tn3' tc3')).setCell ⟨b1, 5, none⟩ (.slice gA3' gn3' gc3')).setCell ⟨b1, 6, none⟩ (.int .i64 2)).setCell ⟨b1, 7, none⟩ (.int .i64 2)).setCell ⟨b1, 8, none⟩ (.int .i64 1))) at HA
 generalize (((((((((V.setCell ⟨b1, 0, none⟩ (.int .i64 5)).setCell ⟨b1, 1, none⟩ (.slice bA3' bn3' bc3')).setCell ⟨b1, 2, none⟩ (.slice sA3' sn3' sc3')).setCell ⟨b1, 3, none⟩ (.slice rA3' rn3' rc3')).setCell ⟨b1, 4, none⟩ (.slice tA3' tn3' tc3')).setCell ⟨b1, 5, none⟩ (.slice gA3' gn3' gc3')).setCell ⟨b1, 6, none⟩ (.int .i64 2)).setCell ⟨b1, 7, none⟩ (.int .i64 2)).setCell ⟨b1, 8, none⟩ (.int .i64 1)) = W13 at *
 clear V
 refine held (wpList_load_mid rfl 28 (.tmp 1) rfl b1 0 rfl _ _ HA.out.st.range Tryz.underlying28 rfl (by kernel_rfl) ?_)
 rw [show (staA sA3 ⟨⟨bA3', bn3', bc3'⟩, ⟨sA3', sn3', sc3'⟩, ⟨rA3', rn3', rc3'⟩, ⟨tA3', tn3', tc3'⟩, ⟨gA3', gn3', gc3'⟩⟩).toList.toArray = #[.int .i64 5, .slice bA3' bn3' bc3', .slice sA3' sn3' sc3', .slice rA3' rn3' rc3', .slice tA3' tn3' tc3', .slice gA3' gn3' gc3', .int .i64 2, .int .i64 2, .int .i64 1] from rfl]
 go_wp2_with fail
 have hal : Below W13.heap.size W13 (W13.alloc (.cells #[.int .i64 1] 3)) := (Below.refl _ _).alloc (Nat.le_refl _) _
 have HC : Hid (Col ints (W13.alloc (.cells #[.int .i64 1] 3)) (W13.alloc (.cells #[.int .i64 1] 3)).heap.size (some ⟨W13.heap.size, 0, none⟩) 1 [1]) := Lib.hid (colA _)
 have HN := Lib.hid (HA.out.below hal)
 clear hal HA
 have HA := HN
 clear HN
 generalize W13.alloc (.cells #[.int .i64 1] 3) = W4 at *
 refine (stApply_any sA3 ⟨⟨bA3', bn3', bc3'⟩, ⟨sA3', sn3', sc3'⟩, ⟨rA3', rn3', rc3'⟩, ⟨tA3', tn3', tc3'⟩, ⟨gA3', gn3', gc3'⟩⟩ ⟨evA4, some ⟨W13.heap.size, 0, none⟩, 1, 1, none, 0, 0, none, 0, 0⟩ W4 (HA.out.own.in_ okA3.small HA.out.hb.size) okA3.small bg3 ⟨HC.out, ColK.nil, Bytes.nil, Nat.le_of_ble_eq_true rfl, Nat.le_of_ble_eq_true rfl, Nat.le_of_ble_eq_true rfl, Nat.le_of_ble_eq_true rfl, Nat.le_of_ble_eq_true rfl⟩ (HK.out.below HA.out.hb) (wr14 rfl)).mono ?_
 rintro e V hap
 obtain ⟨q, rfl, ho, hb⟩ := hap.to alA4
 clear hap
 clear HC
 have HN := Lib.hid (HA.out.below hb)
 clear ho hb HA
 have HA := HN
 clear HN
 obtain ⟨⟨bA4', bn4', bc4'⟩, ⟨sA4', sn4', sc4'⟩, ⟨rA4', rn4', rc4'⟩, ⟨tA4', tn4', tc4'⟩, ⟨gA4', gn4', gc4'⟩⟩ := q
 unfold staV
 unfold sA3
 simp only
 go_wp2_with ((with_reducible show wpList _ _ _ (⟨some 39, _, _, _, _, _⟩ :: _) _ _); refine hold ?_)
 have HN : Hid (AlAt w b1 sA3 ⟨⟨bA3', bn3', bc3'⟩, ⟨sA3', sn3', sc3'⟩, ⟨rA3', rn3', rc3'⟩, ⟨tA3', tn3', tc3'⟩, ⟨gA3', gn3', gc3'⟩⟩ (V.alloc (.cells #[.int .i64 5, .slice bA4' bn4' bc4', .slice sA4' sn4' sc4', .slice rA4' rn4' rc4', .slice tA4' tn4' tc4', .slice gA4' gn4' gc4', .int .i64 2, .int .i64 2, .int .i64 1] 28))) := Lib.hid (HA.out.below ((Below.refl _ _).alloc (Nat.le_refl _) _))
 clear HA
 have HA := HN
 clear HN
 generalize V.alloc (.cells #[.int .i64 5, .slice bA4' bn4' bc4', .slice sA4' sn4' sc4', .slice rA4' rn4' rc4', .slice tA4' tn4' tc4', .slice gA4' gn4' gc4', .int .i64 2, .int .i64 2, .int .i64 1] 28) = W14 at *
 refine held (wpList_load_mid rfl 28 (.tmp 1) rfl b1 0 rfl _ _ HA.out.st.range Tryz.underlying28 rfl (by kernel_rfl) ?_)
 rw [show (staA sA3 ⟨⟨bA3', bn3', bc3'⟩, ⟨sA3', sn3', sc3'⟩, ⟨rA3', rn3', rc3'⟩, ⟨tA3', tn3', tc3'⟩, ⟨gA3', gn3', gc3'⟩⟩).toList.toArray = #[.int .i64 5, .slice bA3' bn3' bc3', .slice sA3' sn3' sc3', .slice rA3' rn3' rc3', .slice tA3' tn3' tc3', .slice gA3' gn3' gc3', .int .i64 2, .int .i64 2, .int .i64 1] from rfl]
 go_wp2_with fail
 refine (stApply_any sA3 ⟨⟨bA3', bn3', bc3'⟩, ⟨sA3', sn3', sc3'⟩, ⟨rA3', rn3', rc3'⟩, ⟨tA3', tn3', tc3'⟩, ⟨gA3', gn3', gc3'⟩⟩ ⟨evA5, none, 0, 0, none, 0, 0, none, 0, 0⟩ W14 (HA.out.own.in_ okA3.small HA.out.hb.size) okA3.small bg3 ⟨Col.nil, ColK.nil, Bytes.nil, Nat.le_of_ble_eq_true rfl, Nat.le_of_ble_eq_true rfl, Nat.le_of_ble_eq_true rfl, Nat.le_of_ble_eq_true rfl, Nat.le_of_ble_eq_true rfl⟩ (HK.out.below HA.out.hb) (wr10 rfl)).mono ?_
 rintro e V hap
 obtain ⟨q, rfl, ho, hb⟩ := hap.to alA5
 clear hap
 have HN := Lib.hid (HA.out.next hb ho)
 have hnx : Bk V b1 28 #[.int .i64 5, .slice bA3' bn3' bc3', .slice sA3' sn3' sc3', .slice rA3' rn3' rc3', .slice tA3' tn3' tc3', .slice gA3' gn3' gc3', .int .i64 2, .int .i64 2, .int .i64 1] := HA.out.st.below hb HA.out.lt
 have k0 := hnx.cell 0
 have k1 := hnx.cell 1
 have k2 := hnx.cell 2
 have k3 := hnx.cell 3
 have k4 := hnx.cell 4
 have k5 := hnx.cell 5
 have k6 := hnx.cell 6
 have k7 := hnx.cell 7
 have k8 := hnx.cell 8
 have y0 := hnx.frozen 0
 have y1 := hnx.frozen 1
 have y2 := hnx.frozen 2
 have y3 := hnx.frozen 3
 have y4 := hnx.frozen 4
 have y5 := hnx.frozen 5
 have y6 := hnx.frozen 6
 have y7 := hnx.frozen 7
 have y8 := hnx.frozen 8
 obtain ⟨⟨bA5', bn5', bc5'⟩, ⟨sA5', sn5', sc5'⟩, ⟨rA5', rn5', rc5'⟩, ⟨tA5', tn5', tc5'⟩, ⟨gA5', gn5', gc5'⟩⟩ := q
 clear ho hb hnx HA
 unfold staV
 unfold sA5
 simp only
 go_wp2_with ((with_reducible show wpList _ _ _ (⟨some 45, _, _, _, _, _⟩ :: _) _ _); refine hold ?_)
 have HA := HN
 clear HN k0 k1 k2 k3 k4 k5 k6 k7 k8 y0 y1 y2 y3 y4 y5 y6 y7 y8
 change Hid (AlAt w b1 sA5 ⟨⟨bA5', bn5', bc5'⟩, ⟨sA5', sn5', sc5'⟩, ⟨rA5', rn5', rc5'⟩, ⟨tA5', tn5', tc5'⟩, ⟨gA5', gn5', gc5'⟩⟩ (((((((((V.setCell ⟨b1, 0, none⟩ (.int .i64 5)).setCell ⟨b1, 1, none⟩ (.slice bA5' bn5' bc5')).setCell ⟨b1, 2, none⟩ (.slice sA5' sn5' sc5')).setCell ⟨b1, 3, none⟩ (.slice rA5' rn5' rc5')).setCell ⟨b1, 4, none⟩ (.slice tA5' tn5' tc5')).setCell ⟨b1, 5, none⟩ (.slice gA5' gn5' gc5')).setCell ⟨b1, 6, none⟩ (.int .i64 2)).setCell ⟨b1, 7, none⟩ (.int .i64 2)).setCell ⟨b1, 8, none⟩ (.int .i64 1))) at HA
 generalize (((((((((V.setCell ⟨b1, 0, none⟩ (.int .i64 5)).setCell ⟨b1, 1, none⟩ (.slice bA5' bn5' bc5')).setCell ⟨b1, 2, none⟩ (.slice sA5' sn5' sc5')).setCell ⟨b1, 3, none⟩ (.slice rA5' rn5' rc5')).setCell ⟨b1, 4, none⟩ (.slice tA5' tn5' tc5')).setCell ⟨b1, 5, none⟩ (.slice gA5' gn5' gc5')).setCell ⟨b1, 6, none⟩ (.int .i64 2)).setCell ⟨b1, 7, none⟩ (.int .i64 2)).setCell ⟨b1, 8, none⟩ (.int .i64 1)) = W15 at *
 clear V
 refine held (wpList_load_mid rfl 28 (.tmp 1) rfl b1 0 rfl _ _ HA.out.st.range Tryz.underlying28 rfl (by kernel_rfl) ?_)
 rw [show (staA sA5 ⟨⟨bA5', bn5', bc5'⟩, ⟨sA5', sn5', sc5'⟩, ⟨rA5', rn5', rc5'⟩, ⟨tA5', tn5', tc5'⟩, ⟨gA5', gn5', gc5'⟩⟩).toList.toArray = #[.int .i64 5, .slice bA5' bn5' bc5', .slice sA5' sn5' sc5', .slice rA5' rn5' rc5', .slice tA5' tn5' tc5', .slice gA5' gn5' gc5', .int .i64 2, .int .i64 2, .int .i64 1] from rfl]
 go_wp2_with fail
 have hin := HA.out.own.in_ okA5.small HA.out.hb.size
 refine (stBox_any 5 2 2 1 bA5' sA5' rA5' tA5' gA5' bn5' bc5' sn5' sc5' rn5' rc5' tn5' tc5' gn5' gc5' sA5.boxes inboxS W15 hin.bx hin.sz.1 okA5.small.bx).mono ?_
 clear hin
 rintro e w6 ⟨A6, n6, c6, rfl, ho, hb⟩
 have hG := boxG_some (l := sA5.boxes) (u := inboxS) (k := 0) (b := ⟨inboxS, 1, 3, [⟨2, 0, 0, [120]⟩]⟩) (by simp [sA5, boxN]) rfl
 rw [hG.1] at ho ⊢
 rw [hG.2]
 clear hG
 obtain rfl : 1 = n6 := ho.len
 obtain ⟨g, x, rfl, hg1, hg2, hla, -, hrow, -⟩ := ho.at_ (j := 0) (by omega)
 have hx : x.m = ⟨2, 0, 0, [120]⟩ := by simpa using hla.symm
 have r0 := hrow 0 _ rfl
 simp only [Nat.zero_mul, Nat.zero_add, Nat.add_zero, hx] at r0
 have htn : 0 = tn5' := HA.out.own.tb.len
 subst htn
 have HN := Lib.hid ((HA.out.below hb).below ((Below.refl _ _).alloc (Nat.le_refl _) (.cells #[.string inboxS, .int .i64 1, .int .i64 3, .slice (some ⟨g, 0, none⟩) 1 c6] 44)))
 have r1 := ((Below.refl w6.heap.size w6).alloc (Nat.le_refl _) (.cells #[.string inboxS, .int .i64 1, .int .i64 3, .slice (some ⟨g, 0, none⟩) 1 c6] 44)).cell (p := ⟨g, 0, none⟩) hg2
 have r2 := r1.trans r0
 have hst : Bk (w6.alloc (.cells #[.string inboxS, .int .i64 1, .int .i64 3, .slice (some ⟨g, 0, none⟩) 1 c6] 44)) b1 28 #[.int .i64 5, .slice bA5' bn5' bc5', .slice sA5' sn5' sc5', .slice rA5' rn5' rc5', .slice tA5' 0 tc5', .slice gA5' gn5' gc5', .int .i64 2, .int .i64 2, .int .i64 1] := HN.out.st
 have hbx : Bk (w6.alloc (.cells #[.string inboxS, .int .i64 1, .int .i64 3, .slice (some ⟨g, 0, none⟩) 1 c6] 44)) w6.heap.size 44 #[.string inboxS, .int .i64 1, .int .i64 3, .slice (some ⟨g, 0, none⟩) 1 c6] := Bk.new _ _ _
 have k4 := hst.cell 4
 have c3 := hbx.cell 3
 have HBL := Lib.hid HN.out.hb
 clear hst hbx r0 r1 hrow hx hla ho hb HA HN hg1 hg2
 unfold bhA
 simp only
 go_wp2_with fail
 go_ret
 exact ⟨rfl, HBL.out⟩
end Go.Proofs.YtbogjfbfgbhdbaaGreatDoor
namespace Go.Proofs.YtbogjfbfgbhdbaaGreatDoor
set_option linter.unusedVariables false
set_option linter.unusedSimpArgs false
open Go.RowKit
set_option linter.unusedVariables false
set_option linter.unusedSimpArgs false
def GreatS (s : Sta) (w : World) (e : Ending) (w' : World) : Prop := ∃ q : Bool, e = .returned (.bool q) ∧ (q = false → SmSta s) ∧ Below w.heap.size w w'
def SmB (b : Bx) : Prop := b.msgs.length ≤ 20000 ∧ ∀ x ∈ b.msgs, x.body.length ≤ 20000
theorem all_snoc14 {α : Type} {P : α → Prop} {l : List α} {k : Nat} {a : α} (h : ∀ x ∈ l.take k, P x) (ht : l.take (k + 1) = l.take k ++ [a]) (ha : P a) : ∀ x ∈ l.take (k + 1), P x := by
 intro x hx
 rw [ht] at hx
 rcases List.mem_append.1 hx with hx | hx
 ·exact h x hx
 ·rw [List.mem_singleton.1 hx]; exact ha
theorem all_all14 {α : Type} {P : α → Prop} {l : List α} {k n : Nat} (h : ∀ x ∈ l.take k, P x) (hl : l.length = n) (hk : ¬ k < n) : ∀ x ∈ l, P x := by
 rw [List.take_of_length_le (by omega)] at h; exact h
theorem smSta14 {s : Sta} (h0 : s.boxes.length + s.subs.length + s.rules.length + s.tombs.length + s.holds.length ≤ 300) (h1 : ∀ b ∈ s.boxes, SmB b) (h2 : ∀ t ∈ s.tombs, t.msg.body.length ≤ 20000) (h3 : ∀ t ∈ s.holds, t.set.length ≤ 20000) : SmSta s :=
 ⟨⟨by omega, by omega, by omega, by omega, by omega⟩, fun b hb => ⟨by have := (h1 b hb).1; omega, fun m hm => by have := (h1 b hb).2 m hm; omega⟩, fun t ht => by have := h2 t ht; omega, fun t ht => by have := h3 t ht; omega⟩
set_option maxRecDepth 20000 in
set_option maxHeartbeats 8000000 in
theorem xsGreat_any (s : Sta) (p : StaAt) (w : World) (h : StaIn w w.heap.size s p) : Calls Tryz.prog 18 #[staV s p] w (GreatS s w) := by
 obtain ⟨cl, boxes, subs, rules, tombs, holds, nv, nt, nh⟩ := s
 obtain ⟨⟨bA, bn, bc⟩, ⟨sA, sn, sc⟩, ⟨rA, rn, rc⟩, ⟨tA, tn, tc⟩, ⟨gA, gn, gc⟩⟩ := p
 show Calls Tryz.prog 18 #[.agg #[.int .i64 cl, .slice bA bn bc, .slice sA sn sc, .slice rA rn rc, .slice tA tn tc, .slice gA gn gc, .int .i64 nv, .int .i64 nt, .int .i64 nh]] w _
 have HB : Hid (Below w.heap.size w (w.alloc (.cells #[.int .i64 cl, .slice bA bn bc, .slice sA sn sc, .slice rA rn rc, .slice tA tn tc, .slice gA gn gc, .int .i64 nv, .int .i64 nt, .int .i64 nh] 28))) := Lib.hid ((Below.refl _ _).alloc (Nat.le_refl _) _)
 have hk : Bk (w.alloc (.cells #[.int .i64 cl, .slice bA bn bc, .slice sA sn sc, .slice rA rn rc, .slice tA tn tc, .slice gA gn gc, .int .i64 nv, .int .i64 nt, .int .i64 nh] 28)) w.heap.size 28 #[.int .i64 cl, .slice bA bn bc, .slice sA sn sc, .slice rA rn rc, .slice tA tn tc, .slice gA gn gc, .int .i64 nv, .int .i64 nt, .int .i64 nh] := Bk.new _ _ _
 obtain ⟨k0, k1, k2, k3, k4, k5, k6, k7, k8⟩ := hk.nine
 have HBX : Hid (BoxesIn (w.alloc (.cells #[.int .i64 cl, .slice bA bn bc, .slice sA sn sc, .slice rA rn rc, .slice tA tn tc, .slice gA gn gc, .int .i64 nv, .int .i64 nt, .int .i64 nh] 28)) w.heap.size bA bn boxes) := Lib.hid (h.bx.below bhStays HB.out (Nat.le_refl _))
 have HTB : Hid (TombsIn (w.alloc (.cells #[.int .i64 cl, .slice bA bn bc, .slice sA sn sc, .slice rA rn rc, .slice tA tn tc, .slice gA gn gc, .int .i64 nv, .int .i64 nt, .int .i64 nh] 28)) w.heap.size tA tn tombs) := Lib.hid (h.tb.below thStays HB.out (Nat.le_refl _))
 have HHO : Hid (HolsIn (w.alloc (.cells #[.int .i64 cl, .slice bA bn bc, .slice sA sn sc, .slice rA rn rc, .slice tA tn tc, .slice gA gn gc, .int .i64 nv, .int .i64 nt, .int .i64 nh] 28)) w.heap.size gA gn holds) := Lib.hid (h.ho.below hhStays HB.out (Nat.le_refl _))
 have hsz := h.sz
 simp only at hsz
 obtain ⟨z1, z2, z3, z4, z5⟩ := hsz
 have HLN : Hid (boxes.length = bn ∧ subs.length = sn ∧ rules.length = rn ∧ tombs.length = tn ∧ holds.length = gn) := Lib.hid ⟨h.bx.len, h.sb.1, h.ru.1, h.tb.len, h.ho.len⟩
 have w1' : IntKind.i64.wrap ((bn : Int) + (sn : Int)) = ((bn + sn : Nat) : Int) := by rw [IntWalk.i64_in _ (by omega)]; omega
 have w2' : IntKind.i64.wrap (((bn + sn : Nat) : Int) + (rn : Int)) = ((bn + sn + rn : Nat) : Int) := by rw [IntWalk.i64_in _ (by omega)]; omega
 have w3' : IntKind.i64.wrap (((bn + sn + rn : Nat) : Int) + (tn : Int)) = ((bn + sn + rn + tn : Nat) : Int) := by rw [IntWalk.i64_in _ (by omega)]; omega
 have w4' : IntKind.i64.wrap (((bn + sn + rn + tn : Nat) : Int) + (gn : Int)) = ((bn + sn + rn + tn + gn : Nat) : Int) := by rw [IntWalk.i64_in _ (by omega)]; omega
 obtain ⟨n1, hn1⟩ : ∃ n1, bn + sn + rn + tn + gn = n1 := ⟨_, rfl⟩
 obtain ⟨n2, hn2⟩ : ∃ n2, bn + sn + rn + tn = n2 := ⟨_, rfl⟩
 obtain ⟨n3, hn3⟩ : ∃ n3, bn + sn + rn = n3 := ⟨_, rfl⟩
 obtain ⟨n4, hn4⟩ : ∃ n4, bn + sn = n4 := ⟨_, rfl⟩
 rw [hn1, hn2] at w4'
 rw [hn2, hn3] at w3'
 rw [hn3, hn4] at w2'
 rw [hn4] at w1'
 have HNN : Hid (bn + sn + rn + tn + gn = n1) := Lib.hid hn1
 clear hk h hn1 hn2 hn3 hn4
 by_cases hgr : (300 : Int) < (n1 : Int)
 ·go_enter Tryz.func18, Tryz.ntmps18
  go_wp2_with fail
  go_ret
  exact ⟨true, rfl, (fun q => by cases q), HB.out⟩
 have HN3 : Hid (n1 ≤ 300) := Lib.hid (by omega)
 go_enter Tryz.func18, Tryz.ntmps18
 go_wp2_with fail
 clear w1' w2' w3' w4' hgr
 generalize hw1 : w.alloc (.cells #[.int .i64 cl, .slice bA bn bc, .slice sA sn sc, .slice rA rn rc, .slice tA tn tc, .slice gA gn gc, .int .i64 nv, .int .i64 nt, .int .i64 nh] 28) = w1 at *
 clear hw1
 go_loopw [3, 4] (fun t i wx => ∃ k m : Nat, k ≤ bn ∧ i = .int .i64 (k : Int) ∧ t = .int .i64 (m : Int) ∧ m ≤ 140737488375328 ∧ (m ≤ 20000 → ∀ b ∈ boxes.take k, SmB b) ∧ wx = w1) (fun _ i _ => bn - (intOf i).toNat)
 case atStart => exact ⟨0, n1, Nat.zero_le _, rfl, rfl, by have := HN3.out; omega, fun _ b hb => by simp at hb, rfl⟩
 case round =>
  obtain ⟨k, m, hk, rfl, rfl, hm, ha, hwx⟩ := hrel
  replace hwx := hwx.symm
  subst hwx
  have HA := Lib.hid ha
  clear ha
  by_cases hlt : k < bn
  case pos =>
   by_cases hms : m ≤ 20000
   case pos =>
    have hms' : (m : Int) ≤ 20000 := by omega
    have hk0 : (0 : Int) ≤ (k : Int) := by omega
    have hkn : (k : Int) < (bn : Int) := by omega
    obtain ⟨b, o, x, rfl, hbb, hla, htk, hrow, hin⟩ := HBX.out.at_ hlt
    have HTK := Lib.hid htk
    have HIN := Lib.hid hin
    have r3 := hrow 3 _ rfl
    obtain ⟨⟨nm, v, nx, ms⟩, xA, xn, xc⟩ := x
    simp only at r3
    have hxn : xn ≤ 140737488355328 := hin.2
    have hw : IntKind.i64.wrap ((m : Int) + (xn : Int)) = ((m + xn : Nat) : Int) := by rw [IntWalk.i64_in _ (by omega)]; omega
    clear hla htk hrow hin
    go_wp2_with fail
    go_loopw [3, 5] (fun t j wx => ∃ q m2 : Nat, q ≤ xn ∧ j = .int .i64 (q : Int) ∧ t = .int .i64 (m2 : Int) ∧ m2 ≤ 140737488375328 ∧ xn ≤ m2 ∧ (m2 ≤ 20000 → ∀ y ∈ ms.take q, y.body.length ≤ 20000) ∧ wx = w1) (fun _ j _ => xn - (intOf j).toNat)
    case atStart => exact ⟨0, m + xn, Nat.zero_le _, rfl, rfl, by omega, by omega, fun _ y hy => by simp at hy, rfl⟩
    case round =>
     obtain ⟨q, m2, hq, rfl, rfl, hm2, hxm, ha2, hwx⟩ := hrel
     replace hwx := hwx.symm
     subst hwx
     have HA2 := Lib.hid ha2
     clear ha2
     by_cases hqn : q < xn
     case pos =>
      by_cases hms2 : m2 ≤ 20000
      case pos =>
       have hms2' : (m2 : Int) ≤ 20000 := by omega
       have hq0 : (0 : Int) ≤ (q : Int) := by omega
       have hqn' : (q : Int) < (xn : Int) := by omega
       obtain ⟨b2, o2, y, rfl, hbb2, hla2, htk2, hrow2, hin2⟩ := HIN.out.1.at_ hqn
       have HTK2 := Lib.hid htk2
       have s3 := hrow2 3 _ rfl
       obtain ⟨⟨yu, yf, yd, bl⟩, yA, yn, yc⟩ := y
       simp only at s3
       have hyn : yn ≤ 140737488355328 := hin2.2
       have HYL : Hid (bl.length = yn) := Lib.hid hin2.1.1
       have hw2 : IntKind.i64.wrap ((m2 : Int) + (yn : Int)) = ((m2 + yn : Nat) : Int) := by rw [IntWalk.i64_in _ (by omega)]; omega
       clear hla2 htk2 hrow2 hin2
       go_wp2_with fail
       go_roundw
       case rel => exact ⟨q + 1, m2 + yn, by omega, by go_num, rfl, by omega, by omega, fun hh => all_snoc14 (HA2.out (by omega)) HTK2.out (by show bl.length ≤ 20000; rw [HYL.out]; omega), by first | rfl | trivial⟩
       case measure => simp [intOf]; omega
      case neg =>
       have hms2' : ¬ (m2 : Int) ≤ 20000 := by omega
       have hqn' : (q : Int) < (xn : Int) := by omega
       go_wp2_with fail
       go_roundw
       case rel => exact ⟨k + 1, m2, by omega, by go_num, rfl, by omega, fun hh => absurd hh hms2, by first | rfl | trivial⟩
       case measure => simp [intOf]; omega
     case neg =>
      have hqn' : ¬ (q : Int) < (xn : Int) := by omega
      have HSM : Hid (m2 ≤ 20000 → ∀ b ∈ boxes.take (k + 1), SmB b) := Lib.hid (fun hh => all_snoc14 (HA.out hms) HTK.out ⟨by have h4 : ms.length = xn := HIN.out.1.len; show ms.length ≤ 20000; omega, all_all14 (HA2.out hh) HIN.out.1.len hqn⟩)
      go_wp2_with fail
      go_roundw
      case rel => exact ⟨k + 1, m2, by omega, by go_num, rfl, by omega, HSM.out, by first | rfl | trivial⟩
      case measure => simp [intOf]; omega
   case neg =>
    have hms' : ¬ (m : Int) ≤ 20000 := by omega
    have hkn : (k : Int) < (bn : Int) := by omega
    have HP1 : Hid (m ≤ 20000 → ∀ b ∈ boxes, SmB b) := Lib.hid (fun q => absurd q hms)
    go_wp2_with fail
    go_loopw [3, 6] (fun t i wx => ∃ kk mm : Nat, kk ≤ tn ∧ i = .int .i64 (kk : Int) ∧ t = .int .i64 (mm : Int) ∧ m ≤ mm ∧ mm ≤ 140737488375328 ∧ (mm ≤ 20000 → ∀ b ∈ tombs.take kk, b.msg.body.length ≤ 20000) ∧ wx = w1) (fun _ i _ => tn - (intOf i).toNat)
    case atStart => exact ⟨0, m, Nat.zero_le _, rfl, rfl, Nat.le_refl _, by omega, fun _ b hb => by simp at hb, rfl⟩
    case round =>
     obtain ⟨j, m3, hj, rfl, rfl, hmm3, hm3, ha3, hwx⟩ := hrel
     replace hwx := hwx.symm
     subst hwx
     have HA3 := Lib.hid ha3
     clear ha3
     by_cases hlt3 : j < tn
     case pos =>
      have hkn3 : (j : Int) < (tn : Int) := by omega
      by_cases hms3 : m3 ≤ 20000
      case pos =>
       exfalso
       omega
      case neg =>
       have hms3' : ¬ (m3 : Int) ≤ 20000 := by omega
       have HP2 : Hid (m3 ≤ 20000 → ∀ b ∈ tombs, b.msg.body.length ≤ 20000) := Lib.hid (fun q => absurd q hms3)
       go_wp2_with fail
       go_loopw [3, 7] (fun t i wx => ∃ kk mm : Nat, kk ≤ gn ∧ i = .int .i64 (kk : Int) ∧ t = .int .i64 (mm : Int) ∧ m3 ≤ mm ∧ mm ≤ 140737488375328 ∧ (mm ≤ 20000 → ∀ b ∈ holds.take kk, b.set.length ≤ 20000) ∧ wx = w1) (fun _ i _ => gn - (intOf i).toNat)
       case atStart => exact ⟨0, m3, Nat.zero_le _, rfl, rfl, Nat.le_refl _, by omega, fun _ b hb => by simp at hb, rfl⟩
       case round =>
        obtain ⟨l, m4, hl, rfl, rfl, hmm4, hm4, ha4, hwx⟩ := hrel
        replace hwx := hwx.symm
        subst hwx
        have HA4 := Lib.hid ha4
        clear ha4
        by_cases hlt4 : l < gn
        case pos =>
         have hkn4 : (l : Int) < (gn : Int) := by omega
         by_cases hms4 : m4 ≤ 20000
         case pos =>
          exfalso
          omega
         case neg =>
          have hms4' : ¬ (m4 : Int) ≤ 20000 := by omega
          have HP3 : Hid (m4 ≤ 20000 → ∀ b ∈ holds, b.set.length ≤ 20000) := Lib.hid (fun q => absurd q hms4)
          have hfin : (20000 : Int) < (m4 : Int) := by omega
          go_wp2_with fail
          go_ret
          exact ⟨true, rfl, (fun q => by cases q), HB.out⟩
        case neg =>
         have hkn4 : ¬ (l : Int) < (gn : Int) := by omega
         have HP3 : Hid (m4 ≤ 20000 → ∀ b ∈ holds, b.set.length ≤ 20000) := Lib.hid (fun q => all_all14 (HA4.out q) HLN.out.2.2.2.2 hlt4)
         have hfin : (20000 : Int) < (m4 : Int) := by omega
         go_wp2_with fail
         go_ret
         exact ⟨true, rfl, (fun q => by cases q), HB.out⟩
     case neg =>
      have hkn3 : ¬ (j : Int) < (tn : Int) := by omega
      have HP2 : Hid (m3 ≤ 20000 → ∀ b ∈ tombs, b.msg.body.length ≤ 20000) := Lib.hid (fun q => all_all14 (HA3.out q) HLN.out.2.2.2.1 hlt3)
      go_wp2_with fail
      go_loopw [3, 7] (fun t i wx => ∃ kk mm : Nat, kk ≤ gn ∧ i = .int .i64 (kk : Int) ∧ t = .int .i64 (mm : Int) ∧ m3 ≤ mm ∧ mm ≤ 140737488375328 ∧ (mm ≤ 20000 → ∀ b ∈ holds.take kk, b.set.length ≤ 20000) ∧ wx = w1) (fun _ i _ => gn - (intOf i).toNat)
      case atStart => exact ⟨0, m3, Nat.zero_le _, rfl, rfl, Nat.le_refl _, by omega, fun _ b hb => by simp at hb, rfl⟩
      case round =>
       obtain ⟨l, m4, hl, rfl, rfl, hmm4, hm4, ha4, hwx⟩ := hrel
       replace hwx := hwx.symm
       subst hwx
       have HA4 := Lib.hid ha4
       clear ha4
       by_cases hlt4 : l < gn
       case pos =>
        have hkn4 : (l : Int) < (gn : Int) := by omega
        by_cases hms4 : m4 ≤ 20000
        case pos =>
         exfalso
         omega
        case neg =>
         have hms4' : ¬ (m4 : Int) ≤ 20000 := by omega
         have HP3 : Hid (m4 ≤ 20000 → ∀ b ∈ holds, b.set.length ≤ 20000) := Lib.hid (fun q => absurd q hms4)
         have hfin : (20000 : Int) < (m4 : Int) := by omega
         go_wp2_with fail
         go_ret
         exact ⟨true, rfl, (fun q => by cases q), HB.out⟩
       case neg =>
        have hkn4 : ¬ (l : Int) < (gn : Int) := by omega
        have HP3 : Hid (m4 ≤ 20000 → ∀ b ∈ holds, b.set.length ≤ 20000) := Lib.hid (fun q => all_all14 (HA4.out q) HLN.out.2.2.2.2 hlt4)
        have hfin : (20000 : Int) < (m4 : Int) := by omega
        go_wp2_with fail
        go_ret
        exact ⟨true, rfl, (fun q => by cases q), HB.out⟩
  case neg =>
   have hkn : ¬ (k : Int) < (bn : Int) := by omega
   have HP1 : Hid (m ≤ 20000 → ∀ b ∈ boxes, SmB b) := Lib.hid (fun q => all_all14 (HA.out q) HLN.out.1 hlt)
   go_wp2_with fail
   go_loopw [3, 6] (fun t i wx => ∃ kk mm : Nat, kk ≤ tn ∧ i = .int .i64 (kk : Int) ∧ t = .int .i64 (mm : Int) ∧ m ≤ mm ∧ mm ≤ 140737488375328 ∧ (mm ≤ 20000 → ∀ b ∈ tombs.take kk, b.msg.body.length ≤ 20000) ∧ wx = w1) (fun _ i _ => tn - (intOf i).toNat)
   case atStart => exact ⟨0, m, Nat.zero_le _, rfl, rfl, Nat.le_refl _, by omega, fun _ b hb => by simp at hb, rfl⟩
   case round =>
    obtain ⟨j, m3, hj, rfl, rfl, hmm3, hm3, ha3, hwx⟩ := hrel
    replace hwx := hwx.symm
    subst hwx
    have HA3 := Lib.hid ha3
    clear ha3
    by_cases hlt3 : j < tn
    case pos =>
     have hkn3 : (j : Int) < (tn : Int) := by omega
     by_cases hms3 : m3 ≤ 20000
     case pos =>
      have hms3' : (m3 : Int) ≤ 20000 := by omega
      have hk03 : (0 : Int) ≤ (j : Int) := by omega
      obtain ⟨b, o, x, rfl, hbb, hla, htk, hrow, hin⟩ := HTB.out.at_ hlt3
      have HTK := Lib.hid htk
      have r6 := hrow 6 _ rfl
      obtain ⟨⟨id, nm, a, ⟨mu, mf, md, bl⟩⟩, xA, xn, xc⟩ := x
      simp only at r6
      have hxn : xn ≤ 140737488355328 := hin.2
      have HYL : Hid (bl.length = xn) := Lib.hid hin.1.1
      have hw : IntKind.i64.wrap ((m3 : Int) + (xn : Int)) = ((m3 + xn : Nat) : Int) := by rw [IntWalk.i64_in _ (by omega)]; omega
      clear hla htk hrow hin
      go_wp2_with fail
      go_roundw
      case rel => exact ⟨j + 1, m3 + xn, by omega, by go_num, rfl, by omega, by omega, fun hh => all_snoc14 (HA3.out (by omega)) HTK.out (by show bl.length ≤ 20000; rw [HYL.out]; omega), by first | rfl | trivial⟩
      case measure => simp [intOf]; omega
     case neg =>
      have hms3' : ¬ (m3 : Int) ≤ 20000 := by omega
      have HP2 : Hid (m3 ≤ 20000 → ∀ b ∈ tombs, b.msg.body.length ≤ 20000) := Lib.hid (fun q => absurd q hms3)
      go_wp2_with fail
      go_loopw [3, 7] (fun t i wx => ∃ kk mm : Nat, kk ≤ gn ∧ i = .int .i64 (kk : Int) ∧ t = .int .i64 (mm : Int) ∧ m3 ≤ mm ∧ mm ≤ 140737488375328 ∧ (mm ≤ 20000 → ∀ b ∈ holds.take kk, b.set.length ≤ 20000) ∧ wx = w1) (fun _ i _ => gn - (intOf i).toNat)
      case atStart => exact ⟨0, m3, Nat.zero_le _, rfl, rfl, Nat.le_refl _, by omega, fun _ b hb => by simp at hb, rfl⟩
      case round =>
       obtain ⟨l, m4, hl, rfl, rfl, hmm4, hm4, ha4, hwx⟩ := hrel
       replace hwx := hwx.symm
       subst hwx
       have HA4 := Lib.hid ha4
       clear ha4
       by_cases hlt4 : l < gn
       case pos =>
        have hkn4 : (l : Int) < (gn : Int) := by omega
        by_cases hms4 : m4 ≤ 20000
        case pos =>
         exfalso
         omega
        case neg =>
         have hms4' : ¬ (m4 : Int) ≤ 20000 := by omega
         have HP3 : Hid (m4 ≤ 20000 → ∀ b ∈ holds, b.set.length ≤ 20000) := Lib.hid (fun q => absurd q hms4)
         have hfin : (20000 : Int) < (m4 : Int) := by omega
         go_wp2_with fail
         go_ret
         exact ⟨true, rfl, (fun q => by cases q), HB.out⟩
       case neg =>
        have hkn4 : ¬ (l : Int) < (gn : Int) := by omega
        have HP3 : Hid (m4 ≤ 20000 → ∀ b ∈ holds, b.set.length ≤ 20000) := Lib.hid (fun q => all_all14 (HA4.out q) HLN.out.2.2.2.2 hlt4)
        have hfin : (20000 : Int) < (m4 : Int) := by omega
        go_wp2_with fail
        go_ret
        exact ⟨true, rfl, (fun q => by cases q), HB.out⟩
    case neg =>
     have hkn3 : ¬ (j : Int) < (tn : Int) := by omega
     have HP2 : Hid (m3 ≤ 20000 → ∀ b ∈ tombs, b.msg.body.length ≤ 20000) := Lib.hid (fun q => all_all14 (HA3.out q) HLN.out.2.2.2.1 hlt3)
     go_wp2_with fail
     go_loopw [3, 7] (fun t i wx => ∃ kk mm : Nat, kk ≤ gn ∧ i = .int .i64 (kk : Int) ∧ t = .int .i64 (mm : Int) ∧ m3 ≤ mm ∧ mm ≤ 140737488375328 ∧ (mm ≤ 20000 → ∀ b ∈ holds.take kk, b.set.length ≤ 20000) ∧ wx = w1) (fun _ i _ => gn - (intOf i).toNat)
     case atStart => exact ⟨0, m3, Nat.zero_le _, rfl, rfl, Nat.le_refl _, by omega, fun _ b hb => by simp at hb, rfl⟩
     case round =>
      obtain ⟨l, m4, hl, rfl, rfl, hmm4, hm4, ha4, hwx⟩ := hrel
      replace hwx := hwx.symm
      subst hwx
      have HA4 := Lib.hid ha4
      clear ha4
      by_cases hlt4 : l < gn
      case pos =>
       have hkn4 : (l : Int) < (gn : Int) := by omega
       by_cases hms4 : m4 ≤ 20000
       case pos =>
        have hms4' : (m4 : Int) ≤ 20000 := by omega
        have hk04 : (0 : Int) ≤ (l : Int) := by omega
        obtain ⟨b, o, x, rfl, hbb, hla, htk, hrow, hin⟩ := HHO.out.at_ hlt4
        have HTK := Lib.hid htk
        have r2 := hrow 2 _ rfl
        obtain ⟨id, nm, xA, xn, xc, st⟩ := x
        simp only at r2
        have hxn : xn ≤ 140737488355328 := hin.2
        have HYL : Hid (st.length = xn) := Lib.hid hin.1.1
        have hw : IntKind.i64.wrap ((m4 : Int) + (xn : Int)) = ((m4 + xn : Nat) : Int) := by rw [IntWalk.i64_in _ (by omega)]; omega
        clear hla htk hrow hin
        go_wp2_with fail
        go_roundw
        case rel => exact ⟨l + 1, m4 + xn, by omega, by go_num, rfl, by omega, by omega, fun hh => all_snoc14 (HA4.out (by omega)) HTK.out (by show st.length ≤ 20000; rw [HYL.out]; omega), by first | rfl | trivial⟩
        case measure => simp [intOf]; omega
       case neg =>
        have hms4' : ¬ (m4 : Int) ≤ 20000 := by omega
        have HP3 : Hid (m4 ≤ 20000 → ∀ b ∈ holds, b.set.length ≤ 20000) := Lib.hid (fun q => absurd q hms4)
        have hfin : (20000 : Int) < (m4 : Int) := by omega
        go_wp2_with fail
        go_ret
        exact ⟨true, rfl, (fun q => by cases q), HB.out⟩
      case neg =>
       have hkn4 : ¬ (l : Int) < (gn : Int) := by omega
       have HP3 : Hid (m4 ≤ 20000 → ∀ b ∈ holds, b.set.length ≤ 20000) := Lib.hid (fun q => all_all14 (HA4.out q) HLN.out.2.2.2.2 hlt4)
       by_cases hfin : (20000 : Int) < (m4 : Int)
       ·go_wp2_with fail
        go_ret
        exact ⟨true, rfl, (fun q => by cases q), HB.out⟩
       ·have hq : decide ((20000 : Int) < (m4 : Int)) = false := decide_eq_false hfin
        go_wp2_with fail
        go_ret
        exact ⟨false, rfl, fun _ => smSta14 (by obtain ⟨h1, h2, h3, h4, h5⟩ := HLN.out; have := HNN.out; have := HN3.out; simp only; omega) (HP1.out (by omega)) (HP2.out (by omega)) (HP3.out (by omega)), HB.out⟩
end Go.Proofs.YtbogjfbfgbhdbaaGreatDoor
