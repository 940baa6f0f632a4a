/-
 A part of the proof: see the last text.
-/
import Derived.Test.YtbogjfbfgbhdbaaGreatDoorSStJ
import Derived.Test.YtbogjfbfgbhdbaaGreatDoorSStDl
import Derived.Test.YtbogjfbfgbhdbaaGreatDoorSStKBx
import Derived.Test.YtbogjfbfgbhdbaaGreatDoorSStI
import Derived.Test.YtbogjfbfgbhdbaaGreatDoorSUidsB
import Derived.Test.YtbogjfbfgbhdbaaGreatDoorSAppK
namespace Go.Proofs.YtbogjfbfgbhdbaaGreatDoor
open List renaming setIfInBounds_toArray → jA, set_cons_zero → jB, set_cons_succ → jC, getElem_toArray → jD, getElem_cons_zero → jE, getElem_cons_succ → jF
set_option linter.unusedVariables false
set_option linter.unusedSimpArgs false
open Go.RowKit
set_option linter.unusedVariables false
set_option linter.unusedSimpArgs false
theorem tkM_small {b : Bx} {ids : List Int} (h : OkBx b) : (tkM b ids).length ≤ 40 := by
 unfold tkM
 split
 ·exact Nat.le_trans (List.length_filter_le ..) h.2.2.2.2.1
 ·simp
set_option maxRecDepth 20000 in
set_option maxHeartbeats 8000000 in
theorem swexpunge_any (base bs : Nat) (s : Sta) (p : StaAt) (e0 : Ev) (B : Option Addr) (m d0 : Nat) (w : World) (h : ScAt 73 w base bs s p) (hok : OkSta s) (hi : Col ints w w.heap.size B m e0.ids) (hm : m ≤ 140737488355328) :
 Calls Tryz.prog 100 #[.pointer (some ⟨bs, 0, none⟩), .string e0.box, .slice B m d0] w (DoIs 73 base bs (expungeS s e0) w) := by
 obtain ⟨cl, boxes, subs, rules, tombs, holds, nv, nt, nh⟩ := s
 obtain ⟨⟨bA, bn, bc⟩, ⟨sA, sn, sc⟩, ⟨rA, rn, rc⟩, ⟨tA, tn, tc⟩, ⟨gA, gn, gc⟩⟩ := p
 have hs := hok.small
 have hk : Bk w bs 73 #[.int .i64 cl, .slice bA bn bc, .slice sA sn sc, .slice rA rn rc, .slice tA tn tc, .slice gA gn gc, .int .i64 nv, .int .i64 nt, .int .i64 nh] := h.bk
 obtain ⟨k0, k1, k2, k3, k4, k5, k6, k7, k8⟩ := hk.nine
 have hbin : BoxesIn w w.heap.size bA bn boxes := h.own.bx.in_ hs.bx h.base
 have hbl : boxes.length = bn := h.own.bx.len
 obtain ⟨name, hname⟩ : ∃ q, e0.box = q := ⟨_, rfl⟩
 obtain ⟨ids, hids⟩ : ∃ q, e0.ids = q := ⟨_, rfl⟩
 rw [hids] at hi
 have HX : Hid (expungeS ⟨cl, boxes, subs, rules, tombs, holds, nv, nt, nh⟩ e0 = if boxN boxes name = 0 then (⟨cl, boxes, subs, rules, tombs, holds, nv, nt, nh⟩, 6) else if tkE (boxAt boxes name) ids ≠ 0 then (⟨cl, boxes, subs, rules, tombs, holds, nv, nt, nh⟩, tkE (boxAt boxes name) ids) else if buryE ⟨cl, boxes, subs, rules, tombs, holds, nv, nt, nh⟩ (tkM (boxAt boxes name) ids).length ≠ 0 then (⟨cl, boxes, subs, rules, tombs, holds, nv, nt, nh⟩, buryE ⟨cl, boxes, subs, rules, tombs, holds, nv, nt, nh⟩ (tkM (boxAt boxes name) ids).length) else (buryS (setAt ⟨cl, boxes, subs, rules, tombs, holds, nv, nt, nh⟩ name (tkB (boxAt boxes name) ids)) name (tkM (boxAt boxes name) ids), 0)) := Lib.hid (by unfold expungeS; rw [hname, hids])
 rw [hname]
 have CI := Lib.hid (stboxAt_any cl nv nt nh bA sA rA tA gA bn bc sn sc rn rc tn tc gn gc boxes name w hbin (by have := hs.lens.1; simp only at this; omega))
 have HH := Lib.hid h
 have HOK := Lib.hid hok
 have HI := Lib.hid hi
 clear h hok hs hi hk hbin hname hids
 go_enter Tryz.func100, Tryz.ntmps100
 go_wp2_with fail
 refine CI.out.mono ?_
 rintro e w1 ⟨z, rfl, hz, hz1, hz2, hb⟩
 rw [← boxN_idx] at hz
 have H1 := Lib.hid (HH.out.below hb)
 have HI1 := Lib.hid ((HI.out.below hb (Nat.le_refl _)).more hb.size)
 have HB1 : Hid (Below base w w1) := Lib.hid (hb.mono HH.out.base)
 clear hb CI k0 k1 k2 k3 k4 k5 k6 k7 k8 HH HI
 by_cases hz0 : z < 0
 ·have hE : boxN boxes name = 0 := by omega
  have HE : Hid ((expungeS ⟨cl, boxes, subs, rules, tombs, holds, nv, nt, nh⟩ e0).2 = 6) := Lib.hid (by rw [HX.out, if_pos hE])
  go_wp2_with fail
  go_ret
  exact DoIs.no HE.out (by omega) HB1.out
 have hE : boxN boxes name ≠ 0 := by omega
 obtain ⟨pos, rfl⟩ : ∃ pos : Nat, z = (pos : Int) := ⟨z.toNat, by omega⟩
 have hpos : boxN boxes name - 1 = pos := by omega
 have hposn : pos < bn := by have := boxN_le boxes name; omega
 obtain ⟨hg1, hg2, hg3⟩ := boxAt_get hE
 rw [hpos] at hg1
 obtain ⟨⟨cn, cv, cx, cm⟩, hb0⟩ : ∃ b0, boxAt boxes name = b0 := ⟨_, rfl⟩
 rw [hb0] at hg1 hg2 hg3
 have HOB := Lib.hid (HOK.out.boxes.each _ hg3).1
 have HX2 : Hid (expungeS ⟨cl, boxes, subs, rules, tombs, holds, nv, nt, nh⟩ e0 = (if tkE ⟨cn, cv, cx, cm⟩ ids ≠ 0 then (⟨cl, boxes, subs, rules, tombs, holds, nv, nt, nh⟩, tkE ⟨cn, cv, cx, cm⟩ ids) else buryR ⟨cl, boxes.set pos (tkB ⟨cn, cv, cx, cm⟩ ids), subs, rules, tombs, holds, nv, nt, nh⟩ name (tkM ⟨cn, cv, cx, cm⟩ ids)) ∨ (expungeS ⟨cl, boxes, subs, rules, tombs, holds, nv, nt, nh⟩ e0).2 ≠ 0 ∧ tkE ⟨cn, cv, cx, cm⟩ ids = 0 ∧ (expungeS ⟨cl, boxes, subs, rules, tombs, holds, nv, nt, nh⟩ e0).2 = (buryR ⟨cl, boxes.set pos (tkB ⟨cn, cv, cx, cm⟩ ids), subs, rules, tombs, holds, nv, nt, nh⟩ name (tkM ⟨cn, cv, cx, cm⟩ ids)).2) := Lib.hid (by
  rw [HX.out, if_neg hE, hb0]
  unfold buryR setAt
  rw [hpos]
  by_cases h1 : tkE ⟨cn, cv, cx, cm⟩ ids ≠ 0
  ·left; rw [if_pos h1, if_pos h1]
  ·rw [if_neg h1, if_neg h1]
   have he : buryE ⟨cl, boxes.set pos (tkB ⟨cn, cv, cx, cm⟩ ids), subs, rules, tombs, holds, nv, nt, nh⟩ (tkM ⟨cn, cv, cx, cm⟩ ids).length = buryE ⟨cl, boxes, subs, rules, tombs, holds, nv, nt, nh⟩ (tkM ⟨cn, cv, cx, cm⟩ ids).length := rfl
   rw [he]
   by_cases h2 : buryE ⟨cl, boxes, subs, rules, tombs, holds, nv, nt, nh⟩ (tkM ⟨cn, cv, cx, cm⟩ ids).length ≠ 0
   ·right; rw [if_pos h2, if_pos h2]; exact ⟨h2, Decidable.not_not.1 h1, rfl⟩
   ·left; rw [if_neg h2, if_neg h2])
 have hposz : ¬ ((pos : Int) < 0) := by omega
 have hbk : Bk w1 bs 73 #[.int .i64 cl, .slice bA bn bc, .slice sA sn sc, .slice rA rn rc, .slice tA tn tc, .slice gA gn gc, .int .i64 nv, .int .i64 nt, .int .i64 nh] := H1.out.bk
 have k1 := hbk.cell 1
 have hown : BoxesO w1 base bA bn bc boxes := H1.out.own.bx
 obtain ⟨g, y, rfl, hgb, hgl, hgl2, hy, ⟨r0, r1, r2, r3⟩, hfr⟩ := hown.row hposn
 obtain ⟨yb, yA, yn, yc⟩ := y
 have hyb : yb = ⟨cn, cv, cx, cm⟩ := by
  rw [hg1] at hgl2
  exact (Option.some.inj hgl2).symm
 subst hyb
 have HY := Lib.hid (show OwnM w1 base yA yn yc cm from hy)
 simp only at r0 r1 r2 r3
 have hp0 : (0 : Int) ≤ (pos : Int) := by omega
 have hpn : (pos : Int) < (bn : Int) := by omega
 have hsm : ∀ m ∈ cm, m.body.length ≤ 2000 := fun m hm => by have := okMg_of (HOB.out.2.2.2.2.2.1 m hm).1; omega
 have CT := Lib.hid (take_anyO cn cv cx yA yn yc cm B m d0 ids w1 (HY.out.msgs (fun m hm => Nat.le_trans (hsm m hm) (by omega))) (by have h40 := HOB.out.2.2.2.2.1; have := HY.out.len; simp only at h40; omega) (fun m hm => Nat.le_trans (hsm m hm) (by omega)) HI1.out hm)
 have HSM := Lib.hid hsm
 clear hE hg1 hg2 hg3 hb0 hpos hz hz1 hz2 hz0 hbk hown hgl2 hy hfr hsm HX
 go_wp2_with fail
 refine CT.out.mono ?_
 rintro e w2 ⟨A', n', c', A2, n2, c2, rfl, _, _, hb2, hto⟩
 obtain ⟨⟨nn, vv, xx, ll⟩, htB⟩ : ∃ q, tkB ⟨cn, cv, cx, cm⟩ ids = q := ⟨_, rfl⟩
 obtain ⟨ee, htE⟩ : ∃ q, tkE ⟨cn, cv, cx, cm⟩ ids = q := ⟨_, rfl⟩
 rw [htB, htE] at hto ⊢
 have HTB := Lib.hid htB
 have HTE := Lib.hid htE
 have hal : Below w2.heap.size w2 (w2.alloc (.cells #[.string nn, .int .i64 vv, .int .i64 xx, .slice A' n' c'] 44)) := (Below.refl _ _).alloc (Nat.le_refl _) _
 have H2 := Lib.hid ((H1.out.below hb2).below hal)
 have HB2 := Lib.hid (HB1.out.trans ((hb2.trans (hal.mono hb2.size)).mono H1.out.base))
 have HTO : Hid (ee = 0 → OwnM (w2.alloc (.cells #[.string nn, .int .i64 vv, .int .i64 xx, .slice A' n' c'] 44)) base A' n' c' ll ∧ OwnM (w2.alloc (.cells #[.string nn, .int .i64 vv, .int .i64 xx, .slice A' n' c'] 44)) base A2 n2 c2 (tkM ⟨cn, cv, cx, cm⟩ ids)) := Lib.hid (fun h0 => ⟨((hto h0).1.below hal).from_ H1.out.base, ((hto h0).2.below hal).from_ H1.out.base⟩)
 have HKN : Hid (Bk (w2.alloc (.cells #[.string nn, .int .i64 vv, .int .i64 xx, .slice A' n' c'] 44)) w2.heap.size 44 #[.string nn, .int .i64 vv, .int .i64 xx, .slice A' n' c']) := Lib.hid (Bk.new _ _ _)
 clear hal hto hb2 htB htE CT k1 r0 r1 r2 r3 hgb hgl H1 HI1 HB1 HY
 by_cases he : ee = 0
 ·subst he
  have HX3 : Hid ((expungeS ⟨cl, boxes, subs, rules, tombs, holds, nv, nt, nh⟩ e0).2 = (buryR ⟨cl, boxes.set pos ⟨nn, vv, xx, ll⟩, subs, rules, tombs, holds, nv, nt, nh⟩ name (tkM ⟨cn, cv, cx, cm⟩ ids)).2 ∧ ((expungeS ⟨cl, boxes, subs, rules, tombs, holds, nv, nt, nh⟩ e0).2 = 0 → (expungeS ⟨cl, boxes, subs, rules, tombs, holds, nv, nt, nh⟩ e0).1 = (buryR ⟨cl, boxes.set pos ⟨nn, vv, xx, ll⟩, subs, rules, tombs, holds, nv, nt, nh⟩ name (tkM ⟨cn, cv, cx, cm⟩ ids)).1)) := Lib.hid (by
   rcases HX2.out with h1 | ⟨h1, _, h3⟩
   ·rw [if_neg (by rw [HTE.out]; simp), HTB.out] at h1
    rw [h1]; exact ⟨rfl, fun _ => rfl⟩
   ·rw [HTB.out] at h3
    exact ⟨h3, fun h0 => absurd h0 h1⟩)
  go_upto_region 7 with (fail)
  generalize w2.alloc (.cells #[.string nn, .int .i64 vv, .int .i64 xx, .slice A' n' c'] 44) = wm at *
  have hbk : Bk wm bs 73 #[.int .i64 cl, .slice (some ⟨g, 0, none⟩) bn bc, .slice sA sn sc, .slice rA rn rc, .slice tA tn tc, .slice gA gn gc, .int .i64 nv, .int .i64 nt, .int .i64 nh] := H2.out.bk
  have k1 := hbk.cell 1
  have hown : BoxesO wm base (some ⟨g, 0, none⟩) bn bc boxes := H2.out.own.bx
  obtain ⟨g', y', hge, hgb, hgl, hgl2, hy, ⟨r0, r1, r2, r3⟩, ⟨f0, f1, f2, f3⟩⟩ := hown.row hposn
  injection hge with hge
  injection hge with hge
  subst hge
  obtain ⟨⟨q0, q1, q2, q3⟩, -, -, -, -⟩ := HKN.out.four
  have hput := hown.put hposn (⟨⟨nn, vv, xx, ll⟩, A', n', c'⟩ : Bh) (HTO.out (by first | rfl | trivial)).1
  simp only at hput
  have hst := H2.out.own
  have hch := hput.2
  have HN : Hid (ScAt 73 ((((wm.setCell ⟨g, pos * 4, none⟩ (.string nn)).setCell ⟨g, pos * 4 + 1, none⟩ (.int .i64 vv)).setCell ⟨g, pos * 4 + 2, none⟩ (.int .i64 xx)).setCell ⟨g, pos * 4 + 3, none⟩ (.slice A' n' c')) base bs ⟨cl, boxes.set pos ⟨nn, vv, xx, ll⟩, subs, rules, tombs, holds, nv, nt, nh⟩ ⟨⟨some ⟨g, 0, none⟩, bn, bc⟩, ⟨sA, sn, sc⟩, ⟨rA, rn, rc⟩, ⟨tA, tn, tc⟩, ⟨gA, gn, gc⟩⟩) := Lib.hid
   ⟨⟨hput.1, hst.sb.chg hch (by decide), hst.ru.chg hch (by decide), hst.tb.chg thOwns hch (by decide) (by decide), hst.ho.chg hhOwns hch (by decide) (by decide)⟩, hbk.chg hch (by decide), H2.out.hb⟩
  have HM := Lib.hid ((HTO.out (by first | rfl | trivial)).2.chg hch (by decide) (by decide))
  have HBN := Lib.hid (HB2.out.trans hch.1)
  clear hbk hown hgl2 hy hput hst hch hgb hgl H2 HB2 HTO HKN
  go_wp2_with fail
  go_region
  have HND := Lib.hid (HN.out.below (Below.refl _ _).drew)
  have HMD := Lib.hid (HM.out.below (Below.refl _ _).drew)
  have HBD := Lib.hid HBN.out.drew
  clear k1 r0 r1 r2 r3 f0 f1 f2 f3 q0 q1 q2 q3 HN HM HBN
  go_wp2_with fail
  generalize ((((wm.setCell ⟨g, pos * 4, none⟩ (.string nn)).setCell ⟨g, pos * 4 + 1, none⟩ (.int .i64 vv)).setCell ⟨g, pos * 4 + 2, none⟩ (.int .i64 xx)).setCell ⟨g, pos * 4 + 3, none⟩ (.slice A' n' c')).drew = wd at *
  refine (swbury_any base bs _ _ name A2 n2 c2 (tkM ⟨cn, cv, cx, cm⟩ ids) wd HND.out HOK.out.nt (by have := HOK.out.lens.2.2.2.1; simp only at this ⊢; omega) HMD.out (by have h1 := tkM_small (ids := ids) HOB.out; have h2 := HMD.out.len; omega)).mono ?_
  rintro e w5 ⟨rfl, hb5, hp5⟩
  have HB5 := Lib.hid (HBD.out.trans hb5)
  have HP5 := Lib.hid hp5
  clear hb5 hp5
  go_wp2_with fail
  go_ret
  exact ⟨ret_int (by rw [HX3.out.1]), HB5.out, fun h0 => by
   obtain ⟨p5, h5⟩ := HP5.out (by rw [← HX3.out.1]; exact h0)
   exact ⟨p5, by rw [HX3.out.2 h0]; exact h5⟩⟩
 ·have HX3 : Hid ((expungeS ⟨cl, boxes, subs, rules, tombs, holds, nv, nt, nh⟩ e0).2 = ee) := Lib.hid (by
   rcases HX2.out with h1 | ⟨_, h2, _⟩
   ·rw [if_pos (by rw [HTE.out]; exact he), HTE.out] at h1
    rw [h1]
   ·rw [HTE.out] at h2; exact absurd h2 he)
  have hen : (ee == 0) = false := by simpa using he
  go_wp2_with fail
  go_ret
  exact DoIs.no HX3.out he HB2.out
def RowNow (bs g i : Nat) (tA : Option Addr) (tn tc : Nat) (nm : ByteArray) (u f d : Int) (xA : Option Addr) (xn xc : Nat) (W : World) : Prop :=
 W.cell? ⟨bs, 4, none⟩ = some (.slice tA tn tc) ∧ W.cell? ⟨g, i * 7 + 1, none⟩ = some (.string nm) ∧ W.cell? ⟨g, i * 7 + 3, none⟩ = some (.int .i64 u) ∧ W.cell? ⟨g, i * 7 + 4, none⟩ = some (.int .i64 f) ∧ W.cell? ⟨g, i * 7 + 5, none⟩ = some (.int .i64 d) ∧ W.cell? ⟨g, i * 7 + 6, none⟩ = some (.slice xA xn xc)
theorem RowNow.of {bs g i : Nat} {tA : Option Addr} {tn tc : Nat} {nm : ByteArray} {u f d : Int} {xA : Option Addr} {xn xc : Nat} {W W' : World} (h : RowNow bs g i tA tn tc nm u f d xA xn xc W) (h1 : W'.heap[bs]? = W.heap[bs]?) (h2 : W'.heap[g]? = W.heap[g]?) : RowNow bs g i tA tn tc nm u f d xA xn xc W' := by
 obtain ⟨a, b, c, d', e, f'⟩ := h
 exact ⟨(World.cell?_of_block (a := ⟨bs, 4, none⟩) h1).trans a, (World.cell?_of_block (a := ⟨g, i * 7 + 1, none⟩) h2).trans b, (World.cell?_of_block (a := ⟨g, i * 7 + 3, none⟩) h2).trans c, (World.cell?_of_block (a := ⟨g, i * 7 + 4, none⟩) h2).trans d', (World.cell?_of_block (a := ⟨g, i * 7 + 5, none⟩) h2).trans e, (World.cell?_of_block (a := ⟨g, i * 7 + 6, none⟩) h2).trans f'⟩
theorem tomb_find {l : List Tmb} {id : Int} : ∀ {k : Nat} {t : Tmb}, (∀ b ∈ l.take k, decide (b.id = id) = false) → l[k]? = some t → t.id = id → l.find? (fun t => decide (t.id = id)) = some t := by
 induction l with
 | nil => intro k t _ h; simp at h
 | cons x l ih =>
   intro k t hk h he
   cases k with
   | zero =>
     have e : x = t := by simpa using h
     rw [e, List.find?_cons_of_pos (by simp [he])]
   | succ k =>
     have h0 := hk x (by rw [List.take_succ_cons]; exact List.mem_cons_self)
     rw [List.find?_cons_of_neg (by simpa using h0)]
     exact ih (fun b hb => hk b (by rw [List.take_succ_cons]; exact List.mem_cons_of_mem _ hb)) (by simpa using h) he
theorem erase_tomb {l : List Tmb} (h : l.Pairwise (fun a b => a.id < b.id)) {i : Nat} {t : Tmb} (hi : l[i]? = some t) : l.eraseIdx i = l.filter fun x => decide (x.id ≠ t.id) := by
 induction l generalizing i with
 | nil => simp at hi
 | cons x l ih =>
   rw [List.pairwise_cons] at h
   cases i with
   | zero =>
     have e : x = t := by simpa using hi
     subst e
     rw [List.filter_cons_of_neg (by simp)]
     show l = _
     symm
     exact List.filter_eq_self.2 fun y hy => decide_eq_true (by have := h.1 y hy; omega)
   | succ i =>
     have hi' : l[i]? = some t := by simpa using hi
     have := h.1 t (List.mem_of_getElem? hi')
     rw [List.filter_cons_of_pos (by simp; omega)]
     show x :: l.eraseIdx i = _
     rw [ih h.2 hi']
theorem copyL_one {b : Bx} {m : Mg} : (copyL b [m]).2 = addE b m ∧ (addE b m = 0 → (copyL b [m]).1 = addB b m) := by
 unfold copyL
 by_cases h : addE b m = 0
 ·rw [if_pos h]; exact ⟨h.symm, fun _ => rfl⟩
 ·rw [if_neg h]; exact ⟨rfl, fun q => absurd q h⟩
set_option maxRecDepth 20000 in
set_option maxHeartbeats 8000000 in
theorem swrestore_any (base bs : Nat) (s : Sta) (p : StaAt) (id : Int) (w : World) (h : ScAt 73 w base bs s p) (hok : OkSta s) :
 Calls Tryz.prog 101 #[.pointer (some ⟨bs, 0, none⟩), .int .i64 id] w (DoIs 73 base bs (restoreS s id) w) := by
 have hmx : Tryz.prog.follows .mixedOrders = true := by kernel_rfl
 obtain ⟨cl, boxes, subs, rules, tombs, holds, nv, nt, nh⟩ := s
 obtain ⟨⟨bA, bn, bc⟩, ⟨sA, sn, sc⟩, ⟨rA, rn, rc⟩, ⟨tA, tn, tc⟩, ⟨gA, gn, gc⟩⟩ := p
 have hs := hok.small
 have hk : Bk w bs 73 #[.int .i64 cl, .slice bA bn bc, .slice sA sn sc, .slice rA rn rc, .slice tA tn tc, .slice gA gn gc, .int .i64 nv, .int .i64 nt, .int .i64 nh] := h.bk
 obtain ⟨k0, k1, k2, k3, k4, k5, k6, k7, k8⟩ := hk.nine
 have htin : TombsIn w w.heap.size tA tn tombs := h.own.tb.in_ hs.tb h.base
 have htl : tombs.length = tn := h.own.tb.len
 have htn0 : tn ≤ 1000 := by have := hs.lens.2.2.2.1; simp only at this; omega
 have CI := Lib.hid (sttombAt_any cl nv nt nh bA sA rA tA gA bn bc sn sc rn rc tn tc gn gc tombs id w htin (by have := hs.lens.2.2.2.1; simp only at this; omega))
 have HH := Lib.hid h
 have HOK := Lib.hid hok
 have HS := Lib.hid hs
 clear h hok hs hk htin
 go_enter Tryz.func101, Tryz.ntmps101
 go_wp2_with fail
 refine CI.out.mono ?_
 rintro e w1 ⟨z, rfl, hz, hz1, hz2, hb⟩
 have H1 := Lib.hid (HH.out.below hb)
 have HB1 : Hid (Below base w w1) := Lib.hid (hb.mono HH.out.base)
 clear hb CI k0 k1 k2 k3 k4 k5 k6 k7 k8 HH
 by_cases hz0 : z < 0
 ·have hno : tombO ⟨cl, boxes, subs, rules, tombs, holds, nv, nt, nh⟩ id = none := by
   unfold tombO
   rw [List.find?_eq_none]
   intro t ht
   have := idx_zero.1 (show idxN (fun b : Tmb => decide (b.id = id)) tombs = 0 by omega) t ht
   rw [this]; simp
  have HE : Hid ((restoreS ⟨cl, boxes, subs, rules, tombs, holds, nv, nt, nh⟩ id).2 = 6) := Lib.hid (by unfold restoreS; rw [hno])
  clear hno
  go_wp2_with fail
  go_ret
  exact DoIs.no HE.out (by omega) HB1.out
 obtain ⟨pos, rfl⟩ : ∃ pos : Nat, z = (pos : Int) := ⟨z.toNat, by omega⟩
 obtain ⟨pos', t, hj1, hja, hpa, hjall⟩ := idx_at (p := fun b : Tmb => decide (b.id = id)) (l := tombs) (by omega)
 obtain rfl : pos' = pos := by omega
 have hposn : pos' < tn := by have := (List.getElem?_eq_some_iff.1 hja).1; omega
 have hto : tombO ⟨cl, boxes, subs, rules, tombs, holds, nv, nt, nh⟩ id = some t := tomb_find hjall hja (of_decide_eq_true hpa)
 have hid : t.id = id := of_decide_eq_true hpa
 obtain ⟨⟨tid, nm, ta, ⟨u, f, d, bl⟩⟩, rfl⟩ : ∃ q, t = q := ⟨_, rfl⟩
 have HER : Hid (tombs.eraseIdx pos' = tombs.filter fun x => decide (x.id ≠ id)) := Lib.hid (by rw [erase_tomb HOK.out.tombs.2 hja, ← hid])
 have HX : Hid ((restoreS ⟨cl, boxes, subs, rules, tombs, holds, nv, nt, nh⟩ id).2 = (addsS ⟨cl, boxes, subs, rules, tombs, holds, nv, nt, nh⟩ nm [⟨u, f, d, bl⟩]).2 ∧ ((restoreS ⟨cl, boxes, subs, rules, tombs, holds, nv, nt, nh⟩ id).2 = 0 → (restoreS ⟨cl, boxes, subs, rules, tombs, holds, nv, nt, nh⟩ id).1 = { (addsS ⟨cl, boxes, subs, rules, tombs, holds, nv, nt, nh⟩ nm [⟨u, f, d, bl⟩]).1 with tombs := tombs.eraseIdx pos' })) := Lib.hid (by
  unfold restoreS addsS
  rw [hto, HER.out]
  simp only
  by_cases hb : boxN boxes nm = 0
  ·rw [if_pos hb, if_pos hb]; exact ⟨rfl, fun q => by cases q⟩
  ·rw [if_neg hb, if_neg hb]
   have h1 := copyL_one (b := boxAt boxes nm) (m := ⟨u, f, d, bl⟩)
   exact ⟨h1.1.symm, fun h0 => by unfold setAt; simp only; rw [h1.2 h0]⟩)
 have hposz : ¬ ((pos' : Int) < 0) := by omega
 have hbk : Bk w1 bs 73 #[.int .i64 cl, .slice bA bn bc, .slice sA sn sc, .slice rA rn rc, .slice tA tn tc, .slice gA gn gc, .int .i64 nv, .int .i64 nt, .int .i64 nh] := H1.out.bk
 obtain ⟨g, x, rfl, hgb, hgl, hgt, _, hrow, hth, cur, hkg, _⟩ := H1.out.own.tb.at_ hposn
 have hxt : x.t = ⟨tid, nm, ta, ⟨u, f, d, bl⟩⟩ := by
  have e : tombs[pos']? = some x.t := hgt
  rw [hja] at e
  exact (Option.some.inj e).symm
 obtain ⟨xt, xA, xn, xc⟩ := x
 simp only at hxt
 subst hxt
 have hnow : RowNow bs g pos' (some ⟨g, 0, none⟩) tn tc nm u f d xA xn xc w1 := ⟨hbk.cell 4, hrow 1 _ rfl, hrow 3 _ rfl, hrow 4 _ rfl, hrow 5 _ rfl, hrow 6 _ rfl⟩
 have HTH := Lib.hid (show OwnB w1 base 5 xA xn xc bl from hth)
 have HBL := Lib.hid (show bl.length ≤ 100000 from HS.out.tb _ (List.mem_of_getElem? hja))
 have HKG := Lib.hid hkg
 have HBK := Lib.hid hbk
 have hp0 : (0 : Int) ≤ (pos' : Int) := by omega
 have hpn : (pos' : Int) < (tn : Int) := by omega
 clear hz hz1 hz2 hz0 hj1 hja hpa hjall hto hid hgt hrow hth hbk hkg
 go_wp2_with fail
 have HD := Lib.hid (H1.out.below (Below.refl _ _).drew)
 have HDB := Lib.hid HB1.out.drew
 have HDT := Lib.hid (HTH.out.below (Below.refl _ _).drew)
 have HDG := Lib.hid HKG.out.drew
 have HDK := Lib.hid HBK.out.drew
 refine wp_region_held_drew (S := RowNow bs g pos' (some ⟨g, 0, none⟩) tn tc nm u f d xA xn xc) hmx hnow (fun hHeld => ?_)
 clear hnow H1 HB1 HTH HKG HBK
 generalize hW0 : w1.drew = W at *
 clear hW0
 simp only [List.size_toArray, List.length_cons, List.length_nil, Nat.reduceAdd]
 refine wpAnyH_take (i := 0) (v := .pointer (some ⟨bs, 0, none⟩)) rfl (by kernel_rfl) (by kernel_rfl) (by kernel_rfl) (fun _ _ _ h => h) (Or.inl ⟨by rfl, fun w0 hC => by simp [execOp, Act.eval, Act.put, go_sem]⟩) hHeld ?_
 try simp only [Act.put, jA, jB, jC, jD, jE, jF]
 refine wpAnyH_take (i := 1) (v := .pointer (some ⟨bs, 0, none⟩)) rfl (by kernel_rfl) (by kernel_rfl) (by kernel_rfl) (fun _ _ _ h => h) (Or.inl ⟨by rfl, fun w0 hC => by simp [execOp, Act.eval, Act.put, go_sem]⟩) hHeld ?_
 try simp only [Act.put, jA, jB, jC, jD, jE, jF]
 refine wpAnyH_take (i := 2) (v := .pointer (some ⟨bs, 0, none⟩)) rfl (by kernel_rfl) (by kernel_rfl) (by kernel_rfl) (fun _ _ _ h => h) (Or.inl ⟨by rfl, fun w0 hC => by simp [execOp, Act.eval, Act.put, go_sem]⟩) hHeld ?_
 try simp only [Act.put, jA, jB, jC, jD, jE, jF]
 refine wpAnyH_take (i := 3) (v := .pointer (some ⟨bs, 0, none⟩)) rfl (by kernel_rfl) (by kernel_rfl) (by kernel_rfl) (fun _ _ _ h => h) (Or.inl ⟨by rfl, fun w0 hC => by simp [execOp, Act.eval, Act.put, go_sem]⟩) hHeld ?_
 try simp only [Act.put, jA, jB, jC, jD, jE, jF]
 refine wpAnyH_take (i := 4) (v := .pointer (some ⟨bs, 4, none⟩)) rfl (by kernel_rfl) (by kernel_rfl) (by kernel_rfl) (fun _ _ _ h => h) (Or.inl ⟨by rfl, fun w0 hC => by simp [execOp, Act.eval, Act.put, go_sem]⟩) hHeld ?_
 try simp only [Act.put, jA, jB, jC, jD, jE, jF]
 refine wpAnyH_take (i := 5) (v := .slice (some ⟨g, 0, none⟩) tn tc) rfl (by kernel_rfl) (by kernel_rfl) (by kernel_rfl) (fun _ _ _ h => h) (Or.inl ⟨by rfl, fun w0 hC => by simp [execOp, Act.eval, Act.put, go_sem, hC.1]⟩) hHeld ?_
 try simp only [Act.put, jA, jB, jC, jD, jE, jF]
 refine wpAnyH_take (i := 6) (v := .int .i64 (pos' : Int)) rfl (by kernel_rfl) (by kernel_rfl) (by kernel_rfl) (fun _ _ _ h => h) (Or.inl ⟨by rfl, fun w0 hC => by simp [execOp, Act.eval, Act.put, go_sem]⟩) hHeld ?_
 try simp only [Act.put, jA, jB, jC, jD, jE, jF]
 refine wpAnyH_take (i := 7) (v := .pointer (some ⟨g, pos' * 7, none⟩)) rfl (by kernel_rfl) (by kernel_rfl) (by kernel_rfl) (fun _ _ _ h => h) (Or.inl ⟨by rfl, fun w0 hC => by simp [execOp, Act.eval, Act.put, go_sem, hp0, hpn, hposn]⟩) hHeld ?_
 try simp only [Act.put, jA, jB, jC, jD, jE, jF]
 refine wpAnyH_take (i := 8) (v := .pointer (some ⟨g, pos' * 7 + 1, none⟩)) rfl (by kernel_rfl) (by kernel_rfl) (by kernel_rfl) (fun _ _ _ h => h) (Or.inl ⟨by rfl, fun w0 hC => by simp [execOp, Act.eval, Act.put, go_sem]⟩) hHeld ?_
 try simp only [Act.put, jA, jB, jC, jD, jE, jF]
 refine wpAnyH_take (i := 9) (v := .string nm) rfl (by kernel_rfl) (by kernel_rfl) (by kernel_rfl) (fun _ _ _ h => h) (Or.inl ⟨by rfl, fun w0 hC => by simp [execOp, Act.eval, Act.put, go_sem, hC.2.1]⟩) hHeld ?_
 try simp only [Act.put, jA, jB, jC, jD, jE, jF]
 refine wpAnyH_take (i := 10) (v := .pointer (some ⟨bs, 0, none⟩)) rfl (by kernel_rfl) (by kernel_rfl) (by kernel_rfl) (fun _ _ _ h => h) (Or.inl ⟨by rfl, fun w0 hC => by simp [execOp, Act.eval, Act.put, go_sem]⟩) hHeld ?_
 try simp only [Act.put, jA, jB, jC, jD, jE, jF]
 refine wpAnyH_take (i := 11) (v := .pointer (some ⟨bs, 0, none⟩)) rfl (by kernel_rfl) (by kernel_rfl) (by kernel_rfl) (fun _ _ _ h => h) (Or.inl ⟨by rfl, fun w0 hC => by simp [execOp, Act.eval, Act.put, go_sem]⟩) hHeld ?_
 try simp only [Act.put, jA, jB, jC, jD, jE, jF]
 refine wpAnyH_take (i := 12) (v := .pointer (some ⟨bs, 0, none⟩)) rfl (by kernel_rfl) (by kernel_rfl) (by kernel_rfl) (fun _ _ _ h => h) (Or.inl ⟨by rfl, fun w0 hC => by simp [execOp, Act.eval, Act.put, go_sem]⟩) hHeld ?_
 try simp only [Act.put, jA, jB, jC, jD, jE, jF]
 refine wpAnyH_take (i := 13) (v := .pointer (some ⟨bs, 4, none⟩)) rfl (by kernel_rfl) (by kernel_rfl) (by kernel_rfl) (fun _ _ _ h => h) (Or.inl ⟨by rfl, fun w0 hC => by simp [execOp, Act.eval, Act.put, go_sem]⟩) hHeld ?_
 try simp only [Act.put, jA, jB, jC, jD, jE, jF]
 refine wpAnyH_take (i := 14) (v := .slice (some ⟨g, 0, none⟩) tn tc) rfl (by kernel_rfl) (by kernel_rfl) (by kernel_rfl) (fun _ _ _ h => h) (Or.inl ⟨by rfl, fun w0 hC => by simp [execOp, Act.eval, Act.put, go_sem, hC.1]⟩) hHeld ?_
 try simp only [Act.put, jA, jB, jC, jD, jE, jF]
 refine wpAnyH_take (i := 15) (v := .int .i64 (pos' : Int)) rfl (by kernel_rfl) (by kernel_rfl) (by kernel_rfl) (fun _ _ _ h => h) (Or.inl ⟨by rfl, fun w0 hC => by simp [execOp, Act.eval, Act.put, go_sem]⟩) hHeld ?_
 try simp only [Act.put, jA, jB, jC, jD, jE, jF]
 refine wpAnyH_take (i := 16) (v := .pointer (some ⟨g, pos' * 7, none⟩)) rfl (by kernel_rfl) (by kernel_rfl) (by kernel_rfl) (fun _ _ _ h => h) (Or.inl ⟨by rfl, fun w0 hC => by simp [execOp, Act.eval, Act.put, go_sem, hp0, hpn, hposn]⟩) hHeld ?_
 try simp only [Act.put, jA, jB, jC, jD, jE, jF]
 refine wpAnyH_take (i := 17) (v := .pointer (some ⟨g, pos' * 7 + 3, none⟩)) rfl (by kernel_rfl) (by kernel_rfl) (by kernel_rfl) (fun _ _ _ h => h) (Or.inl ⟨by rfl, fun w0 hC => by simp [execOp, Act.eval, Act.put, go_sem]⟩) hHeld ?_
 try simp only [Act.put, jA, jB, jC, jD, jE, jF]
 refine wpAnyH_take (i := 18) (v := .agg #[.int .i64 u, .int .i64 f, .int .i64 d, .slice xA xn xc]) rfl (by kernel_rfl) (by kernel_rfl) (by kernel_rfl) (fun _ _ _ h => h) (Or.inl ⟨by rfl, fun w0 hC => by simp [execOp, Act.eval, Act.put, go_sem, hC.2.2.1, hC.2.2.2.1, hC.2.2.2.2.1, hC.2.2.2.2.2]⟩) hHeld ?_
 try simp only [Act.put, jA, jB, jC, jD, jE, jF]
 refine wpAnyH_ready (rs := [19]) (by kernel_rfl) (by simp) (AllReadyH.cons rfl (fun K hK => ?_) AllReadyH.nil)
 rw [if_pos (by rfl)]
 go_wp2_with fail
 have hal : Below W.heap.size W (W.alloc (.cells #[.int .i64 u, .int .i64 f, .int .i64 d, .slice xA xn xc] 49)) := (Below.refl _ _).alloc (Nat.le_refl _) _
 have hS := hHeld.of (W' := W.alloc (.cells #[.int .i64 u, .int .i64 f, .int .i64 d, .slice xA xn xc] 49)) (hal.block bs HDK.out.lt) (hal.block g HDG.out.lt)
 have hkm : Bk (W.alloc (.cells #[.int .i64 u, .int .i64 f, .int .i64 d, .slice xA xn xc] 49)) W.heap.size 49 #[.int .i64 u, .int .i64 f, .int .i64 d, .slice xA xn xc] := Bk.new _ _ _
 have HD2 := Lib.hid (HD.out.below hal)
 have HDB2 := Lib.hid (HDB.out.trans (hal.mono HD.out.base))
 have HDG2 := Lib.hid (HDG.out.below hal HDG.out.lt)
 have HDK2 := Lib.hid (HDK.out.below hal HDK.out.lt)
 have HMV : Hid (MsgsV (W.alloc (.cells #[.int .i64 u, .int .i64 f, .int .i64 d, .slice xA xn xc] 49)) base (some ⟨W.heap.size, 0, none⟩) 1 1 [⟨u, f, d, bl⟩]) := Lib.hid
  ⟨[⟨⟨u, f, d, bl⟩, xA, xn, xc⟩], ⟨⟨rfl, .inr ⟨W.heap.size, 1, #[.int .i64 u, .int .i64 f, .int .i64 d, .slice xA xn xc], rfl, HD.out.base, hkm, Nat.le_refl _, by unfold maxLen; omega, rfl, rfl⟩⟩, rfl, hdC_len⟩, fun y hy => by
    rw [List.mem_singleton.1 hy]
    exact ⟨.inl (OwnB.below HDT.out hal), by have h1 := HDT.out.len; have := HBL.out; simp only at h1 ⊢; omega⟩, rfl⟩
 clear hHeld hal hkm HD HDB HDT HDG HDK
 refine hK.out _ _ hS (fun hHeld => ?_)
 clear hK K
 try simp only [Act.put, jA, jB, jC, jD, jE, jF]
 clear hS
 generalize W.alloc (.cells #[.int .i64 u, .int .i64 f, .int .i64 d, .slice xA xn xc] 49) = V at *
 refine wpAnyH_ready (rs := [20]) (by kernel_rfl) (by simp) (AllReadyH.cons rfl (fun K hK => ?_) AllReadyH.nil)
 rw [if_pos (by rfl)]
 go_wp2_with fail
 refine (swadd_any base bs ⟨cl, boxes, subs, rules, tombs, holds, nv, nt, nh⟩ ⟨⟨bA, bn, bc⟩, ⟨sA, sn, sc⟩, ⟨rA, rn, rc⟩, ⟨some ⟨g, 0, none⟩, tn, tc⟩, ⟨gA, gn, gc⟩⟩ nm (some ⟨W.heap.size, 0, none⟩) 1 1 [⟨u, f, d, bl⟩] V HD2.out (fun b hb => (HOK.out.boxes.each b hb).1) HS.out HMV.out (by omega)).mono ?_
 rintro e V2 ⟨⟨rfl, hb3, hp3⟩, hg3⟩
 obtain ⟨us, ub, _, _⟩ := HD2.out.own.bx
 have hne : ∀ (q : Nat) (cs : Array Value) (t : TypeId), Bk V q t cs → t ≠ 44 → some q ≠ (Value.slice bA bn bc).ownBlock := by
  intro q cs t hq ht he
  unfold Bk at hq
  exact ownsB_type ub.1 (e' := t) (fun e => ht e.symm) q cs (0, 0) he.symm hq
 have hS := hHeld.of (W' := V2) (hg3.block bs HDK2.out.lt (hne _ _ _ HDK2.out (by decide))) (hg3.block g HDG2.out.lt (hne _ _ _ HDG2.out (by decide)))
 have HB3 := Lib.hid (HDB2.out.trans hb3)
 have HP3 := Lib.hid hp3
 clear hHeld hb3 hp3 hg3 ub hne HD2 HDB2 HDG2 HDK2 HMV
 refine hK.out _ _ hS (fun hHeld => ?_)
 clear hK K
 try simp only [Act.put, jA, jB, jC, jD, jE, jF]
 clear hS
 obtain ⟨er, her⟩ : ∃ er, (addsS ⟨cl, boxes, subs, rules, tombs, holds, nv, nt, nh⟩ nm [⟨u, f, d, bl⟩]).2 = er := ⟨_, rfl⟩
 rw [her] at HP3 HX ⊢
 refine wpAnyH_take (i := 21) (v := .int .i64 er) rfl (by kernel_rfl) (by kernel_rfl) (by kernel_rfl) (fun _ _ _ h => h) (Or.inl ⟨by rfl, fun w0 hC => by simp [execOp, Act.eval, Act.put, go_sem]⟩) hHeld ?_
 try simp only [Act.put, jA, jB, jC, jD, jE, jF]
 refine wpAnyH_done (by kernel_rfl) ?_ _
 clear hHeld
 by_cases he : er = 0
 ·subst he
  obtain ⟨⟨⟨cA, cn, cc⟩, ⟨dA, dn, dc⟩, ⟨eA, en, ec⟩, ⟨fA, fn, fc⟩, ⟨iA, iN, ic⟩⟩, h3⟩ := HP3.out rfl
  obtain ⟨⟨cl2, boxes2, subs2, rules2, tombs2, holds2, nv2, nt2, nh2⟩, hq⟩ : ∃ q, (addsS ⟨cl, boxes, subs, rules, tombs, holds, nv, nt, nh⟩ nm [⟨u, f, d, bl⟩]).1 = q := ⟨_, rfl⟩
  rw [hq] at h3 HX
  have htb : tombs2 = tombs := by
   have h1 := congrArg Sta.tombs hq
   unfold addsS at h1
   split at h1
   ·exact h1.symm
   ·exact h1.symm
  subst htb
  have HX1 : Hid ((restoreS ⟨cl, boxes, subs, rules, tombs2, holds, nv, nt, nh⟩ id).2 = 0 ∧ (restoreS ⟨cl, boxes, subs, rules, tombs2, holds, nv, nt, nh⟩ id).1 = ⟨cl2, boxes2, subs2, rules2, tombs2.eraseIdx pos', holds2, nv2, nt2, nh2⟩) := Lib.hid ⟨HX.out.1, HX.out.2 HX.out.1⟩
  have hbk3 : Bk V2 bs 73 #[.int .i64 cl2, .slice cA cn cc, .slice dA dn dc, .slice eA en ec, .slice fA fn fc, .slice iA iN ic, .int .i64 nv2, .int .i64 nt2, .int .i64 nh2] := h3.bk
  have k4 := hbk3.cell 4
  obtain ⟨us, o1, o2, o3⟩ := h3.own.tb
  have hfn : fn = tn := by have h5 := h3.own.tb.len; simp only at h5; omega
  have o1' : OwnK 7 thC V2 base 51 fA fn fc us := o1
  obtain ⟨g2, hge, _, _⟩ := o1'.rows (by omega)
  subst hge
  have CD := Lib.hid (zDeleteTb_any base g2 fn fc pos' us V2 o1' (by omega) (by omega) h3.base)
  have H3 := Lib.hid h3
  have HO2 := Lib.hid o2
  have HO3 := Lib.hid (show us.map Th.t = tombs2 from o3)
  have HO1 := Lib.hid o1'
  have hw1 : IntKind.i64.wrap ((pos' : Int) + 1) = (pos' : Int) + 1 := IntWalk.i64_in _ (by omega)
  clear h3 hbk3 o1 o1' o2 o3 hfn HX HP3 her hq
  go_wp2_with fail
  refine CD.out.mono ?_
  rintro e V3 ⟨rfl, hod, hbd, hgd⟩
  have hch : Chg 51 base V2 V3 := Chg.row (v := .slice (some ⟨g2, 0, none⟩) fn fc) HO1.out.1 hgd hbd
  have hst := H3.out.own
  have hbk4 : Bk V3 bs 73 #[.int .i64 cl2, .slice cA cn cc, .slice dA dn dc, .slice eA en ec, .slice (some ⟨g2, 0, none⟩) fn fc, .slice iA iN ic, .int .i64 nv2, .int .i64 nt2, .int .i64 nh2] := Bk.chg H3.out.bk hch (by decide)
  have hto : TombsO V3 base (some ⟨g2, 0, none⟩) (fn - 1) fc (tombs2.eraseIdx pos') := ⟨us.eraseIdx pos', hod, fun y hy => thOwns.chg (HO2.out y (List.mem_of_mem_eraseIdx hy)) hch (by decide), by rw [← HO3.out, List.eraseIdx_eq_take_drop_succ, List.eraseIdx_eq_take_drop_succ, List.map_append, List.map_take, List.map_drop]⟩
  have hch5 : Chg 73 base V3 (V3.setCell ⟨bs, 4, none⟩ (.slice (some ⟨g2, 0, none⟩) (fn - 1) fc)) := Chg.cell hbk4 H3.out.hb _ _
  have HN : Hid (ScAt 73 (V3.setCell ⟨bs, 4, none⟩ (.slice (some ⟨g2, 0, none⟩) (fn - 1) fc)) base bs ⟨cl2, boxes2, subs2, rules2, tombs2.eraseIdx pos', holds2, nv2, nt2, nh2⟩ ⟨⟨cA, cn, cc⟩, ⟨dA, dn, dc⟩, ⟨eA, en, ec⟩, ⟨some ⟨g2, 0, none⟩, fn - 1, fc⟩, ⟨iA, iN, ic⟩⟩) := Lib.hid ⟨StaO.chg (s := ⟨cl2, boxes2, subs2, rules2, tombs2.eraseIdx pos', holds2, nv2, nt2, nh2⟩) (p := ⟨⟨cA, cn, cc⟩, ⟨dA, dn, dc⟩, ⟨eA, en, ec⟩, ⟨some ⟨g2, 0, none⟩, fn - 1, fc⟩, ⟨iA, iN, ic⟩⟩) ⟨hst.bx.chg bhOwns hch (by decide) (by decide), hst.sb.chg hch (by decide), hst.ru.chg hch (by decide), hto, hst.ho.chg hhOwns hch (by decide) (by decide)⟩ hch5 notT_scribe, by have := hbk4.put 4 (.slice (some ⟨g2, 0, none⟩) (fn - 1) fc); simp at this; exact this, H3.out.hb⟩
  have HBN := Lib.hid ((HB3.out.trans hch.1).trans hch5.1)
  have k4' := hbk4.cell 4
  have f4' := hbk4.frozen 4
  clear hch hst hbk4 hto hch5 hod hbd hgd k4 H3 HB3 HO1 HO2 HO3 CD
  go_wp2_with fail
  go_ret
  exact DoIs.yes (by rw [HX1.out.1]) HBN.out (by rw [HX1.out.2]; exact HN.out)
 ·have hen : (er == 0) = false := by simpa using he
  go_wp2_with fail
  go_ret
  exact DoIs.no HX.out.1 he HB3.out
end Go.Proofs.YtbogjfbfgbhdbaaGreatDoor
namespace Go.Proofs.YtbogjfbfgbhdbaaGreatDoor
open List renaming setIfInBounds_toArray → jA, set_cons_zero → jB, set_cons_succ → jC, getElem_toArray → jD, getElem_cons_zero → jE, getElem_cons_succ → jF
set_option linter.unusedVariables false
set_option linter.unusedSimpArgs false
open Go.RowKit
set_option linter.unusedVariables false
set_option linter.unusedSimpArgs false
section
variable {α : Type} {p : α → Bool}
def keptL (p : α → Bool) (l : List α) : List α := l.filter (fun r => !p r)
theorem kept_all {l : List α} (h : ∀ r ∈ l, p r = false) : keptL p l = l := List.filter_eq_self.2 fun r hr => by rw [h r hr]; rfl
theorem kept_snoc_no {l : List α} {k : Nat} {r : α} (e : l[k]? = some r) (h : p r = true) : keptL p (l.take (k + 1)) = keptL p (l.take k) := by
 rw [take_snocG e]; unfold keptL; rw [List.filter_append, List.filter_cons_of_neg (by simp [h]), List.filter_nil, List.append_nil]
theorem kept_snoc_yes {l : List α} {k : Nat} {r : α} (e : l[k]? = some r) (h : p r = false) : keptL p (l.take (k + 1)) = keptL p (l.take k) ++ [r] := by
 rw [take_snocG e]; unfold keptL; rw [List.filter_append, List.filter_cons_of_pos (by simp [h]), List.filter_nil]
def SweptG (p : α → Bool) (l m : List α) (i j : Nat) : Prop := m.length = l.length ∧ i < j ∧ j ≤ l.length ∧ m.take i = keptL p (l.take j) ∧ m.drop j = l.drop j
theorem SweptG.at_ {l m : List α} {i j : Nat} (h : SweptG p l m i j) : m[j]? = l[j]? := by
 obtain ⟨_, _, _, _, h⟩ := h
 have := congrArg (fun q => q[0]?) h
 simpa using this
theorem SweptG.no {l m : List α} {i j : Nat} {r : α} (h : SweptG p l m i j) (e : l[j]? = some r) (hr : p r = true) : SweptG p l m i (j + 1) := by
 obtain ⟨h1, h2, h3, h4, h5⟩ := h
 have hj : j < l.length := (List.getElem?_eq_some_iff.1 e).1
 refine ⟨h1, by omega, by omega, by rw [kept_snoc_no e hr, h4], ?_⟩
 rw [← List.drop_drop, ← List.drop_drop, h5]
theorem SweptG.yes {l m : List α} {i j : Nat} {r : α} (h : SweptG p l m i j) (e : l[j]? = some r) (hr : p r = false) : SweptG p l (m.set i r) (i + 1) (j + 1) := by
 obtain ⟨h1, h2, h3, h4, h5⟩ := h
 have hj : j < l.length := (List.getElem?_eq_some_iff.1 e).1
 refine ⟨by rw [List.length_set, h1], by omega, by omega, ?_, ?_⟩
 ·rw [kept_snoc_yes e hr, ← h4, take_snocG (l := m.set i r) (k := i) (a := r) (by rw [List.getElem?_set_self (by omega)]), List.take_set_of_le (Nat.le_refl _)]
 ·rw [List.drop_set_of_lt (by omega), ← List.drop_drop, ← List.drop_drop, h5]
theorem SweptG.start {l : List α} {j : Nat} {r : α} (hu : ∀ x ∈ l.take j, p x = false) (e : l[j]? = some r) (hr : p r = true) : SweptG p l l j (j + 1) := by
 have hj : j < l.length := (List.getElem?_eq_some_iff.1 e).1
 exact ⟨rfl, by omega, by omega, by rw [kept_snoc_no e hr, kept_all hu], rfl⟩
theorem SweptG.done {l m : List α} {i : Nat} (h : SweptG p l m i l.length) : m.take i = keptL p l ∧ i < l.length ∧ i ≤ m.length := by
 obtain ⟨h1, h2, h3, h4, h5⟩ := h
 rw [List.take_of_length_le (Nat.le_refl _)] at h4
 exact ⟨h4, h2, by omega⟩
end
def DelFIs (p : Tmb → Bool) (base c : Nat) (l : List Tmb) (w : World) (e : Ending) (w' : World) : Prop :=
 ∃ A' n', e = .returned (.slice A' n' c) ∧ TombsO w' base A' n' c (keptL p l) ∧ Below base w w' ∧ Chg 51 base w w'
set_option maxRecDepth 20000 in
set_option maxHeartbeats 8000000 in
theorem zDeleteFTb_any (base fn : Nat) (caps : Array Value) (p : Tmb → Bool) (A : Option Addr) (n c : Nat) (l : List Tmb) (w : World) (hl : TombsO w base A n c l) (hs : ∀ t ∈ l, t.msg.body.length ≤ 100000) (hn : n ≤ 1000000) (hbw : base ≤ w.heap.size)
 (hg : Enters Tryz.prog fn) (hc : ∀ (W : World) (x : Th), w.grownBy W (Value.slice A n c).ownBlock → x.t ∈ l → ThIn W W.heap.size x → Calls Tryz.prog fn (#[.agg (thA x)] ++ caps) W fun e W' => e = .returned (.bool (p x.t)) ∧ Below W.heap.size W W') :
 Calls Tryz.prog 181 #[.slice A n c, .func (.func fn) #[] caps] w (DelFIs p base c l w) := by
 have hin := TombsO.in_ hl hs hbw
 have CI := Lib.hid (zIndexTb_any fn caps p A n c l w hin (by omega) hg (fun W x hW hx hQ => hc W x (grownB hW _) hx hQ))
 obtain ⟨us, h1, h2, rfl⟩ := hl
 have HO := Lib.hid h1
 have HP := Lib.hid h2
 have HC := Lib.hid hc
 have HG := Lib.hid hg
 have HSZ := Lib.hid hs
 have HL := Lib.hid h1.len
 clear h1 h2 hc hg hin hs
 go_enter Tryz.func181, Tryz.ntmps181
 go_wp2_with fail
 refine CI.out.mono ?_
 rintro e w1 ⟨z, rfl, hz, hz1, hz2, hb⟩
 have HB := Lib.hid hb
 clear hb CI
 by_cases hz0 : z = -1
 ·subst hz0
  have hall : ∀ b ∈ us.map Th.t, p b = false := idx_zero.1 (by omega)
  have HALL := Lib.hid hall
  clear hall
  go_wp2_with fail
  go_ret
  refine ⟨A, n, rfl, ⟨us, HO.out.below HB.out, fun x hx => thOwns.below (HP.out x hx) HB.out, (kept_all HALL.out).symm⟩, HB.out.mono hbw, ⟨HB.out.mono hbw, none, ?_, fun b cs t fr q => by cases q⟩⟩
  exact grownB HB.out none
 obtain ⟨j, a, hj1, hja, hpa, hjall⟩ := idx_at (p := p) (l := us.map Th.t) (by omega)
 obtain rfl : z = (j : Int) := by omega
 have hjn : j < n := by have := (List.getElem?_eq_some_iff.1 hja).1; rw [List.length_map, HL.out] at this; exact this
 obtain ⟨r, hr⟩ : ∃ r, us[j]? = some r := ⟨_, List.getElem?_eq_getElem (by rw [HL.out]; exact hjn)⟩
 have hra : r.t = a := by rw [List.getElem?_map, hr] at hja; exact Option.some.inj hja
 have hjall' : ∀ x ∈ us.take j, (fun h : Th => p h.t) x = false := fun x hx => hjall _ (by rw [← List.map_take]; exact List.mem_map_of_mem hx)
 have HSW := Lib.hid (SweptG.start (p := fun h : Th => p h.t) hjall' hr (by show p r.t = true; rw [hra]; exact hpa))
 obtain ⟨g, rfl, hbg, hR⟩ := HO.out.rows (by omega)
 have HR := Lib.hid (hR.below HB.out)
 have HGB := Lib.hid hbg
 have HGR : Hid (w.grownBy w1 (some g)) := Lib.hid (grownB HB.out (some g))
 have hj1' : ((j : Int) == -1) = false := by simp
 have hnc : n ≤ c := HO.out.cap.1
 have hcm : c ≤ 9223372036854775807 := HO.out.cap.2
 clear hr hra hjall hjall' hja hpa hz hz1 hz2 hR hbg hj1 hz0
 go_wp2_with fail
 go_loopw [5, 6] (fun a b wx => ∃ (i j : Nat) (m : List Th), a = .int .i64 (i : Int) ∧ b = .int .i64 (j : Int) ∧ j ≤ n ∧ i < j ∧ SweptG (fun h : Th => p h.t) us m i j ∧ RowsK 7 thC wx 51 g c m ∧ w.grownBy wx (some g)) (fun _ b _ => n - (intOf b).toNat)
 case atStart => exact ⟨j, j + 1, us, rfl, by go_num, by omega, by omega, HSW.out, HR.out, HGR.out⟩
 case round =>
  clear HSW HR HGR
  obtain ⟨i, q, m, rfl, rfl, hq, hiq, hsw, hrw, hgr⟩ := hrel
  have HSW := Lib.hid hsw
  have HR := Lib.hid hrw
  have HGR := Lib.hid hgr
  have HBW : Hid (Below base w wr) := Lib.hid ((Below.refl base w).grown hgr hbw (fun z hz => by injection hz with hz; have := HGB.out; omega))
  clear hsw hrw hgr
  by_cases hlt : q < n
  ·obtain ⟨x, hx⟩ : ∃ x, us[q]? = some x := ⟨us[q]'(by rw [HL.out]; exact hlt), List.getElem?_eq_getElem _⟩
   have HX := Lib.hid hx
   have hxm := List.mem_of_getElem? hx
   have HRX := Lib.hid (HR.out.range (HSW.out.at_.trans hx))
   have hq0 : (0 : Int) ≤ (q : Int) := by omega
   have hqn : (q : Int) < (n : Int) := by omega
   have hch : Chg 51 base w wr := ⟨HBW.out, some g, HGR.out, fun b cs t fr e1 _ hh => by
    injection e1 with e1
    subst e1
    obtain ⟨g', hge, _, hR0⟩ := HO.out.rows (by omega)
    injection hge with hge
    injection hge with hge
    subst hge
    obtain ⟨cur, _, hbk, _, _⟩ := hR0.2.2.2
    unfold Bk at hbk
    rw [hbk] at hh
    injection hh with hh
    injection hh with _ e2 _
    exact e2.symm⟩
   have hxo : ThO wr base x := thOwns.chg (HP.out x hxm) hch (by decide)
   have hxs := HSZ.out _ (List.mem_map_of_mem hxm)
   have hxin : ThIn wr wr.heap.size x := ⟨OwnB.bytes hxo, by have := OwnB.len hxo; omega⟩
   have HXIN := Lib.hid hxin
   have HXM := Lib.hid hxm
   clear hx hxm hch hxo hxs hxin
   obtain ⟨⟨id, nm, a, u, f, d, bl⟩, xA, xn, xc⟩ := x
   have hba : Below wr.heap.size wr (wr.alloc (.cells #[.int .i64 id, .string nm, .int .i64 a, .int .i64 u, .int .i64 f, .int .i64 d, .slice xA xn xc] 51)) := (Below.refl _ _).alloc (Nat.le_refl _) _
   have CS : Hid (Calls Tryz.prog fn (#[.agg #[.int .i64 id, .string nm, .int .i64 a, .int .i64 u, .int .i64 f, .int .i64 d, .slice xA xn xc]] ++ caps) (wr.alloc (.cells #[.int .i64 id, .string nm, .int .i64 a, .int .i64 u, .int .i64 f, .int .i64 d, .slice xA xn xc] 51)) fun e W' => e = .returned (.bool (p ⟨id, nm, a, ⟨u, f, d, bl⟩⟩)) ∧ Below (wr.alloc (.cells #[.int .i64 id, .string nm, .int .i64 a, .int .i64 u, .int .i64 f, .int .i64 d, .slice xA xn xc] 51)).heap.size (wr.alloc (.cells #[.int .i64 id, .string nm, .int .i64 a, .int .i64 u, .int .i64 f, .int .i64 d, .slice xA xn xc] 51)) W') := Lib.hid (HC.out _ ⟨⟨id, nm, a, ⟨u, f, d, bl⟩⟩, xA, xn, xc⟩ (grown_trans HGR.out (grownB hba (some g))) (List.mem_map_of_mem HXM.out) (thStays.later_ HXIN.out hba))
   have HBA := Lib.hid hba
   have m0 := (Bk.new wr 51 #[.int .i64 id, .string nm, .int .i64 a, .int .i64 u, .int .i64 f, .int .i64 d, .slice xA xn xc]).cell 0
   have m1 := (Bk.new wr 51 #[.int .i64 id, .string nm, .int .i64 a, .int .i64 u, .int .i64 f, .int .i64 d, .slice xA xn xc]).cell 1
   have m2 := (Bk.new wr 51 #[.int .i64 id, .string nm, .int .i64 a, .int .i64 u, .int .i64 f, .int .i64 d, .slice xA xn xc]).cell 2
   have m3 := (Bk.new wr 51 #[.int .i64 id, .string nm, .int .i64 a, .int .i64 u, .int .i64 f, .int .i64 d, .slice xA xn xc]).cell 3
   have m4 := (Bk.new wr 51 #[.int .i64 id, .string nm, .int .i64 a, .int .i64 u, .int .i64 f, .int .i64 d, .slice xA xn xc]).cell 4
   have m5 := (Bk.new wr 51 #[.int .i64 id, .string nm, .int .i64 a, .int .i64 u, .int .i64 f, .int .i64 d, .slice xA xn xc]).cell 5
   have m6 := (Bk.new wr 51 #[.int .i64 id, .string nm, .int .i64 a, .int .i64 u, .int .i64 f, .int .i64 d, .slice xA xn xc]).cell 6
   have HKN := Lib.hid (Bk.new wr 51 #[.int .i64 id, .string nm, .int .i64 a, .int .i64 u, .int .i64 f, .int .i64 d, .slice xA xn xc])
   clear hba
   go_wp2_with ((with_reducible show wpList _ _ _ (⟨some 25, _, _, _, _, _⟩ :: _) _ _); refine hold ?_)
   refine held (wpList_load_mid rfl 51 (.tmp 24) rfl g (q * 7) rfl (thC ⟨⟨id, nm, a, ⟨u, f, d, bl⟩⟩, xA, xn, xc⟩) _ HRX.out Tryz.underlying51 rfl (by kernel_rfl) ?_)
   unfold thC
   go_wp2_with fail
   rw [HG.out]
   refine CS.out.mono ?_
   rintro e w3 ⟨rfl, hb3⟩
   have K3 := Lib.hid (HKN.out.below hb3 HKN.out.lt)
   have R3 := Lib.hid ((HR.out.below HBA.out).below hb3)
   have G3 := Lib.hid (grown_trans (grown_trans HGR.out (grownB HBA.out (some g))) (grownB hb3 (some g)))
   clear hb3 HR HGR HRX CS HBA HKN m0 m1 m2 m3 m4 m5 m6 HXIN HXM HBW
   cases hok : p ⟨id, nm, a, ⟨u, f, d, bl⟩⟩
   ·have HS := Lib.hid (HSW.out.yes HX.out (show (fun h : Th => p h.t) ⟨⟨id, nm, a, ⟨u, f, d, bl⟩⟩, xA, xn, xc⟩ = false from hok))
    have hi0 : (0 : Int) ≤ (i : Int) := by omega
    have hin : (i : Int) < (n : Int) := by omega
    have him : i < m.length := by have := HSW.out.1; have := HL.out; omega
    clear hok
    go_wp2_with ((with_reducible show wpList _ _ _ (⟨some 32, _, _, _, _, _⟩ :: _) _ _); refine hold ?_)
    refine held (wpList_load_mid rfl 51 (.tmp 7) rfl wr.heap.size 0 rfl _ _ K3.out.range Tryz.underlying51 rfl (by kernel_rfl) ?_)
    go_wp2_with ((with_reducible show wpList _ _ _ (⟨none, _, _, _, _, _⟩ :: _) _ _); refine hold ?_)
    refine held (wpList_store_row rfl 51 (.tmp 33) (.tmp 32) rfl R3.out i him (⟨⟨id, nm, a, ⟨u, f, d, bl⟩⟩, xA, xn, xc⟩ : Th) rfl rfl (by kernel_rfl) (thC_one _) ?_)
    intro w5 hR5 hg5
    have R5 := Lib.hid hR5
    have G5 := Lib.hid (grown_trans G3.out hg5)
    clear hR5 hg5 R3 G3 K3
    go_wp2_with fail
    go_roundw
    case rel => exact ⟨i + 1, q + 1, _, by go_num, by go_num, by omega, by omega, HS.out, R5.out, G5.out⟩
    case measure => simp [intOf]; omega
   ·have HS := Lib.hid (HSW.out.no HX.out (show (fun h : Th => p h.t) ⟨⟨id, nm, a, ⟨u, f, d, bl⟩⟩, xA, xn, xc⟩ = true from hok))
    clear hok K3
    go_wp2_with fail
    go_roundw
    case rel => exact ⟨i, q + 1, m, rfl, by go_num, by omega, by omega, HS.out, R3.out, G3.out⟩
    case measure => simp [intOf]; omega
  ·have hqn : ¬ (q : Int) < (n : Int) := by omega
   obtain rfl : q = us.length := by have := HL.out; omega
   have HD := Lib.hid HSW.out.done
   have hin : i < n := by have := HD.out.2.1; have := HL.out; omega
   have him : i ≤ m.length := HD.out.2.2
   have hi0 : (0 : Int) ≤ (i : Int) := by omega
   have hil : (i : Int) ≤ (n : Int) := by omega
   have hic : ¬ (c = i) := by omega
   obtain ⟨cur, hB, hs, hPP⟩ := HR.out.cut him
   have HPC := Lib.hid hPP
   have hzs : (Builtin.zeroCells (Value.cells (.agg #[.int .i64 0, .string ByteArray.empty, .int .i64 0, .int .i64 0, .int .i64 0, .int .i64 0, .slice none 0 0])) (n - i)).size = (n - i) * 7 := by rw [size_zeroCells]; rfl
   have HCL := Lib.hid (fun ty cc => run_clear_k (P := Tryz.prog) wr 25 51 ty (.agg #[.int .i64 0, .string ByteArray.empty, .int .i64 0, .int .i64 0, .int .i64 0, .int .i64 0, .slice none 0 0]) Tryz.underlying25 Tryz.zeroValue51 g (i * 7) (n - i) cc (by omega) cur 51 hB (zero_Tb _) (by rw [hzs, hs, ← Nat.add_mul]; exact Nat.mul_le_mul_right _ (by omega)))
   have HP2 := Lib.hid (HPC.out (Builtin.zeroCells (Value.cells (.agg #[.int .i64 0, .string ByteArray.empty, .int .i64 0, .int .i64 0, .int .i64 0, .int .i64 0, .slice none 0 0])) (n - i)).toList (by rw [Array.length_toList, hzs, ← Nat.add_mul]; exact Nat.mul_le_mul_right _ (by omega)))
   clear hPP hs hzs HPC
   go_wp2_with ((with_reducible show wpList _ _ _ (⟨none, _, _, _, _, _⟩ :: _) _ _); refine hold ?_)
   refine held (wpList_plain rfl fun K hK => wp_clear_k (s := .tmp 38) rfl rfl (HCL.out _ _) (hK _ _ ?_))
   have R5 := Lib.hid HP2.out
   have G5 := Lib.hid (fun cs => grown_trans HGR.out (grown_setRow wr g cs))
   have HCH : Hid (∀ w', w.grownBy w' (some g) → Chg 51 base w w') := Lib.hid (fun w' hg => Chg.row (v := .slice (some ⟨g, 0, none⟩) n c) HO.out.1 hg ((Below.refl base w).grown hg hbw (fun z hz => by injection hz with hz; have := HGB.out; omega)))
   go_wp2_with fail
   go_ret
   refine ⟨some ⟨g, 0, none⟩, i, rfl, ⟨keptL (fun h : Th => p h.t) us, ?_, fun x hx => thOwns.chg (HP.out x (List.mem_filter.1 hx).1) (HCH.out _ (G5.out _)) (by decide), ?_⟩, (HCH.out _ (G5.out _)).1, HCH.out _ (G5.out _)⟩
   ·have := R5.out.own HGB.out
    rw [HD.out.1, show (keptL (fun h : Th => p h.t) us).length = i by rw [← HD.out.1, List.length_take]; omega] at this
    exact this
   ·unfold keptL
    rw [List.filter_map]
    rfl
end Go.Proofs.YtbogjfbfgbhdbaaGreatDoor
namespace Go.Proofs.YtbogjfbfgbhdbaaGreatDoor
open List renaming setIfInBounds_toArray → jA, set_cons_zero → jB, set_cons_succ → jC, getElem_toArray → jD, getElem_cons_zero → jE, getElem_cons_succ → jF
set_option linter.unusedVariables false
set_option linter.unusedSimpArgs false
open Go.RowKit
set_option linter.unusedVariables false
set_option linter.unusedSimpArgs false
set_option maxRecDepth 20000 in
set_option maxHeartbeats 4000000 in
theorem zIndexIn_any (g : Nat) (caps : Array Value) (p : Int → Bool) (A : Option Addr) (n c : Nat) (l : List Int) (w : World) (hl : IntsIn w w.heap.size A n l) (hn : n ≤ 140737488355328)
 (hg : Enters Tryz.prog g) (hc : CallP Tryz.prog g caps (fun x => .int .i64 x) TrueP (id : Int → Int) l p w) :
 Calls Tryz.prog 229 #[.slice A n c, .func (.func g) #[] caps] w (IsAt l p w) := by
 have HL := Lib.hid hl
 have HC := Lib.hid hc
 have HG := Lib.hid hg
 clear hl hc hg
 go_enter Tryz.func229, Tryz.ntmps229
 go_wp2_with fail
 go_loopw [8] (fun i wx => ∃ k : Nat, k ≤ n ∧ i = .int .i64 (k : Int) ∧ (∀ b ∈ l.take k, p b = false) ∧ Below w.heap.size w wx) (fun i _ => n - (intOf i).toNat)
 case atStart => exact ⟨0, Nat.zero_le _, rfl, fun b hb => by simp at hb, Below.refl _ _⟩
 case round =>
  obtain ⟨k, hk, rfl, ha, hb⟩ := hrel
  have HB := Lib.hid hb
  have HU := Lib.hid ha
  clear ha hb
  by_cases hlt : k < n
  ·obtain ⟨b, o, x, rfl, hbb, hla, htk, hrow, hin⟩ := (HL.out.below trueStays HB.out (Nat.le_refl _)).at_ hlt
   have HLA := Lib.hid hla
   have HTK := Lib.hid htk
   have HROW := Lib.hid hrow
   have hk0 : (0 : Int) ≤ (k : Int) := by omega
   have hkn : (k : Int) < (n : Int) := by omega
   have CI := Lib.hid (HC.out wr x HB.out (List.mem_of_getElem? hla) (trueStays.more hin HB.out.size))
   have c0 := rowI hrow
   rw [Nat.mul_one] at c0
   clear hla htk hrow hin
   go_wp2_with fail
   rw [HG.out]
   refine CI.out.mono ?_
   rintro e w' ⟨rfl, hb2⟩
   have HB2 := Lib.hid (HB.out.trans (hb2.mono HB.out.size))
   clear hb2 CI
   cases hok : p ((id : Int → Int) x)
   ·have HS := Lib.hid (none_next HU.out HTK.out hok)
    clear hok
    go_wp2_with fail
    go_roundw
    case rel => exact ⟨k + 1, by omega, by go_num, HS.out, HB2.out⟩
    case measure => simp [intOf]; omega
   ·have HS := Lib.hid (idx_hit HU.out HLA.out hok)
    clear hok
    go_wp2_with fail
    go_ret
    exact ⟨(k : Int), rfl, by rw [HS.out]; simp, by omega, by omega, HB2.out⟩
  ·have hkn : ¬ (k : Int) < (n : Int) := by omega
   have HS := Lib.hid (none_all HU.out HL.out.len hlt)
   go_wp2_with fail
   go_ret
   exact ⟨-1, rfl, by rw [HS.out]; rfl, by omega, by omega, HB.out⟩
set_option maxHeartbeats 1000000 in
theorem zContainsIn_any (g : Nat) (caps : Array Value) (p : Int → Bool) (A : Option Addr) (n c : Nat) (l : List Int) (w : World) (hl : IntsIn w w.heap.size A n l) (hn : n ≤ 140737488355328)
 (hg : Enters Tryz.prog g) (hc : CallP Tryz.prog g caps (fun x => .int .i64 x) TrueP (id : Int → Int) l p w) :
 Calls Tryz.prog 176 #[.slice A n c, .func (.func g) #[] caps] w (SaysB (l.any p) w) := by
 have CI := Lib.hid (zIndexIn_any g caps p A n c l w hl hn hg hc)
 clear hl hc hg
 go_enter Tryz.func176, Tryz.ntmps176
 go_wp2_with fail
 refine CI.out.mono ?_
 rintro e w' ⟨z, rfl, hz, hz1, hz2, hb⟩
 have HZ := Lib.hid hz
 have HB := Lib.hid hb
 clear hz hb CI
 by_cases h0 : 0 ≤ z
 ·have HR : Hid (l.any p = true) := Lib.hid (by rw [← idx_any]; have := HZ.out; exact decide_eq_true (by omega))
  go_wp2_with fail
  go_ret
  exact ⟨by rw [HR.out] <;> rfl, HB.out⟩
 ·have HR : Hid (l.any p = false) := Lib.hid (by rw [← idx_any]; have := HZ.out; exact decide_eq_false (by omega))
  go_wp2_with fail
  go_ret
  exact ⟨ret_bool (by rw [HR.out] <;> first | rfl | exact decide_eq_false (by omega)), HB.out⟩
end Go.Proofs.YtbogjfbfgbhdbaaGreatDoor
namespace Go.Proofs.YtbogjfbfgbhdbaaGreatDoor
open List renaming setIfInBounds_toArray → jA, set_cons_zero → jB, set_cons_succ → jC, getElem_toArray → jD, getElem_cons_zero → jE, getElem_cons_succ → jF
set_option linter.unusedVariables false
set_option linter.unusedSimpArgs false
open Go.RowKit
set_option linter.unusedVariables false
set_option linter.unusedSimpArgs false
end Go.Proofs.YtbogjfbfgbhdbaaGreatDoor
