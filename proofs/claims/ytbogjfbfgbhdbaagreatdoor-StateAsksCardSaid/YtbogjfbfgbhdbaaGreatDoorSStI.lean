/-
  A part of the proof: see the last text.
-/
import Derived.Test.YtbogjfbfgbhdbaaGreatDoorSRuleH
import Derived.BigRegion
namespace Go.Proofs.YtbogjfbfgbhdbaaGreatDoor
open List renaming setIfInBounds_toArray → jA, set_cons_zero → jB, set_cons_succ → jC, getElem_toArray → jD, getElem_cons_zero → jE, getElem_cons_succ → jF
set_option linter.unusedVariables false
set_option linter.unusedSimpArgs false
open Go.RowKit
set_option linter.unusedVariables false
set_option linter.unusedSimpArgs false
set_option maxRecDepth 20000 in
set_option maxHeartbeats 4000000 in
theorem swkeep_any (base bs : Nat) (s : Sta) (p : StaAt) (box : ByteArray) (keep : Int) (w : World) (h : ScAt 73 w base bs s p) (hr : riseR s.rules) (hn : s.rules.length ≤ 1000) :
    Calls Tryz.prog 102 #[.pointer (some ⟨bs, 0, none⟩), .string box, .int .i64 keep] w (DoIs 73 base bs (ruleS s box keep) w) := by
  obtain ⟨cl, boxes, subs, rules, tombs, holds, nv, nt, nh⟩ := s
  obtain ⟨⟨bA, bn, bc⟩, ⟨sA, sn, sc⟩, ⟨rA, rn, rc⟩, ⟨tA, tn, tc⟩, ⟨gA, gn, gc⟩⟩ := p
  have hk : Bk w bs 73 #[.int .i64 cl, .slice bA bn bc, .slice sA sn sc, .slice rA rn rc, .slice tA tn tc, .slice gA gn gc, .int .i64 nv, .int .i64 nt, .int .i64 nh] := h.bk
  have hrn : rules.length = rn := h.own.ru.len
  have CI := Lib.hid (rlSet_any rA rn rc rules box keep w h.own.ru.col (by simp only at hn; omega) hr)
  have HH := Lib.hid h
  have k3 := hk.cell 3
  clear h hr hn hk hrn
  go_enter Tryz.func102, Tryz.ntmps102
  go_wp2_with fail
  refine CI.out.mono ?_
  rintro e w2 ⟨rB, rm, rd, rfl, ho, hb⟩
  have h2 := HH.out.below hb
  have hk2 : Bk w2 bs 73 #[.int .i64 cl, .slice bA bn bc, .slice sA sn sc, .slice rA rn rc, .slice tA tn tc, .slice gA gn gc, .int .i64 nv, .int .i64 nt, .int .i64 nh] := h2.bk
  have hch := Chg.sc h2 3 (.slice rB rm rd)
  have hst := h2.own.chg hch notT_scribe
  have hlen : (setR rules box keep).length = rm := ho.len
  have HS : Hid (ScAt 73 (w2.setCell ⟨bs, 3, none⟩ (.slice rB rm rd)) base bs ⟨cl, boxes, subs, setR rules box keep, tombs, holds, nv, nt, nh⟩ ⟨⟨bA, bn, bc⟩, ⟨sA, sn, sc⟩, ⟨rB, rm, rd⟩, ⟨tA, tn, tc⟩, ⟨gA, gn, gc⟩⟩) := Lib.hid ⟨⟨hst.bx, hst.sb, (ho.from_ HH.out.base).chg hch (by decide), hst.tb, hst.ho⟩, by have := hk2.put 3 (.slice rB rm rd); simp at this; exact this, h2.hb⟩
  have HB := Lib.hid (((Below.refl base w).trans (hb.mono HH.out.base)).trans hch.1)
  have k3' := hk2.cell 3
  have z3 := hk2.frozen 3
  have hE : (ruleS ⟨cl, boxes, subs, rules, tombs, holds, nv, nt, nh⟩ box keep).2 = if 16 < rm then 8 else 0 := by unfold ruleS; rw [← hlen]
  have HE := Lib.hid hE
  clear h2 hk2 hch hst ho hb CI k3 hlen hE
  by_cases h16 : 16 < rm
  · have h16' : (16 : Int) < (rm : Int) := by omega
    go_wp2_with fail
    go_ret
    exact DoIs.no (by rw [HE.out, if_pos h16]) (by omega) HB.out
  · have h16' : ¬ (16 : Int) < (rm : Int) := by omega
    go_wp2_with fail
    go_ret
    exact DoIs.yes (by rw [HE.out, if_neg h16]) HB.out HS.out
theorem copyL_cons {b : Bx} {x : Mg} {l : List Mg} (hx : addE b x = 0) : copyL b (x :: l) = copyL (addB b x) l := by
  show (if addE b x = 0 then _ else _) = _
  rw [if_pos hx]
theorem copyL_snoc (b : Bx) : ∀ (l : List Mg) (m : Mg), (copyL b l).2 = 0 → copyL b (l ++ [m]) = if addE (copyL b l).1 m = 0 then (addB (copyL b l).1 m, 0) else ((copyL b l).1, addE (copyL b l).1 m)
  | [], m, _ => by
    show copyL b [m] = _
    unfold copyL
    show _ = if addE b m = 0 then _ else _
    split <;> rfl
  | x :: l, m, h => by
    by_cases hx : addE b x = 0
    · rw [copyL_cons hx] at h ⊢
      rw [List.cons_append, copyL_cons hx]
      exact copyL_snoc _ l m h
    · unfold copyL at h
      rw [if_neg hx] at h
      exact absurd h hx
theorem copyL_stop (b : Bx) : ∀ (l : List Mg) (j : Nat) (m : Mg) (z : Int), (copyL b (l.take j)).2 = 0 → l[j]? = some m → addE (copyL b (l.take j)).1 m = z → z ≠ 0 → (copyL b l).2 = z
  | [], j, m, z, _, h, _, _ => by simp at h
  | x :: l, 0, m, z, _, h, h2, h3 => by
    have e : x = m := by simpa using h
    subst e
    have h2' : addE b x = z := h2
    unfold copyL
    rw [if_neg (by rw [h2']; exact h3)]
    exact h2'
  | x :: l, j + 1, m, z, h0, h, h2, h3 => by
    rw [List.take_succ_cons] at h0 h2
    unfold copyL at h0 h2 ⊢
    by_cases hx : addE b x = 0
    · rw [if_pos hx] at h0 h2 ⊢
      exact copyL_stop _ l j m z h0 (by simpa using h) h2 h3
    · rw [if_neg hx] at h0
      exact absurd h0 hx
noncomputable def addsS (s : Sta) (name : ByteArray) (l : List Mg) : Sta × Int :=
  if boxN s.boxes name = 0 then (s, 6) else (setAt s name (copyL (boxAt s.boxes name) l).1, (copyL (boxAt s.boxes name) l).2)
theorem set_same {α : Type} {l : List α} {i : Nat} {a : α} (h : l[i]? = some a) : l.set i a = l := by
  obtain ⟨hi, e⟩ := List.getElem?_eq_some_iff.1 h
  rw [← e, List.set_getElem_self]
theorem grownB {w w' : World} (h : Below w.heap.size w w') (row : Option Nat) : w.grownBy w' row := ⟨h.os, h.tape, h.output, h.size, fun k hk _ => h.block k hk⟩
def DoAdd (t : TypeId) (base bs : Nat) (r : Sta × Int) (row : Option Nat) (w : World) (e : Ending) (w' : World) : Prop := DoIs t base bs r w e w' ∧ w.grownBy w' row
def stBox (s : Sta) (i : Nat) (b : Bx) : Sta := { s with boxes := s.boxes.set i b }
set_option maxRecDepth 20000 in
set_option maxHeartbeats 16000000 in
theorem swadd_any (base bs : Nat) (s : Sta) (p : StaAt) (name : ByteArray) (A : Option Addr) (n c : Nat) (l : List Mg) (w : World) (h : ScAt 73 w base bs s p) (hok : ∀ b ∈ s.boxes, OkBx b) (hs : SmSta s) (hl : MsgsV w base A n c l) (hn : n ≤ 100000) :
    Calls Tryz.prog 97 #[.pointer (some ⟨bs, 0, none⟩), .string name, .slice A n c] w (DoAdd 73 base bs (addsS s name l) (Value.slice p.bx.A p.bx.n p.bx.c).ownBlock w) := by
  have hmx : Tryz.prog.follows .mixedOrders = true := by kernel_rfl
  obtain ⟨cl, boxes, subs, rules, tombs, holds, nv, nt, nh⟩ := s
  obtain ⟨⟨bA, bn, bc⟩, ⟨sA, sn, sc⟩, ⟨rA, rn, rc⟩, ⟨tA, tn, tc⟩, ⟨gA, gn, gc⟩⟩ := p
  have hk : Bk w bs 73 #[.int .i64 cl, .slice bA bn bc, .slice sA sn sc, .slice rA rn rc, .slice tA tn tc, .slice gA gn gc, .int .i64 nv, .int .i64 nt, .int .i64 nh] := h.bk
  obtain ⟨k0, k1, k2, k3, k4, k5, k6, k7, k8⟩ := hk.nine
  have hbin : BoxesIn w w.heap.size bA bn boxes := h.own.bx.in_ hs.bx h.base
  have hbl : boxes.length = bn := h.own.bx.len
  have CI := Lib.hid (stboxAt_any cl nv nt nh bA sA rA tA gA bn bc sn sc rn rc tn tc gn gc boxes name w hbin (by have := hs.lens.1; simp only at this; omega))
  have HH := Lib.hid h
  have HL := Lib.hid hl
  have HOK := Lib.hid hok
  clear h hok hs hl hk hbin
  go_enter Tryz.func97, Tryz.ntmps97
  go_wp2_with fail
  refine CI.out.mono ?_
  rintro e w1 ⟨z, rfl, hz, hz1, hz2, hb⟩
  rw [← boxN_idx] at hz
  have H1 := Lib.hid (HH.out.below hb)
  have HL1 := Lib.hid (HL.out.below hb)
  have HB1 : Hid (Below base w w1) := Lib.hid (hb.mono HH.out.base)
  have HG1 : Hid (w.grownBy w1 (Value.slice bA bn bc).ownBlock) := Lib.hid (grownB hb _)
  clear hb CI k0 k1 k2 k3 k4 k5 k6 k7 k8 HH HL
  by_cases hz0 : z < 0
  · have hE : boxN boxes name = 0 := by omega
    have HE : Hid ((addsS ⟨cl, boxes, subs, rules, tombs, holds, nv, nt, nh⟩ name l).2 = 6) := Lib.hid (by unfold addsS; rw [if_pos hE])
    go_wp2_with fail
    go_ret
    exact ⟨DoIs.no HE.out (by omega) HB1.out, HG1.out⟩
  have hE : boxN boxes name ≠ 0 := by omega
  obtain ⟨pos, rfl⟩ : ∃ pos : Nat, z = (pos : Int) := ⟨z.toNat, by omega⟩
  have hpos : boxN boxes name - 1 = pos := by omega
  have hposn : pos < bn := by have := boxN_le boxes name; omega
  obtain ⟨hg1, hg2, hg3⟩ := boxAt_get hE
  rw [hpos] at hg1
  obtain ⟨b0, hb0⟩ : ∃ b0, boxAt boxes name = b0 := ⟨_, rfl⟩
  rw [hb0] at hg1 hg3
  have HOB := Lib.hid (HOK.out b0 hg3)
  have HR2 : Hid ((addsS ⟨cl, boxes, subs, rules, tombs, holds, nv, nt, nh⟩ name l).2 = (copyL b0 l).2) := Lib.hid (by unfold addsS; rw [if_neg hE, hb0])
  have HR1 : Hid ((addsS ⟨cl, boxes, subs, rules, tombs, holds, nv, nt, nh⟩ name l).1 = stBox ⟨cl, boxes, subs, rules, tombs, holds, nv, nt, nh⟩ pos (copyL b0 l).1) := Lib.hid (by unfold addsS setAt stBox; rw [if_neg hE, hb0, hpos])
  have HS0 : Hid (ScAt 73 w1 base bs (stBox ⟨cl, boxes, subs, rules, tombs, holds, nv, nt, nh⟩ pos (copyL b0 (l.take 0)).1) ⟨⟨bA, bn, bc⟩, ⟨sA, sn, sc⟩, ⟨rA, rn, rc⟩, ⟨tA, tn, tc⟩, ⟨gA, gn, gc⟩⟩) := Lib.hid (by
    have e : (stBox ⟨cl, boxes, subs, rules, tombs, holds, nv, nt, nh⟩ pos (copyL b0 (l.take 0)).1) = ⟨cl, boxes, subs, rules, tombs, holds, nv, nt, nh⟩ := by
      show (⟨cl, boxes.set pos b0, subs, rules, tombs, holds, nv, nt, nh⟩ : Sta) = _
      rw [set_same hg1]
    rw [e]; exact H1.out)
  have hposz : ¬ ((pos : Int) < 0) := by omega
  clear hE hg1 hg2 hg3 hb0 hpos hz hz1 hz2 hz0 HOK H1
  go_wp2_with fail
  go_loopw [23] (fun i wx => ∃ j : Nat, j ≤ n ∧ i = .int .i64 (j : Int) ∧ (copyL b0 (l.take j)).2 = 0 ∧ ScAt 73 wx base bs (stBox ⟨cl, boxes, subs, rules, tombs, holds, nv, nt, nh⟩ pos (copyL b0 (l.take j)).1) ⟨⟨bA, bn, bc⟩, ⟨sA, sn, sc⟩, ⟨rA, rn, rc⟩, ⟨tA, tn, tc⟩, ⟨gA, gn, gc⟩⟩ ∧ MsgsV wx base A n c l ∧ Below base w wx ∧ w.grownBy wx (Value.slice bA bn bc).ownBlock) (fun i _ => n - (intOf i).toNat)
  case atStart => exact ⟨0, Nat.zero_le _, rfl, rfl, HS0.out, HL1.out, HB1.out, HG1.out⟩
  case round =>
    obtain ⟨j, hj, rfl, hcp, hsc, hml, hbb, hgr⟩ := hrel
    have HGR := Lib.hid hgr
    have HCP := Lib.hid hcp
    have HSC := Lib.hid hsc
    have HML := Lib.hid hml
    have HBB := Lib.hid hbb
    clear hcp hsc hml hbb hgr HS0 HL1 HB1 HG1
    by_cases hlt : j < n
    · obtain ⟨bm, x, rfl, hbm1, hbm2, hla, htk, hrow, hbd⟩ := HML.out.at_ hlt
      obtain ⟨⟨u, f, d, bl⟩, xA, xn, xc⟩ := x
      have HOC : Hid (OkBx (copyL b0 (l.take j)).1) := Lib.hid (copyL_right HOB.out HCP.out).1
      have HSNOC := Lib.hid (copyL_snoc b0 (l.take j) ⟨u, f, d, bl⟩ HCP.out)
      rw [← htk] at HSNOC
      have HLA := Lib.hid hla
      have HROW := Lib.hid hrow
      have hk0 : (0 : Int) ≤ (j : Int) := by omega
      have hkn : (j : Int) < (n : Int) := by omega
      obtain ⟨⟨cn, cv, cx, cm⟩, hcb⟩ : ∃ q, (copyL b0 (l.take j)).1 = q := ⟨_, rfl⟩
      have HCB := Lib.hid hcb
      have hal : Below wr.heap.size wr (wr.alloc (.cells #[.int .i64 u, .int .i64 f, .int .i64 d, .slice xA xn xc] 49)) := (Below.refl _ _).alloc (Nat.le_refl _) _
      have hka : Bk (wr.alloc (.cells #[.int .i64 u, .int .i64 f, .int .i64 d, .slice xA xn xc] 49)) wr.heap.size 49 #[.int .i64 u, .int .i64 f, .int .i64 d, .slice xA xn xc] := Bk.new _ _ _
      have HSC1 := Lib.hid (HSC.out.below hal)
      have HML1 := Lib.hid (HML.out.below hal)
      have HBB1 := Lib.hid (HBB.out.trans (hal.mono HSC.out.base))
      have HBD1 := Lib.hid (hbd.below hal)
      have HKA := Lib.hid hka
      have HGR1 := Lib.hid (grown_trans HGR.out (grownB hal _))
      clear HGR hla htk hrow hbd hcb hal hka HSC HML HBB
      go_wp2_with ((with_reducible show wpList _ _ _ (⟨some 26, _, _, _, _, _⟩ :: _) _ _); refine hold ?_)
      refine held (wpList_load_mid rfl 49 (.tmp 25) rfl bm (j * 4) rfl (hdC ⟨⟨u, f, d, bl⟩, xA, xn, xc⟩) _ HROW.out Tryz.underlying49 rfl (by kernel_rfl) ?_)
      unfold hdC
      go_upto_region 7 with (fail)
      clear HROW
      generalize wr.alloc (.cells #[.int .i64 u, .int .i64 f, .int .i64 d, .slice xA xn xc] 49) = w3 at *
      have hbk : Bk w3 bs 73 #[.int .i64 cl, .slice bA bn bc, .slice sA sn sc, .slice rA rn rc, .slice tA tn tc, .slice gA gn gc, .int .i64 nv, .int .i64 nt, .int .i64 nh] := HSC1.out.bk
      have k1 := hbk.cell 1
      have lbs := hbk.lt
      have hown : BoxesO w3 base bA bn bc (boxes.set pos (copyL b0 (l.take j)).1) := HSC1.out.own.bx
      obtain ⟨g, y, rfl, hgb, hgl, hgl2, hy, ⟨r0, r1, r2, r3⟩, hfr⟩ := hown.row hposn
      obtain ⟨yb, yA, yn, yc⟩ := y
      have hyb : yb = ⟨cn, cv, cx, cm⟩ := by
        rw [List.getElem?_set_self (by omega), HCB.out] at hgl2
        exact (Option.some.inj hgl2).symm
      subst hyb
      have HY := Lib.hid (show OwnM w3 base yA yn yc cm from hy)
      simp only at r0 r1 r2 r3
      have hOC := HOC.out
      rw [HCB.out] at hOC
      have HYI : Hid (MsgsIn w3 w3.heap.size yA yn cm ∧ yn ≤ 1000000 ∧ ∀ m ∈ cm, m.body.length ≤ 1000000) := Lib.hid (by
        have hsm : ∀ m ∈ cm, m.body.length ≤ 2000 := fun m hm => by have := okMg_of (hOC.2.2.2.2.2.1 m hm).1; omega
        exact ⟨HY.out.msgs (fun m hm => Nat.le_trans (hsm m hm) (by omega)), by have h40 := hOC.2.2.2.2.1; have := HY.out.len; simp only at h40; omega, fun m hm => Nat.le_trans (hsm m hm) (by omega)⟩)
      have HXB : Hid (Bytes w3 w3.heap.size xA xn bl ∧ xn ≤ 140737488355328) := Lib.hid ⟨HBD1.out.bytes HSC1.out.base, HBD1.out.2⟩
      obtain ⟨m0, m1, m2, m3⟩ := HKA.out.four.1
      have lka := HKA.out.lt
      have hp0 : (0 : Int) ≤ (pos : Int) := by omega
      have hpn : (pos : Int) < (bn : Int) := by omega
      obtain ⟨⟨nn, vv, xx, ll⟩, haB⟩ : ∃ q, addB ⟨cn, cv, cx, cm⟩ ⟨u, f, d, bl⟩ = q := ⟨_, rfl⟩
      obtain ⟨uu, haN⟩ : ∃ q, addN ⟨cn, cv, cx, cm⟩ ⟨u, f, d, bl⟩ = q := ⟨_, rfl⟩
      obtain ⟨ee, haE⟩ : ∃ q, addE ⟨cn, cv, cx, cm⟩ ⟨u, f, d, bl⟩ = q := ⟨_, rfl⟩
      have HAE := Lib.hid haE
      have HAB := Lib.hid haB
      have CA : Hid (∀ W, Below w3.heap.size w3 W → Calls Tryz.prog 167 #[.agg #[.string cn, .int .i64 cv, .int .i64 cx, .slice yA yn yc], .agg #[.int .i64 u, .int .i64 f, .int .i64 d, .slice xA xn xc]] W fun e W' => ∃ (A' : Option Addr) (n' c' : Nat), e = .returned (.tuple #[.agg #[.string nn, .int .i64 vv, .int .i64 xx, .slice A' n' c'], .int .i64 uu, .int .i64 ee]) ∧ Below W.heap.size W W' ∧ (ee = 0 → OwnM W' base A' n' c' ll)) := Lib.hid (by
        intro W hW
        have q := add_anyO cn cv cx yA yn yc cm u f d xA xn xc bl W (HYI.out.1.later hW) HYI.out.2.1 HYI.out.2.2 (HXB.out.1.later hW) HXB.out.2
        refine q.mono ?_
        unfold AddO
        rw [haB, haN, haE]
        rintro e W' ⟨A', n', c', rfl, _, hb2, ho⟩
        exact ⟨A', n', c', rfl, hb2, fun h0 => (ho h0).from_ (Nat.le_trans HSC1.out.base hW.size)⟩)
      clear hbk hown hgl2 hy hfr hOC haB haN haE HKA
      go_cut [10, 11, 12] (fun x10 x11 x12 wx => ∃ q A2 n2 c2, x10 = .pointer (some ⟨q, 0, none⟩) ∧ x11 = .int .i64 uu ∧ x12 = .int .i64 ee ∧ Bk wx q 44 #[.string nn, .int .i64 vv, .int .i64 xx, .slice A2 n2 c2] ∧ (ee = 0 → OwnM wx base A2 n2 c2 ll) ∧ Below w3.heap.size w3 wx)
      case first =>
        go_wp2_with fail
        refine wp_region_held_drew (S := fun W' => Below w3.heap.size w3 W') hmx (Below.refl w3.heap.size w3).drew (fun hHeld => ?_)
        generalize hW0 : w3.drew = W at *
        clear hW0
        simp only [List.size_toArray, List.length_cons, List.length_nil, Nat.reduceAdd]
        refine wpAnyH_take (i := 0) (v := .pointer (some ⟨bs, 0, none⟩)) rfl (by kernel_rfl) (by kernel_rfl) (by kernel_rfl) (fun _ _ _ h => h) (Or.inl ⟨by rfl, fun w0 hC => by simp [execOp, Act.eval, Act.put, go_sem]⟩) hHeld ?_
        try simp only [Act.put, jA, jB, jC, jD, jE, jF]
        refine wpAnyH_take (i := 1) (v := .pointer (some ⟨bs, 0, none⟩)) rfl (by kernel_rfl) (by kernel_rfl) (by kernel_rfl) (fun _ _ _ h => h) (Or.inl ⟨by rfl, fun w0 hC => by simp [execOp, Act.eval, Act.put, go_sem]⟩) hHeld ?_
        try simp only [Act.put, jA, jB, jC, jD, jE, jF]
        refine wpAnyH_take (i := 2) (v := .pointer (some ⟨bs, 0, none⟩)) rfl (by kernel_rfl) (by kernel_rfl) (by kernel_rfl) (fun _ _ _ h => h) (Or.inl ⟨by rfl, fun w0 hC => by simp [execOp, Act.eval, Act.put, go_sem]⟩) hHeld ?_
        try simp only [Act.put, jA, jB, jC, jD, jE, jF]
        refine wpAnyH_take (i := 3) (v := .pointer (some ⟨bs, 1, none⟩)) rfl (by kernel_rfl) (by kernel_rfl) (by kernel_rfl) (fun _ _ _ h => h) (Or.inl ⟨by rfl, fun w0 hC => by simp [execOp, Act.eval, Act.put, go_sem]⟩) hHeld ?_
        try simp only [Act.put, jA, jB, jC, jD, jE, jF]
        refine wpAnyH_take (i := 4) (v := .slice (some ⟨g, 0, none⟩) bn bc) rfl (by kernel_rfl) (by kernel_rfl) (by kernel_rfl) (fun _ _ _ h => h) (Or.inl ⟨by rfl, fun w0 hC => by simp [execOp, Act.eval, Act.put, go_sem, (hC.cell (p := ⟨bs, 1, none⟩) lbs).trans k1]⟩) hHeld ?_
        try simp only [Act.put, jA, jB, jC, jD, jE, jF]
        refine wpAnyH_take (i := 5) (v := .int .i64 (pos : Int)) rfl (by kernel_rfl) (by kernel_rfl) (by kernel_rfl) (fun _ _ _ h => h) (Or.inl ⟨by rfl, fun w0 hC => by simp [execOp, Act.eval, Act.put, go_sem]⟩) hHeld ?_
        try simp only [Act.put, jA, jB, jC, jD, jE, jF]
        refine wpAnyH_take (i := 6) (v := .pointer (some ⟨g, pos * 4, none⟩)) rfl (by kernel_rfl) (by kernel_rfl) (by kernel_rfl) (fun _ _ _ h => h) (Or.inl ⟨by rfl, fun w0 hC => by simp [execOp, Act.eval, Act.put, go_sem, hp0, hpn, hposn]⟩) hHeld ?_
        try simp only [Act.put, jA, jB, jC, jD, jE, jF]
        refine wpAnyH_take (i := 7) (v := .agg #[.string cn, .int .i64 cv, .int .i64 cx, .slice yA yn yc]) rfl (by kernel_rfl) (by kernel_rfl) (by kernel_rfl) (fun _ _ _ h => h) (Or.inl ⟨by rfl, fun w0 hC => by simp [execOp, Act.eval, Act.put, go_sem, (hC.cell (p := ⟨g, pos * 4, none⟩) hgl).trans r0, (hC.cell (p := ⟨g, pos * 4 + 1, none⟩) hgl).trans r1, (hC.cell (p := ⟨g, pos * 4 + 2, none⟩) hgl).trans r2, (hC.cell (p := ⟨g, pos * 4 + 3, none⟩) hgl).trans r3]⟩) hHeld ?_
        try simp only [Act.put, jA, jB, jC, jD, jE, jF]
        refine wpAnyH_take (i := 8) (v := .agg #[.int .i64 u, .int .i64 f, .int .i64 d, .slice xA xn xc]) rfl (by kernel_rfl) (by kernel_rfl) (by kernel_rfl) (fun _ _ _ h => h) (Or.inl ⟨by rfl, fun w0 hC => by simp [execOp, Act.eval, Act.put, go_sem, (hC.cell (p := ⟨wr.heap.size, 0, none⟩) lka).trans m0, (hC.cell (p := ⟨wr.heap.size, 1, none⟩) lka).trans m1, (hC.cell (p := ⟨wr.heap.size, 2, none⟩) lka).trans m2, (hC.cell (p := ⟨wr.heap.size, 3, none⟩) lka).trans m3]⟩) hHeld ?_
        try simp only [Act.put, jA, jB, jC, jD, jE, jF]
        refine wpAnyH_ready (rs := [9, 14]) (by kernel_rfl) (by simp) (AllReadyH.cons rfl (fun K hK => ?_) (AllReadyH.cons rfl (fun K hK => ?_) AllReadyH.nil))
        · rw [if_pos (by rfl)]
          go_wp2_with fail
          refine (CA.out W hHeld).mono ?_
          rintro e W2 ⟨A2, n2, c2, rfl, hb2, hom⟩
          have hS := hHeld.trans (hb2.mono hHeld.size)
          clear hHeld hb2
          refine hK.out _ _ hS (fun hHeld => ?_)
          clear hK K
          try simp only [Act.put, jA, jB, jC, jD, jE, jF]
          clear hS
          generalize W2 = V at *
          refine wpAnyH_take (i := 10) (v := .tuple #[.agg #[.string nn, .int .i64 vv, .int .i64 xx, .slice A2 n2 c2], .int .i64 uu, .int .i64 ee]) rfl (by kernel_rfl) (by kernel_rfl) (by kernel_rfl) (fun _ _ _ h => h) (Or.inl ⟨by rfl, fun w0 hC => by simp [execOp, Act.eval, Act.put, go_sem]⟩) hHeld ?_
          try simp only [Act.put, jA, jB, jC, jD, jE, jF]
          refine wpAnyH_take (i := 11) (v := .agg #[.string nn, .int .i64 vv, .int .i64 xx, .slice A2 n2 c2]) rfl (by kernel_rfl) (by kernel_rfl) (by kernel_rfl) (fun _ _ _ h => h) (Or.inl ⟨by rfl, fun w0 hC => by simp [execOp, Act.eval, Act.put, go_sem]⟩) hHeld ?_
          try simp only [Act.put, jA, jB, jC, jD, jE, jF]
          refine wpAnyH_take (i := 12) (v := .int .i64 uu) rfl (by kernel_rfl) (by kernel_rfl) (by kernel_rfl) (fun _ _ _ h => h) (Or.inl ⟨by rfl, fun w0 hC => by simp [execOp, Act.eval, Act.put, go_sem]⟩) hHeld ?_
          try simp only [Act.put, jA, jB, jC, jD, jE, jF]
          refine wpAnyH_take (i := 13) (v := .int .i64 ee) rfl (by kernel_rfl) (by kernel_rfl) (by kernel_rfl) (fun _ _ _ h => h) (Or.inl ⟨by rfl, fun w0 hC => by simp [execOp, Act.eval, Act.put, go_sem]⟩) hHeld ?_
          try simp only [Act.put, jA, jB, jC, jD, jE, jF]
          have HV := Lib.hid hHeld
          refine wpAnyH_ready (rs := [14]) (by kernel_rfl) (by simp) (AllReadyH.cons rfl (fun K hK => ?_) AllReadyH.nil)
          rw [if_pos (by rfl)]
          go_wp2_with fail
          have hS := hHeld.alloc hHeld.size (.cells #[.string ⟨#[]⟩, .int .i64 0, .int .i64 0, .slice none 0 0] 44)
          clear hHeld
          refine hK.out _ _ hS (fun hHeld => ?_)
          clear hK K
          try simp only [Act.put, jA, jB, jC, jD, jE, jF]
          clear hS
          refine wpAnyH_ready (rs := [15]) (by kernel_rfl) (by simp) (AllReadyH.cons rfl (fun K hK => ?_) AllReadyH.nil)
          rw [if_pos (by rfl)]
          go_wp2_with fail
          have hS := HV.out.alloc HV.out.size (.cells #[.string nn, .int .i64 vv, .int .i64 xx, .slice A2 n2 c2] 44)
          clear hHeld
          refine hK.out _ _ hS (fun hHeld => ?_)
          clear hK K
          try simp only [Act.put, jA, jB, jC, jD, jE, jF]
          clear hS
          refine wpAnyH_take (i := 16) (v := .int .i64 uu) rfl (by kernel_rfl) (by kernel_rfl) (by kernel_rfl) (fun _ _ _ h => h) (Or.inl ⟨by rfl, fun w0 hC => by simp [execOp, Act.eval, Act.put, go_sem]⟩) hHeld ?_
          try simp only [Act.put, jA, jB, jC, jD, jE, jF]
          refine wpAnyH_take (i := 17) (v := .int .i64 ee) rfl (by kernel_rfl) (by kernel_rfl) (by kernel_rfl) (fun _ _ _ h => h) (Or.inl ⟨by rfl, fun w0 hC => by simp [execOp, Act.eval, Act.put, go_sem]⟩) hHeld ?_
          try simp only [Act.put, jA, jB, jC, jD, jE, jF]
          refine wpAnyH_done (by kernel_rfl) ?_ _
          go_wp2_with fail
          go_meet
          exact ⟨_, A2, n2, c2, rfl, rfl, rfl, Bk.new _ _ _, (fun h0 => (hom h0).below ((Below.refl _ _).alloc (Nat.le_refl _) _)), hHeld⟩
        · rw [if_pos (by rfl)]
          go_wp2_with fail
          have HZB : Hid (Bk (W.alloc (.cells #[.string ⟨#[]⟩, .int .i64 0, .int .i64 0, .slice none 0 0] 44)) W.heap.size 44 #[.string ⟨#[]⟩, .int .i64 0, .int .i64 0, .slice none 0 0]) := Lib.hid (Bk.new _ _ _)
          have hws := hHeld.size
          obtain ⟨bN, hbN⟩ : ∃ q, W.heap.size = q := ⟨_, rfl⟩
          have hS := hHeld.alloc hHeld.size (.cells #[.string ⟨#[]⟩, .int .i64 0, .int .i64 0, .slice none 0 0] 44)
          rw [hbN] at HZB ⊢
          have hwN : w3.heap.size ≤ bN := by rw [← hbN]; exact hws
          clear hHeld hbN hws
          generalize W.alloc (.cells #[.string ⟨#[]⟩, .int .i64 0, .int .i64 0, .slice none 0 0] 44) = V at *
          refine hK.out _ _ hS (fun hHeld => ?_)
          clear hK K
          try simp only [Act.put, jA, jB, jC, jD, jE, jF]
          clear hS
          refine wpAnyH_ready (rs := [9]) (by kernel_rfl) (by simp) (AllReadyH.cons rfl (fun K hK => ?_) AllReadyH.nil)
          rw [if_pos (by rfl)]
          go_wp2_with fail
          refine (CA.out V hHeld).mono ?_
          rintro e W2 ⟨A2, n2, c2, rfl, hb2, hom⟩
          have HZ2 := Lib.hid (HZB.out.below hb2 HZB.out.lt)
          have hS := hHeld.trans (hb2.mono hHeld.size)
          clear hHeld hb2 HZB
          refine hK.out _ _ hS (fun hHeld => ?_)
          clear hK K
          try simp only [Act.put, jA, jB, jC, jD, jE, jF]
          clear hS
          generalize W2 = U at *
          refine wpAnyH_take (i := 10) (v := .tuple #[.agg #[.string nn, .int .i64 vv, .int .i64 xx, .slice A2 n2 c2], .int .i64 uu, .int .i64 ee]) rfl (by kernel_rfl) (by kernel_rfl) (by kernel_rfl) (fun _ _ _ h => h) (Or.inl ⟨by rfl, fun w0 hC => by simp [execOp, Act.eval, Act.put, go_sem]⟩) hHeld ?_
          try simp only [Act.put, jA, jB, jC, jD, jE, jF]
          refine wpAnyH_take (i := 11) (v := .agg #[.string nn, .int .i64 vv, .int .i64 xx, .slice A2 n2 c2]) rfl (by kernel_rfl) (by kernel_rfl) (by kernel_rfl) (fun _ _ _ h => h) (Or.inl ⟨by rfl, fun w0 hC => by simp [execOp, Act.eval, Act.put, go_sem]⟩) hHeld ?_
          try simp only [Act.put, jA, jB, jC, jD, jE, jF]
          refine wpAnyH_take (i := 12) (v := .int .i64 uu) rfl (by kernel_rfl) (by kernel_rfl) (by kernel_rfl) (fun _ _ _ h => h) (Or.inl ⟨by rfl, fun w0 hC => by simp [execOp, Act.eval, Act.put, go_sem]⟩) hHeld ?_
          try simp only [Act.put, jA, jB, jC, jD, jE, jF]
          refine wpAnyH_take (i := 13) (v := .int .i64 ee) rfl (by kernel_rfl) (by kernel_rfl) (by kernel_rfl) (fun _ _ _ h => h) (Or.inl ⟨by rfl, fun w0 hC => by simp [execOp, Act.eval, Act.put, go_sem]⟩) hHeld ?_
          try simp only [Act.put, jA, jB, jC, jD, jE, jF]
          obtain ⟨⟨z0, z1, z2, z3⟩, z4, z5, z6, z7⟩ := HZ2.out.four
          have lz := HZ2.out.lt
          refine wpAnyH_ready (rs := [15]) (by kernel_rfl) (by simp) (AllReadyH.cons rfl (fun K hK => ?_) AllReadyH.nil)
          rw [if_pos (by rfl)]
          go_wp2_with fail
          have hg := grown_put4 U bN (.string nn) (.int .i64 vv) (.int .i64 xx) (.slice A2 n2 c2)
          have kz := HZ2.out.put4 (.string nn) (.int .i64 vv) (.int .i64 xx) (.slice A2 n2 c2)
          have hmz : ee = 0 → OwnM ((((U.setCell ⟨bN, 0, none⟩ (.string nn)).setCell ⟨bN, 1, none⟩ (.int .i64 vv)).setCell ⟨bN, 2, none⟩ (.int .i64 xx)).setCell ⟨bN, 3, none⟩ (.slice A2 n2 c2)) base A2 n2 c2 ll := fun h0 => (hom h0).boxed hg HZ2.out ⟨by decide, by decide⟩
          have hS := below_put4 hHeld hwN (.string nn) (.int .i64 vv) (.int .i64 xx) (.slice A2 n2 c2)
          clear hHeld z0 z1 z2 z3 z4 z5 z6 z7 hg hom lz
          refine hK.out _ _ hS (fun hHeld => ?_)
          clear hK K
          try simp only [Act.put, jA, jB, jC, jD, jE, jF]
          clear hS
          refine wpAnyH_take (i := 16) (v := .int .i64 uu) rfl (by kernel_rfl) (by kernel_rfl) (by kernel_rfl) (fun _ _ _ h => h) (Or.inl ⟨by rfl, fun w0 hC => by simp [execOp, Act.eval, Act.put, go_sem]⟩) hHeld ?_
          try simp only [Act.put, jA, jB, jC, jD, jE, jF]
          refine wpAnyH_take (i := 17) (v := .int .i64 ee) rfl (by kernel_rfl) (by kernel_rfl) (by kernel_rfl) (fun _ _ _ h => h) (Or.inl ⟨by rfl, fun w0 hC => by simp [execOp, Act.eval, Act.put, go_sem]⟩) hHeld ?_
          try simp only [Act.put, jA, jB, jC, jD, jE, jF]
          refine wpAnyH_done (by kernel_rfl) ?_ _
          go_wp2_with fail
          go_meet
          exact ⟨bN, A2, n2, c2, rfl, rfl, rfl, kz, hmz, hHeld⟩
      case rest =>
        obtain ⟨q, A2, n2, c2, rfl, rfl, rfl, kn, hmn, hbw⟩ := hcut
        generalize wc = wm at *
        have HSC2 := Lib.hid (HSC1.out.below hbw)
        have HML2 := Lib.hid (HML1.out.below hbw)
        have HGR2 : Hid (w.grownBy wm (some g)) := Lib.hid (grown_trans HGR1.out (grownB hbw _))
        have HBB2 := Lib.hid (HBB1.out.trans (hbw.mono HSC1.out.base))
        have KN := Lib.hid kn
        have HMN := Lib.hid hmn
        clear kn hmn hbw k1 lbs hgb hgl r0 r1 r2 r3 m0 m1 m2 m3 lka HSC1 HML1 HBB1 HBD1 HY HYI HXB CA
        by_cases he : ee = 0
        · subst he
          have hbk : Bk wm bs 73 #[.int .i64 cl, .slice (some ⟨g, 0, none⟩) bn bc, .slice sA sn sc, .slice rA rn rc, .slice tA tn tc, .slice gA gn gc, .int .i64 nv, .int .i64 nt, .int .i64 nh] := HSC2.out.bk
          have k1 := hbk.cell 1
          have hown : BoxesO wm base (some ⟨g, 0, none⟩) bn bc (boxes.set pos (copyL b0 (l.take j)).1) := HSC2.out.own.bx
          obtain ⟨g', y', hge, hgb, hgl, hgl2, hy, ⟨r0, r1, r2, r3⟩, ⟨f0, f1, f2, f3⟩⟩ := hown.row hposn
          injection hge with hge
          injection hge with hge
          subst hge
          obtain ⟨⟨q0, q1, q2, q3⟩, -, -, -, -⟩ := KN.out.four
          have hput := hown.put hposn (⟨⟨nn, vv, xx, ll⟩, A2, n2, c2⟩ : Bh) (HMN.out rfl)
          simp only at hput
          have hst := HSC2.out.own
          have HC1 : Hid ((copyL b0 (l.take (j + 1))).2 = 0 ∧ (copyL b0 (l.take (j + 1))).1 = ⟨nn, vv, xx, ll⟩) := Lib.hid (by
            have hs := HSNOC.out
            rw [HCB.out, HAE.out, if_pos rfl, HAB.out] at hs
            rw [hs]; exact ⟨rfl, rfl⟩)
          have hch := hput.2
          have HN : Hid (ScAt 73 ((((wm.setCell ⟨g, pos * 4, none⟩ (.string nn)).setCell ⟨g, pos * 4 + 1, none⟩ (.int .i64 vv)).setCell ⟨g, pos * 4 + 2, none⟩ (.int .i64 xx)).setCell ⟨g, pos * 4 + 3, none⟩ (.slice A2 n2 c2)) base bs (stBox ⟨cl, boxes, subs, rules, tombs, holds, nv, nt, nh⟩ pos (copyL b0 (l.take (j + 1))).1) ⟨⟨some ⟨g, 0, none⟩, bn, bc⟩, ⟨sA, sn, sc⟩, ⟨rA, rn, rc⟩, ⟨tA, tn, tc⟩, ⟨gA, gn, gc⟩⟩) := Lib.hid (by
            refine ⟨⟨?_, hst.sb.chg hch (by decide), hst.ru.chg hch (by decide), hst.tb.chg thOwns hch (by decide) (by decide), hst.ho.chg hhOwns hch (by decide) (by decide)⟩, hbk.chg hch (by decide), HSC2.out.hb⟩
            have e := hput.1
            rw [List.set_set] at e
            rw [HC1.out.2]
            exact e)
          have HMLN := Lib.hid (HML2.out.chg hch (by decide) (by decide))
          have HBN := Lib.hid (HBB2.out.trans hch.1)
          have HGN := Lib.hid (grown_trans HGR2.out (grown_put4o wm g (pos * 4) (.string nn) (.int .i64 vv) (.int .i64 xx) (.slice A2 n2 c2)))
          clear hbk hown hgl2 hy hput hst hch hgb hgl HSC2 HML2 HBB2 KN HMN
          go_wp2_with fail
          go_region
          go_wp2_with fail
          go_roundw
          case rel => exact ⟨j + 1, by omega, by go_num, HC1.out.1, HN.out.below (Below.refl _ _).drew, HMLN.out.below (Below.refl _ _).drew, HBN.out.drew, grown_trans HGN.out (grownB (Below.refl _ _).drew _)⟩
          case measure => simp [intOf]; omega
        · have HST := Lib.hid (copyL_stop b0 l j ⟨u, f, d, bl⟩ ee HCP.out HLA.out (by rw [HCB.out]; exact HAE.out) he)
          go_wp2_with fail
          go_ret
          exact ⟨DoIs.no (by rw [HR2.out, HST.out]) he HBB2.out, HGR2.out⟩
    · have hkn : ¬ (j : Int) < (n : Int) := by omega
      obtain rfl : j = n := by omega
      have HTL : Hid (l.take j = l) := Lib.hid (List.take_of_length_le (by rw [HML.out.len]; exact Nat.le_refl _))
      go_wp2_with fail
      go_ret
      have h1 := HCP.out
      have h2 := HSC.out
      rw [HTL.out] at h1 h2
      exact ⟨DoIs.yes (by rw [HR2.out, h1]) HBB.out (p := ⟨⟨bA, bn, bc⟩, ⟨sA, sn, sc⟩, ⟨rA, rn, rc⟩, ⟨tA, tn, tc⟩, ⟨gA, gn, gc⟩⟩) (by rw [HR1.out]; exact h2), HGR.out⟩
end Go.Proofs.YtbogjfbfgbhdbaaGreatDoor
