/-
 A part of the proof: see the last text.
-/
import Derived.Test.YtbogjfbfgbhdbaaGreatDoorSStI
namespace Go.Proofs.YtbogjfbfgbhdbaaGreatDoor
open List renaming setIfInBounds_toArray → jA, set_cons_zero → jB, set_cons_succ → jC, getElem_toArray → jD, getElem_cons_zero → jE, getElem_cons_succ → jF
set_option linter.unusedVariables false
set_option linter.unusedSimpArgs false
open Go.RowKit
set_option linter.unusedVariables false
set_option linter.unusedSimpArgs false
noncomputable def buryR (s : Sta) (box : ByteArray) (l : List Mg) : Sta × Int := if buryE s l.length ≠ 0 then (s, buryE s l.length) else (buryS s box l, 0)
theorem buryL_snoc (box : ByteArray) (c : Int) : ∀ (l : List Mg) (nt : Int) (m : Mg), buryL nt box c (l ++ [m]) = buryL nt box c l ++ [⟨nt + l.length, box, c, m⟩]
 | [], nt, m => by
   show [(⟨nt, box, c, m⟩ : Tmb)] = [⟨nt + 0, box, c, m⟩]
   rw [Int.add_zero]
 | x :: l, nt, m => by
   rw [List.cons_append]
   unfold buryL
   rw [buryL_snoc box c l (nt + 1) m, List.cons_append, List.length_cons]
   have e : nt + 1 + (l.length : Int) = nt + ((l.length + 1 : Nat) : Int) := by push_cast; omega
   rw [e]
def stBury (s : Sta) (box : ByteArray) (l : List Mg) : Sta := { s with tombs := s.tombs ++ buryL s.nt box s.clock l, nt := s.nt + l.length }
def TombNow (bs qm : Nat) (cl nt u f d : Int) (xA : Option Addr) (xn xc : Nat) (W : World) : Prop :=
 W.cell? ⟨bs, 0, none⟩ = some (.int .i64 cl) ∧ W.cell? ⟨bs, 7, none⟩ = some (.int .i64 nt) ∧ W.cell? ⟨qm, 0, none⟩ = some (.int .i64 u) ∧ W.cell? ⟨qm, 1, none⟩ = some (.int .i64 f) ∧ W.cell? ⟨qm, 2, none⟩ = some (.int .i64 d) ∧ W.cell? ⟨qm, 3, none⟩ = some (.slice xA xn xc)
theorem TombNow.of {bs qm : Nat} {cl nt u f d : Int} {xA : Option Addr} {xn xc : Nat} {W W' : World} (h : TombNow bs qm cl nt u f d xA xn xc W) (hk : ∀ p : Addr, (W.cell? p).isSome = true → (p.block = bs ∧ (p.off = 0 ∨ p.off = 7) ∨ p.block = qm) → W'.cell? p = W.cell? p) : TombNow bs qm cl nt u f d xA xn xc W' := by
 obtain ⟨a, b, c, d', e, f'⟩ := h
 refine ⟨(hk _ (by rw [a]; rfl) (.inl ⟨rfl, .inl rfl⟩)).trans a, (hk _ (by rw [b]; rfl) (.inl ⟨rfl, .inr rfl⟩)).trans b, (hk _ (by rw [c]; rfl) (.inr rfl)).trans c, (hk _ (by rw [d']; rfl) (.inr rfl)).trans d', (hk _ (by rw [e]; rfl) (.inr rfl)).trans e, (hk _ (by rw [f']; rfl) (.inr rfl)).trans f'⟩
set_option maxRecDepth 20000 in
set_option maxHeartbeats 16000000 in
theorem swbury_any (base bs : Nat) (s : Sta) (p : StaAt) (name : ByteArray) (A : Option Addr) (n c : Nat) (l : List Mg) (w : World) (h : ScAt 73 w base bs s p) (hnt : 1 ≤ s.nt ∧ s.nt ≤ 4294967296) (hs : s.tombs.length ≤ 1000) (hl : OwnM w base A n c l) (hn : n ≤ 100000) :
 Calls Tryz.prog 158 #[.pointer (some ⟨bs, 0, none⟩), .string name, .slice A n c] w (DoIs 73 base bs (buryR s name l) w) := by
 have hmx : Tryz.prog.follows .mixedOrders = true := by kernel_rfl
 obtain ⟨cl, boxes, subs, rules, tombs, holds, nv, nt, nh⟩ := s
 obtain ⟨⟨bA, bn, bc⟩, ⟨sA, sn, sc⟩, ⟨rA, rn, rc⟩, ⟨tA, tn, tc⟩, ⟨gA, gn, gc⟩⟩ := p
 have hk : Bk w bs 73 #[.int .i64 cl, .slice bA bn bc, .slice sA sn sc, .slice rA rn rc, .slice tA tn tc, .slice gA gn gc, .int .i64 nv, .int .i64 nt, .int .i64 nh] := h.bk
 have k4 := hk.cell 4
 have k7 := hk.cell 7
 have htl : tombs.length = tn := h.own.tb.len
 have hll := hl.len
 have htn : tn ≤ 1000 := by simp only at hs; omega
 simp only at hnt
 have HH := Lib.hid h
 have HL := Lib.hid hl
 have HNT := Lib.hid hnt
 have w1 : IntKind.i64.wrap ((tn : Int) + (n : Int)) = (tn : Int) + (n : Int) := IntWalk.i64_in _ (by omega)
 have w2 : IntKind.i64.wrap (nt + (n : Int)) = nt + (n : Int) := IntWalk.i64_in _ (by omega)
 have HEb : Hid (buryE ⟨cl, boxes, subs, rules, tombs, holds, nv, nt, nh⟩ l.length = if 60 < tn + n then 8 else if 4294967296 < nt + n then 13 else 0) := Lib.hid (by unfold buryE; rw [hll, ← htl])
 clear h hl hk hs hnt
 by_cases h60 : 60 < tn + n
 ·have h60' : (60 : Int) < (tn : Int) + (n : Int) := by omega
  have HE : Hid ((buryR ⟨cl, boxes, subs, rules, tombs, holds, nv, nt, nh⟩ name l).2 = 8) := Lib.hid (by unfold buryR; rw [HEb.out, if_pos h60]; rfl)
  go_enter Tryz.func158, Tryz.ntmps158
  go_wp2_with fail
  go_ret
  exact DoIs.no HE.out (by omega) (Below.refl _ _)
 have h60' : ¬ (60 : Int) < (tn : Int) + (n : Int) := by omega
 by_cases hu : 4294967296 < nt + (n : Int)
 ·have HE : Hid ((buryR ⟨cl, boxes, subs, rules, tombs, holds, nv, nt, nh⟩ name l).2 = 13) := Lib.hid (by unfold buryR; rw [HEb.out, if_neg h60, if_pos hu]; rfl)
  go_enter Tryz.func158, Tryz.ntmps158
  go_wp2_with fail
  go_ret
  exact DoIs.no HE.out (by omega) (Below.refl _ _)
 have HE : Hid (buryR ⟨cl, boxes, subs, rules, tombs, holds, nv, nt, nh⟩ name l = (stBury ⟨cl, boxes, subs, rules, tombs, holds, nv, nt, nh⟩ name l, 0)) := Lib.hid (by unfold buryR; rw [HEb.out, if_neg h60, if_neg hu]; rfl)
 have HS0 : Hid (∃ q : Sl, q.n = tn ∧ ScAt 73 w base bs (stBury ⟨cl, boxes, subs, rules, tombs, holds, nv, nt, nh⟩ name (l.take 0)) ⟨⟨bA, bn, bc⟩, ⟨sA, sn, sc⟩, ⟨rA, rn, rc⟩, q, ⟨gA, gn, gc⟩⟩) := Lib.hid ⟨⟨tA, tn, tc⟩, rfl, by
  have e : stBury ⟨cl, boxes, subs, rules, tombs, holds, nv, nt, nh⟩ name (l.take 0) = ⟨cl, boxes, subs, rules, tombs, holds, nv, nt, nh⟩ := by
   show (⟨cl, boxes, subs, rules, tombs ++ [], holds, nv, nt + 0, nh⟩ : Sta) = _
   rw [List.append_nil, Int.add_zero]
  rw [e]; exact HH.out⟩
 go_enter Tryz.func158, Tryz.ntmps158
 go_wp2_with fail
 clear k4 k7 HEb
 go_loopw [32] (fun i wx => ∃ j : Nat, j ≤ n ∧ i = .int .i64 (j : Int) ∧ (∃ q : Sl, q.n = tn + j ∧ ScAt 73 wx base bs (stBury ⟨cl, boxes, subs, rules, tombs, holds, nv, nt, nh⟩ name (l.take j)) ⟨⟨bA, bn, bc⟩, ⟨sA, sn, sc⟩, ⟨rA, rn, rc⟩, q, ⟨gA, gn, gc⟩⟩) ∧ OwnM wx base A n c l ∧ Below base w wx) (fun i _ => n - (intOf i).toNat)
 case atStart => exact ⟨0, Nat.zero_le _, rfl, HS0.out, HL.out, Below.refl _ _⟩
 case round =>
  obtain ⟨j, hj, rfl, ⟨⟨uA, un, uc⟩, hun, hsc⟩, hml, hbb⟩ := hrel
  simp only at hun
  have HUN := Lib.hid hun
  clear hun
  have HSC := Lib.hid hsc
  have HML := Lib.hid hml
  have HBB := Lib.hid hbb
  clear hsc hml hbb HS0
  by_cases hlt : j < n
  ·obtain ⟨bm, x, rfl, hbm1, hbm2, hla, htk, hrow, hbd⟩ := HML.out.at_ hlt
   obtain ⟨⟨u, f, d, bl⟩, xA, xn, xc⟩ := x
   have hk0 : (0 : Int) ≤ (j : Int) := by omega
   have hkn : (j : Int) < (n : Int) := by omega
   have HROW := Lib.hid hrow
   have hlj : (l.take j).length = j := by rw [List.length_take, hll]; omega
   have HST : Hid (stBury ⟨cl, boxes, subs, rules, tombs, holds, nv, nt, nh⟩ name (l.take (j + 1)) = ⟨cl, boxes, subs, rules, (tombs ++ buryL nt name cl (l.take j)) ++ [⟨nt + j, name, cl, ⟨u, f, d, bl⟩⟩], holds, nv, nt + j + 1, nh⟩) := Lib.hid (by
    unfold stBury
    simp only
    rw [htk, buryL_snoc, hlj, List.append_assoc, List.length_append, hlj]
    congr 1
    simp; omega)
   have HST0 : Hid (stBury ⟨cl, boxes, subs, rules, tombs, holds, nv, nt, nh⟩ name (l.take j) = ⟨cl, boxes, subs, rules, tombs ++ buryL nt name cl (l.take j), holds, nv, nt + j, nh⟩) := Lib.hid (by unfold stBury; simp only; rw [hlj])
   have hal : Below wr.heap.size wr (wr.alloc (.cells #[.int .i64 u, .int .i64 f, .int .i64 d, .slice xA xn xc] 49)) := (Below.refl _ _).alloc (Nat.le_refl _) _
   have hka : Bk (wr.alloc (.cells #[.int .i64 u, .int .i64 f, .int .i64 d, .slice xA xn xc] 49)) wr.heap.size 49 #[.int .i64 u, .int .i64 f, .int .i64 d, .slice xA xn xc] := Bk.new _ _ _
   have HSC1 := Lib.hid (HSC.out.below hal)
   have HML1 := Lib.hid (HML.out.below hal)
   have HBB1 := Lib.hid (HBB.out.trans (hal.mono HSC.out.base))
   have HBD1 := Lib.hid (hbd.below hal)
   have HKA := Lib.hid hka
   have HQB : Hid (base ≤ wr.heap.size) := Lib.hid HSC.out.base
   clear hla htk hrow hbd hal hka HSC HML HBB
   go_wp2_with ((with_reducible show wpList _ _ _ (⟨some 35, _, _, _, _, _⟩ :: _) _ _); refine hold ?_)
   refine held (wpList_load_mid rfl 49 (.tmp 34) rfl bm (j * 4) rfl (hdC ⟨⟨u, f, d, bl⟩, xA, xn, xc⟩) _ HROW.out Tryz.underlying49 rfl (by kernel_rfl) ?_)
   unfold hdC
   go_wp2_with fail
   clear HROW
   obtain ⟨qm, hqm⟩ : ∃ qm, wr.heap.size = qm := ⟨_, rfl⟩
   rw [hqm] at HKA HQB
   try rw [hqm]
   generalize wr.alloc (.cells #[.int .i64 u, .int .i64 f, .int .i64 d, .slice xA xn xc] 49) = w3 at *
   have HSD := Lib.hid (HSC1.out.below (Below.refl _ _).drew)
   have HMD := Lib.hid (HML1.out.below (Below.refl _ _).drew)
   have HBBD := Lib.hid (HBB1.out.drew)
   have HBDD := Lib.hid (HBD1.out.below (Below.refl _ _).drew)
   have HKD := Lib.hid (HKA.out.drew)
   rw [HST0.out] at HSD
   have hbk : Bk w3.drew bs 73 #[.int .i64 cl, .slice bA bn bc, .slice sA sn sc, .slice rA rn rc, .slice uA un uc, .slice gA gn gc, .int .i64 nv, .int .i64 (nt + j), .int .i64 nh] := HSD.out.bk
   have hnow : TombNow bs qm cl (nt + j) u f d xA xn xc w3.drew := ⟨hbk.cell 0, hbk.cell 7, HKD.out.cell 0, HKD.out.cell 1, HKD.out.cell 2, HKD.out.cell 3⟩
   refine wp_region_held_drew (S := TombNow bs qm cl (nt + j) u f d xA xn xc) hmx hnow (fun hHeld => ?_)
   clear hnow HSC1 HML1 HBB1 HBD1 HKA hqm
   generalize hW0 : w3.drew = W at *
   clear hW0
   simp only [List.size_toArray, List.length_cons, List.length_nil, Nat.reduceAdd]
   refine wpAnyH_take (i := 0) (v := .pointer (some ⟨bs, 0, none⟩)) rfl (by kernel_rfl) (by kernel_rfl) (by kernel_rfl) (fun _ _ _ h => h) (Or.inl ⟨by rfl, fun w0 hC => by simp [execOp, Act.eval, Act.put, go_sem]⟩) hHeld ?_
   try simp only [Act.put, jA, jB, jC, jD, jE, jF]
   refine wpAnyH_take (i := 1) (v := .pointer (some ⟨bs, 0, none⟩)) rfl (by kernel_rfl) (by kernel_rfl) (by kernel_rfl) (fun _ _ _ h => h) (Or.inl ⟨by rfl, fun w0 hC => by simp [execOp, Act.eval, Act.put, go_sem]⟩) hHeld ?_
   try simp only [Act.put, jA, jB, jC, jD, jE, jF]
   refine wpAnyH_take (i := 2) (v := .pointer (some ⟨bs, 0, none⟩)) rfl (by kernel_rfl) (by kernel_rfl) (by kernel_rfl) (fun _ _ _ h => h) (Or.inl ⟨by rfl, fun w0 hC => by simp [execOp, Act.eval, Act.put, go_sem]⟩) hHeld ?_
   try simp only [Act.put, jA, jB, jC, jD, jE, jF]
   refine wpAnyH_take (i := 3) (v := .pointer (some ⟨bs, 0, none⟩)) rfl (by kernel_rfl) (by kernel_rfl) (by kernel_rfl) (fun _ _ _ h => h) (Or.inl ⟨by rfl, fun w0 hC => by simp [execOp, Act.eval, Act.put, go_sem]⟩) hHeld ?_
   try simp only [Act.put, jA, jB, jC, jD, jE, jF]
   refine wpAnyH_take (i := 4) (v := .pointer (some ⟨bs, 4, none⟩)) rfl (by kernel_rfl) (by kernel_rfl) (by kernel_rfl) (fun _ _ _ h => h) (Or.inl ⟨by rfl, fun w0 hC => by simp [execOp, Act.eval, Act.put, go_sem]⟩) hHeld ?_
   try simp only [Act.put, jA, jB, jC, jD, jE, jF]
   refine wpAnyH_take (i := 6) (v := .pointer (some ⟨bs, 0, none⟩)) rfl (by kernel_rfl) (by kernel_rfl) (by kernel_rfl) (fun _ _ _ h => h) (Or.inl ⟨by rfl, fun w0 hC => by simp [execOp, Act.eval, Act.put, go_sem]⟩) hHeld ?_
   try simp only [Act.put, jA, jB, jC, jD, jE, jF]
   refine wpAnyH_take (i := 7) (v := .pointer (some ⟨bs, 0, none⟩)) rfl (by kernel_rfl) (by kernel_rfl) (by kernel_rfl) (fun _ _ _ h => h) (Or.inl ⟨by rfl, fun w0 hC => by simp [execOp, Act.eval, Act.put, go_sem]⟩) hHeld ?_
   try simp only [Act.put, jA, jB, jC, jD, jE, jF]
   refine wpAnyH_take (i := 8) (v := .pointer (some ⟨bs, 0, none⟩)) rfl (by kernel_rfl) (by kernel_rfl) (by kernel_rfl) (fun _ _ _ h => h) (Or.inl ⟨by rfl, fun w0 hC => by simp [execOp, Act.eval, Act.put, go_sem]⟩) hHeld ?_
   try simp only [Act.put, jA, jB, jC, jD, jE, jF]
   refine wpAnyH_take (i := 9) (v := .pointer (some ⟨bs, 7, none⟩)) rfl (by kernel_rfl) (by kernel_rfl) (by kernel_rfl) (fun _ _ _ h => h) (Or.inl ⟨by rfl, fun w0 hC => by simp [execOp, Act.eval, Act.put, go_sem]⟩) hHeld ?_
   try simp only [Act.put, jA, jB, jC, jD, jE, jF]
   refine wpAnyH_take (i := 10) (v := .int .i64 (nt + j)) rfl (by kernel_rfl) (by kernel_rfl) (by kernel_rfl) (fun _ _ _ h => h) (Or.inl ⟨by rfl, fun w0 hC => by simp [execOp, Act.eval, Act.put, go_sem, hC.2.1]⟩) hHeld ?_
   try simp only [Act.put, jA, jB, jC, jD, jE, jF]
   refine wpAnyH_take (i := 11) (v := .string name) rfl (by kernel_rfl) (by kernel_rfl) (by kernel_rfl) (fun _ _ _ h => h) (Or.inl ⟨by rfl, fun w0 hC => by simp [execOp, Act.eval, Act.put, go_sem]⟩) hHeld ?_
   try simp only [Act.put, jA, jB, jC, jD, jE, jF]
   refine wpAnyH_take (i := 12) (v := .pointer (some ⟨bs, 0, none⟩)) rfl (by kernel_rfl) (by kernel_rfl) (by kernel_rfl) (fun _ _ _ h => h) (Or.inl ⟨by rfl, fun w0 hC => by simp [execOp, Act.eval, Act.put, go_sem]⟩) hHeld ?_
   try simp only [Act.put, jA, jB, jC, jD, jE, jF]
   refine wpAnyH_take (i := 13) (v := .pointer (some ⟨bs, 0, none⟩)) rfl (by kernel_rfl) (by kernel_rfl) (by kernel_rfl) (fun _ _ _ h => h) (Or.inl ⟨by rfl, fun w0 hC => by simp [execOp, Act.eval, Act.put, go_sem]⟩) hHeld ?_
   try simp only [Act.put, jA, jB, jC, jD, jE, jF]
   refine wpAnyH_take (i := 14) (v := .pointer (some ⟨bs, 0, none⟩)) rfl (by kernel_rfl) (by kernel_rfl) (by kernel_rfl) (fun _ _ _ h => h) (Or.inl ⟨by rfl, fun w0 hC => by simp [execOp, Act.eval, Act.put, go_sem]⟩) hHeld ?_
   try simp only [Act.put, jA, jB, jC, jD, jE, jF]
   refine wpAnyH_take (i := 15) (v := .pointer (some ⟨bs, 0, none⟩)) rfl (by kernel_rfl) (by kernel_rfl) (by kernel_rfl) (fun _ _ _ h => h) (Or.inl ⟨by rfl, fun w0 hC => by simp [execOp, Act.eval, Act.put, go_sem]⟩) hHeld ?_
   try simp only [Act.put, jA, jB, jC, jD, jE, jF]
   refine wpAnyH_take (i := 16) (v := .int .i64 cl) rfl (by kernel_rfl) (by kernel_rfl) (by kernel_rfl) (fun _ _ _ h => h) (Or.inl ⟨by rfl, fun w0 hC => by simp [execOp, Act.eval, Act.put, go_sem, hC.1]⟩) hHeld ?_
   try simp only [Act.put, jA, jB, jC, jD, jE, jF]
   refine wpAnyH_take (i := 17) (v := .agg #[.int .i64 u, .int .i64 f, .int .i64 d, .slice xA xn xc]) rfl (by kernel_rfl) (by kernel_rfl) (by kernel_rfl) (fun _ _ _ h => h) (Or.inl ⟨by rfl, fun w0 hC => by simp [execOp, Act.eval, Act.put, go_sem, hC.2.2.1, hC.2.2.2.1, hC.2.2.2.2.1, hC.2.2.2.2.2]⟩) hHeld ?_
   try simp only [Act.put, jA, jB, jC, jD, jE, jF]
   refine wpAnyH_take (i := 18) (v := .agg #[.int .i64 (nt + j), .string name, .int .i64 cl, .int .i64 u, .int .i64 f, .int .i64 d, .slice xA xn xc]) rfl (by kernel_rfl) (by kernel_rfl) (by kernel_rfl) (fun _ _ _ h => h) (Or.inl ⟨by rfl, fun w0 hC => by simp [execOp, Act.eval, Act.put, go_sem]⟩) hHeld ?_
   try simp only [Act.put, jA, jB, jC, jD, jE, jF]
   have k4 := hbk.cell 4
   refine wpAnyH_ready (rs := [5, 19]) (by kernel_rfl) (by simp) (AllReadyH.cons rfl (fun K hK => ?_) (AllReadyH.cons rfl (fun K hK => ?_) AllReadyH.nil))
   ·rw [if_pos (by rfl)]
    go_wp2_with fail
    refine hK.out _ _ hHeld (fun hHeld => ?_)
    clear hK K
    try simp only [Act.put, jA, jB, jC, jD, jE, jF]
    clear k4
    refine wpAnyH_ready (rs := [19]) (by kernel_rfl) (by simp) (AllReadyH.cons rfl (fun K hK => ?_) AllReadyH.nil)
    rw [if_pos (by rfl)]
    go_wp2_with fail
    have hal : Below W.heap.size W (W.alloc (.cells #[.int .i64 (nt + j), .string name, .int .i64 cl, .int .i64 u, .int .i64 f, .int .i64 d, .slice xA xn xc] 51)) := (Below.refl _ _).alloc (Nat.le_refl _) _
    have hS := hHeld.of (W' := (W.alloc (.cells #[.int .i64 (nt + j), .string name, .int .i64 cl, .int .i64 u, .int .i64 f, .int .i64 d, .slice xA xn xc] 51))) (fun p hp _ => hal.cell (p := p) (by cases hq : W.cell? p with | none => rw [hq] at hp; cases hp | some v => exact World.block_lt_of_cell? _ _ hq))
    clear hHeld
    refine hK.out _ _ hS (fun hHeld => ?_)
    clear hK K
    try simp only [Act.put, jA, jB, jC, jD, jE, jF]
    clear hS
    have hSC := HSD.out.below hal
    have hbk1 := hbk.below hal hbk.lt
    have hkn7 : Bk (W.alloc (.cells #[.int .i64 (nt + j), .string name, .int .i64 cl, .int .i64 u, .int .i64 f, .int .i64 d, .slice xA xn xc] 51)) W.heap.size 51 #[.int .i64 (nt + j), .string name, .int .i64 cl, .int .i64 u, .int .i64 f, .int .i64 d, .slice xA xn xc] := Bk.new _ _ _
    obtain ⟨us, hus, hus2, hus3⟩ := hSC.own.tb
    have hus' : OwnK 7 thC (W.alloc (.cells #[.int .i64 (nt + j), .string name, .int .i64 cl, .int .i64 u, .int .i64 f, .int .i64 d, .slice xA xn xc] 51)) base 51 uA un uc us := hus
    have hths : ThO (W.alloc (.cells #[.int .i64 (nt + j), .string name, .int .i64 cl, .int .i64 u, .int .i64 f, .int .i64 d, .slice xA xn xc] 51)) base ⟨⟨nt + j, name, cl, ⟨u, f, d, bl⟩⟩, xA, xn, xc⟩ := OwnB.below HBDD.out hal
    obtain ⟨A4, c4, V3, hrun, ho4, hb4, hg4⟩ := run_append_ks (P := Tryz.prog) (f := thC) hus' 25 25 Tryz.underlying25 info_tomb14 rfl (by omega) (by omega) (A' := some ⟨W.heap.size, 0, none⟩) (m := 1) (c' := 1) (B := W.heap.size + 1) (us := [(⟨⟨nt + j, name, cl, ⟨u, f, d, bl⟩⟩, xA, xn, xc⟩ : Th)]) (col_one' (f := thC) (a := (⟨⟨nt + j, name, cl, ⟨u, f, d, bl⟩⟩, xA, xn, xc⟩ : Th)) (t := 51) hkn7 _ (Nat.lt_succ_self _)) (fun u _ => thC_one u) (by have := HUN.out; omega) (Nat.le_trans HSD.out.base hal.size)
    have hch : Chg 51 base (W.alloc (.cells #[.int .i64 (nt + j), .string name, .int .i64 cl, .int .i64 u, .int .i64 f, .int .i64 d, .slice xA xn xc] 51)) V3 := Chg.row hus'.1 hg4 hb4
    have hst4 : StaO V3 base ⟨cl, boxes, subs, rules, (tombs ++ buryL nt name cl (l.take j)) ++ [⟨nt + j, name, cl, ⟨u, f, d, bl⟩⟩], holds, nv, nt + j, nh⟩ ⟨⟨bA, bn, bc⟩, ⟨sA, sn, sc⟩, ⟨rA, rn, rc⟩, ⟨A4, un + 1, c4⟩, ⟨gA, gn, gc⟩⟩ :=
     ⟨hSC.own.bx.chg bhOwns hch (by decide) (by decide), hSC.own.sb.chg hch (by decide), hSC.own.ru.chg hch (by decide), ⟨us ++ [⟨⟨nt + j, name, cl, ⟨u, f, d, bl⟩⟩, xA, xn, xc⟩], ho4, fun z hz => by
      rcases List.mem_append.1 hz with hz | hz
      ·exact thOwns.chg (hus2 z hz) hch (by decide)
      ·rw [List.mem_singleton.1 hz]; exact thOwns.chg hths hch (by decide), by rw [List.map_append, hus3]; rfl⟩, hSC.own.ho.chg hhOwns hch (by decide) (by decide)⟩
    have hbk4 := hbk1.chg hch (by decide)
    have HM4 := Lib.hid ((HMD.out.below hal).chg hch (by decide) (by decide))
    have HKD4 := Lib.hid ((HKD.out.below hal HKD.out.lt).chg hch (by decide))
    have HBB4 := Lib.hid ((HBBD.out.trans (hal.mono HSD.out.base)).trans hb4)
    have HST4 := Lib.hid hst4
    have HBK4 := Lib.hid hbk4
    have HRUN := Lib.hid hrun
    have hS : TombNow bs qm cl (nt + j) u f d xA xn xc V3 := ⟨hbk4.cell 0, hbk4.cell 7, HKD4.out.cell 0, HKD4.out.cell 1, HKD4.out.cell 2, HKD4.out.cell 3⟩
    clear hrun ho4 hb4 hg4 hst4 hbk4 hch hSC hbk1 hkn7 hus hus2 hus3 hus' hths hHeld hal
    refine wpAnyH_ready (rs := [20]) (by kernel_rfl) (by simp) (AllReadyH.cons rfl (fun K hK => ?_) AllReadyH.nil)
    rw [if_pos (by rfl)]
    refine wp_append_ks (s := .tmp 41) (x := .tmp 55) (t := 25) (v := .slice uA un uc) (y := .slice (some ⟨W.heap.size, 0, none⟩) 1 1) (z := .slice A4 (un + 1) c4) (w' := V3) rfl rfl rfl HRUN.out ?_
    refine hK.out _ _ hS (fun hHeld => ?_)
    clear hK K
    try simp only [Act.put, jA, jB, jC, jD, jE, jF]
    clear HRUN hS
    refine wpAnyH_take (i := 21) (v := .pointer (some ⟨bs, 0, none⟩)) rfl (by kernel_rfl) (by kernel_rfl) (by kernel_rfl) (fun _ _ _ h => h) (Or.inl ⟨by rfl, fun w0 hC => by simp [execOp, Act.eval, Act.put, go_sem]⟩) hHeld ?_
    try simp only [Act.put, jA, jB, jC, jD, jE, jF]
    refine wpAnyH_take (i := 22) (v := .pointer (some ⟨bs, 0, none⟩)) rfl (by kernel_rfl) (by kernel_rfl) (by kernel_rfl) (fun _ _ _ h => h) (Or.inl ⟨by rfl, fun w0 hC => by simp [execOp, Act.eval, Act.put, go_sem]⟩) hHeld ?_
    try simp only [Act.put, jA, jB, jC, jD, jE, jF]
    refine wpAnyH_take (i := 23) (v := .pointer (some ⟨bs, 4, none⟩)) rfl (by kernel_rfl) (by kernel_rfl) (by kernel_rfl) (fun _ _ _ h => h) (Or.inl ⟨by rfl, fun w0 hC => by simp [execOp, Act.eval, Act.put, go_sem]⟩) hHeld ?_
    try simp only [Act.put, jA, jB, jC, jD, jE, jF]
    have c4' := HBK4.out.cell 4
    have f4 := HBK4.out.frozen 4
    refine wpAnyH_ready (rs := [24]) (by kernel_rfl) (by simp) (AllReadyH.cons rfl (fun K hK => ?_) AllReadyH.nil)
    rw [if_pos (by rfl)]
    go_wp2_with fail
    have hch5 : Chg 73 base V3 (V3.setCell ⟨bs, 4, none⟩ (.slice A4 (un + 1) c4)) := Chg.cell HBK4.out HSD.out.hb _ _
    have hbk5 : Bk (V3.setCell ⟨bs, 4, none⟩ (.slice A4 (un + 1) c4)) bs 73 #[.int .i64 cl, .slice bA bn bc, .slice sA sn sc, .slice rA rn rc, .slice A4 (un + 1) c4, .slice gA gn gc, .int .i64 nv, .int .i64 (nt + j), .int .i64 nh] := by have := HBK4.out.put 4 (.slice A4 (un + 1) c4); simp at this; exact this
    have HST5 := Lib.hid (HST4.out.chg hch5 notT_scribe)
    have HM5 := Lib.hid (HM4.out.chg hch5 (by decide) (by decide))
    have HBB5 := Lib.hid (HBB4.out.trans hch5.1)
    have HBK5 := Lib.hid hbk5
    have hkd5 := HKD4.out.chg hch5 (by decide)
    have hS : TombNow bs qm cl (nt + j) u f d xA xn xc (V3.setCell ⟨bs, 4, none⟩ (.slice A4 (un + 1) c4)) := ⟨hbk5.cell 0, hbk5.cell 7, hkd5.cell 0, hkd5.cell 1, hkd5.cell 2, hkd5.cell 3⟩
    clear hch5 hbk5 hkd5 c4' f4 HST4 HM4 HBB4 HBK4 HKD4 hHeld
    refine hK.out _ _ hS (fun hHeld => ?_)
    clear hK K
    try simp only [Act.put, jA, jB, jC, jD, jE, jF]
    clear hS hHeld
    refine wpAnyH_done (by kernel_rfl) ?_ _
    generalize V3.setCell ⟨bs, 4, none⟩ (.slice A4 (un + 1) c4) = V at *
    have k7 := HBK5.out.cell 7
    have f7 := HBK5.out.frozen 7
    have hw7 : IntKind.i64.wrap (nt + (j : Int) + 1) = nt + (j : Int) + 1 := IntWalk.i64_in _ (by have := HNT.out; omega)
    have hch6 : Chg 73 base V (V.setCell ⟨bs, 7, none⟩ (.int .i64 (nt + j + 1))) := Chg.cell HBK5.out HSD.out.hb _ _
    have hst6 := HST5.out.chg hch6 notT_scribe
    have HN : Hid (∃ q : Sl, q.n = tn + (j + 1) ∧ ScAt 73 (V.setCell ⟨bs, 7, none⟩ (.int .i64 (nt + j + 1))) base bs (stBury ⟨cl, boxes, subs, rules, tombs, holds, nv, nt, nh⟩ name (l.take (j + 1))) ⟨⟨bA, bn, bc⟩, ⟨sA, sn, sc⟩, ⟨rA, rn, rc⟩, q, ⟨gA, gn, gc⟩⟩) := Lib.hid ⟨⟨A4, un + 1, c4⟩, by show un + 1 = tn + (j + 1); have := HUN.out; omega, by
     rw [HST.out]
     exact ⟨⟨hst6.bx, hst6.sb, hst6.ru, hst6.tb, hst6.ho⟩, by have := HBK5.out.put 7 (.int .i64 (nt + j + 1)); simp at this; exact this, HSD.out.hb⟩⟩
    have HMN := Lib.hid (HM5.out.chg hch6 (by decide) (by decide))
    have HBN := Lib.hid (HBB5.out.trans hch6.1)
    clear hch6 hst6 HST5 HM5 HBB5 HBK5
    go_wp2_with fail
    go_roundw
    case rel => exact ⟨j + 1, by omega, by go_num, HN.out, HMN.out, HBN.out⟩
    case measure => simp [intOf]; omega
   ·rw [if_pos (by rfl)]
    go_wp2_with fail
    have hal : Below W.heap.size W (W.alloc (.cells #[.int .i64 (nt + j), .string name, .int .i64 cl, .int .i64 u, .int .i64 f, .int .i64 d, .slice xA xn xc] 51)) := (Below.refl _ _).alloc (Nat.le_refl _) _
    have hS := hHeld.of (W' := (W.alloc (.cells #[.int .i64 (nt + j), .string name, .int .i64 cl, .int .i64 u, .int .i64 f, .int .i64 d, .slice xA xn xc] 51))) (fun p hp _ => hal.cell (p := p) (by cases hq : W.cell? p with | none => rw [hq] at hp; cases hp | some v => exact World.block_lt_of_cell? _ _ hq))
    have k4' := (hal.cell (p := ⟨bs, 4, none⟩) hbk.lt).trans k4
    clear hHeld
    refine hK.out _ _ hS (fun hHeld => ?_)
    clear hK K
    try simp only [Act.put, jA, jB, jC, jD, jE, jF]
    clear hS
    refine wpAnyH_ready (rs := [5]) (by kernel_rfl) (by simp) (AllReadyH.cons rfl (fun K hK => ?_) AllReadyH.nil)
    rw [if_pos (by rfl)]
    go_wp2_with fail
    refine hK.out _ _ hHeld (fun hHeld => ?_)
    clear hK K
    try simp only [Act.put, jA, jB, jC, jD, jE, jF]
    clear k4 k4'
    have hSC := HSD.out.below hal
    have hbk1 := hbk.below hal hbk.lt
    have hkn7 : Bk (W.alloc (.cells #[.int .i64 (nt + j), .string name, .int .i64 cl, .int .i64 u, .int .i64 f, .int .i64 d, .slice xA xn xc] 51)) W.heap.size 51 #[.int .i64 (nt + j), .string name, .int .i64 cl, .int .i64 u, .int .i64 f, .int .i64 d, .slice xA xn xc] := Bk.new _ _ _
    obtain ⟨us, hus, hus2, hus3⟩ := hSC.own.tb
    have hus' : OwnK 7 thC (W.alloc (.cells #[.int .i64 (nt + j), .string name, .int .i64 cl, .int .i64 u, .int .i64 f, .int .i64 d, .slice xA xn xc] 51)) base 51 uA un uc us := hus
    have hths : ThO (W.alloc (.cells #[.int .i64 (nt + j), .string name, .int .i64 cl, .int .i64 u, .int .i64 f, .int .i64 d, .slice xA xn xc] 51)) base ⟨⟨nt + j, name, cl, ⟨u, f, d, bl⟩⟩, xA, xn, xc⟩ := OwnB.below HBDD.out hal
    obtain ⟨A4, c4, V3, hrun, ho4, hb4, hg4⟩ := run_append_ks (P := Tryz.prog) (f := thC) hus' 25 25 Tryz.underlying25 info_tomb14 rfl (by omega) (by omega) (A' := some ⟨W.heap.size, 0, none⟩) (m := 1) (c' := 1) (B := W.heap.size + 1) (us := [(⟨⟨nt + j, name, cl, ⟨u, f, d, bl⟩⟩, xA, xn, xc⟩ : Th)]) (col_one' (f := thC) (a := (⟨⟨nt + j, name, cl, ⟨u, f, d, bl⟩⟩, xA, xn, xc⟩ : Th)) (t := 51) hkn7 _ (Nat.lt_succ_self _)) (fun u _ => thC_one u) (by have := HUN.out; omega) (Nat.le_trans HSD.out.base hal.size)
    have hch : Chg 51 base (W.alloc (.cells #[.int .i64 (nt + j), .string name, .int .i64 cl, .int .i64 u, .int .i64 f, .int .i64 d, .slice xA xn xc] 51)) V3 := Chg.row hus'.1 hg4 hb4
    have hst4 : StaO V3 base ⟨cl, boxes, subs, rules, (tombs ++ buryL nt name cl (l.take j)) ++ [⟨nt + j, name, cl, ⟨u, f, d, bl⟩⟩], holds, nv, nt + j, nh⟩ ⟨⟨bA, bn, bc⟩, ⟨sA, sn, sc⟩, ⟨rA, rn, rc⟩, ⟨A4, un + 1, c4⟩, ⟨gA, gn, gc⟩⟩ :=
     ⟨hSC.own.bx.chg bhOwns hch (by decide) (by decide), hSC.own.sb.chg hch (by decide), hSC.own.ru.chg hch (by decide), ⟨us ++ [⟨⟨nt + j, name, cl, ⟨u, f, d, bl⟩⟩, xA, xn, xc⟩], ho4, fun z hz => by
      rcases List.mem_append.1 hz with hz | hz
      ·exact thOwns.chg (hus2 z hz) hch (by decide)
      ·rw [List.mem_singleton.1 hz]; exact thOwns.chg hths hch (by decide), by rw [List.map_append, hus3]; rfl⟩, hSC.own.ho.chg hhOwns hch (by decide) (by decide)⟩
    have hbk4 := hbk1.chg hch (by decide)
    have HM4 := Lib.hid ((HMD.out.below hal).chg hch (by decide) (by decide))
    have HKD4 := Lib.hid ((HKD.out.below hal HKD.out.lt).chg hch (by decide))
    have HBB4 := Lib.hid ((HBBD.out.trans (hal.mono HSD.out.base)).trans hb4)
    have HST4 := Lib.hid hst4
    have HBK4 := Lib.hid hbk4
    have HRUN := Lib.hid hrun
    have hS : TombNow bs qm cl (nt + j) u f d xA xn xc V3 := ⟨hbk4.cell 0, hbk4.cell 7, HKD4.out.cell 0, HKD4.out.cell 1, HKD4.out.cell 2, HKD4.out.cell 3⟩
    clear hrun ho4 hb4 hg4 hst4 hbk4 hch hSC hbk1 hkn7 hus hus2 hus3 hus' hths hHeld hal
    refine wpAnyH_ready (rs := [20]) (by kernel_rfl) (by simp) (AllReadyH.cons rfl (fun K hK => ?_) AllReadyH.nil)
    rw [if_pos (by rfl)]
    refine wp_append_ks (s := .tmp 41) (x := .tmp 55) (t := 25) (v := .slice uA un uc) (y := .slice (some ⟨W.heap.size, 0, none⟩) 1 1) (z := .slice A4 (un + 1) c4) (w' := V3) rfl rfl rfl HRUN.out ?_
    refine hK.out _ _ hS (fun hHeld => ?_)
    clear hK K
    try simp only [Act.put, jA, jB, jC, jD, jE, jF]
    clear HRUN hS
    refine wpAnyH_take (i := 21) (v := .pointer (some ⟨bs, 0, none⟩)) rfl (by kernel_rfl) (by kernel_rfl) (by kernel_rfl) (fun _ _ _ h => h) (Or.inl ⟨by rfl, fun w0 hC => by simp [execOp, Act.eval, Act.put, go_sem]⟩) hHeld ?_
    try simp only [Act.put, jA, jB, jC, jD, jE, jF]
    refine wpAnyH_take (i := 22) (v := .pointer (some ⟨bs, 0, none⟩)) rfl (by kernel_rfl) (by kernel_rfl) (by kernel_rfl) (fun _ _ _ h => h) (Or.inl ⟨by rfl, fun w0 hC => by simp [execOp, Act.eval, Act.put, go_sem]⟩) hHeld ?_
    try simp only [Act.put, jA, jB, jC, jD, jE, jF]
    refine wpAnyH_take (i := 23) (v := .pointer (some ⟨bs, 4, none⟩)) rfl (by kernel_rfl) (by kernel_rfl) (by kernel_rfl) (fun _ _ _ h => h) (Or.inl ⟨by rfl, fun w0 hC => by simp [execOp, Act.eval, Act.put, go_sem]⟩) hHeld ?_
    try simp only [Act.put, jA, jB, jC, jD, jE, jF]
    have c4' := HBK4.out.cell 4
    have f4 := HBK4.out.frozen 4
    refine wpAnyH_ready (rs := [24]) (by kernel_rfl) (by simp) (AllReadyH.cons rfl (fun K hK => ?_) AllReadyH.nil)
    rw [if_pos (by rfl)]
    go_wp2_with fail
    have hch5 : Chg 73 base V3 (V3.setCell ⟨bs, 4, none⟩ (.slice A4 (un + 1) c4)) := Chg.cell HBK4.out HSD.out.hb _ _
    have hbk5 : Bk (V3.setCell ⟨bs, 4, none⟩ (.slice A4 (un + 1) c4)) bs 73 #[.int .i64 cl, .slice bA bn bc, .slice sA sn sc, .slice rA rn rc, .slice A4 (un + 1) c4, .slice gA gn gc, .int .i64 nv, .int .i64 (nt + j), .int .i64 nh] := by have := HBK4.out.put 4 (.slice A4 (un + 1) c4); simp at this; exact this
    have HST5 := Lib.hid (HST4.out.chg hch5 notT_scribe)
    have HM5 := Lib.hid (HM4.out.chg hch5 (by decide) (by decide))
    have HBB5 := Lib.hid (HBB4.out.trans hch5.1)
    have HBK5 := Lib.hid hbk5
    have hkd5 := HKD4.out.chg hch5 (by decide)
    have hS : TombNow bs qm cl (nt + j) u f d xA xn xc (V3.setCell ⟨bs, 4, none⟩ (.slice A4 (un + 1) c4)) := ⟨hbk5.cell 0, hbk5.cell 7, hkd5.cell 0, hkd5.cell 1, hkd5.cell 2, hkd5.cell 3⟩
    clear hch5 hbk5 hkd5 c4' f4 HST4 HM4 HBB4 HBK4 HKD4 hHeld
    refine hK.out _ _ hS (fun hHeld => ?_)
    clear hK K
    try simp only [Act.put, jA, jB, jC, jD, jE, jF]
    clear hS hHeld
    refine wpAnyH_done (by kernel_rfl) ?_ _
    generalize V3.setCell ⟨bs, 4, none⟩ (.slice A4 (un + 1) c4) = V at *
    have k7 := HBK5.out.cell 7
    have f7 := HBK5.out.frozen 7
    have hw7 : IntKind.i64.wrap (nt + (j : Int) + 1) = nt + (j : Int) + 1 := IntWalk.i64_in _ (by have := HNT.out; omega)
    have hch6 : Chg 73 base V (V.setCell ⟨bs, 7, none⟩ (.int .i64 (nt + j + 1))) := Chg.cell HBK5.out HSD.out.hb _ _
    have hst6 := HST5.out.chg hch6 notT_scribe
    have HN : Hid (∃ q : Sl, q.n = tn + (j + 1) ∧ ScAt 73 (V.setCell ⟨bs, 7, none⟩ (.int .i64 (nt + j + 1))) base bs (stBury ⟨cl, boxes, subs, rules, tombs, holds, nv, nt, nh⟩ name (l.take (j + 1))) ⟨⟨bA, bn, bc⟩, ⟨sA, sn, sc⟩, ⟨rA, rn, rc⟩, q, ⟨gA, gn, gc⟩⟩) := Lib.hid ⟨⟨A4, un + 1, c4⟩, by show un + 1 = tn + (j + 1); have := HUN.out; omega, by
     rw [HST.out]
     exact ⟨⟨hst6.bx, hst6.sb, hst6.ru, hst6.tb, hst6.ho⟩, by have := HBK5.out.put 7 (.int .i64 (nt + j + 1)); simp at this; exact this, HSD.out.hb⟩⟩
    have HMN := Lib.hid (HM5.out.chg hch6 (by decide) (by decide))
    have HBN := Lib.hid (HBB5.out.trans hch6.1)
    clear hch6 hst6 HST5 HM5 HBB5 HBK5
    go_wp2_with fail
    go_roundw
    case rel => exact ⟨j + 1, by omega, by go_num, HN.out, HMN.out, HBN.out⟩
    case measure => simp [intOf]; omega
  ·have hkn : ¬ (j : Int) < (n : Int) := by omega
   obtain rfl : j = n := by omega
   have HTL : Hid (l.take j = l) := Lib.hid (List.take_of_length_le (by rw [HML.out.len]; exact Nat.le_refl _))
   go_wp2_with fail
   go_ret
   have h2 := HSC.out
   rw [HTL.out] at h2
   exact DoIs.yes (by rw [HE.out]) HBB.out (by rw [HE.out]; exact h2)
end Go.Proofs.YtbogjfbfgbhdbaaGreatDoor
