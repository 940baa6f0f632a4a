/-
  A part of the proof: see the last text.
-/
import Derived.Test.YtbogjfbfgbhdbaaGreatDoorSStTm
import Derived.Test.YtbogjfbfgbhdbaaGreatDoorSNameMore
import Derived.Test.YtbogjfbfgbhdbaaGreatDoorSNameRefC
import Derived.Test.YtbogjfbfgbhdbaaGreatDoorSEventMathB
namespace Go.Proofs.YtbogjfbfgbhdbaaGreatDoor
open List renaming setIfInBounds_toArray → jA, set_cons_zero → jB, set_cons_succ → jC, getElem_toArray → jD, getElem_cons_zero → jE, getElem_cons_succ → jF
set_option linter.unusedVariables false
set_option linter.unusedSimpArgs false
open Go.RowKit
set_option linter.unusedVariables false
set_option linter.unusedSimpArgs false
theorem colS14 {w : World} {B n : Nat} {A : Option Addr} {l : List ByteArray} (h : ColK 1 strC w B A n l) : Col Value.string w B A n l := ⟨h.1, fun hn => by
  obtain ⟨b, o, e, hb, hc⟩ := h.2 hn
  exact ⟨b, o, e, hb, fun i a ha => by have := hc i a ha 0 _ rfl; simpa using this⟩⟩
theorem hol_dec2 {id : Int} {nm : ByteArray} {m m' : List Rg} {z : Bool} {inst : Decidable (m = m')} (h : @decide (m = m') inst = z) : decide ((⟨id, nm, m⟩ : Hol) = ⟨id, nm, m'⟩) = z := by rw [← h]; exact hol_dec.symm
set_option maxRecDepth 20000 in
set_option maxHeartbeats 16000000 in
theorem xsSame_any (s s' : Sta) (p p' : StaAt) (w : World) (h : StaIn w w.heap.size s p) (h' : StaIn w w.heap.size s' p') (hs : ∀ b ∈ s.boxes, b.msgs.length ≤ 100000) : Calls Tryz.prog 15 #[staV s p, staV s' p'] w (SaysB (decide (s = s')) w) := by
  have hmx : Tryz.prog.follows .mixedOrders = true := by kernel_rfl
  obtain ⟨cl, boxes, subs, rules, tombs, holds, nv, nt, nh⟩ := s
  obtain ⟨⟨bA, bn, bc⟩, ⟨sA, sn, sc⟩, ⟨rA, rn, rc⟩, ⟨tA, tn, tc⟩, ⟨gA, gn, gc⟩⟩ := p
  obtain ⟨cl', boxes', subs', rules', tombs', holds', nv', nt', nh'⟩ := s'
  obtain ⟨⟨bA', bn', bc'⟩, ⟨sA', sn', sc'⟩, ⟨rA', rn', rc'⟩, ⟨tA', tn', tc'⟩, ⟨gA', gn', gc'⟩⟩ := p'
  show Calls Tryz.prog 15 #[.agg #[.int .i64 cl, .slice bA bn bc, .slice sA sn sc, .slice rA rn rc, .slice tA tn tc, .slice gA gn gc, .int .i64 nv, .int .i64 nt, .int .i64 nh], .agg #[.int .i64 cl', .slice bA' bn' bc', .slice sA' sn' sc', .slice rA' rn' rc', .slice tA' tn' tc', .slice gA' gn' gc', .int .i64 nv', .int .i64 nt', .int .i64 nh']] w _
  generalize hz : decide ((⟨cl, boxes, subs, rules, tombs, holds, nv, nt, nh⟩ : Sta) = ⟨cl', boxes', subs', rules', tombs', holds', nv', nt', nh'⟩) = z
  have HZ := Lib.hid hz
  clear hz
  have HB : Hid (Below w.heap.size w ((w.alloc (.cells #[.int .i64 cl, .slice bA bn bc, .slice sA sn sc, .slice rA rn rc, .slice tA tn tc, .slice gA gn gc, .int .i64 nv, .int .i64 nt, .int .i64 nh] 28)).alloc (.cells #[.int .i64 cl', .slice bA' bn' bc', .slice sA' sn' sc', .slice rA' rn' rc', .slice tA' tn' tc', .slice gA' gn' gc', .int .i64 nv', .int .i64 nt', .int .i64 nh'] 28))) := Lib.hid (((Below.refl _ _).alloc (Nat.le_refl _) _).alloc (by simp) _)
  have HK0 : Hid (Bk ((w.alloc (.cells #[.int .i64 cl, .slice bA bn bc, .slice sA sn sc, .slice rA rn rc, .slice tA tn tc, .slice gA gn gc, .int .i64 nv, .int .i64 nt, .int .i64 nh] 28)).alloc (.cells #[.int .i64 cl', .slice bA' bn' bc', .slice sA' sn' sc', .slice rA' rn' rc', .slice tA' tn' tc', .slice gA' gn' gc', .int .i64 nv', .int .i64 nt', .int .i64 nh'] 28)) w.heap.size 28 #[.int .i64 cl, .slice bA bn bc, .slice sA sn sc, .slice rA rn rc, .slice tA tn tc, .slice gA gn gc, .int .i64 nv, .int .i64 nt, .int .i64 nh]) := Lib.hid ((Bk.new _ _ _).alloc _)
  have HK1 : Hid (Bk ((w.alloc (.cells #[.int .i64 cl, .slice bA bn bc, .slice sA sn sc, .slice rA rn rc, .slice tA tn tc, .slice gA gn gc, .int .i64 nv, .int .i64 nt, .int .i64 nh] 28)).alloc (.cells #[.int .i64 cl', .slice bA' bn' bc', .slice sA' sn' sc', .slice rA' rn' rc', .slice tA' tn' tc', .slice gA' gn' gc', .int .i64 nv', .int .i64 nt', .int .i64 nh'] 28)) (w.heap.size + 1) 28 #[.int .i64 cl', .slice bA' bn' bc', .slice sA' sn' sc', .slice rA' rn' rc', .slice tA' tn' tc', .slice gA' gn' gc', .int .i64 nv', .int .i64 nt', .int .i64 nh']) := Lib.hid (Bk.new2 _ _ _ _)
  have HH := Lib.hid h
  have HH' := Lib.hid h'
  have HS := Lib.hid hs
  have HLN : Hid (boxes.length = bn ∧ holds.length = gn) := Lib.hid ⟨h.bx.len, h.ho.len⟩
  have HLN' : Hid (boxes'.length = bn' ∧ holds'.length = gn') := Lib.hid ⟨h'.bx.len, h'.ho.len⟩
  have hsz := h.sz
  have hsz' := h'.sz
  simp only at hsz hsz'
  obtain ⟨z1, z2, z3, z4, z5⟩ := hsz
  obtain ⟨z1', z2', z3', z4', z5'⟩ := hsz'
  clear h h' hs
  obtain ⟨k0, k1, k2, k3, k4, k5, k6, k7, k8⟩ := HK0.out.nine
  obtain ⟨j0, j1, j2, j3, j4, j5, j6, j7, j8⟩ := HK1.out.nine
  by_cases hcl : cl = cl'
  case neg =>
    have HR : Hid (decide ((⟨cl, boxes, subs, rules, tombs, holds, nv, nt, nh⟩ : Sta) = ⟨cl', boxes', subs', rules', tombs', holds', nv', nt', nh'⟩) = false) := Lib.hid (decide_eq_false (fun e => hcl (congrArg Sta.clock e)))
    have hq : (cl != cl') = true := by simp [hcl]
    go_enter Tryz.func15, Tryz.ntmps15
    go_wp2_with fail
    go_ret
    exact ⟨by rw [← HZ.out, HR.out] <;> rfl, HB.out⟩
  subst hcl
  by_cases hnv : nv = nv'
  case neg =>
    have HR : Hid (decide ((⟨cl, boxes, subs, rules, tombs, holds, nv, nt, nh⟩ : Sta) = ⟨cl, boxes', subs', rules', tombs', holds', nv', nt', nh'⟩) = false) := Lib.hid (decide_eq_false (fun e => hnv (congrArg Sta.nv e)))
    have hq : (nv != nv') = true := by simp [hnv]
    go_enter Tryz.func15, Tryz.ntmps15
    go_wp2_with fail
    go_ret
    exact ⟨by rw [← HZ.out, HR.out] <;> rfl, HB.out⟩
  subst hnv
  by_cases hnt : nt = nt'
  case neg =>
    have HR : Hid (decide ((⟨cl, boxes, subs, rules, tombs, holds, nv, nt, nh⟩ : Sta) = ⟨cl, boxes', subs', rules', tombs', holds', nv, nt', nh'⟩) = false) := Lib.hid (decide_eq_false (fun e => hnt (congrArg Sta.nt e)))
    have hq : (nt != nt') = true := by simp [hnt]
    go_enter Tryz.func15, Tryz.ntmps15
    go_wp2_with fail
    go_ret
    exact ⟨by rw [← HZ.out, HR.out] <;> rfl, HB.out⟩
  subst hnt
  by_cases hnh : nh = nh'
  case neg =>
    have HR : Hid (decide ((⟨cl, boxes, subs, rules, tombs, holds, nv, nt, nh⟩ : Sta) = ⟨cl, boxes', subs', rules', tombs', holds', nv, nt, nh'⟩) = false) := Lib.hid (decide_eq_false (fun e => hnh (congrArg Sta.nh e)))
    have hq : (nh != nh') = true := by simp [hnh]
    go_enter Tryz.func15, Tryz.ntmps15
    go_wp2_with fail
    go_ret
    exact ⟨by rw [← HZ.out, HR.out] <;> rfl, HB.out⟩
  subst hnh
  by_cases hbl : bn = bn'
  case neg =>
    have HR : Hid (decide ((⟨cl, boxes, subs, rules, tombs, holds, nv, nt, nh⟩ : Sta) = ⟨cl, boxes', subs', rules', tombs', holds', nv, nt, nh⟩) = false) := Lib.hid (decide_eq_false (fun e => hbl (by have h1 := congrArg Sta.boxes e; simp only at h1; have h2 := HLN.out.1; have h3 := HLN'.out.1; rw [← h2, ← h3, h1])))
    have hq : ((bn : Int) != (bn' : Int)) = true := by simp; omega
    go_enter Tryz.func15, Tryz.ntmps15
    go_wp2_with fail
    go_ret
    exact ⟨by rw [← HZ.out, HR.out] <;> rfl, HB.out⟩
  subst hbl
  have hq : ((bn : Int) != (bn : Int)) = false := by simp
  go_enter Tryz.func15, Tryz.ntmps15
  go_wp2_with fail
  clear hq
  generalize (w.alloc (.cells #[.int .i64 cl, .slice bA bn bc, .slice sA sn sc, .slice rA rn rc, .slice tA tn tc, .slice gA gn gc, .int .i64 nv, .int .i64 nt, .int .i64 nh] 28)).alloc (.cells #[.int .i64 cl, .slice bA' bn bc', .slice sA' sn' sc', .slice rA' rn' rc', .slice tA' tn' tc', .slice gA' gn' gc', .int .i64 nv, .int .i64 nt, .int .i64 nh] 28) = W0 at *
  refine (xaTexts_any sA sA' sn sc sn' sc' subs subs' _ (colS14 (HH.out.sb.later HB.out)) (colS14 (HH'.out.sb.later HB.out)) z2 z2').mono ?_
  rintro e w2 ⟨rfl, q, hw2⟩
  have hb2 : Below W0.heap.size W0 w2 := by rw [hw2]; exact below_drewN (Below.refl _ _) q
  clear hw2
  have HBN := Lib.hid (HB.out.trans (hb2.mono HB.out.size))
  have HKN := Lib.hid (HK0.out.below hb2 HK0.out.lt)
  have HKM := Lib.hid (HK1.out.below hb2 HK1.out.lt)
  clear hb2 k0 k1 k2 k3 k4 k5 k6 k7 k8 HB HK0 j0 j1 j2 j3 j4 j5 j6 j7 j8 HK1
  have HB := HBN
  have HK0 := HKN
  have HK1 := HKM
  clear HBN HKN HKM
  obtain ⟨k0, k1, k2, k3, k4, k5, k6, k7, k8⟩ := HK0.out.nine
  obtain ⟨j0, j1, j2, j3, j4, j5, j6, j7, j8⟩ := HK1.out.nine
  by_cases esubs : subs = subs'
  case neg =>
    have HR : Hid (decide ((⟨cl, boxes, subs, rules, tombs, holds, nv, nt, nh⟩ : Sta) = ⟨cl, boxes', subs', rules', tombs', holds', nv, nt, nh⟩) = false) := Lib.hid (decide_eq_false (fun e => esubs (congrArg Sta.subs e)))
    rw [decide_eq_false esubs]
    clear esubs
    go_wp2_with fail
    go_ret
    exact ⟨by rw [← HZ.out, HR.out] <;> rfl, HB.out⟩
  have Esubs := Lib.hid esubs
  rw [decide_eq_true esubs]
  clear esubs
  go_wp2_with fail
  obtain ⟨wsubs, hws⟩ : ∃ v, v = w2 := ⟨_, rfl⟩
  subst hws
  refine (xdRules_any rA rA' rn rc rn' rc' rules rules' _ (HH.out.ru.later HB.out) (HH'.out.ru.later HB.out) z3 z3').mono ?_
  rintro e w2 ⟨rfl, q, hw2⟩
  have hb2 : Below wsubs.heap.size wsubs w2 := by rw [hw2]; exact below_drewN (Below.refl _ _) q
  clear hw2
  have HBN := Lib.hid (HB.out.trans (hb2.mono HB.out.size))
  have HKN := Lib.hid (HK0.out.below hb2 HK0.out.lt)
  have HKM := Lib.hid (HK1.out.below hb2 HK1.out.lt)
  clear hb2 k0 k1 k2 k3 k4 k5 k6 k7 k8 HB HK0 j0 j1 j2 j3 j4 j5 j6 j7 j8 HK1
  have HB := HBN
  have HK0 := HKN
  have HK1 := HKM
  clear HBN HKN HKM
  obtain ⟨k0, k1, k2, k3, k4, k5, k6, k7, k8⟩ := HK0.out.nine
  obtain ⟨j0, j1, j2, j3, j4, j5, j6, j7, j8⟩ := HK1.out.nine
  by_cases erules : rules = rules'
  case neg =>
    have HR : Hid (decide ((⟨cl, boxes, subs, rules, tombs, holds, nv, nt, nh⟩ : Sta) = ⟨cl, boxes', subs', rules', tombs', holds', nv, nt, nh⟩) = false) := Lib.hid (decide_eq_false (fun e => erules (congrArg Sta.rules e)))
    rw [decide_eq_false erules]
    clear erules
    go_wp2_with fail
    go_ret
    exact ⟨by rw [← HZ.out, HR.out] <;> rfl, HB.out⟩
  have Erules := Lib.hid erules
  rw [decide_eq_true erules]
  clear erules
  go_wp2_with fail
  refine (xsTombs_any tA tA' tn tn' tc tc' tombs tombs' _ (HH.out.tb.later_ thStays HB.out) (HH'.out.tb.later_ thStays HB.out) z4 z4').mono ?_
  rintro e w2 ⟨rfl, hb2⟩
  have HBN := Lib.hid (HB.out.trans (hb2.mono HB.out.size))
  have HKN := Lib.hid (HK0.out.below hb2 HK0.out.lt)
  have HKM := Lib.hid (HK1.out.below hb2 HK1.out.lt)
  clear hb2 k0 k1 k2 k3 k4 k5 k6 k7 k8 HB HK0 j0 j1 j2 j3 j4 j5 j6 j7 j8 HK1
  have HB := HBN
  have HK0 := HKN
  have HK1 := HKM
  clear HBN HKN HKM
  obtain ⟨k0, k1, k2, k3, k4, k5, k6, k7, k8⟩ := HK0.out.nine
  obtain ⟨j0, j1, j2, j3, j4, j5, j6, j7, j8⟩ := HK1.out.nine
  by_cases etombs : tombs = tombs'
  case neg =>
    have HR : Hid (decide ((⟨cl, boxes, subs, rules, tombs, holds, nv, nt, nh⟩ : Sta) = ⟨cl, boxes', subs', rules', tombs', holds', nv, nt, nh⟩) = false) := Lib.hid (decide_eq_false (fun e => etombs (congrArg Sta.tombs e)))
    rw [decide_eq_false etombs]
    clear etombs
    go_wp2_with fail
    go_ret
    exact ⟨by rw [← HZ.out, HR.out] <;> rfl, HB.out⟩
  have Etombs := Lib.hid etombs
  rw [decide_eq_true etombs]
  clear etombs
  by_cases hgl : gn = gn'
  case neg =>
    have HR : Hid (decide ((⟨cl, boxes, subs, rules, tombs, holds, nv, nt, nh⟩ : Sta) = ⟨cl, boxes', subs', rules', tombs', holds', nv, nt, nh⟩) = false) := Lib.hid (decide_eq_false (fun e => hgl (by have h1 := congrArg Sta.holds e; simp only at h1; have h2 := HLN.out.2; have h3 := HLN'.out.2; rw [← h2, ← h3, h1])))
    have hq : ((gn : Int) != (gn' : Int)) = true := by simp; omega
    go_wp2_with fail
    go_ret
    exact ⟨by rw [← HZ.out, HR.out] <;> rfl, HB.out⟩
  subst hgl
  have hq : ((gn : Int) != (gn : Int)) = false := by simp
  go_wp2_with fail
  clear hq
  go_loopw [5] (fun i wx => ∃ k : Nat, k ≤ bn ∧ i = .int .i64 (k : Int) ∧ boxes.take k = boxes'.take k ∧ Below w2.heap.size w2 wx) (fun i _ => bn - (intOf i).toNat)
  case atStart => exact ⟨0, Nat.zero_le _, rfl, rfl, Below.refl _ _⟩
  case round =>
    obtain ⟨k, hk, rfl, ha, hb2⟩ := hrel
    have HBW := Lib.hid hb2
    have HA := Lib.hid ha
    clear ha
    have HBN := Lib.hid (HB.out.trans (hb2.mono HB.out.size))
    have HKN := Lib.hid (HK0.out.below hb2 HK0.out.lt)
    have HKM := Lib.hid (HK1.out.below hb2 HK1.out.lt)
    clear hb2 k0 k1 k2 k3 k4 k5 k6 k7 k8 HB HK0 j0 j1 j2 j3 j4 j5 j6 j7 j8 HK1
    have HB := HBN
    have HK0 := HKN
    have HK1 := HKM
    clear HBN HKN HKM
    obtain ⟨k0, k1, k2, k3, k4, k5, k6, k7, k8⟩ := HK0.out.nine
    obtain ⟨j0, j1, j2, j3, j4, j5, j6, j7, j8⟩ := HK1.out.nine
    have l1 : w.heap.size < wr.heap.size := HK0.out.lt
    have l2 : w.heap.size + 1 < wr.heap.size := HK1.out.lt
    by_cases hlt : k < bn
    case pos =>
      obtain ⟨b, o, x, rfl, hbb, hla, htk, hrow, hin⟩ := (HH.out.bx.later_ bhStays HB.out).at_ hlt
      obtain ⟨b', o', y, rfl, hbb', hla', htk', hrow', hin'⟩ := (HH'.out.bx.later_ bhStays HB.out).at_ hlt
      have HLA := Lib.hid hla
      have HLA' := Lib.hid hla'
      have HTK := Lib.hid htk
      have HTK' := Lib.hid htk'
      have HX := Lib.hid hin
      have HY := Lib.hid hin'
      have HXS := Lib.hid (HS.out _ (List.mem_of_getElem? hla))
      obtain ⟨⟨nm, v, nx, ms⟩, xA, xn, xc⟩ := x
      obtain ⟨⟨nm', v', nx', ms'⟩, yA, yn, yc⟩ := y
      have r0 := hrow 0 _ rfl
      have r1 := hrow 1 _ rfl
      have r2 := hrow 2 _ rfl
      have r3 := hrow 3 _ rfl
      have s0 := hrow' 0 _ rfl
      have s1 := hrow' 1 _ rfl
      have s2 := hrow' 2 _ rfl
      have s3 := hrow' 3 _ rfl
      rw [Nat.add_zero] at r0 s0
      simp only at r0 r1 r2 r3 s0 s1 s2 s3
      have q0 : (0 : Int) ≤ (k : Int) := by omega
      have q1 : (k : Int) < (bn : Int) := by omega
      clear hla hla' htk htk' hrow hrow' hin hin'
      go_wp2_with fail
      refine wp_region_held_drew (S := fun W' => Below wr.heap.size wr W') hmx (Below.refl wr.heap.size wr).drew (fun hHeld => ?_)
      generalize hW0 : wr.drew = W at *
      clear hW0
      simp only [List.size_toArray, List.length_cons, List.length_nil, Nat.reduceAdd]
      refine wpAnyH_take (i := 0) (v := .pointer (some ⟨w.heap.size, 1, none⟩)) rfl (by kernel_rfl) (by kernel_rfl) (by kernel_rfl) (fun _ _ _ h => h) (Or.inl ⟨by rfl, fun w0 hC => by simp [execOp, Act.eval, Act.put, go_sem]⟩) hHeld ?_
      try simp only [Act.put, jA, jB, jC, jD, jE, jF]
      refine wpAnyH_take (i := 1) (v := .slice (some ⟨b, o, none⟩) bn bc) rfl (by kernel_rfl) (by kernel_rfl) (by kernel_rfl) (fun _ _ _ h => h) (Or.inl ⟨by rfl, fun w0 hC => by simp [execOp, Act.eval, Act.put, go_sem, (hC.cell (p := ⟨w.heap.size, 1, none⟩) l1).trans k1]⟩) hHeld ?_
      try simp only [Act.put, jA, jB, jC, jD, jE, jF]
      refine wpAnyH_take (i := 2) (v := .int .i64 (k : Int)) rfl (by kernel_rfl) (by kernel_rfl) (by kernel_rfl) (fun _ _ _ h => h) (Or.inl ⟨by rfl, fun w0 hC => by simp [execOp, Act.eval, Act.put, go_sem]⟩) hHeld ?_
      try simp only [Act.put, jA, jB, jC, jD, jE, jF]
      refine wpAnyH_take (i := 3) (v := .pointer (some ⟨b, o + k * 4, none⟩)) rfl (by kernel_rfl) (by kernel_rfl) (by kernel_rfl) (fun _ _ _ h => h) (Or.inl ⟨by rfl, fun w0 hC => by simp [execOp, Act.eval, Act.put, go_sem, q0, q1, hlt]⟩) hHeld ?_
      try simp only [Act.put, jA, jB, jC, jD, jE, jF]
      refine wpAnyH_take (i := 4) (v := .agg #[.string nm, .int .i64 v, .int .i64 nx, .slice xA xn xc]) rfl (by kernel_rfl) (by kernel_rfl) (by kernel_rfl) (fun _ _ _ h => h) (Or.inl ⟨by rfl, fun w0 hC => by simp [execOp, Act.eval, Act.put, go_sem, (hC.cell (p := ⟨b, o + k * 4, none⟩) hbb).trans r0, (hC.cell (p := ⟨b, o + k * 4 + 1, none⟩) hbb).trans r1, (hC.cell (p := ⟨b, o + k * 4 + 2, none⟩) hbb).trans r2, (hC.cell (p := ⟨b, o + k * 4 + 3, none⟩) hbb).trans r3]⟩) hHeld ?_
      try simp only [Act.put, jA, jB, jC, jD, jE, jF]
      refine wpAnyH_take (i := 5) (v := .pointer (some ⟨w.heap.size + 1, 1, none⟩)) rfl (by kernel_rfl) (by kernel_rfl) (by kernel_rfl) (fun _ _ _ h => h) (Or.inl ⟨by rfl, fun w0 hC => by simp [execOp, Act.eval, Act.put, go_sem]⟩) hHeld ?_
      try simp only [Act.put, jA, jB, jC, jD, jE, jF]
      refine wpAnyH_take (i := 6) (v := .slice (some ⟨b', o', none⟩) bn bc') rfl (by kernel_rfl) (by kernel_rfl) (by kernel_rfl) (fun _ _ _ h => h) (Or.inl ⟨by rfl, fun w0 hC => by simp [execOp, Act.eval, Act.put, go_sem, (hC.cell (p := ⟨w.heap.size + 1, 1, none⟩) l2).trans j1]⟩) hHeld ?_
      try simp only [Act.put, jA, jB, jC, jD, jE, jF]
      refine wpAnyH_take (i := 7) (v := .int .i64 (k : Int)) rfl (by kernel_rfl) (by kernel_rfl) (by kernel_rfl) (fun _ _ _ h => h) (Or.inl ⟨by rfl, fun w0 hC => by simp [execOp, Act.eval, Act.put, go_sem]⟩) hHeld ?_
      try simp only [Act.put, jA, jB, jC, jD, jE, jF]
      refine wpAnyH_take (i := 8) (v := .pointer (some ⟨b', o' + k * 4, none⟩)) rfl (by kernel_rfl) (by kernel_rfl) (by kernel_rfl) (fun _ _ _ h => h) (Or.inl ⟨by rfl, fun w0 hC => by simp [execOp, Act.eval, Act.put, go_sem, q0, q1, hlt]⟩) hHeld ?_
      try simp only [Act.put, jA, jB, jC, jD, jE, jF]
      refine wpAnyH_take (i := 9) (v := .agg #[.string nm', .int .i64 v', .int .i64 nx', .slice yA yn yc]) rfl (by kernel_rfl) (by kernel_rfl) (by kernel_rfl) (fun _ _ _ h => h) (Or.inl ⟨by rfl, fun w0 hC => by simp [execOp, Act.eval, Act.put, go_sem, (hC.cell (p := ⟨b', o' + k * 4, none⟩) hbb').trans s0, (hC.cell (p := ⟨b', o' + k * 4 + 1, none⟩) hbb').trans s1, (hC.cell (p := ⟨b', o' + k * 4 + 2, none⟩) hbb').trans s2, (hC.cell (p := ⟨b', o' + k * 4 + 3, none⟩) hbb').trans s3]⟩) hHeld ?_
      try simp only [Act.put, jA, jB, jC, jD, jE, jF]
      refine wpAnyH_ready (rs := [10]) (by kernel_rfl) (by simp) (AllReadyH.cons rfl (fun K hK => ?_) AllReadyH.nil)
      rw [if_pos (by rfl)]
      go_wp2_with fail
      refine (x11same_any nm v nx xA xn xc ms nm' v' nx' yA yn yc ms' W (HX.out.1.later hHeld) (HY.out.1.later hHeld) (by have h1 : ms.length ≤ 100000 := HXS.out; have h2 : ms.length = xn := HX.out.1.len; omega) HY.out.2).mono ?_
      rintro e W2 ⟨rfl, hb3⟩
      have hS := hHeld.trans (hb3.mono hHeld.size)
      clear hHeld hb3
      cases hm : decide ((⟨nm, v, nx, ms⟩ : Bx) = ⟨nm', v', nx', ms'⟩)
      case false =>
        have HR : Hid (decide ((⟨cl, boxes, subs, rules, tombs, holds, nv, nt, nh⟩ : Sta) = ⟨cl, boxes', subs', rules', tombs', holds', nv, nt, nh⟩) = false) := Lib.hid (decide_eq_false (fun e => by
          have h1 := congrArg Sta.boxes e
          have h2 := eqStop14 HLA.out HLA'.out hm
          exact of_decide_eq_false h2 h1))
        refine hK.out _ _ hS (fun hHeld => ?_)
        clear hK K
        try simp only [Act.put, jA, jB, jC, jD, jE, jF]
        clear hS hm
        refine wpAnyH_take (i := 11) (v := .bool true) rfl (by kernel_rfl) (by kernel_rfl) (by kernel_rfl) (fun _ _ _ h => h) (Or.inl ⟨by rfl, fun w0 hC => by simp [execOp, Act.eval, Act.put, go_sem]⟩) hHeld ?_
        try simp only [Act.put, jA, jB, jC, jD, jE, jF]
        refine wpAnyH_done (by kernel_rfl) ?_ _
        have HB2 := Lib.hid (HB.out.trans (hHeld.mono HB.out.size))
        clear hHeld
        go_wp2_with fail
        go_ret
        exact ⟨by rw [← HZ.out, HR.out] <;> rfl, HB2.out⟩
      case true =>
        have HSN := Lib.hid (eqNext14 HA.out HTK.out HTK'.out hm)
        refine hK.out _ _ hS (fun hHeld => ?_)
        clear hK K
        try simp only [Act.put, jA, jB, jC, jD, jE, jF]
        clear hS hm
        refine wpAnyH_take (i := 11) (v := .bool false) rfl (by kernel_rfl) (by kernel_rfl) (by kernel_rfl) (fun _ _ _ h => h) (Or.inl ⟨by rfl, fun w0 hC => by simp [execOp, Act.eval, Act.put, go_sem]⟩) hHeld ?_
        try simp only [Act.put, jA, jB, jC, jD, jE, jF]
        refine wpAnyH_done (by kernel_rfl) ?_ _
        have HB2 := Lib.hid (HBW.out.trans (hHeld.mono HBW.out.size))
        clear hHeld
        go_wp2_with fail
        go_roundw
        case rel => exact ⟨k + 1, by omega, by go_num, HSN.out, HB2.out⟩
        case measure => simp [intOf]; omega
    case neg =>
      have EBX : Hid (boxes = boxes') := Lib.hid (of_decide_eq_true (eqAll14 HA.out HLN.out.1 HLN'.out.1 hlt))
      have hkn : ¬ (k : Int) < (bn : Int) := by omega
      clear HA HBW
      go_wp2_with fail
      obtain ⟨wo, hwo⟩ : ∃ v, v = wr := ⟨_, rfl⟩
      subst hwo
      go_loopw [6] (fun i wx => ∃ k : Nat, k ≤ gn ∧ i = .int .i64 (k : Int) ∧ holds.take k = holds'.take k ∧ Below wo.heap.size wo wx) (fun i _ => gn - (intOf i).toNat)
      case atStart => exact ⟨0, Nat.zero_le _, rfl, rfl, Below.refl _ _⟩
      case round =>
        obtain ⟨m, hm, rfl, ha, hb2⟩ := hrel
        have HBW := Lib.hid hb2
        have HA := Lib.hid ha
        clear ha
        have HBN := Lib.hid (HB.out.trans (hb2.mono HB.out.size))
        have HKN := Lib.hid (HK0.out.below hb2 HK0.out.lt)
        have HKM := Lib.hid (HK1.out.below hb2 HK1.out.lt)
        clear hb2 k0 k1 k2 k3 k4 k5 k6 k7 k8 HB HK0 j0 j1 j2 j3 j4 j5 j6 j7 j8 HK1
        have HB := HBN
        have HK0 := HKN
        have HK1 := HKM
        clear HBN HKN HKM
        obtain ⟨k0, k1, k2, k3, k4, k5, k6, k7, k8⟩ := HK0.out.nine
        obtain ⟨j0, j1, j2, j3, j4, j5, j6, j7, j8⟩ := HK1.out.nine
        have l3 : w.heap.size < wr.heap.size := HK0.out.lt
        have l4 : w.heap.size + 1 < wr.heap.size := HK1.out.lt
        by_cases hlt2 : m < gn
        case pos =>
          obtain ⟨b, o, x, rfl, hbb, hla, htk, hrow, hin⟩ := (HH.out.ho.later_ hhStays HB.out).at_ hlt2
          obtain ⟨b', o', y, rfl, hbb', hla', htk', hrow', hin'⟩ := (HH'.out.ho.later_ hhStays HB.out).at_ hlt2
          have HLA := Lib.hid hla
          have HLA' := Lib.hid hla'
          have HTK := Lib.hid htk
          have HTK' := Lib.hid htk'
          have HX := Lib.hid hin
          have HY := Lib.hid hin'
          obtain ⟨id, nm, xA, xn, xc, xs⟩ := x
          obtain ⟨id', nm', yA, yn, yc, ys⟩ := y
          have r0 := hrow 0 _ rfl
          have r1 := hrow 1 _ rfl
          have r2 := hrow 2 _ rfl
          have s0 := hrow' 0 _ rfl
          have s1 := hrow' 1 _ rfl
          have s2 := hrow' 2 _ rfl
          rw [Nat.add_zero] at r0 s0
          simp only at r0 r1 r2 s0 s1 s2
          have q0 : (0 : Int) ≤ (m : Int) := by omega
          have q1 : (m : Int) < (gn : Int) := by omega
          clear hla hla' htk htk' hrow hrow' hin hin'
          by_cases hi : id = id'
          case neg =>
            have HR : Hid (decide ((⟨cl, boxes, subs, rules, tombs, holds, nv, nt, nh⟩ : Sta) = ⟨cl, boxes', subs', rules', tombs', holds', nv, nt, nh⟩) = false) := Lib.hid (decide_eq_false (fun e => of_decide_eq_false (eqStop14 HLA.out HLA'.out (decide_eq_false (fun e2 => hi (congrArg Hol.id e2)))) (congrArg Sta.holds e)))
            have hq : (id != id') = true := by simp [hi]
            go_wp2_with fail
            go_quiet (fail)
            go_wp2_with fail
            go_ret
            exact ⟨by rw [← HZ.out, HR.out] <;> rfl, below_drewN HB.out _⟩
          subst hi
          by_cases hnm : nm = nm'
          case neg =>
            have HR : Hid (decide ((⟨cl, boxes, subs, rules, tombs, holds, nv, nt, nh⟩ : Sta) = ⟨cl, boxes', subs', rules', tombs', holds', nv, nt, nh⟩) = false) := Lib.hid (decide_eq_false (fun e => of_decide_eq_false (eqStop14 HLA.out HLA'.out (decide_eq_false (fun e2 => hnm (congrArg Hol.box e2)))) (congrArg Sta.holds e)))
            have hq2 : (nm.toList == nm'.toList) = false := text_beq14 hnm
            have hq3 : (nm.toList != nm'.toList) = true := by simp [bne, hq2]
            go_wp2_with fail
            go_quiet (fail)
            go_wp2_with fail
            go_ret
            exact ⟨by rw [← HZ.out, HR.out] <;> rfl, below_drewN HB.out _⟩
          subst hnm
          have hq2 : (nm.toList != nm.toList) = false := by simp
          go_wp2_with fail
          refine wp_region_held_drew (S := fun W' => Below wr.heap.size wr W') hmx (Below.refl wr.heap.size wr).drew (fun hHeld => ?_)
          generalize hW0 : wr.drew = W at *
          clear hW0
          simp only [List.size_toArray, List.length_cons, List.length_nil, Nat.reduceAdd]
          refine wpAnyH_take (i := 0) (v := .pointer (some ⟨w.heap.size, 5, none⟩)) rfl (by kernel_rfl) (by kernel_rfl) (by kernel_rfl) (fun _ _ _ h => h) (Or.inl ⟨by rfl, fun w0 hC => by simp [execOp, Act.eval, Act.put, go_sem]⟩) hHeld ?_
          try simp only [Act.put, jA, jB, jC, jD, jE, jF]
          refine wpAnyH_take (i := 1) (v := .slice (some ⟨b, o, none⟩) gn gc) rfl (by kernel_rfl) (by kernel_rfl) (by kernel_rfl) (fun _ _ _ h => h) (Or.inl ⟨by rfl, fun w0 hC => by simp [execOp, Act.eval, Act.put, go_sem, (hC.cell (p := ⟨w.heap.size, 5, none⟩) l3).trans k5]⟩) hHeld ?_
          try simp only [Act.put, jA, jB, jC, jD, jE, jF]
          refine wpAnyH_take (i := 2) (v := .int .i64 (m : Int)) rfl (by kernel_rfl) (by kernel_rfl) (by kernel_rfl) (fun _ _ _ h => h) (Or.inl ⟨by rfl, fun w0 hC => by simp [execOp, Act.eval, Act.put, go_sem]⟩) hHeld ?_
          try simp only [Act.put, jA, jB, jC, jD, jE, jF]
          refine wpAnyH_take (i := 3) (v := .pointer (some ⟨b, o + m * 3, none⟩)) rfl (by kernel_rfl) (by kernel_rfl) (by kernel_rfl) (fun _ _ _ h => h) (Or.inl ⟨by rfl, fun w0 hC => by simp [execOp, Act.eval, Act.put, go_sem, q0, q1, hlt2]⟩) hHeld ?_
          try simp only [Act.put, jA, jB, jC, jD, jE, jF]
          refine wpAnyH_take (i := 4) (v := .pointer (some ⟨b, o + m * 3, none⟩)) rfl (by kernel_rfl) (by kernel_rfl) (by kernel_rfl) (fun _ _ _ h => h) (Or.inl ⟨by rfl, fun w0 hC => by simp [execOp, Act.eval, Act.put, go_sem]⟩) hHeld ?_
          try simp only [Act.put, jA, jB, jC, jD, jE, jF]
          refine wpAnyH_take (i := 5) (v := .int .i64 id) rfl (by kernel_rfl) (by kernel_rfl) (by kernel_rfl) (fun _ _ _ h => h) (Or.inl ⟨by rfl, fun w0 hC => by simp [execOp, Act.eval, Act.put, go_sem, (hC.cell (p := ⟨b, o + m * 3, none⟩) hbb).trans r0]⟩) hHeld ?_
          try simp only [Act.put, jA, jB, jC, jD, jE, jF]
          refine wpAnyH_take (i := 6) (v := .pointer (some ⟨w.heap.size + 1, 5, none⟩)) rfl (by kernel_rfl) (by kernel_rfl) (by kernel_rfl) (fun _ _ _ h => h) (Or.inl ⟨by rfl, fun w0 hC => by simp [execOp, Act.eval, Act.put, go_sem]⟩) hHeld ?_
          try simp only [Act.put, jA, jB, jC, jD, jE, jF]
          refine wpAnyH_take (i := 7) (v := .slice (some ⟨b', o', none⟩) gn gc') rfl (by kernel_rfl) (by kernel_rfl) (by kernel_rfl) (fun _ _ _ h => h) (Or.inl ⟨by rfl, fun w0 hC => by simp [execOp, Act.eval, Act.put, go_sem, (hC.cell (p := ⟨w.heap.size + 1, 5, none⟩) l4).trans j5]⟩) hHeld ?_
          try simp only [Act.put, jA, jB, jC, jD, jE, jF]
          refine wpAnyH_take (i := 8) (v := .int .i64 (m : Int)) rfl (by kernel_rfl) (by kernel_rfl) (by kernel_rfl) (fun _ _ _ h => h) (Or.inl ⟨by rfl, fun w0 hC => by simp [execOp, Act.eval, Act.put, go_sem]⟩) hHeld ?_
          try simp only [Act.put, jA, jB, jC, jD, jE, jF]
          refine wpAnyH_take (i := 9) (v := .pointer (some ⟨b', o' + m * 3, none⟩)) rfl (by kernel_rfl) (by kernel_rfl) (by kernel_rfl) (fun _ _ _ h => h) (Or.inl ⟨by rfl, fun w0 hC => by simp [execOp, Act.eval, Act.put, go_sem, q0, q1, hlt2]⟩) hHeld ?_
          try simp only [Act.put, jA, jB, jC, jD, jE, jF]
          refine wpAnyH_take (i := 10) (v := .pointer (some ⟨b', o' + m * 3, none⟩)) rfl (by kernel_rfl) (by kernel_rfl) (by kernel_rfl) (fun _ _ _ h => h) (Or.inl ⟨by rfl, fun w0 hC => by simp [execOp, Act.eval, Act.put, go_sem]⟩) hHeld ?_
          try simp only [Act.put, jA, jB, jC, jD, jE, jF]
          refine wpAnyH_take (i := 11) (v := .int .i64 id) rfl (by kernel_rfl) (by kernel_rfl) (by kernel_rfl) (fun _ _ _ h => h) (Or.inl ⟨by rfl, fun w0 hC => by simp [execOp, Act.eval, Act.put, go_sem, (hC.cell (p := ⟨b', o' + m * 3, none⟩) hbb').trans s0]⟩) hHeld ?_
          try simp only [Act.put, jA, jB, jC, jD, jE, jF]
          refine wpAnyH_take (i := 12) (v := .bool false) rfl (by kernel_rfl) (by kernel_rfl) (by kernel_rfl) (fun _ _ _ h => h) (Or.inl ⟨by rfl, fun w0 hC => by simp [execOp, Act.eval, Act.put, go_sem]⟩) hHeld ?_
          try simp only [Act.put, jA, jB, jC, jD, jE, jF]
          refine wpAnyH_take (i := 13) (v := .bool false) rfl (by kernel_rfl) (by kernel_rfl) (by kernel_rfl) (fun _ _ _ h => h) (Or.inl ⟨by rfl, fun w0 hC => by simp [execOp, Act.eval, Act.put, go_sem]⟩) hHeld ?_
          try simp only [Act.put, jA, jB, jC, jD, jE, jF]
          refine wpAnyH_take (i := 14) (v := .pointer (some ⟨w.heap.size, 5, none⟩)) rfl (by kernel_rfl) (by kernel_rfl) (by kernel_rfl) (fun _ _ _ h => h) (Or.inl ⟨by rfl, fun w0 hC => by simp [execOp, Act.eval, Act.put, go_sem]⟩) hHeld ?_
          try simp only [Act.put, jA, jB, jC, jD, jE, jF]
          refine wpAnyH_take (i := 15) (v := .slice (some ⟨b, o, none⟩) gn gc) rfl (by kernel_rfl) (by kernel_rfl) (by kernel_rfl) (fun _ _ _ h => h) (Or.inl ⟨by rfl, fun w0 hC => by simp [execOp, Act.eval, Act.put, go_sem, (hC.cell (p := ⟨w.heap.size, 5, none⟩) l3).trans k5]⟩) hHeld ?_
          try simp only [Act.put, jA, jB, jC, jD, jE, jF]
          refine wpAnyH_take (i := 16) (v := .int .i64 (m : Int)) rfl (by kernel_rfl) (by kernel_rfl) (by kernel_rfl) (fun _ _ _ h => h) (Or.inl ⟨by rfl, fun w0 hC => by simp [execOp, Act.eval, Act.put, go_sem]⟩) hHeld ?_
          try simp only [Act.put, jA, jB, jC, jD, jE, jF]
          refine wpAnyH_take (i := 17) (v := .pointer (some ⟨b, o + m * 3, none⟩)) rfl (by kernel_rfl) (by kernel_rfl) (by kernel_rfl) (fun _ _ _ h => h) (Or.inl ⟨by rfl, fun w0 hC => by simp [execOp, Act.eval, Act.put, go_sem, q0, q1, hlt2]⟩) hHeld ?_
          try simp only [Act.put, jA, jB, jC, jD, jE, jF]
          refine wpAnyH_take (i := 18) (v := .pointer (some ⟨b, o + m * 3 + 1, none⟩)) rfl (by kernel_rfl) (by kernel_rfl) (by kernel_rfl) (fun _ _ _ h => h) (Or.inl ⟨by rfl, fun w0 hC => by simp [execOp, Act.eval, Act.put, go_sem]⟩) hHeld ?_
          try simp only [Act.put, jA, jB, jC, jD, jE, jF]
          refine wpAnyH_take (i := 19) (v := .string nm) rfl (by kernel_rfl) (by kernel_rfl) (by kernel_rfl) (fun _ _ _ h => h) (Or.inl ⟨by rfl, fun w0 hC => by simp [execOp, Act.eval, Act.put, go_sem, (hC.cell (p := ⟨b, o + m * 3 + 1, none⟩) hbb).trans r1]⟩) hHeld ?_
          try simp only [Act.put, jA, jB, jC, jD, jE, jF]
          refine wpAnyH_take (i := 20) (v := .pointer (some ⟨w.heap.size + 1, 5, none⟩)) rfl (by kernel_rfl) (by kernel_rfl) (by kernel_rfl) (fun _ _ _ h => h) (Or.inl ⟨by rfl, fun w0 hC => by simp [execOp, Act.eval, Act.put, go_sem]⟩) hHeld ?_
          try simp only [Act.put, jA, jB, jC, jD, jE, jF]
          refine wpAnyH_take (i := 21) (v := .slice (some ⟨b', o', none⟩) gn gc') rfl (by kernel_rfl) (by kernel_rfl) (by kernel_rfl) (fun _ _ _ h => h) (Or.inl ⟨by rfl, fun w0 hC => by simp [execOp, Act.eval, Act.put, go_sem, (hC.cell (p := ⟨w.heap.size + 1, 5, none⟩) l4).trans j5]⟩) hHeld ?_
          try simp only [Act.put, jA, jB, jC, jD, jE, jF]
          refine wpAnyH_take (i := 22) (v := .int .i64 (m : Int)) rfl (by kernel_rfl) (by kernel_rfl) (by kernel_rfl) (fun _ _ _ h => h) (Or.inl ⟨by rfl, fun w0 hC => by simp [execOp, Act.eval, Act.put, go_sem]⟩) hHeld ?_
          try simp only [Act.put, jA, jB, jC, jD, jE, jF]
          refine wpAnyH_take (i := 23) (v := .pointer (some ⟨b', o' + m * 3, none⟩)) rfl (by kernel_rfl) (by kernel_rfl) (by kernel_rfl) (fun _ _ _ h => h) (Or.inl ⟨by rfl, fun w0 hC => by simp [execOp, Act.eval, Act.put, go_sem, q0, q1, hlt2]⟩) hHeld ?_
          try simp only [Act.put, jA, jB, jC, jD, jE, jF]
          refine wpAnyH_take (i := 24) (v := .pointer (some ⟨b', o' + m * 3 + 1, none⟩)) rfl (by kernel_rfl) (by kernel_rfl) (by kernel_rfl) (fun _ _ _ h => h) (Or.inl ⟨by rfl, fun w0 hC => by simp [execOp, Act.eval, Act.put, go_sem]⟩) hHeld ?_
          try simp only [Act.put, jA, jB, jC, jD, jE, jF]
          refine wpAnyH_take (i := 25) (v := .string nm) rfl (by kernel_rfl) (by kernel_rfl) (by kernel_rfl) (fun _ _ _ h => h) (Or.inl ⟨by rfl, fun w0 hC => by simp [execOp, Act.eval, Act.put, go_sem, (hC.cell (p := ⟨b', o' + m * 3 + 1, none⟩) hbb').trans s1]⟩) hHeld ?_
          try simp only [Act.put, jA, jB, jC, jD, jE, jF]
          refine wpAnyH_take (i := 26) (v := .bool false) rfl (by kernel_rfl) (by kernel_rfl) (by kernel_rfl) (fun _ _ _ h => h) (Or.inl ⟨by rfl, fun w0 hC => by simp [execOp, Act.eval, Act.put, go_sem]⟩) hHeld ?_
          try simp only [Act.put, jA, jB, jC, jD, jE, jF]
          refine wpAnyH_take (i := 27) (v := .bool false) rfl (by kernel_rfl) (by kernel_rfl) (by kernel_rfl) (fun _ _ _ h => h) (Or.inl ⟨by rfl, fun w0 hC => by simp [execOp, Act.eval, Act.put, go_sem]⟩) hHeld ?_
          try simp only [Act.put, jA, jB, jC, jD, jE, jF]
          refine wpAnyH_take (i := 28) (v := .bool false) rfl (by kernel_rfl) (by kernel_rfl) (by kernel_rfl) (fun _ _ _ h => h) (Or.inl ⟨by rfl, fun w0 hC => by simp [execOp, Act.eval, Act.put, go_sem]⟩) hHeld ?_
          try simp only [Act.put, jA, jB, jC, jD, jE, jF]
          refine wpAnyH_take (i := 29) (v := .pointer (some ⟨w.heap.size, 5, none⟩)) rfl (by kernel_rfl) (by kernel_rfl) (by kernel_rfl) (fun _ _ _ h => h) (Or.inl ⟨by rfl, fun w0 hC => by simp [execOp, Act.eval, Act.put, go_sem]⟩) hHeld ?_
          try simp only [Act.put, jA, jB, jC, jD, jE, jF]
          refine wpAnyH_take (i := 30) (v := .slice (some ⟨b, o, none⟩) gn gc) rfl (by kernel_rfl) (by kernel_rfl) (by kernel_rfl) (fun _ _ _ h => h) (Or.inl ⟨by rfl, fun w0 hC => by simp [execOp, Act.eval, Act.put, go_sem, (hC.cell (p := ⟨w.heap.size, 5, none⟩) l3).trans k5]⟩) hHeld ?_
          try simp only [Act.put, jA, jB, jC, jD, jE, jF]
          refine wpAnyH_take (i := 31) (v := .int .i64 (m : Int)) rfl (by kernel_rfl) (by kernel_rfl) (by kernel_rfl) (fun _ _ _ h => h) (Or.inl ⟨by rfl, fun w0 hC => by simp [execOp, Act.eval, Act.put, go_sem]⟩) hHeld ?_
          try simp only [Act.put, jA, jB, jC, jD, jE, jF]
          refine wpAnyH_take (i := 32) (v := .pointer (some ⟨b, o + m * 3, none⟩)) rfl (by kernel_rfl) (by kernel_rfl) (by kernel_rfl) (fun _ _ _ h => h) (Or.inl ⟨by rfl, fun w0 hC => by simp [execOp, Act.eval, Act.put, go_sem, q0, q1, hlt2]⟩) hHeld ?_
          try simp only [Act.put, jA, jB, jC, jD, jE, jF]
          refine wpAnyH_take (i := 33) (v := .pointer (some ⟨b, o + m * 3 + 2, none⟩)) rfl (by kernel_rfl) (by kernel_rfl) (by kernel_rfl) (fun _ _ _ h => h) (Or.inl ⟨by rfl, fun w0 hC => by simp [execOp, Act.eval, Act.put, go_sem]⟩) hHeld ?_
          try simp only [Act.put, jA, jB, jC, jD, jE, jF]
          refine wpAnyH_take (i := 34) (v := .slice xA xn xc) rfl (by kernel_rfl) (by kernel_rfl) (by kernel_rfl) (fun _ _ _ h => h) (Or.inl ⟨by rfl, fun w0 hC => by simp [execOp, Act.eval, Act.put, go_sem, (hC.cell (p := ⟨b, o + m * 3 + 2, none⟩) hbb).trans r2]⟩) hHeld ?_
          try simp only [Act.put, jA, jB, jC, jD, jE, jF]
          refine wpAnyH_take (i := 35) (v := .pointer (some ⟨w.heap.size + 1, 5, none⟩)) rfl (by kernel_rfl) (by kernel_rfl) (by kernel_rfl) (fun _ _ _ h => h) (Or.inl ⟨by rfl, fun w0 hC => by simp [execOp, Act.eval, Act.put, go_sem]⟩) hHeld ?_
          try simp only [Act.put, jA, jB, jC, jD, jE, jF]
          refine wpAnyH_take (i := 36) (v := .slice (some ⟨b', o', none⟩) gn gc') rfl (by kernel_rfl) (by kernel_rfl) (by kernel_rfl) (fun _ _ _ h => h) (Or.inl ⟨by rfl, fun w0 hC => by simp [execOp, Act.eval, Act.put, go_sem, (hC.cell (p := ⟨w.heap.size + 1, 5, none⟩) l4).trans j5]⟩) hHeld ?_
          try simp only [Act.put, jA, jB, jC, jD, jE, jF]
          refine wpAnyH_take (i := 37) (v := .int .i64 (m : Int)) rfl (by kernel_rfl) (by kernel_rfl) (by kernel_rfl) (fun _ _ _ h => h) (Or.inl ⟨by rfl, fun w0 hC => by simp [execOp, Act.eval, Act.put, go_sem]⟩) hHeld ?_
          try simp only [Act.put, jA, jB, jC, jD, jE, jF]
          refine wpAnyH_take (i := 38) (v := .pointer (some ⟨b', o' + m * 3, none⟩)) rfl (by kernel_rfl) (by kernel_rfl) (by kernel_rfl) (fun _ _ _ h => h) (Or.inl ⟨by rfl, fun w0 hC => by simp [execOp, Act.eval, Act.put, go_sem, q0, q1, hlt2]⟩) hHeld ?_
          try simp only [Act.put, jA, jB, jC, jD, jE, jF]
          refine wpAnyH_take (i := 39) (v := .pointer (some ⟨b', o' + m * 3 + 2, none⟩)) rfl (by kernel_rfl) (by kernel_rfl) (by kernel_rfl) (fun _ _ _ h => h) (Or.inl ⟨by rfl, fun w0 hC => by simp [execOp, Act.eval, Act.put, go_sem]⟩) hHeld ?_
          try simp only [Act.put, jA, jB, jC, jD, jE, jF]
          refine wpAnyH_take (i := 40) (v := .slice yA yn yc) rfl (by kernel_rfl) (by kernel_rfl) (by kernel_rfl) (fun _ _ _ h => h) (Or.inl ⟨by rfl, fun w0 hC => by simp [execOp, Act.eval, Act.put, go_sem, (hC.cell (p := ⟨b', o' + m * 3 + 2, none⟩) hbb').trans s2]⟩) hHeld ?_
          try simp only [Act.put, jA, jB, jC, jD, jE, jF]
          refine wpAnyH_ready (rs := [41]) (by kernel_rfl) (by simp) (AllReadyH.cons rfl (fun K hK => ?_) AllReadyH.nil)
          rw [if_pos (by rfl)]
          go_wp2_with fail
          refine (x9Same_any xA yA xn xc yn yc xs ys W (HX.out.1.later hHeld) (HY.out.1.later hHeld) HX.out.2 HY.out.2).mono ?_
          rintro e W2 ⟨rfl, hb3⟩
          have hS : Below wr.heap.size wr W2 := hHeld.trans ((by obtain ⟨q9, h9⟩ := hb3; rw [h9]; exact below_drewN (Below.refl _ _) _ : Below W.heap.size W W2).mono hHeld.size)
          clear hHeld hb3
          cases hm2 : decide (xs = ys)
          case false =>
            have HR : Hid (decide ((⟨cl, boxes, subs, rules, tombs, holds, nv, nt, nh⟩ : Sta) = ⟨cl, boxes', subs', rules', tombs', holds', nv, nt, nh⟩) = false) := Lib.hid (decide_eq_false (fun e => of_decide_eq_false (eqStop14 HLA.out HLA'.out (hol_dec2 hm2)) (congrArg Sta.holds e)))
            refine hK.out _ _ hS (fun hHeld => ?_)
            clear hK K
            try simp only [Act.put, jA, jB, jC, jD, jE, jF]
            clear hS hm2
            refine wpAnyH_take (i := 42) (v := .bool true) rfl (by kernel_rfl) (by kernel_rfl) (by kernel_rfl) (fun _ _ _ h => h) (Or.inl ⟨by rfl, fun w0 hC => by simp [execOp, Act.eval, Act.put, go_sem]⟩) hHeld ?_
            try simp only [Act.put, jA, jB, jC, jD, jE, jF]
            refine wpAnyH_take (i := 43) (v := .bool true) rfl (by kernel_rfl) (by kernel_rfl) (by kernel_rfl) (fun _ _ _ h => h) (Or.inl ⟨by rfl, fun w0 hC => by simp [execOp, Act.eval, Act.put, go_sem]⟩) hHeld ?_
            try simp only [Act.put, jA, jB, jC, jD, jE, jF]
            refine wpAnyH_done (by kernel_rfl) ?_ _
            have HB2 := Lib.hid (HB.out.trans (hHeld.mono HB.out.size))
            clear hHeld
            go_wp2_with fail
            go_ret
            exact ⟨by rw [← HZ.out, HR.out] <;> rfl, HB2.out⟩
          case true =>
            have HSN := Lib.hid (eqNext14 HA.out HTK.out HTK'.out (hol_dec2 hm2))
            refine hK.out _ _ hS (fun hHeld => ?_)
            clear hK K
            try simp only [Act.put, jA, jB, jC, jD, jE, jF]
            clear hS hm2
            refine wpAnyH_take (i := 42) (v := .bool false) rfl (by kernel_rfl) (by kernel_rfl) (by kernel_rfl) (fun _ _ _ h => h) (Or.inl ⟨by rfl, fun w0 hC => by simp [execOp, Act.eval, Act.put, go_sem]⟩) hHeld ?_
            try simp only [Act.put, jA, jB, jC, jD, jE, jF]
            refine wpAnyH_take (i := 43) (v := .bool false) rfl (by kernel_rfl) (by kernel_rfl) (by kernel_rfl) (fun _ _ _ h => h) (Or.inl ⟨by rfl, fun w0 hC => by simp [execOp, Act.eval, Act.put, go_sem]⟩) hHeld ?_
            try simp only [Act.put, jA, jB, jC, jD, jE, jF]
            refine wpAnyH_done (by kernel_rfl) ?_ _
            have HB2 := Lib.hid (HBW.out.trans (hHeld.mono HBW.out.size))
            clear hHeld
            go_wp2_with fail
            go_roundw
            case rel => exact ⟨m + 1, by omega, by go_num, HSN.out, HB2.out⟩
            case measure => simp [intOf]; omega
        case neg =>
          have EHO : Hid (holds = holds') := Lib.hid (of_decide_eq_true (eqAll14 HA.out HLN.out.2 HLN'.out.2 hlt2))
          have hkn2 : ¬ (m : Int) < (gn : Int) := by omega
          go_wp2_with fail
          go_ret
          have HR : decide ((⟨cl, boxes, subs, rules, tombs, holds, nv, nt, nh⟩ : Sta) = ⟨cl, boxes', subs', rules', tombs', holds', nv, nt, nh⟩) = true := decide_eq_true (by rw [EBX.out, Esubs.out, Erules.out, Etombs.out, EHO.out])
          exact ⟨by rw [← HZ.out, HR] <;> rfl, HB.out⟩
end Go.Proofs.YtbogjfbfgbhdbaaGreatDoor
