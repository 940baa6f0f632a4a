/-
  Contracts over package event: bytes' event.
-/
import Derived.Test.YtoiffchhfnbooaaDoorQEventL
import Derived.Test.YtoiffchhfnbooaaDoorQEventF
import Derived.Test.YtoiffchhfnbooaaDoorQRecMath
import Derived.Test.YtoiffchhfnbooaaDoorQNameB
import Derived.Deep.DeepCutAuto
import Derived.Deep.RegionHeld3
namespace Go.Proofs.YtoiffchhfnbooaaDoor
set_option linter.unusedVariables false
set_option linter.unusedSimpArgs false
open Go.RowKit
set_option linter.unusedVariables false
set_option linter.unusedSimpArgs false

theorem results_cell2E {P : Program} {fn : Func} {p q : Tmp} {t1 : TypeId} (h : fn.results = #[.cell p t1, .tmp q]) (tmps : Array Value) (w : World) (a1 : Addr) (v1 v2 : Value)
    (hp : tmps.getD p undef = .pointer (some a1)) (hq : tmps.getD q undef = v2) (h1 : (loadVar t1 a1).run P w = .ok v1 w) :
    (results fn tmps).run P w = .ok (.tuple #[v1, v2]) w := by
  have hp' : tmps[p]?.getD undef = .pointer (some a1) := by simpa using hp
  have hq' : tmps[q]?.getD undef = v2 := by simpa using hq
  simp [results, h, hp', hq', asAddr, h1]
theorem fold_lt (p : List Nat) : ∀ (x : St3), (∀ y ∈ x.2.1, y < 256) → ∀ y ∈ (p.foldl stepE x).2.1, y < 256 := by
  induction p with
  | nil => intro x h; exact h
  | cons c p ih =>
    intro x h
    rw [List.foldl_cons]
    exact ih _ (part_lt x.1 c x.2.2 h)
theorem fold_len (p : List Nat) : ∀ (x : St3), (p.foldl stepE x).2.1.length ≤ x.2.1.length := by
  induction p with
  | nil => intro x; exact Nat.le_refl _
  | cons c p ih =>
    intro x
    rw [List.foldl_cons]
    exact Nat.le_trans (ih _) (part_len x.1 c x.2.2)
theorem fold_step {p : List Nat} {k c : Nat} (hc : p[k]? = some c) (x : St3) : (p.take (k + 1)).foldl stepE x = withP ((p.take k).foldl stepE x).1 c ((p.take k).foldl stepE x).2.1 ((p.take k).foldl stepE x).2.2 := by
  rw [take_snoc_n p k c hc, List.foldl_append]; rfl
theorem It.kept {w w' : World} {gi g pos : Nat} {p : List Nat} (h : It w gi p pos) (hg : w.grownBy w' (some g)) (hne : gi ≠ g) : It w' gi p pos := (hg.block gi h.lt (fun e => hne (Option.some.inj e))).trans h
theorem RdP.iter {w : World} {gi g pos e : Nat} {l p : List Nat} (hi : It w gi p pos) (h : RdP w g l e) (pos' : Nat) : RdP (w.iterAt gi (strOf p) pos') g l e := Bk.iter hi (t := 83) h pos'
theorem grownBy_iter {w : World} {gi pos : Nat} {p : List Nat} (h : It w gi p pos) (pos' : Nat) : w.grownBy (w.iterAt gi (strOf p) pos') (some gi) := by
  have hb := Lib.below_iterAt (Below.refl gi w) (Nat.le_refl gi) (strOf p) pos'
  exact ⟨hb.os, hb.tape, hb.output, hb.size, fun k hk hne => Lib.iterAt_other w gi k (strOf p) pos' (fun e => hne (by rw [e]))⟩
theorem it_cell {w : World} {gi pos o : Nat} {p : List Nat} {v : Value} (hi : It w gi p pos) (h : w.cell? ⟨gi, o, none⟩ = some v) : False := by
  unfold It at hi
  simp [World.cell?, hi] at h
theorem EvFar.iter {w : World} {gi pos base : Nat} {p : List Nat} {H : Eh} (hi : It w gi p pos) (h : EvFar w base H) (pos' : Nat) : EvFar (w.iterAt gi (strOf p) pos') base H := by
  have hg := grownBy_iter hi pos'
  have hz := hg.size
  obtain ⟨i1, i2, i3, i4, i5, i6, i7, i8⟩ := h.inn
  have n1 : Away H.A1 H.n1 (· ≠ gi) := fun hn a ha e => by
    obtain ⟨b, o, hA, _, hc⟩ := i1.2 hn
    rw [hA] at ha
    cases ha
    obtain ⟨x, hx⟩ : ∃ x, H.e.ids[0]? = some x := ⟨_, List.getElem?_eq_getElem (by rw [i1.1]; exact hn)⟩
    have e' : b = gi := e
    subst e'
    exact it_cell hi (hc 0 x hx)
  have n2 : Away H.A2 H.n2 (· ≠ gi) := fun hn a ha e => by
    obtain ⟨b, o, hA, _, hc⟩ := i2.2 hn
    rw [hA] at ha
    cases ha
    obtain ⟨x, hx⟩ : ∃ x, H.e.set[0]? = some x := ⟨_, List.getElem?_eq_getElem (by rw [i2.1]; exact hn)⟩
    have e' : b = gi := e
    subst e'
    exact it_cell hi (hc 0 x hx 0 _ rfl)
  have n3 : Away H.A3 H.n3 (· ≠ gi) := fun hn a ha e => by
    obtain ⟨b, o, hA, _, hc⟩ := i3.2.2 hn
    rw [hA] at ha
    cases ha
    have e' : b = gi := e
    subst e'
    exact it_cell hi (hc 0 hn)
  exact ⟨(h.inn.grown hg n1 n2 n3).more hz, h.a1, h.a2, h.a3⟩
def DecFar (l : List Nat) (w : World) (e : Ending) (w' : World) : Prop := ∃ H, e = .returned (.tuple #[.agg (evC H), .int .i64 ((decE l : Nat) : Int)]) ∧ H.e = decV l ∧ EvFar w' w.heap.size H ∧ Below w.heap.size w w'
/-- bytes' event is answered -/
def DecIs (l : List Nat) (w : World) (e : Ending) (w' : World) : Prop := ∃ H, e = .returned (.tuple #[.agg (evC H), .int .i64 ((decE l : Nat) : Int)]) ∧ H.e = decV l ∧ EvIn w' w'.heap.size H ∧ Below w.heap.size w w'
structure DeAt (w : World) (b2 g b5 base gi : Nat) (p : List Nat) (pos : Nat) (st : St3) (H : Eh) (wx : World) : Prop where
  it : It wx gi p pos
  res : Bk wx b2 34 (evC (bareH 0 0))
  box : Bk wx b5 34 (evC H)
  far : EvFar wx base H
  val : H.e = ((p.take pos).foldl stepE st).1
  rd : RdP wx g ((p.take pos).foldl stepE st).2.1 ((p.take pos).foldl stepE st).2.2
  below : Below w.heap.size w wx
set_option maxRecDepth 20000 in
set_option maxHeartbeats 8000000 in
theorem evDecode_far (A : Option Addr) (n c : Nat) (b : List Nat) (w : World) (hb : Bytes w w.heap.size A n b) (hn : n ≤ 140737488355328) (hK : Kinds w) :
    Calls Tryd.prog 27 #[.slice A n c] w (DecFar b w) := by
  have HK := Lib.hid hK
  have H256 := Lib.hid hb.2.1
  have HLN : Hid (b.length ≤ 140737488355328) := Lib.hid (by rw [hb.1]; exact hn)
  have HBY := Lib.hid hb
  clear hK hb
  go_enter Tryd.func27, Tryd.ntmps27
  go_wp2_with fail
  refine calls_overE (fun W => Bk W w.heap.size 34 (evC (bareH 0 0)) ∧ Below w.heap.size w W ∧ W.heap.size = w.heap.size + 1) ⟨Bk.new _ _ _, (Below.refl _ _).alloc (Nat.le_refl _) _, by simp⟩ ?_
  rintro W ⟨k2, kb, kz⟩
  have K2 := Lib.hid k2
  have KB := Lib.hid kb
  have KZ := Lib.hid kz
  clear k2 kb kz
  refine (pFrom_any A n c _ b W (HBY.out.later KB.out)).mono ?_
  rintro e w1 ⟨rfl, hr1, hb1⟩
  obtain ⟨g, hg⟩ : ∃ g, g = W.heap.size := ⟨_, rfl⟩
  rw [← hg] at hr1 ⊢
  have HG := Lib.hid (show g = w.heap.size + 1 by rw [hg]; exact KZ.out)
  have J2 := Lib.hid (K2.out.below hb1 K2.out.lt)
  have JB := Lib.hid (KB.out.trans (hb1.mono KB.out.size))
  have JR := Lib.hid hr1
  clear hg hr1 hb1 K2 KB KZ
  have b1 : Bk (w1.alloc (.cells (evC (bareH 0 0)) 34)) w1.heap.size 34 (evC (bareH 0 0)) := Bk.new _ _ _
  obtain ⟨b5, hb5⟩ : ∃ b5, b5 = w1.heap.size := ⟨_, rfl⟩
  have G5 : Hid (g < b5) := Lib.hid (by rw [hb5]; exact JR.out.lt)
  have L5 : Hid (w.heap.size ≤ b5) := Lib.hid (by rw [hb5]; exact JB.out.size)
  go_wp2_with fail
  refine calls_overE (fun W => Bk W b5 34 (evC (bareH 0 0)) ∧ Bk W w.heap.size 34 (evC (bareH 0 0)) ∧ RdP W g b 0 ∧ Below w.heap.size w W ∧ b5 < W.heap.size) ⟨by rw [hb5]; exact b1, J2.out.alloc _, JR.out.below ((Below.refl _ _).alloc (Nat.le_refl _) _) JR.out.lt, JB.out.alloc JB.out.size _, by rw [hb5]; simp⟩ ?_
  rw [← hb5]
  clear hb5 b1 J2 JB JR
  rintro W1 ⟨k5, k2, kr, kb, kz⟩
  have K5 := Lib.hid k5
  have K2 := Lib.hid k2
  have KB := Lib.hid kb
  have CN := Lib.hid (pNum_any g 0 b W1 kr HLN.out H256.out)
  clear k5 k2 kr kb kz
  refine CN.out.mono ?_
  rintro e w2 ⟨rfl, hr2, hg2⟩
  have c0 : w2.cell? ⟨b5, 0, none⟩ = some (.int .i64 0) := (K5.out.kept hg2 (by have := G5.out; omega)).cell 0
  have f0 : w2.frozen? ⟨b5, 0, none⟩ = false := (K5.out.kept hg2 (by have := G5.out; omega)).frozen 0
  have M5 : Hid (Bk (w2.setCell ⟨b5, 0, none⟩ (.int .i64 ((numV b 0 : Nat) : Int))) b5 34 (evC (bareH (headK b) 0))) := Lib.hid ((K5.out.kept hg2 (by have := G5.out; omega)).put 0 (.int .i64 ((numV b 0 : Nat) : Int)))
  have M2 : Hid (Bk (w2.setCell ⟨b5, 0, none⟩ (.int .i64 ((numV b 0 : Nat) : Int))) w.heap.size 34 (evC (bareH 0 0))) := Lib.hid ((K2.out.kept hg2 (by have := HG.out; omega)).far (show w.heap.size ≠ b5 by have := HG.out; have := G5.out; omega) _)
  have MR : Hid (RdP (w2.setCell ⟨b5, 0, none⟩ (.int .i64 ((numV b 0 : Nat) : Int))) g (takeL b 0 8) (numE b 0)) := Lib.hid (hr2.grown (grownBy_setCell _ _ _ _) (by intro e; injection e with e; have := G5.out; omega))
  have MB : Hid (Below w.heap.size w (w2.setCell ⟨b5, 0, none⟩ (.int .i64 ((numV b 0 : Nat) : Int)))) := Lib.hid ((KB.out.grown hg2 KB.out.size (fun k hk => by cases hk; have := HG.out; omega)).setCell L5.out _)
  clear CN hr2 hg2 K5 K2 KB
  go_wp2_with fail
  refine calls_overE (fun W => Bk W b5 34 (evC (bareH (headK b) 0)) ∧ Bk W w.heap.size 34 (evC (bareH 0 0)) ∧ RdP W g (takeL b 0 8) (numE b 0) ∧ Below w.heap.size w W) ⟨M5.out, M2.out, MR.out, MB.out⟩ ?_
  clear M5 M2 MR MB c0 f0
  rintro W3 ⟨k5, k2, kr, kb⟩
  have K5 := Lib.hid k5
  have K2 := Lib.hid k2
  have KB := Lib.hid kb
  have CN := Lib.hid (pNum_any g _ _ W3 kr (Nat.le_trans takeL_len HLN.out) (takeL_lt H256.out))
  clear k5 k2 kr kb
  refine CN.out.mono ?_
  rintro e w4 ⟨rfl, hr4, hg4⟩
  obtain ⟨v4, hv4⟩ : ∃ v, numV (takeL b 0 8) (numE b 0) = v := ⟨_, rfl⟩
  have HT : Hid (headT b = ((v4 : Nat) : Int)) := Lib.hid (by rw [← hv4]; rfl)
  rw [hv4]
  have hr4' : RdP w4 g (headL b) (headR b) := hr4
  have c1 : w4.cell? ⟨b5, 1, none⟩ = some (.int .i64 0) := (K5.out.kept hg4 (by have := G5.out; omega)).cell 1
  have f1 : w4.frozen? ⟨b5, 1, none⟩ = false := (K5.out.kept hg4 (by have := G5.out; omega)).frozen 1
  have M5 : Hid (Bk (w4.setCell ⟨b5, 1, none⟩ (.int .i64 ((v4 : Nat) : Int))) b5 34 (evC (bareH (headK b) (headT b)))) := Lib.hid (by
    have h1 := (K5.out.kept hg4 (by have := G5.out; omega)).put 1 (.int .i64 ((v4 : Nat) : Int))
    rw [HT.out]
    exact h1)
  have M2 : Hid (Bk (w4.setCell ⟨b5, 1, none⟩ (.int .i64 ((v4 : Nat) : Int))) w.heap.size 34 (evC (bareH 0 0))) := Lib.hid ((K2.out.kept hg4 (by have := HG.out; omega)).far (show w.heap.size ≠ b5 by have := HG.out; have := G5.out; omega) _)
  have MR : Hid (RdP (w4.setCell ⟨b5, 1, none⟩ (.int .i64 ((v4 : Nat) : Int))) g (headL b) (headR b)) := Lib.hid (hr4'.grown (grownBy_setCell _ _ _ _) (by intro e; injection e with e; have := G5.out; omega))
  have MB : Hid (Below w.heap.size w (w4.setCell ⟨b5, 1, none⟩ (.int .i64 ((v4 : Nat) : Int)))) := Lib.hid ((KB.out.grown hg4 KB.out.size (fun k hk => by cases hk; have := HG.out; omega)).setCell L5.out _)
  clear CN hr4 hr4' hg4 K5 K2 KB hv4
  go_wp2_with ((with_reducible show wpList _ _ _ (⟨some 18, _, _, _, _, _⟩ :: _) _ _); refine hold ?_)
  refine held (list_overE (fun W => Bk W b5 34 (evC (bareH (headK b) (headT b))) ∧ Bk W w.heap.size 34 (evC (bareH 0 0)) ∧ RdP W g (headL b) (headR b) ∧ Below w.heap.size w W) ⟨M5.out, M2.out, MR.out, MB.out⟩ ?_)
  clear M5 M2 MR MB c1 f1
  rintro W5 ⟨k5, k2, kr, kb⟩
  have K5 := Lib.hid k5
  have K2 := Lib.hid k2
  have KR := Lib.hid kr
  have KB := Lib.hid kb
  have c0 : W5.cell? ⟨b5, 0, none⟩ = some (.int .i64 (headK b)) := k5.cell 0
  clear k5 k2 kr kb
  go_wp2_with fail
  refine (evParts_any (headK b) W5 (HK.out.below KB.out)).mono ?_
  rintro e W6 ⟨rfl, hb6⟩
  have L5' := Lib.hid (K5.out.below hb6 K5.out.lt)
  have L2 := Lib.hid (K2.out.below hb6 K2.out.lt)
  have LR := Lib.hid (KR.out.below hb6 KR.out.lt)
  have LB := Lib.hid (KB.out.trans (hb6.mono KB.out.size))
  clear hb6 c0 K5 K2 KR KB
  obtain ⟨p, hp⟩ : ∃ p, partsN (headK b) = p := ⟨_, rfl⟩
  have he : (strOf p).toList.isEmpty = decide (p = []) := strs_empty p
  have HE : Hid (headE b = failE (headR b) (decide (p = []))) := Lib.hid (by rw [← hp]; rfl)
  have HS : Hid (decS b = p.foldl stepE (bare (headK b) (headT b), headL b, headE b)) := Lib.hid (by rw [← hp]; rfl)
  have H128 : Hid (∀ x ∈ p, x < 128) := Lib.hid (by rw [← hp]; exact partsN_lt _)
  have H9 : Hid (∀ x ∈ p, x ∈ nineL) := Lib.hid (by rw [← hp]; exact (partsN_nine _).1)
  rw [hp]
  clear hp
  obtain ⟨be, hbe⟩ : ∃ be, decide (p = []) = be := ⟨_, rfl⟩
  rw [hbe] at he HE
  clear hbe
  go_wp2_with fail
  refine (pFail_any g _ be _ W6 LR.out).mono ?_
  rintro e w7 ⟨rfl, hr7, hg7⟩
  rw [← HE.out] at hr7
  have N5 := Lib.hid (L5'.out.kept hg7 (by have := G5.out; omega))
  have N2 := Lib.hid (L2.out.kept hg7 (by have := HG.out; omega))
  have NR := Lib.hid hr7
  have NB : Hid (Below w.heap.size w w7) := Lib.hid (LB.out.grown hg7 LB.out.size (fun k hk => by cases hk; have := HG.out; omega))
  clear hr7 hg7 he L5' L2 LR LB
  go_wp2_with fail
  obtain ⟨gi, hgi⟩ : ∃ gi, gi = w7.heap.size := ⟨_, rfl⟩
  have I0 : Hid (It (w7.iter (strOf p) 0) gi p 0) := Lib.hid (by rw [hgi]; exact World.iter_heap w7 (strOf p) 0)
  have LI : Hid (w.heap.size ≤ gi ∧ gi ≠ g ∧ gi ≠ b5 ∧ b5 < gi) := Lib.hid (by
    have h1 := NB.out.size
    have h2 := NR.out.lt
    have h3 := N5.out.lt
    rw [hgi]
    exact ⟨h1, by omega, by omega, h3⟩)
  rw [← hgi]
  clear hgi
  go_loopw [8] (fun _ wx => ∃ (pos : Nat) (H : Eh), pos ≤ p.length ∧ DeAt w w.heap.size g b5 (b5 + 1) gi p pos (bare (headK b) (headT b), headL b, headE b) H wx) (fun _ wx => p.length - wx.iterPos gi)
  case atStart =>
    refine ⟨0, bareH (headK b) (headT b), Nat.zero_le _, ?_⟩
    exact { it := I0.out, res := N2.out.alloc _, box := N5.out.alloc _, far := EvFar.bare _ _ _ _, val := rfl, rd := NR.out.below ((Below.refl _ _).alloc (Nat.le_refl _) _) NR.out.lt, below := NB.out.alloc NB.out.size _ }
  case round =>
    obtain ⟨pos, H, hpos, hr⟩ := hrel
    have HR := Lib.hid hr
    have HM : Hid (wr.iterPos gi = pos) := Lib.hid hr.it.pos
    clear hr I0 N5 N2 NR NB
    by_cases hlt : pos < p.length
    · obtain ⟨x, hx⟩ : ∃ x, p[pos]? = some x := ⟨_, List.getElem?_eq_getElem hlt⟩
      have hnx := fun ty => next_letter (P := Tryd.prog) H128.out HR.out.it hx ty
      have HX9 := Lib.hid (H9.out x (List.mem_of_getElem? hx))
      have HST := Lib.hid (fold_step hx (bare (headK b) (headT b), headL b, headE b))
      have HVL := Lib.hid HR.out.val
      obtain ⟨S, hS⟩ : ∃ S, (p.take pos).foldl stepE (bare (headK b) (headT b), headL b, headE b) = S := ⟨_, rfl⟩
      have HSL : Hid (S.2.1.length ≤ 140737488355328 ∧ ∀ y ∈ S.2.1, y < 256) := Lib.hid (by
        rw [← hS]
        exact ⟨Nat.le_trans (fold_len _ _) (Nat.le_trans (Nat.le_trans takeL_len takeL_len) HLN.out), fold_lt _ _ (takeL_lt (takeL_lt H256.out))⟩)
      have hrd := HR.out.rd
      rw [hS] at HST HVL hrd
      have RI := Lib.hid (RdP.iter HR.out.it hrd (pos + 1))
      have BI := Lib.hid (Bk.iter HR.out.it HR.out.box (pos + 1))
      have SI := Lib.hid (Bk.iter HR.out.it HR.out.res (pos + 1))
      have FI := Lib.hid (EvFar.iter HR.out.it HR.out.far (pos + 1))
      have II := Lib.hid (HR.out.it.iter (pos + 1))
      have LB := Lib.hid (Lib.below_iterAt HR.out.below LI.out.1 (strOf p) (pos + 1))
      clear hx hS hrd HR
      go_wp2_with ((with_reducible show wpList _ _ _ (⟨some 30, _, _, _, _, _⟩ :: _) _ _); refine hold ?_)
      refine held (list_overE (fun W => It W gi p (pos + 1) ∧ Bk W w.heap.size 34 (evC (bareH 0 0)) ∧ Bk W b5 34 (evC H) ∧ EvFar W (b5 + 1) H ∧ RdP W g S.2.1 S.2.2 ∧ Below w.heap.size w W) ⟨II.out, SI.out, BI.out, FI.out, RI.out, LB.out⟩ ?_)
      rintro W8 ⟨q1, q2, q3, q4, q5, q6⟩
      have U1 := Lib.hid q1
      have U2 := Lib.hid q2
      have U3 := Lib.hid q3
      have U6 := Lib.hid q6
      have CW := Lib.hid (evwith_any H g (b5 + 1) S.2.2 S.2.1 HX9.out W8 q4 q5 (by have := G5.out; omega) (by have := q3.lt; omega) HSL.out.1 HSL.out.2)
      clear q1 q2 q3 q4 q5 q6 hnx RI BI SI FI II LB
      refine wpList_load_mid rfl 34 (.tmp 5) rfl b5 0 rfl _ _ U3.out.range Tryd.underlying34 rfl (by kernel_rfl) ?_
      go_wp2_with fail
      refine CW.out.mono ?_
      rintro e W9 ⟨H', rfl, hv, hfar, hrd, hgr⟩
      have V1 := Lib.hid (U1.out.kept hgr LI.out.2.1)
      have V2 := Lib.hid (U2.out.kept hgr (by have := HG.out; omega))
      have V3 := Lib.hid (U3.out.kept hgr (by have := G5.out; omega))
      have VF := Lib.hid hfar
      have VR := Lib.hid hrd
      have VV : Hid (H'.e = ((p.take (pos + 1)).foldl stepE (bare (headK b) (headT b), headL b, headE b)).1 ∧ (withP H.e x S.2.1 S.2.2).2 = ((p.take (pos + 1)).foldl stepE (bare (headK b) (headT b), headL b, headE b)).2) := Lib.hid (by rw [hv, HST.out, HVL.out]; exact ⟨rfl, rfl⟩)
      have VB : Hid (Below w.heap.size w W9) := Lib.hid (U6.out.grown hgr U6.out.size (fun k hk => by cases hk; have := HG.out; omega))
      clear hv hfar hrd hgr U1 U2 U3 U6 CW HST HVL
      go_wp2_with ((with_reducible show wpList _ _ _ (⟨none, _, _, _, _, _⟩ :: _) _ _); refine hold ?_)
      refine held (wpList_store_wide rfl 34 (.tmp 5) (.tmp 33) rfl b5 0 (evC H') rfl rfl 34 (evC H) V3.out (by rw [evC_size, evC_size]; decide) (by rw [evC_size]; exact info_ev) (evC_one _) ?_)
      intro w10 hw10
      simp only [Act.put]
      obtain rfl := w_setRow_allE hw10 (by rw [evC_size, evC_size])
      have R : Hid (DeAt w w.heap.size g b5 (b5 + 1) gi p (pos + 1) (bare (headK b) (headT b), headL b, headE b) H' (W9.setRow b5 (evC H'))) := Lib.hid {
        it := V1.out.far V3.out
        res := V2.out.setRow_other (by have := HG.out; have := G5.out; omega) _
        box := V3.out.setRow_same _
        far := VF.out.kept (grownBy_setRow V3.out _) (Nat.lt_succ_self _)
        val := VV.out.1
        rd := by
          have := VR.out.grown (grownBy_setRow V3.out (evC H')) (by intro e; injection e with e; have := G5.out; omega)
          rw [VV.out.2] at this
          exact this
        below := below_setRow VB.out L5.out _ }
      clear hw10 V1 V2 V3 VF VR VV VB
      go_wp2_with fail
      go_roundw
      case rel => exact ⟨pos + 1, H', by omega, R.out⟩
      case measure => rw [R.out.it.pos]; rw [HM.out]; omega
    · have hnx := fun ty => next_none (P := Tryd.prog) HR.out.it (by omega) ty
      obtain rfl : pos = p.length := by omega
      have hv := HR.out.val
      have hrd := HR.out.rd
      rw [List.take_of_length_le (Nat.le_refl _), ← HS.out] at hv hrd
      have HV := Lib.hid hv
      have HRS := Lib.hid HR.out.res
      have HBX := Lib.hid HR.out.box
      have HFR := Lib.hid HR.out.far
      have HBL := Lib.hid HR.out.below
      have HDL : Hid (∀ y ∈ (decS b).2.1, y < 256) := Lib.hid (by rw [HS.out]; exact fold_lt _ _ (takeL_lt (takeL_lt H256.out)))
      have CD := Lib.hid (pDone_any g _ _ wr hrd HDL.out)
      have HDE : Hid (decE b = if decD b = 0 then (if rightE (decS b).1 = true then 0 else 3) else decD b) := Lib.hid rfl
      have HDV : Hid (decV b = if decE b = 0 then (decS b).1 else bare 0 0) := Lib.hid rfl
      obtain ⟨dd, hdd⟩ : ∃ dd, doneE (decS b).2.1 (decS b).2.2 = dd := ⟨_, rfl⟩
      have hdd2 : decD b = dd := hdd
      rw [hdd] at CD
      rw [hdd2] at HDE
      clear hv hrd hdd hdd2 HR
      go_wp2_with fail
      refine CD.out.mono ?_
      rintro e w' ⟨rfl, rfl⟩
      clear CD hnx
      by_cases h0 : dd = 0
      · subst h0
        go_wp2_with ((with_reducible show wpList _ _ _ (⟨some 40, _, _, _, _, _⟩ :: _) _ _); refine hold ?_)
        refine held (wpList_load_mid rfl 34 (.tmp 5) rfl b5 0 rfl _ _ HBX.out.range Tryd.underlying34 rfl (by kernel_rfl) ?_)
        go_wp2_with fail
        refine (evRight_any H wr HFR.out.inn (HK.out.below HBL.out)).mono ?_
        rintro e W8 ⟨rfl, hb8⟩
        have X1 := Lib.hid (HRS.out.below hb8 HRS.out.lt)
        have X2 := Lib.hid (HBX.out.below hb8 HBX.out.lt)
        have X3 := Lib.hid (HFR.out.below hb8)
        have X4 := Lib.hid (HBL.out.trans (hb8.mono HBL.out.size))
        have HRE : Hid (rightE H.e = rightE (decS b).1) := Lib.hid (by rw [HV.out])
        clear hb8 HRS HBX HFR HBL
        cases hre : rightE H.e
        · have HE3 : Hid (decE b = 3) := Lib.hid (by rw [HDE.out, if_pos (by trivial), ← HRE.out, hre]; rfl)
          have HVB : Hid (decV b = bare 0 0) := Lib.hid (by rw [HDV.out, HE3.out]; rfl)
          clear hre
          go_wp2_with ((with_reducible show wpList _ _ _ (⟨none, _, _, _, _, _⟩ :: _) _ _); refine hold ?_)
          refine held (wpList_store_wide rfl 34 (.tmp 2) (.tmp 43) rfl w.heap.size 0 (evC (bareH 0 0)) rfl rfl 34 _ X1.out (by rw [evC_size]; decide) (by rw [evC_size]; exact info_ev) (evC_one _) ?_)
          intro w10 hw10
          obtain rfl := w_setRow_allE hw10 (by rw [evC_size])
          go_wp2_with fail
          refine bodyPost_ret (results_cell2E rfl _ _ ⟨w.heap.size, 0, none⟩ _ _ rfl rfl (Bk.ev (Bk.setRow_same X1.out _))) rfl ⟨bareH 0 0, by rw [HE3.out]; rfl, by rw [HVB.out]; rfl, EvFar.bare _ _ _ _, below_setRow X4.out (Nat.le_refl _) _⟩
        · have HE0 : Hid (decE b = 0) := Lib.hid (by rw [HDE.out, if_pos (by trivial), ← HRE.out, hre]; rfl)
          have HVB : Hid (decV b = (decS b).1) := Lib.hid (by rw [HDV.out, HE0.out]; rfl)
          clear hre
          go_wp2_with ((with_reducible show wpList _ _ _ (⟨some 44, _, _, _, _, _⟩ :: _) _ _); refine hold ?_)
          refine held (wpList_load_mid rfl 34 (.tmp 5) rfl b5 0 rfl _ _ X2.out.range Tryd.underlying34 rfl (by kernel_rfl) ?_)
          go_wp2_with ((with_reducible show wpList _ _ _ (⟨none, _, _, _, _, _⟩ :: _) _ _); refine hold ?_)
          refine held (wpList_store_wide rfl 34 (.tmp 2) (.tmp 44) rfl w.heap.size 0 (evC H) rfl rfl 34 _ X1.out (by rw [evC_size, evC_size]; decide) (by rw [evC_size]; exact info_ev) (evC_one _) ?_)
          intro w10 hw10
          obtain rfl := w_setRow_allE hw10 (by rw [evC_size, evC_size])
          go_wp2_with fail
          refine bodyPost_ret (results_cell2E rfl _ _ ⟨w.heap.size, 0, none⟩ _ _ rfl rfl (Bk.ev (Bk.setRow_same X1.out _))) rfl ⟨H, by rw [HE0.out]; rfl, by rw [HVB.out]; exact HV.out, (X3.out.kept (grownBy_setRow X1.out _) (by have := L5.out; omega)).mono (by have := L5.out; omega), below_setRow X4.out (Nat.le_refl _) _⟩
      · have hne : (((dd : Nat) : Int) != 0) = true := by simpa using h0
        have HE3 : Hid (decE b = dd) := Lib.hid (by rw [HDE.out, if_neg h0])
        have HVB : Hid (decV b = bare 0 0) := Lib.hid (by rw [HDV.out, HE3.out, if_neg h0])
        clear h0
        go_wp2_with ((with_reducible show wpList _ _ _ (⟨none, _, _, _, _, _⟩ :: _) _ _); refine hold ?_)
        refine held (wpList_store_wide rfl 34 (.tmp 2) (.tmp 38) rfl w.heap.size 0 (evC (bareH 0 0)) rfl rfl 34 _ HRS.out (by rw [evC_size]; decide) (by rw [evC_size]; exact info_ev) (evC_one _) ?_)
        intro w10 hw10
        obtain rfl := w_setRow_allE hw10 (by rw [evC_size])
        go_wp2_with fail
        refine bodyPost_ret (results_cell2E rfl _ _ ⟨w.heap.size, 0, none⟩ _ _ rfl rfl (Bk.ev (Bk.setRow_same HRS.out _))) rfl ⟨bareH 0 0, by rw [HE3.out] <;> rfl, by rw [HVB.out]; rfl, EvFar.bare _ _ _ _, below_setRow HBL.out (Nat.le_refl _) _⟩
theorem evDecode_any (A : Option Addr) (n c : Nat) (b : List Nat) (w : World) (hb : Bytes w w.heap.size A n b) (hn : n ≤ 140737488355328) (hK : Kinds w) :
    Calls Tryd.prog 27 #[.slice A n c] w (DecIs b w) := by
  refine (evDecode_far A n c b w hb hn hK).mono ?_
  rintro e w' ⟨H, h1, h2, h3, h4⟩
  exact ⟨H, h1, h2, h3.inn, h4⟩
end Go.Proofs.YtoiffchhfnbooaaDoor

/-
  append(s, t...) onto a slice of one's own, of elements of k cells. They speak of any program.
-/
namespace Go.Proofs.YtoiffchhfnbooaaDoor
set_option linter.unusedVariables false
set_option linter.unusedSimpArgs false
set_option linter.unusedVariables false
set_option linter.unusedSimpArgs false
open Go.RowKit

section
variable {P : Program} {α : Type} {k : Nat} {f : α → List Value}
/-- an empty slice that is there -/
theorem OwnK.empty (hk : ∀ a, (f a).length = k) (w : World) (e : TypeId) : OwnK k f (w.alloc (.cells #[] e)) w.heap.size e (some ⟨w.heap.size, 0, none⟩) 0 0 [] :=
  ⟨⟨by simp, .inr ⟨w.heap.size, 0, #[], rfl, Nat.le_refl _, heap_alloc_new w _, by omega, by unfold maxLen; omega, by simp, by simp⟩⟩, rfl, hk⟩
theorem run_append_ks {w : World} {base : Nat} {e : TypeId} {A : Option Addr} {n c : Nat} {l : List α} (ho : OwnK k f w base e A n c l) (t ty : TypeId) (ht : P.underlying t = some (.slice e)) {zv : Value} {by_ : Nat}
    (he : (P.info? e).map (fun i => (i.zero, i.size, i.bytes)) = some (some zv, k, by_)) (hzc : zv.cells.size = k) (hk0 : 0 < k) (hby : by_ ≤ 100) {A' : Option Addr} {m c' B : Nat} {us : List α} (hu : ColK k f w B A' m us) (hone : ∀ u ∈ us, ∀ v ∈ f u, v.oneCell' = true) (hnm : n + m ≤ 1000000) (hbase : base ≤ w.heap.size) :
    ∃ A2 c2 w', (Builtin.append_ #[t, t] ty #[.slice A n c, .slice A' m c']).run P w = .ok (.slice A2 (n + m) c2) w' ∧ OwnK k f w' base e A2 (n + m) c2 (l ++ us) ∧ Below base w w' ∧ w.grownBy w' (Value.slice A n c).ownBlock := by
  obtain ⟨i, hi, hz, hs, hby'⟩ := info_parts he
  have hul := hu.1
  cases A' with
  | none =>
    have hm : m = 0 := by
      rcases Nat.eq_zero_or_pos m with h | h
      · exact h
      · obtain ⟨b, o, h', _⟩ := hu.2 h; cases h'
    subst hm
    have hl' : us = [] := List.eq_nil_of_length_eq_zero hul
    subst hl'
    refine ⟨A, c, w, ?_, by simpa using ho, Below.refl _ _, World.grownBy.refl _ _⟩
    have hcc := ho.cap.1
    cases A with
    | none =>
      rcases ho.1.2 with ⟨hv, h0⟩ | ⟨g, cap, cur, hv, _⟩
      · injection hv with _ _ hc
        subst hc; subst h0
        simp [Builtin.append_, run_underlying ht, sizeOf, typeInfo, hi, Builtin.lenOf, Builtin.firstCells]
      · cases hv
    | some a => simp [Builtin.append_, run_underlying ht, sizeOf, typeInfo, hi, Builtin.lenOf, Builtin.firstCells, hcc, storeCells]
  | some ad =>
    have hnews : ∀ (j : Nat) (u : Value), (us.flatMap f)[j]? = some u → w.cell? (ad.add j) = some u := by
      intro j u hju
      have hj : j < (us.flatMap f).length := (List.getElem?_eq_some_iff.1 hju).1
      rw [flat_len ho.2.2, hul] at hj
      have hm0 : 0 < m := by rcases Nat.eq_zero_or_pos m with h | h; (rw [h, Nat.zero_mul] at hj; omega); exact h
      obtain ⟨b, o, h', _, hcc⟩ := hu.2 hm0
      injection h' with h'
      subst h'
      rw [Addr.add_mid]
      have hq : j / k < us.length := by rw [hul]; exact Nat.div_lt_of_lt_mul (by rw [Nat.mul_comm]; exact hj)
      have hr := hcc (j / k) _ (List.getElem?_eq_getElem hq)
      have hjj : j / k * k + j % k = j := by rw [Nat.mul_comm]; exact Nat.div_add_mod j k
      have hmod : j % k < k := Nat.mod_lt _ hk0
      have hfl : j % k < (f us[j / k]).length := by rw [ho.2.2]; exact hmod
      have h2 := flat_get ho.2.2 us (j / k) _ (List.getElem?_eq_getElem hq) (j % k) _ (List.getElem?_eq_getElem hfl)
      rw [hjj, hju] at h2
      have h3 := hr (j % k) _ (List.getElem?_eq_getElem hfl)
      rw [Nat.add_assoc, hjj] at h3
      rw [h3]
      exact h2.symm
    obtain ⟨v', w', hrun, h1, h2, _, _⟩ := run_append_own_at (P := P) w base t ty e i zv k by_ ht hi hz hs hby' hzc hk0 (.slice A n c) n (l.flatMap f) ho.1 ad m c' (us.flatMap f) (by rw [flat_len ho.2.2, hul]) hnews (fun u hu' => by obtain ⟨a, ha, hau⟩ := List.mem_flatMap.1 hu'; exact hone a ha u hau) (by unfold maxLen; omega) (Nat.le_trans (Nat.mul_le_mul_left _ hby) (by omega)) hbase
    have hsh : ∃ A2 c2, v' = .slice A2 (n + m) c2 := by
      rcases h1.2 with ⟨rfl, h0⟩ | ⟨g, cap, cur, rfl, _⟩
      · rw [h0]; exact ⟨_, _, rfl⟩
      · exact ⟨_, _, rfl⟩
    obtain ⟨A2, c2, rfl⟩ := hsh
    refine ⟨A2, c2, w', hrun, ⟨?_, by rw [List.length_append, ho.len, hul], ho.2.2⟩, (Below.refl _ _).grown h2 hbase (fun k hk => (ho.1.lt k hk).1), h2⟩
    rw [List.flatMap_append]
    exact h1
theorem wp_append_ks {o : Oper} {a : Act} {w w' : World} {K : Act → World → Prop} {Q : Exit → Act → World → Prop} {s x : Operand} {t : TypeId} {v y z : Value} (ho : o.op = .call { callee := .builtin .append, args := #[s, x], argTypes := #[t, t] })
    (hs : a.eval s = v) (hx : a.eval x = y) (hrun : (Builtin.append_ #[t, t] o.type #[v, y]).run P w = .ok z w') (hK : K (a.put o.dst z) w') : o.wp P a w K Q := by
  unfold Oper.wp execOp
  simp only [ho, resolve, invoke, builtin, Sem.run_bind, Sem.run_pure, Result.andThen_ok, List.map_toArray, List.map_cons, List.map_nil, hs, hx, hrun]
  exact hK
/-- a part of a slice as elements -/
theorem ColK.to {w : World} {B n : Nat} {A : Option Addr} {l : List α} (h : ColK k f w B A n l) {j : Nat} (hj : j ≤ n) : ColK k f w B A j (l.take j) := by
  refine ⟨by rw [List.length_take, h.1]; omega, fun hj0 => ?_⟩
  obtain ⟨b, o, e, hb, hc⟩ := h.2 (by omega)
  refine ⟨b, o, e, hb, fun i a hi => hc i a ?_⟩
  have hij : i < j := by have := (List.getElem?_eq_some_iff.1 hi).1; rw [List.length_take] at this; omega
  rwa [List.getElem?_take_of_lt hij] at hi
theorem ColK.from_ {w : World} {B n b o : Nat} {l : List α} (h : ColK k f w B (some ⟨b, o, none⟩) n l) {j : Nat} (hj : j ≤ n) : ColK k f w B (some ⟨b, o + j * k, none⟩) (n - j) (l.drop j) := by
  refine ⟨by rw [List.length_drop, h.1], fun hj0 => ?_⟩
  obtain ⟨b', o', e, hb, hc⟩ := h.2 (by omega)
  injection e with e
  injection e with e1 e2
  subst e1; subst e2
  refine ⟨b, o + j * k, rfl, hb, fun i a hi => ?_⟩
  rw [List.getElem?_drop] at hi
  have := hc (j + i) a hi
  rwa [show o + (j + i) * k = o + j * k + i * k by rw [Nat.add_mul]; omega] at this
end
end Go.Proofs.YtoiffchhfnbooaaDoor

/-
  Contracts over the document's own package for events: the event that is read next.
-/
namespace Go.Proofs.YtoiffchhfnbooaaDoor
set_option linter.unusedVariables false
set_option linter.unusedSimpArgs false
open Go.RowKit
set_option linter.unusedVariables false
set_option linter.unusedSimpArgs false

def accS (l : List Nat) (k : Nat) : St3 := (nineL.take k).foldl (docStep (headK l)) (bare (headK l) (headT l), headL l, 0)
theorem accS_next {l : List Nat} {k c : Nat} (hc : nineL[k]? = some c) : accS l (k + 1) = docStep (headK l) (accS l k) c := by
  unfold accS
  rw [take_snoc_n nineL k c hc, List.foldl_append]; rfl
theorem accS_in {l : List Nat} {c : Nat} (h : decide (c ∈ partsN (headK l)) = true) (x : St3) : docStep (headK l) x c = withP x.1 c x.2.1 x.2.2 := if_pos (of_decide_eq_true h)
theorem accS_out {l : List Nat} {c : Nat} (h : decide (c ∈ partsN (headK l)) = false) (x : St3) : docStep (headK l) x c = x := if_neg (of_decide_eq_false h)
theorem docS_acc {l : List Nat} (h : headE l = 0) : docS l = accS l 9 := if_pos h
theorem doc_lt (K : Int) (p : List Nat) : ∀ (x : St3), (∀ y ∈ x.2.1, y < 256) → ∀ y ∈ (p.foldl (docStep K) x).2.1, y < 256 := by
  induction p with
  | nil => intro x h; exact h
  | cons c p ih =>
    intro x h
    rw [List.foldl_cons]
    refine ih _ ?_
    unfold docStep
    split
    · exact part_lt x.1 c x.2.2 h
    · exact h
theorem doc_len (K : Int) (p : List Nat) : ∀ (x : St3), (p.foldl (docStep K) x).2.1.length ≤ x.2.1.length := by
  induction p with
  | nil => intro x; exact Nat.le_refl _
  | cons c p ih =>
    intro x
    rw [List.foldl_cons]
    refine Nat.le_trans (ih _) ?_
    unfold docStep
    split
    · exact part_len x.1 c x.2.2
    · exact Nat.le_refl _
theorem accS_lt {l : List Nat} (h : ∀ y ∈ l, y < 256) (k : Nat) : ∀ y ∈ (accS l k).2.1, y < 256 := doc_lt _ _ _ (takeL_lt (takeL_lt h))
theorem accS_len (l : List Nat) (k : Nat) : (accS l k).2.1.length ≤ l.length := Nat.le_trans (doc_len _ _ _) (Nat.le_trans takeL_len takeL_len)
theorem part_ids (x : Ev) {c : Nat} (hc : c ≠ 105) (l : List Nat) (er : Nat) : (withP x c l er).1.ids = x.ids := by
  unfold withP
  repeat (first | rfl | exact absurd ‹_› hc | split)
theorem part_set (x : Ev) {c : Nat} (hc : c ≠ 115) (l : List Nat) (er : Nat) : (withP x c l er).1.set = x.set := by
  unfold withP
  repeat (first | rfl | exact absurd ‹_› hc | split)
theorem doc_ids (K : Int) (x : St3) {c : Nat} (hc : c ≠ 105) : (docStep K x c).1.ids = x.1.ids := by
  unfold docStep
  split
  · exact part_ids _ hc _ _
  · rfl
theorem doc_set (K : Int) (x : St3) {c : Nat} (hc : c ≠ 115) : (docStep K x c).1.set = x.1.set := by
  unfold docStep
  split
  · exact part_set _ hc _ _
  · rfl
theorem accS_ids (l : List Nat) : (accS l 2).1.ids = [] := by
  rw [accS_next (k := 1) (c := 116) rfl, accS_next (k := 0) (c := 98) rfl, doc_ids _ _ (by decide), doc_ids _ _ (by decide)]; rfl
theorem accS_set (l : List Nat) : (accS l 3).1.set = [] := by
  rw [accS_next (k := 2) (c := 105) rfl, accS_next (k := 1) (c := 116) rfl, accS_next (k := 0) (c := 98) rfl, doc_set _ _ (by decide), doc_set _ _ (by decide), doc_set _ _ (by decide)]; rfl

section
variable {w wx w2 : World} {g B b2 b3 : Nat} {x : St3} {H : Eh}
theorem own_apart {n1 c1 n2 c2 base : Nat} {A1 A2 : Option Addr} {l : List Value} {m : List Rg} (h1 : OwnV wx base 3 A1 n1 c1 l) (h2 : OwnK 2 rgC wx base 65 A2 n2 c2 m) : (Value.slice A2 n2 c2).ownBlock = none ∨ (Value.slice A2 n2 c2).ownBlock ≠ (Value.slice A1 n1 c1).ownBlock := by
  rcases h2.1.2 with ⟨hv, _⟩ | ⟨g2, cap2, cur2, hv2, _, hh2, _⟩
  · left; rw [hv]; rfl
  · right
    rcases h1.2 with ⟨hv, _⟩ | ⟨g1, cap1, cur1, hv1, _, hh1, _⟩
    · rw [hv, hv2]; simp [Value.ownBlock]
    · rw [hv1, hv2]
      intro e
      have e' : g2 = g1 := by simpa [Value.ownBlock] using e
      subst e'
      rw [hh1] at hh2
      injection hh2 with hh2
      injection hh2 with _ ht
      exact absurd ht (by decide)
theorem own_apart' {n1 c1 n2 c2 base : Nat} {A1 A2 : Option Addr} {l : List Value} {m : List Rg} (h1 : OwnV wx base 3 A1 n1 c1 l) (h2 : OwnK 2 rgC wx base 65 A2 n2 c2 m) : (Value.slice A1 n1 c1).ownBlock = none ∨ (Value.slice A1 n1 c1).ownBlock ≠ (Value.slice A2 n2 c2).ownBlock := by
  rcases h1.2 with ⟨hv, _⟩ | ⟨g1, cap1, cur1, hv1, _, hh1, _⟩
  · left; rw [hv]; rfl
  · right
    rcases h2.1.2 with ⟨hv, _⟩ | ⟨g2, cap2, cur2, hv2, _, hh2, _⟩
    · rw [hv, hv1]; simp [Value.ownBlock]
    · rw [hv1, hv2]
      intro e
      have e' : g1 = g2 := by simpa [Value.ownBlock] using e
      subst e'
      rw [hh1] at hh2
      injection hh2 with hh2
      injection hh2 with _ ht
      exact absurd ht (by decide)
theorem run_append_oneE {base n c : Nat} {A : Option Addr} {vs : List Value} (ho : OwnV wx base 3 A n c vs) (ty : TypeId) (b : Nat) (z : Int) (hb : Bk wx b 3 #[.int .i64 z]) (hn : n ≤ 1000000) (hbase : base ≤ wx.heap.size) :
    ∃ A2 c2 w', (Builtin.append_ #[30, 30] ty #[.slice A n c, .slice (some ⟨b, 0, none⟩) 1 1]).run Tryd.prog wx = .ok (.slice A2 (n + 1) c2) w' ∧ OwnV w' base 3 A2 (n + 1) c2 (vs ++ [.int .i64 z]) ∧ Below base wx w' ∧ wx.grownBy w' (Value.slice A n c).ownBlock := by
  obtain ⟨i, hi, hz, hs, hby'⟩ := info_parts info_intE
  obtain ⟨v', w', hrun, h1, h2, _, _⟩ := run_append_own_at (P := Tryd.prog) wx base 30 ty 3 i (.int .i64 0) 1 8 Tryd.underlying30 hi hz hs hby' rfl (by omega) (.slice A n c) n vs ho ⟨b, 0, none⟩ 1 1 [.int .i64 z] (by simp)
    (fun j u hu => by
      cases j with
      | zero => simp at hu; subst hu; rw [Addr.add_mid, Nat.add_zero]; exact hb.cell 0
      | succ j => simp at hu) (by simp [Value.oneCell']) (by unfold maxLen; omega) (by omega) hbase
  have hsh : ∃ A2 c2, v' = .slice A2 (n + 1) c2 := by
    rcases h1.2 with ⟨rfl, h0⟩ | ⟨g, cap, cur, rfl, _⟩
    · rw [h0]; exact ⟨_, _, rfl⟩
    · exact ⟨_, _, rfl⟩
  obtain ⟨A2, c2, rfl⟩ := hsh
  exact ⟨A2, c2, w', hrun, h1, (Below.refl _ _).grown h2 hbase (fun k hk => (World.ownsRow.lt ho k hk).1), h2⟩
end

theorem doc_body (K : Int) (x : St3) {c : Nat} (hc : c ≠ 121) : (docStep K x c).1.body = x.1.body := by
  unfold docStep
  split
  · show (withP x.1 c x.2.1 x.2.2).1.body = _
    unfold withP
    repeat (first | rfl | exact absurd ‹_› hc | split)
  · rfl
theorem accS_body2 (l : List Nat) : (accS l 2).1.body = [] := by
  rw [accS_next (k := 1) (c := 116) rfl, accS_next (k := 0) (c := 98) rfl, doc_body _ _ (by decide), doc_body _ _ (by decide)]; rfl
theorem accS_body3 (l : List Nat) : (accS l 3).1.body = [] := by
  rw [accS_next (k := 2) (c := 105) rfl, doc_body _ _ (by decide), accS_body2]
theorem EvFar.low {w : World} {base base' : Nat} {H : Eh} (h : EvFar w base H) (hb : base' ≤ base) : EvFar w base' H := ⟨h.inn, h.a1.imp fun b hx => Nat.le_trans hb hx, h.a2.imp fun b hx => Nat.le_trans hb hx, h.a3.imp fun b hx => Nat.le_trans hb hx⟩
end Go.Proofs.YtoiffchhfnbooaaDoor

/-
  Contracts over the document's own package for events: may an event be?
-/
namespace Go.Proofs.YtoiffchhfnbooaaDoor
set_option linter.unusedVariables false
set_option linter.unusedSimpArgs false
open Go.RowKit
set_option linter.unusedVariables false
set_option linter.unusedSimpArgs false

def goodAt (e : Ev) (c : Nat) : Bool := if c ∈ partsN e.kind then okQ e c else noneP e c
theorem rightD_eq (e : Ev) : rightE e = (!(partsN e.kind).isEmpty && (tmB e.at_ && nineL.all (goodAt e))) := (right_doc e).symm
theorem rightD_stop {e : Ev} {c : Nat} (hc : c ∈ nineL) (h : goodAt e c = false) : rightE e = false := by
  rw [rightD_eq]
  have : nineL.all (goodAt e) = false := by
    rw [List.all_eq_false]
    exact ⟨c, hc, by rw [h]; decide⟩
  rw [this, Bool.and_false, Bool.and_false]
theorem rightD_yes {e : Ev} (h0 : ¬ partsN e.kind = []) (h1 : tmB e.at_ = true) (h2 : ∀ c ∈ nineL, goodAt e c = true) : rightE e = true := by
  rw [rightD_eq, h1, List.all_eq_true.2 h2]
  have : (partsN e.kind).isEmpty = false := by simpa using h0
  rw [this]
  rfl
theorem good_in {e : Ev} {c : Nat} (h : c ∈ partsN e.kind) : goodAt e c = okQ e c := if_pos h
theorem good_out {e : Ev} {c : Nat} (h : ¬ c ∈ partsN e.kind) : goodAt e c = noneP e c := if_neg h
theorem good_next {e : Ev} {k c : Nat} (h : ∀ x ∈ nineL.take k, goodAt e x = true) (hc : nineL[k]? = some c) (hx : goodAt e c = true) : ∀ x ∈ nineL.take (k + 1), goodAt e x = true := by
  intro x hm
  rw [take_snoc_n nineL k c hc] at hm
  rcases List.mem_append.1 hm with hm | hm
  · exact h x hm
  · rw [List.mem_singleton.1 hm]; exact hx
def goodC (e : Ev) : Array Value := #[.bool (okQ e 98), .bool (okQ e 116), .bool (okQ e 105), .bool (okQ e 115), .bool (okQ e 109), .bool (okQ e 102), .bool (okQ e 100), .bool (okQ e 110), .bool (okQ e 121)]
def noneC (e : Ev) : Array Value := #[.bool (noneP e 98), .bool (noneP e 116), .bool (noneP e 105), .bool (noneP e 115), .bool (noneP e 109), .bool (noneP e 102), .bool (noneP e 100), .bool (noneP e 110), .bool (noneP e 121)]
theorem none_text (s : ByteArray) : s.toList.isEmpty = decide (s = noText) := by
  have h := strs_empty (nats s)
  rw [strOf_nats] at h
  rw [h]
  refine decide_eq_decide.2 ⟨fun e => ?_, fun e => by rw [e]; rfl⟩
  rw [← strOf_nats s, e]; rfl
theorem none_len {α : Type} {l : List α} {n : Nat} (h : l.length = n) : ((n : Int) == 0) = decide (l = []) := by
  rw [← h]
  cases l with
  | nil => rfl
  | cons a l => simp; omega
theorem none_int (z : Int) : (z == 0) = decide (z = 0) := rfl
theorem ids_full {l : List Int} {n : Nat} (h : l.length = n) (h1 : (1 : Int) ≤ (n : Int)) (h2 : (n : Int) ≤ 60) : idsB l = riseB l := by
  unfold idsB
  rw [decide_eq_true (by omega), Bool.true_and]
theorem oper_store_wide {P : Program} {o : Oper} {a : Act} {w : World} {K : Act → World → Prop} {Q : Exit → Act → World → Prop} (ty : TypeId) (x y : Operand) (ho : o.op = .store ty x y)
    (g : Nat) (cells : Array Value) (hx : a.eval x = .pointer (some ⟨g, 0, none⟩)) (hy : a.eval y = .agg cells)
    (t : TypeId) (cur : Array Value) (hg : Bk w g t cur) (hfit : cells.size = cur.size) (hi : (P.info? ty).map (·.size) = some cells.size) (h1 : ∀ v ∈ cells.toList, v.oneCell' = true)
    (h : ∀ w', Hid (w' = w.setRow g cells) → K (a.put o.dst undef) w') : o.wp P a w K Q := by
  refine wp_skip (w' := w.setRow g cells) ?_ (h _ rfl)
  have := run_storeCells_at P g 0 t cells.toList 0 cur w hg (by simp; omega) h1
  simp only [Nat.add_zero, Nat.zero_add, List.append_assoc] at this
  have e : splice cur.toList 0 cells.toList = cells.toList := splice_all (by simp [hfit])
  unfold splice at e
  simp only [Nat.zero_add] at e
  cases hq : P.info? ty with
  | none => simp [hq] at hi
  | some i =>
    have hs : cells.size = i.size := by simp [hq] at hi; omega
    unfold execOp
    simp only [ho, hx, hy, Instr.storeAt, Instr.sureAddr, Sem.run_bind, Sem.run_pure, Result.andThen_ok]
    simp only [e, Array.toArray_toList] at this
    simp [storeVar, sizeOf, typeInfo, hq, Value.cells, hs, this]
end Go.Proofs.YtoiffchhfnbooaaDoor
