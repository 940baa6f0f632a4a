/-
  The laws of package box, as walks: Rise.
-/
import Derived.Test.YthmlgbeonmpbjaaQBoxR
import Derived.Test.YthmlgbeonmpbjaaQBoxH
import Derived.Deep.DeepCutAuto
namespace Go.Proofs.Ythmlgbeonmpbjaa
set_option linter.unusedVariables false
set_option linter.unusedSimpArgs false
open Go.RowKit
set_option linter.unusedVariables false
set_option linter.unusedSimpArgs false

theorem row6 {w : World} {b o : Nat} {x : Tn} (h : w.rangeAt b o (tnC x)) : (w.cell? ⟨b, o, none⟩ = some (.int .i64 x.h.m.uid) ∧ w.cell? ⟨b, o + 1, none⟩ = some (.int .i64 x.h.m.flags) ∧ w.cell? ⟨b, o + 2, none⟩ = some (.int .i64 x.h.m.date) ∧ w.cell? ⟨b, o + 3, none⟩ = some (.slice x.h.A x.h.n x.h.c)) ∧ w.cell? ⟨b, o + 4, none⟩ = some (.bool x.take) ∧ w.cell? ⟨b, o + 5, none⟩ = some (.int .u8 (x.pick : Int)) :=
  ⟨⟨h 0 _ rfl, h 1 _ rfl, h 2 _ rfl, h 3 _ rfl⟩, h 4 _ rfl, h 5 _ rfl⟩
/-- the mailbox lies in its box, and may be -/
def RiseAt (w : World) (bB : Nat) (nxb : Int) (A : Option Addr) (n c : Nat) (l : List Mg) (wx : World) : Prop :=
  Bk wx bB 24 #[.string ⟨#[97]⟩, .int .i64 7, .int .i64 nxb, .slice A n c] ∧ MsgsIn wx wx.heap.size A n l ∧ Below w.heap.size w wx ∧ w.heap.size ≤ bB ∧ OkBx ⟨⟨#[97]⟩, 7, nxb, l⟩
theorem RiseAt.below {w wx W : World} {bB : Nat} {nxb : Int} {A : Option Addr} {n c : Nat} {l : List Mg} (h : RiseAt w bB nxb A n c l wx) (hb : Below wx.heap.size wx W) : RiseAt w bB nxb A n c l W :=
  ⟨h.1.below hb h.1.lt, h.2.1.later hb, h.2.2.1.trans (hb.mono h.2.2.1.size), h.2.2.2.1, h.2.2.2.2⟩
theorem RiseAt.put {w wx : World} {bB : Nat} {nxb nx2 : Int} {A A2 : Option Addr} {n c n2 c2 : Nat} {l l2 : List Mg} (h : RiseAt w bB nxb A n c l wx) (h2 : MsgsIn wx wx.heap.size A2 n2 l2) (hk : OkBx ⟨⟨#[97]⟩, 7, nx2, l2⟩) :
    RiseAt w bB nx2 A2 n2 c2 l2 ((((wx.setCell ⟨bB, 0, none⟩ (.string ⟨#[97]⟩)).setCell ⟨bB, 1, none⟩ (.int .i64 7)).setCell ⟨bB, 2, none⟩ (.int .i64 nx2)).setCell ⟨bB, 3, none⟩ (.slice A2 n2 c2)) := by
  have hg := grown_put4 wx bB (.string ⟨#[97]⟩) (.int .i64 7) (.int .i64 nx2) (.slice A2 n2 c2)
  refine ⟨h.1.put4 _ _ _ _, ?_, below_put4 h.2.2.1 h.2.2.2.1 _ _ _ _, h.2.2.2.1, hk⟩
  exact (h2.box4 h.1 hg).more hg.size
theorem rise_add {nxb : Int} {l : List Mg} {m : Mg} (he : addE ⟨⟨#[97]⟩, 7, nxb, l⟩ m = 0) : ∃ l2, addB ⟨⟨#[97]⟩, 7, nxb, l⟩ m = ⟨⟨#[97]⟩, 7, nxb + 1, l2⟩ ∧ addN ⟨⟨#[97]⟩, 7, nxb, l⟩ m = nxb ∧ OkBx ⟨⟨#[97]⟩, 7, nxb + 1, l2⟩ ∧ l2.length ≤ 40 := by
  have h1 := addB_ok he
  have h2 := add_right he
  rw [h1.1] at h2
  exact ⟨_, h1.1, h1.2, h2, h2.2.2.2.2.1⟩
theorem add_rise {nxb : Int} {A : Option Addr} {n c : Nat} {l : List Mg} {u f d : Int} {xA : Option Addr} {xn xc : Nat} {bl : List Nat} {nn : ByteArray} {vv xx : Int} {ll : List Mg} {uu ee : Int}
    (h1 : addB ⟨⟨#[97]⟩, 7, nxb, l⟩ ⟨u, f, d, bl⟩ = ⟨nn, vv, xx, ll⟩) (h2 : addN ⟨⟨#[97]⟩, 7, nxb, l⟩ ⟨u, f, d, bl⟩ = uu) (h3 : addE ⟨⟨#[97]⟩, 7, nxb, l⟩ ⟨u, f, d, bl⟩ = ee)
    (w : World) (hl : MsgsIn w w.heap.size A n l) (hn : n ≤ 1000000) (hsm : ∀ m ∈ l, m.body.length ≤ 1000000) (hx : Bytes w w.heap.size xA xn bl) (hxn : xn ≤ 140737488355328) :
    Calls Try.prog 12 #[.agg #[.string ⟨#[97]⟩, .int .i64 7, .int .i64 nxb, .slice A n c], .agg #[.int .i64 u, .int .i64 f, .int .i64 d, .slice xA xn xc]] w
      (fun e w' => ∃ (A' : Option Addr) (n' c' : Nat), e = .returned (.tuple #[.agg #[.string nn, .int .i64 vv, .int .i64 xx, .slice A' n' c'], .int .i64 uu, .int .i64 ee]) ∧ MsgsIn w' w'.heap.size A' n' ll ∧ Below w.heap.size w w') := by
  refine (add_any _ 7 nxb A n c l u f d xA xn xc bl w hl hn hsm hx hxn).mono ?_
  rintro e w' ⟨A', n', c', rfl, hm, hb⟩
  rw [h1, h2, h3]
  rw [h1] at hm
  exact ⟨A', n', c', rfl, hm, hb⟩
theorem take_rise {nxb : Int} {A : Option Addr} {n c : Nat} {l : List Mg} {B : Option Addr} {m d0 : Nat} (hk : OkBx ⟨⟨#[97]⟩, 7, nxb, l⟩) (j : Nat)
    (w : World) (hl : MsgsIn w w.heap.size A n l) (hn : n ≤ 1000000) (hi : Col ints w w.heap.size B m ((l.map Mg.uid).drop j)) (hm : m ≤ 140737488355328) :
    Calls Try.prog 19 #[.agg #[.string ⟨#[97]⟩, .int .i64 7, .int .i64 nxb, .slice A n c], .slice B m d0] w
      (fun e w' => ∃ (A' : Option Addr) (n' c' : Nat) (A2 : Option Addr) (n2 c2 : Nat), e = .returned (.tuple #[.agg #[.string ⟨#[97]⟩, .int .i64 7, .int .i64 nxb, .slice A' n' c'], .slice A2 n2 c2, .int .i64 0]) ∧
        MsgsIn w' w'.heap.size A' n' (l.take j) ∧ MsgsIn w' w'.heap.size A2 n2 (l.drop j) ∧ Below w.heap.size w w') := by
  obtain ⟨h1, h2, h3, h4⟩ := rise_take hk j
  refine (take_any _ 7 nxb A n c l B m d0 _ w hl hn (ok_small hk) hi hm).mono ?_
  rintro e w' ⟨A', n', c', A2, n2, c2, rfl, hm1, hm2, hb⟩
  rw [h2] at hm1 ⊢
  rw [h3] at hm2
  rw [h1]
  exact ⟨A', n', c', A2, n2, c2, rfl, hm1, hm2, hb⟩

set_option maxRecDepth 100000 in
set_option maxHeartbeats 16000000 in
theorem boxRise_walk (T : Option Addr) (tn tc : Nat) (ts : List Tn) (nx0 : Nat) (w : World) (hl : TurnsIn w w.heap.size T tn ts) (hn : tn ≤ 140737488355328) (hnx : nx0 < 4294967296) :
    Calls Try.prog 6 #[.slice T tn tc, .int .u32 (nx0 : Int)] w fun e w' => e = .returned (.bool true) ∧ Below w.heap.size w w' := by
  have hmx : Try.prog.follows .mixedOrders = true := by kernel_rfl
  have HT := Lib.hid hl
  clear hl
  have hx0 : (0 : Int) ≤ (nx0 : Int) := by omega
  have hx1 : (nx0 : Int) < 4294967296 := by omega
  have HNX := Lib.hid hnx
  clear hnx
  by_cases h80 : 80 < tn
  · have h80' : (80 : Int) < (tn : Int) := by omega
    go_enter Try.func6, Try.ntmps6
    go_wp2_with fail
    refine (alive11_any w).mono ?_
    rintro e w1 ⟨rfl, hb⟩
    have HB1 := Lib.hid hb
    clear hb
    go_wp2_with fail
    go_ret
    exact ⟨rfl, HB1.out⟩
  have h80b : decide ((80 : Int) < (tn : Int)) = false := decide_eq_false (by omega)
  clear h80
  go_enter Try.func6, Try.ntmps6
  go_wp2_with fail
  refine (alive11_any w).mono ?_
  rintro e w1 ⟨rfl, hb⟩
  have HB1 := Lib.hid hb
  clear hb
  go_wp2_with fail
  have HR0 : Hid (RiseAt w w1.heap.size (1 + (nx0 : Int)) none 0 0 [] (w1.alloc (.cells #[.string ⟨#[97]⟩, .int .i64 7, .int .i64 (1 + (nx0 : Int)), .slice none 0 0] 24))) := Lib.hid ⟨Bk.new _ _ _, MsgsIn.nil, HB1.out.alloc HB1.out.size _, HB1.out.size, by have hnx := HNX.out; unfold OkBx OkTo; simp; omega⟩
  obtain ⟨bB, hbB⟩ : ∃ q, w1.heap.size = q := ⟨_, rfl⟩
  try rw [hbB] at HR0
  try rw [hbB]
  clear hbB
  generalize w1.alloc (.cells #[.string ⟨#[97]⟩, .int .i64 7, .int .i64 (1 + (nx0 : Int)), .slice none 0 0] 24) = w2 at *
  go_loopw [6, 7] (fun la i wx => ∃ (k : Nat) (last nxb : Int) (A : Option Addr) (n c : Nat) (l : List Mg), k ≤ tn ∧ i = .int .i64 (k : Int) ∧ la = .int .i64 last ∧ nxb = last + 1 ∧ RiseAt w bB nxb A n c l wx) (fun _ i _ => tn - (intOf i).toNat)
  case atStart => exact ⟨0, _, _, none, 0, 0, [], Nat.zero_le _, rfl, rfl, by omega, HR0.out⟩
  case round =>
    obtain ⟨k, last, nxb, A, n, c, l, hk, rfl, rfl, hnl, hra⟩ := hrel
    have HRA := Lib.hid hra
    have HNL := Lib.hid hnl
    clear hra hnl HR0 HB1
    have hn40 : n ≤ 40 := by rw [← HRA.out.2.1.len]; exact HRA.out.2.2.2.2.2.2.2.2.1
    by_cases hlt : k < tn
    · obtain ⟨tb, tf, t, rfl, htb, hta, _, htrow⟩ := (HT.out.1.below HRA.out.2.2.1 (Nat.le_refl _)).at_ hlt
      have htin := (HT.out.2 t (List.mem_of_getElem? hta))
      have htr := row6 htrow
      obtain ⟨⟨⟨u, f, d, bl⟩, xA, xn, xc⟩, tk, pk⟩ := t
      simp only at htr htin
      obtain ⟨⟨t0, t1, t2, t3⟩, t4, t5⟩ := htr
      have HTIN := Lib.hid htin.1
      have hpk : pk < 256 := htin.2
      have htl : tb < wr.heap.size := Nat.lt_of_lt_of_le htb HRA.out.2.2.1.size
      have hk0 : (0 : Int) ≤ (k : Int) := by omega
      have hkn : (k : Int) < (tn : Int) := by omega
      clear hta htrow htin
      have T0 := Lib.hid (show wr.cell? ⟨tb, tf + k * 6, none⟩ = some (.int .i64 u) ∧ wr.cell? ⟨tb, tf + k * 6 + 1, none⟩ = some (.int .i64 f) ∧ wr.cell? ⟨tb, tf + k * 6 + 2, none⟩ = some (.int .i64 d) ∧ wr.cell? ⟨tb, tf + k * 6 + 3, none⟩ = some (.slice xA xn xc) ∧ wr.cell? ⟨tb, tf + k * 6 + 4, none⟩ = some (.bool tk) ∧ wr.cell? ⟨tb, tf + k * 6 + 5, none⟩ = some (.int .u8 (pk : Int)) from ⟨t0, t1, t2, t3, t4, t5⟩)
      clear t0 t1 t2 t3 t4 t5
      obtain ⟨⟨b0, b1, b2, b3⟩, -, -, -, -⟩ := HRA.out.1.four
      go_wp2_with fail
      clear b0 b1 b2 b3
      refine (uids_any ⟨#[97]⟩ 7 nxb A n c l wr HRA.out.2.1 (by omega)).mono ?_
      rintro e w3 ⟨Au, nu, cu, rfl, hu, hcu, hb⟩
      have hnu : nu = n := by rw [← hu.1, List.length_map]; exact HRA.out.2.1.len
      subst hnu
      have HU := Lib.hid hu
      have HRB := Lib.hid (HRA.out.below hb)
      have T1 := Lib.hid (show w3.cell? ⟨tb, tf + k * 6, none⟩ = some (.int .i64 u) ∧ w3.cell? ⟨tb, tf + k * 6 + 1, none⟩ = some (.int .i64 f) ∧ w3.cell? ⟨tb, tf + k * 6 + 2, none⟩ = some (.int .i64 d) ∧ w3.cell? ⟨tb, tf + k * 6 + 3, none⟩ = some (.slice xA xn xc) ∧ w3.cell? ⟨tb, tf + k * 6 + 4, none⟩ = some (.bool tk) ∧ w3.cell? ⟨tb, tf + k * 6 + 5, none⟩ = some (.int .u8 (pk : Int)) from ⟨(hb.cell (p := ⟨tb, _, none⟩) htl).trans T0.out.1, (hb.cell (p := ⟨tb, _, none⟩) htl).trans T0.out.2.1, (hb.cell (p := ⟨tb, _, none⟩) htl).trans T0.out.2.2.1, (hb.cell (p := ⟨tb, _, none⟩) htl).trans T0.out.2.2.2.1, (hb.cell (p := ⟨tb, _, none⟩) htl).trans T0.out.2.2.2.2.1, (hb.cell (p := ⟨tb, _, none⟩) htl).trans T0.out.2.2.2.2.2⟩)
      have htl3 : tb < w3.heap.size := Nat.lt_of_lt_of_le htl hb.size
      clear hu hb HRA T0 htl
      have t4 := T1.out.2.2.2.2.1
      cases tk
      · skip
        obtain ⟨⟨nn, vv, xx, ll⟩, hbb⟩ : ∃ q, addB ⟨⟨#[97]⟩, 7, nxb, l⟩ ⟨u, f, d, bl⟩ = q := ⟨_, rfl⟩
        obtain ⟨uu, huu⟩ : ∃ q, addN ⟨⟨#[97]⟩, 7, nxb, l⟩ ⟨u, f, d, bl⟩ = q := ⟨_, rfl⟩
        obtain ⟨ee, hee⟩ : ∃ q, addE ⟨⟨#[97]⟩, 7, nxb, l⟩ ⟨u, f, d, bl⟩ = q := ⟨_, rfl⟩
        have HBB := Lib.hid hbb
        have HUU := Lib.hid huu
        have HEE := Lib.hid hee
        have HX3 : Hid (Bytes w3 w3.heap.size xA xn bl ∧ xn ≤ 140737488355328) := Lib.hid ⟨(HTIN.out.1.below HRB.out.2.2.1 (Nat.le_refl _)).more HRB.out.2.2.1.size, HTIN.out.2⟩
        clear hbb huu hee
        obtain ⟨⟨b0, b1, b2, b3⟩, -, -, -, -⟩ := HRB.out.1.four
        have lb : bB < w3.heap.size := HRB.out.1.lt
        obtain ⟨t0, t1, t2, t3, _, _⟩ := T1.out
        go_upto_region 18 with (fail)
        go_cut [13, 14, 15] (fun x13 x14 x15 wx => ∃ bN A2 n2 c2, x13 = .pointer (some ⟨bN, 0, none⟩) ∧ x14 = .int .i64 uu ∧ x15 = .int .i64 ee ∧ Bk wx bN 24 #[.string nn, .int .i64 vv, .int .i64 xx, .slice A2 n2 c2] ∧ MsgsIn wx wx.heap.size A2 n2 ll ∧ Below w3.heap.size w3 wx)
        case first =>
          go_wp2_with fail
          refine wp_region_held_drew (S := fun W' => Below w3.heap.size w3 W') hmx (Below.refl w3.heap.size w3).drew (fun hHeld => ?_)
          generalize hW0 : w3.drew = W at *
          clear hW0
          simp only [List.size_toArray, List.length_cons, List.length_nil, Nat.reduceAdd]
          refine wpAnyH_take (i := 0) (v := .agg #[.string ⟨#[97]⟩, .int .i64 7, .int .i64 nxb, .slice A nu c]) rfl (by kernel_rfl) (by kernel_rfl) (by kernel_rfl) (fun _ _ _ h => h) (Or.inl ⟨by rfl, fun w0 hC => by simp [execOp, Act.eval, Act.put, go_sem, (hC.cell (p := ⟨bB, 0, none⟩) lb).trans b0, (hC.cell (p := ⟨bB, 1, none⟩) lb).trans b1, (hC.cell (p := ⟨bB, 2, none⟩) lb).trans b2, (hC.cell (p := ⟨bB, 3, none⟩) lb).trans b3]⟩) hHeld ?_
          try simp only [Act.put, List.setIfInBounds_toArray, List.set_cons_zero, List.set_cons_succ, List.getElem_toArray, List.getElem_cons_zero, List.getElem_cons_succ]
          refine wpAnyH_take (i := 1) (v := .slice (some ⟨tb, tf, none⟩) tn tc) rfl (by kernel_rfl) (by kernel_rfl) (by kernel_rfl) (fun _ _ _ h => h) (Or.inl ⟨by rfl, fun w0 hC => by simp [execOp, Act.eval, Act.put, go_sem]⟩) hHeld ?_
          try simp only [Act.put, List.setIfInBounds_toArray, List.set_cons_zero, List.set_cons_succ, List.getElem_toArray, List.getElem_cons_zero, List.getElem_cons_succ]
          refine wpAnyH_take (i := 2) (v := .int .i64 (k : Int)) rfl (by kernel_rfl) (by kernel_rfl) (by kernel_rfl) (fun _ _ _ h => h) (Or.inl ⟨by rfl, fun w0 hC => by simp [execOp, Act.eval, Act.put, go_sem]⟩) hHeld ?_
          try simp only [Act.put, List.setIfInBounds_toArray, List.set_cons_zero, List.set_cons_succ, List.getElem_toArray, List.getElem_cons_zero, List.getElem_cons_succ]
          refine wpAnyH_take (i := 3) (v := .pointer (some ⟨tb, tf + k * 6, none⟩)) rfl (by kernel_rfl) (by kernel_rfl) (by kernel_rfl) (fun _ _ _ h => h) (Or.inl ⟨by rfl, fun w0 hC => by simp [execOp, Act.eval, Act.put, go_sem, hk0, hkn, hlt]⟩) hHeld ?_
          try simp only [Act.put, List.setIfInBounds_toArray, List.set_cons_zero, List.set_cons_succ, List.getElem_toArray, List.getElem_cons_zero, List.getElem_cons_succ]
          refine wpAnyH_take (i := 4) (v := .pointer (some ⟨tb, tf + k * 6, none⟩)) rfl (by kernel_rfl) (by kernel_rfl) (by kernel_rfl) (fun _ _ _ h => h) (Or.inl ⟨by rfl, fun w0 hC => by simp [execOp, Act.eval, Act.put, go_sem]⟩) hHeld ?_
          try simp only [Act.put, List.setIfInBounds_toArray, List.set_cons_zero, List.set_cons_succ, List.getElem_toArray, List.getElem_cons_zero, List.getElem_cons_succ]
          refine wpAnyH_take (i := 5) (v := .agg #[.int .i64 u, .int .i64 f, .int .i64 d, .slice xA xn xc]) rfl (by kernel_rfl) (by kernel_rfl) (by kernel_rfl) (fun _ _ _ h => h) (Or.inl ⟨by rfl, fun w0 hC => by simp [execOp, Act.eval, Act.put, go_sem, (hC.cell (p := ⟨tb, tf + k * 6, none⟩) htl3).trans t0, (hC.cell (p := ⟨tb, tf + k * 6 + 1, none⟩) htl3).trans t1, (hC.cell (p := ⟨tb, tf + k * 6 + 2, none⟩) htl3).trans t2, (hC.cell (p := ⟨tb, tf + k * 6 + 3, none⟩) htl3).trans t3]⟩) hHeld ?_
          try simp only [Act.put, List.setIfInBounds_toArray, List.set_cons_zero, List.set_cons_succ, List.getElem_toArray, List.getElem_cons_zero, List.getElem_cons_succ]
          refine wpAnyH_ready (rs := [6, 11]) (by kernel_rfl) (by simp) (AllReadyH.cons rfl (fun K hK => ?_) (AllReadyH.cons rfl (fun K hK => ?_) AllReadyH.nil))
          · rw [if_pos (by rfl)]
            go_wp2_with fail
            refine (add_rise HBB.out HUU.out HEE.out W (HRB.out.2.1.later hHeld) (by omega) (ok_small HRB.out.2.2.2.2) (HX3.out.1.later hHeld) HX3.out.2).mono ?_
            rintro e W2 ⟨A2, n2, c2, rfl, hm2, hb2⟩
            have hS := hHeld.trans (hb2.mono hHeld.size)
            clear hHeld hb2
            refine hK.out _ _ hS (fun hHeld => ?_)
            clear hK K
            try simp only [Act.put, List.setIfInBounds_toArray, List.set_cons_zero, List.set_cons_succ, List.getElem_toArray, List.getElem_cons_zero, List.getElem_cons_succ]
            clear hS
            generalize W2 = V at *
            refine wpAnyH_take (i := 7) (v := .tuple #[.agg #[.string nn, .int .i64 vv, .int .i64 xx, .slice A2 n2 c2], .int .i64 uu, .int .i64 ee]) rfl (by kernel_rfl) (by kernel_rfl) (by kernel_rfl) (fun _ _ _ h => h) (Or.inl ⟨by rfl, fun w0 hC => by simp [execOp, Act.eval, Act.put, go_sem]⟩) hHeld ?_
            try simp only [Act.put, List.setIfInBounds_toArray, List.set_cons_zero, List.set_cons_succ, List.getElem_toArray, List.getElem_cons_zero, List.getElem_cons_succ]
            refine wpAnyH_take (i := 8) (v := .agg #[.string nn, .int .i64 vv, .int .i64 xx, .slice A2 n2 c2]) rfl (by kernel_rfl) (by kernel_rfl) (by kernel_rfl) (fun _ _ _ h => h) (Or.inl ⟨by rfl, fun w0 hC => by simp [execOp, Act.eval, Act.put, go_sem]⟩) hHeld ?_
            try simp only [Act.put, List.setIfInBounds_toArray, List.set_cons_zero, List.set_cons_succ, List.getElem_toArray, List.getElem_cons_zero, List.getElem_cons_succ]
            refine wpAnyH_take (i := 9) (v := .int .i64 uu) rfl (by kernel_rfl) (by kernel_rfl) (by kernel_rfl) (fun _ _ _ h => h) (Or.inl ⟨by rfl, fun w0 hC => by simp [execOp, Act.eval, Act.put, go_sem]⟩) hHeld ?_
            try simp only [Act.put, List.setIfInBounds_toArray, List.set_cons_zero, List.set_cons_succ, List.getElem_toArray, List.getElem_cons_zero, List.getElem_cons_succ]
            refine wpAnyH_take (i := 10) (v := .int .i64 ee) rfl (by kernel_rfl) (by kernel_rfl) (by kernel_rfl) (fun _ _ _ h => h) (Or.inl ⟨by rfl, fun w0 hC => by simp [execOp, Act.eval, Act.put, go_sem]⟩) hHeld ?_
            try simp only [Act.put, List.setIfInBounds_toArray, List.set_cons_zero, List.set_cons_succ, List.getElem_toArray, List.getElem_cons_zero, List.getElem_cons_succ]
            have HV := Lib.hid hHeld
            refine wpAnyH_ready (rs := [11]) (by kernel_rfl) (by simp) (AllReadyH.cons rfl (fun K hK => ?_) AllReadyH.nil)
            rw [if_pos (by rfl)]
            go_wp2_with fail
            have hS := hHeld.alloc hHeld.size (.cells #[.string ⟨#[]⟩, .int .i64 0, .int .i64 0, .slice none 0 0] 24)
            clear hHeld
            refine hK.out _ _ hS (fun hHeld => ?_)
            clear hK K
            try simp only [Act.put, List.setIfInBounds_toArray, List.set_cons_zero, List.set_cons_succ, List.getElem_toArray, List.getElem_cons_zero, List.getElem_cons_succ]
            clear hS
            refine wpAnyH_ready (rs := [12]) (by kernel_rfl) (by simp) (AllReadyH.cons rfl (fun K hK => ?_) AllReadyH.nil)
            rw [if_pos (by rfl)]
            go_wp2_with fail
            have hS := HV.out.alloc HV.out.size (.cells #[.string nn, .int .i64 vv, .int .i64 xx, .slice A2 n2 c2] 24)
            clear hHeld
            refine hK.out _ _ hS (fun hHeld => ?_)
            clear hK K
            try simp only [Act.put, List.setIfInBounds_toArray, List.set_cons_zero, List.set_cons_succ, List.getElem_toArray, List.getElem_cons_zero, List.getElem_cons_succ]
            clear hS
            refine wpAnyH_take (i := 13) (v := .int .i64 uu) rfl (by kernel_rfl) (by kernel_rfl) (by kernel_rfl) (fun _ _ _ h => h) (Or.inl ⟨by rfl, fun w0 hC => by simp [execOp, Act.eval, Act.put, go_sem]⟩) hHeld ?_
            try simp only [Act.put, List.setIfInBounds_toArray, List.set_cons_zero, List.set_cons_succ, List.getElem_toArray, List.getElem_cons_zero, List.getElem_cons_succ]
            refine wpAnyH_take (i := 14) (v := .int .i64 ee) rfl (by kernel_rfl) (by kernel_rfl) (by kernel_rfl) (fun _ _ _ h => h) (Or.inl ⟨by rfl, fun w0 hC => by simp [execOp, Act.eval, Act.put, go_sem]⟩) hHeld ?_
            try simp only [Act.put, List.setIfInBounds_toArray, List.set_cons_zero, List.set_cons_succ, List.getElem_toArray, List.getElem_cons_zero, List.getElem_cons_succ]
            refine wpAnyH_done (by kernel_rfl) ?_ _
            go_wp2_with fail
            go_meet
            exact ⟨_, A2, n2, c2, rfl, rfl, rfl, Bk.new _ _ _, hm2.later ((Below.refl _ _).alloc (Nat.le_refl _) _), hHeld⟩
          · rw [if_pos (by rfl)]
            go_wp2_with fail
            have HZB : Hid (Bk (W.alloc (.cells #[.string ⟨#[]⟩, .int .i64 0, .int .i64 0, .slice none 0 0] 24)) W.heap.size 24 #[.string ⟨#[]⟩, .int .i64 0, .int .i64 0, .slice none 0 0]) := Lib.hid (Bk.new _ _ _)
            have hws := hHeld.size
            obtain ⟨bN, hbN⟩ : ∃ q, W.heap.size = q := ⟨_, rfl⟩
            have hS := hHeld.alloc hHeld.size (.cells #[.string ⟨#[]⟩, .int .i64 0, .int .i64 0, .slice none 0 0] 24)
            rw [hbN] at HZB ⊢
            have hwN : w3.heap.size ≤ bN := by rw [← hbN]; exact hws
            clear hHeld hbN hws
            generalize W.alloc (.cells #[.string ⟨#[]⟩, .int .i64 0, .int .i64 0, .slice none 0 0] 24) = V at *
            refine hK.out _ _ hS (fun hHeld => ?_)
            clear hK K
            try simp only [Act.put, List.setIfInBounds_toArray, List.set_cons_zero, List.set_cons_succ, List.getElem_toArray, List.getElem_cons_zero, List.getElem_cons_succ]
            clear hS
            refine wpAnyH_ready (rs := [6]) (by kernel_rfl) (by simp) (AllReadyH.cons rfl (fun K hK => ?_) AllReadyH.nil)
            rw [if_pos (by rfl)]
            go_wp2_with fail
            refine (add_rise HBB.out HUU.out HEE.out V (HRB.out.2.1.later hHeld) (by omega) (ok_small HRB.out.2.2.2.2) (HX3.out.1.later hHeld) HX3.out.2).mono ?_
            rintro e W2 ⟨A2, n2, c2, rfl, hm2, hb2⟩
            have HZ2 := Lib.hid (HZB.out.below hb2 HZB.out.lt)
            have hS := hHeld.trans (hb2.mono hHeld.size)
            clear hHeld hb2 HZB
            refine hK.out _ _ hS (fun hHeld => ?_)
            clear hK K
            try simp only [Act.put, List.setIfInBounds_toArray, List.set_cons_zero, List.set_cons_succ, List.getElem_toArray, List.getElem_cons_zero, List.getElem_cons_succ]
            clear hS
            generalize W2 = U at *
            refine wpAnyH_take (i := 7) (v := .tuple #[.agg #[.string nn, .int .i64 vv, .int .i64 xx, .slice A2 n2 c2], .int .i64 uu, .int .i64 ee]) rfl (by kernel_rfl) (by kernel_rfl) (by kernel_rfl) (fun _ _ _ h => h) (Or.inl ⟨by rfl, fun w0 hC => by simp [execOp, Act.eval, Act.put, go_sem]⟩) hHeld ?_
            try simp only [Act.put, List.setIfInBounds_toArray, List.set_cons_zero, List.set_cons_succ, List.getElem_toArray, List.getElem_cons_zero, List.getElem_cons_succ]
            refine wpAnyH_take (i := 8) (v := .agg #[.string nn, .int .i64 vv, .int .i64 xx, .slice A2 n2 c2]) rfl (by kernel_rfl) (by kernel_rfl) (by kernel_rfl) (fun _ _ _ h => h) (Or.inl ⟨by rfl, fun w0 hC => by simp [execOp, Act.eval, Act.put, go_sem]⟩) hHeld ?_
            try simp only [Act.put, List.setIfInBounds_toArray, List.set_cons_zero, List.set_cons_succ, List.getElem_toArray, List.getElem_cons_zero, List.getElem_cons_succ]
            refine wpAnyH_take (i := 9) (v := .int .i64 uu) rfl (by kernel_rfl) (by kernel_rfl) (by kernel_rfl) (fun _ _ _ h => h) (Or.inl ⟨by rfl, fun w0 hC => by simp [execOp, Act.eval, Act.put, go_sem]⟩) hHeld ?_
            try simp only [Act.put, List.setIfInBounds_toArray, List.set_cons_zero, List.set_cons_succ, List.getElem_toArray, List.getElem_cons_zero, List.getElem_cons_succ]
            refine wpAnyH_take (i := 10) (v := .int .i64 ee) rfl (by kernel_rfl) (by kernel_rfl) (by kernel_rfl) (fun _ _ _ h => h) (Or.inl ⟨by rfl, fun w0 hC => by simp [execOp, Act.eval, Act.put, go_sem]⟩) hHeld ?_
            try simp only [Act.put, List.setIfInBounds_toArray, List.set_cons_zero, List.set_cons_succ, List.getElem_toArray, List.getElem_cons_zero, List.getElem_cons_succ]
            obtain ⟨⟨z0, z1, z2, z3⟩, z4, z5, z6, z7⟩ := HZ2.out.four
            have lz := HZ2.out.lt
            refine wpAnyH_ready (rs := [12]) (by kernel_rfl) (by simp) (AllReadyH.cons rfl (fun K hK => ?_) AllReadyH.nil)
            rw [if_pos (by rfl)]
            go_wp2_with fail
            have hg := grown_put4 U bN (.string nn) (.int .i64 vv) (.int .i64 xx) (.slice A2 n2 c2)
            have kz := HZ2.out.put4 (.string nn) (.int .i64 vv) (.int .i64 xx) (.slice A2 n2 c2)
            have hmz := (hm2.box4 HZ2.out hg).more hg.size
            have hS := below_put4 hHeld hwN (.string nn) (.int .i64 vv) (.int .i64 xx) (.slice A2 n2 c2)
            clear hHeld z0 z1 z2 z3 z4 z5 z6 z7 hg hm2 lz
            refine hK.out _ _ hS (fun hHeld => ?_)
            clear hK K
            try simp only [Act.put, List.setIfInBounds_toArray, List.set_cons_zero, List.set_cons_succ, List.getElem_toArray, List.getElem_cons_zero, List.getElem_cons_succ]
            clear hS
            refine wpAnyH_take (i := 13) (v := .int .i64 uu) rfl (by kernel_rfl) (by kernel_rfl) (by kernel_rfl) (fun _ _ _ h => h) (Or.inl ⟨by rfl, fun w0 hC => by simp [execOp, Act.eval, Act.put, go_sem]⟩) hHeld ?_
            try simp only [Act.put, List.setIfInBounds_toArray, List.set_cons_zero, List.set_cons_succ, List.getElem_toArray, List.getElem_cons_zero, List.getElem_cons_succ]
            refine wpAnyH_take (i := 14) (v := .int .i64 ee) rfl (by kernel_rfl) (by kernel_rfl) (by kernel_rfl) (fun _ _ _ h => h) (Or.inl ⟨by rfl, fun w0 hC => by simp [execOp, Act.eval, Act.put, go_sem]⟩) hHeld ?_
            try simp only [Act.put, List.setIfInBounds_toArray, List.set_cons_zero, List.set_cons_succ, List.getElem_toArray, List.getElem_cons_zero, List.getElem_cons_succ]
            refine wpAnyH_done (by kernel_rfl) ?_ _
            go_wp2_with fail
            go_meet
            exact ⟨bN, A2, n2, c2, rfl, rfl, rfl, kz, hmz, hHeld⟩
        case rest =>
          obtain ⟨bN, A2, n2, c2, rfl, rfl, rfl, kn, hmn, hbw⟩ := hcut
          generalize wc = wm at *
          have HRW := Lib.hid (HRB.out.below hbw)
          have KN := Lib.hid kn
          have HMN := Lib.hid hmn
          clear kn hmn hbw b0 b1 b2 b3 t0 t1 t2 t3 t4 lb HRB HX3 T1
          obtain rfl : nxb = last + 1 := HNL.out
          have hlo : (0 : Int) ≤ last := by have := HRW.out.2.2.2.2.2.2.1; simp only at this; omega
          have hhi : last < 4294967296 := by have := HRW.out.2.2.2.2.2.2.2.1; simp only at this; omega
          by_cases he : ee = 0
          · subst he
            obtain ⟨l2, h1, h2, hok, h40⟩ := rise_add HEE.out
            rw [HBB.out] at h1
            rw [HUU.out] at h2
            injection h1 with g1 g2 g3 g4
            subst g1; subst g2; subst g3; subst g4; subst h2
            have HOK := Lib.hid hok
            have HN2 : Hid (n2 ≤ 40) := Lib.hid (by rw [← HMN.out.len]; exact h40)
            clear hok h40 HBB HUU HEE
            obtain ⟨⟨b0, b1, b2, b3⟩, -, -, -, -⟩ := HRW.out.1.four
            obtain ⟨⟨n0, n1, n2_, n3⟩, -, -, -, -⟩ := KN.out.four
            go_wp2_with fail
            clear b0 b1 b2 b3 n0 n1 n2_ n3
            refine (right_any ⟨#[97]⟩ 7 (last + 1 + 1) A2 n2 c2 ll wm HMN.out (by have := HN2.out; omega)).mono ?_
            rintro e w5 ⟨rfl, hb⟩
            rw [okBx_yes HOK.out]
            have HR5 := Lib.hid (HRW.out.below hb)
            have KN5 := Lib.hid (KN.out.below hb KN.out.lt)
            have HM5 := Lib.hid (HMN.out.later hb)
            clear hb HRW KN HMN
            obtain ⟨⟨b0, b1, b2, b3⟩, b4, b5, b6, b7⟩ := HR5.out.1.four
            obtain ⟨⟨n0, n1, n2_, n3⟩, -, -, -, -⟩ := KN5.out.four
            go_wp2_with fail
            go_roundw
            case rel => exact ⟨k + 1, last + 1, last + 1 + 1, A2, n2, c2, ll, by omega, by go_num, rfl, rfl, HR5.out.put HM5.out HOK.out⟩
            case measure => simp [intOf]; omega
          · have hee : (ee != 0) = true := by simp [he]
            have hno := addB_no (b := ⟨⟨#[97]⟩, 7, last + 1, l⟩) (m := ⟨u, f, d, bl⟩) (by rw [HEE.out]; exact he)
            obtain ⟨h1, h2⟩ := hno
            rw [HBB.out] at h1
            injection h1 with g1 g2 g3 g4
            subst g1; subst g2; subst g3; subst g4
            have HN2 : Hid (n2 = nu) := Lib.hid (by rw [← HMN.out.len, HRW.out.2.1.len])
            clear h2 HBB HUU HEE he
            obtain ⟨⟨b0, b1, b2, b3⟩, -, -, -, -⟩ := HRW.out.1.four
            obtain ⟨⟨n0, n1, n2_, n3⟩, -, -, -, -⟩ := KN.out.four
            go_wp2_with fail
            clear b0 b1 b2 b3 n0 n1 n2_ n3
            refine (x11same_any ⟨#[97]⟩ 7 (last + 1) A2 n2 c2 ll ⟨#[97]⟩ 7 (last + 1) A nu c ll wm HMN.out HRW.out.2.1 (by have := HN2.out; omega) (by omega)).mono ?_
            rintro e w5 ⟨rfl, hb⟩
            rw [eq_self_bx]
            have HR5 := Lib.hid (HRW.out.below hb)
            clear hb HRW KN HMN
            go_wp2_with fail
            go_roundw
            case rel => exact ⟨k + 1, last, last + 1, A, nu, c, ll, by omega, by go_num, rfl, rfl, HR5.out⟩
            case measure => simp [intOf]; omega
      · skip
        by_cases hn0 : nu = 0
        · subst hn0
          go_wp2_with fail
          go_roundw
          case rel => exact ⟨k + 1, last, nxb, A, 0, c, l, by omega, by go_num, rfl, HNL.out, HRB.out⟩
          case measure => simp [intOf]; omega
        have hn0b : ((nu : Int) == 0) = false := by simp [hn0]
        have hnp : (0 : Int) < (nu : Int) := by omega
        have HPN : Hid (0 < nu) := Lib.hid (by omega)
        have p0 : (0 : Int) ≤ (pk : Int) := by omega
        have p1 : (pk : Int) < 256 := by omega
        have n1 : (nu : Int) ≤ 40 := by omega
        clear hn0
        obtain ⟨_, _, _, _, _, t5⟩ := T1.out
        go_upto_region 14 with (fail)
        obtain ⟨j, hj⟩ : ∃ q : Nat, pk % nu = q := ⟨_, rfl⟩
        have hjl : j < nu := by rw [← hj]; exact Nat.mod_lt _ HPN.out
        rw [show (pk : Int) % (nu : Int) = (j : Int) from by rw [← hj]; rfl]
        have HUJ : Hid (Col ints w3 w3.heap.size (fromI Au j cu) (nu - j) ((l.map Mg.uid).drop j)) := Lib.hid (HU.out.fromI hjl hcu)
        obtain ⟨⟨b0, b1, b2, b3⟩, -, -, -, -⟩ := HRB.out.1.four
        have lb : bB < w3.heap.size := HRB.out.1.lt
        have HOKJ := Lib.hid (rise_take HRB.out.2.2.2.2 j).2.2.2
        clear t4 t5 hj T1
        go_cut [10, 11, 12] (fun x10 x11 x12 wx => ∃ bN A2 n2 c2 A3 n3 c3, x10 = .pointer (some ⟨bN, 0, none⟩) ∧ x11 = .slice A3 n3 c3 ∧ x12 = .int .i64 0 ∧ Bk wx bN 24 #[.string ⟨#[97]⟩, .int .i64 7, .int .i64 nxb, .slice A2 n2 c2] ∧ MsgsIn wx wx.heap.size A2 n2 (l.take j) ∧ n3 = nu - j ∧ Below w3.heap.size w3 wx)
        case first =>
          go_wp2_with fail
          refine wp_region_held_drew (S := fun W' => Below w3.heap.size w3 W') hmx (Below.refl w3.heap.size w3).drew (fun hHeld => ?_)
          generalize hW0 : w3.drew = W at *
          clear hW0
          simp only [List.size_toArray, List.length_cons, List.length_nil, Nat.reduceAdd]
          refine wpAnyH_take (i := 0) (v := .agg #[.string ⟨#[97]⟩, .int .i64 7, .int .i64 nxb, .slice A nu c]) rfl (by kernel_rfl) (by kernel_rfl) (by kernel_rfl) (fun _ _ _ h => h) (Or.inl ⟨by rfl, fun w0 hC => by simp [execOp, Act.eval, Act.put, go_sem, (hC.cell (p := ⟨bB, 0, none⟩) lb).trans b0, (hC.cell (p := ⟨bB, 1, none⟩) lb).trans b1, (hC.cell (p := ⟨bB, 2, none⟩) lb).trans b2, (hC.cell (p := ⟨bB, 3, none⟩) lb).trans b3]⟩) hHeld ?_
          try simp only [Act.put, List.setIfInBounds_toArray, List.set_cons_zero, List.set_cons_succ, List.getElem_toArray, List.getElem_cons_zero, List.getElem_cons_succ]
          refine wpAnyH_take (i := 1) (v := .slice Au nu cu) rfl (by kernel_rfl) (by kernel_rfl) (by kernel_rfl) (fun _ _ _ h => h) (Or.inl ⟨by rfl, fun w0 hC => by simp [execOp, Act.eval, Act.put, go_sem]⟩) hHeld ?_
          try simp only [Act.put, List.setIfInBounds_toArray, List.set_cons_zero, List.set_cons_succ, List.getElem_toArray, List.getElem_cons_zero, List.getElem_cons_succ]
          refine wpAnyH_take (i := 2) (v := .int .i64 (j : Int)) rfl (by kernel_rfl) (by kernel_rfl) (by kernel_rfl) (fun _ _ _ h => h) (Or.inl ⟨by rfl, fun w0 hC => by simp [execOp, Act.eval, Act.put, go_sem]⟩) hHeld ?_
          try simp only [Act.put, List.setIfInBounds_toArray, List.set_cons_zero, List.set_cons_succ, List.getElem_toArray, List.getElem_cons_zero, List.getElem_cons_succ]
          refine wpAnyH_take (i := 3) (v := .slice (fromI Au j cu) (nu - j) (cu - j)) rfl (by kernel_rfl) (by kernel_rfl) (by kernel_rfl) (fun _ _ _ h => h) (Or.inl ⟨by rfl, fun w0 hC => exec_fromI rfl rfl rfl (by omega) hcu⟩) hHeld ?_
          try simp only [Act.put, List.setIfInBounds_toArray, List.set_cons_zero, List.set_cons_succ, List.getElem_toArray, List.getElem_cons_zero, List.getElem_cons_succ]
          refine wpAnyH_ready (rs := [4, 9]) (by kernel_rfl) (by simp) (AllReadyH.cons rfl (fun K hK => ?_) (AllReadyH.cons rfl (fun K hK => ?_) AllReadyH.nil))
          · rw [if_pos (by rfl)]
            go_wp2_with fail
            refine (take_rise HRB.out.2.2.2.2 j W (HRB.out.2.1.later hHeld) (by omega) ((HUJ.out.below hHeld (Nat.le_refl _)).more hHeld.size) (by omega)).mono ?_
            rintro e W2 ⟨A2, n2, c2, A3, n3, c3, rfl, hm2, hm3, hb2⟩
            have hn3 : n3 = nu - j := by have h1 := hm3.len; rw [List.length_drop] at h1; have h2 := HRB.out.2.1.len; omega
            have HN3 := Lib.hid hn3
            clear hm3 hn3
            have hS := hHeld.trans (hb2.mono hHeld.size)
            clear hHeld hb2
            refine hK.out _ _ hS (fun hHeld => ?_)
            clear hK K
            try simp only [Act.put, List.setIfInBounds_toArray, List.set_cons_zero, List.set_cons_succ, List.getElem_toArray, List.getElem_cons_zero, List.getElem_cons_succ]
            clear hS
            generalize W2 = V at *
            refine wpAnyH_take (i := 5) (v := .tuple #[.agg #[.string ⟨#[97]⟩, .int .i64 7, .int .i64 nxb, .slice A2 n2 c2], .slice A3 n3 c3, .int .i64 0]) rfl (by kernel_rfl) (by kernel_rfl) (by kernel_rfl) (fun _ _ _ h => h) (Or.inl ⟨by rfl, fun w0 hC => by simp [execOp, Act.eval, Act.put, go_sem]⟩) hHeld ?_
            try simp only [Act.put, List.setIfInBounds_toArray, List.set_cons_zero, List.set_cons_succ, List.getElem_toArray, List.getElem_cons_zero, List.getElem_cons_succ]
            refine wpAnyH_take (i := 6) (v := .agg #[.string ⟨#[97]⟩, .int .i64 7, .int .i64 nxb, .slice A2 n2 c2]) rfl (by kernel_rfl) (by kernel_rfl) (by kernel_rfl) (fun _ _ _ h => h) (Or.inl ⟨by rfl, fun w0 hC => by simp [execOp, Act.eval, Act.put, go_sem]⟩) hHeld ?_
            try simp only [Act.put, List.setIfInBounds_toArray, List.set_cons_zero, List.set_cons_succ, List.getElem_toArray, List.getElem_cons_zero, List.getElem_cons_succ]
            refine wpAnyH_take (i := 7) (v := .slice A3 n3 c3) rfl (by kernel_rfl) (by kernel_rfl) (by kernel_rfl) (fun _ _ _ h => h) (Or.inl ⟨by rfl, fun w0 hC => by simp [execOp, Act.eval, Act.put, go_sem]⟩) hHeld ?_
            try simp only [Act.put, List.setIfInBounds_toArray, List.set_cons_zero, List.set_cons_succ, List.getElem_toArray, List.getElem_cons_zero, List.getElem_cons_succ]
            refine wpAnyH_take (i := 8) (v := .int .i64 0) rfl (by kernel_rfl) (by kernel_rfl) (by kernel_rfl) (fun _ _ _ h => h) (Or.inl ⟨by rfl, fun w0 hC => by simp [execOp, Act.eval, Act.put, go_sem]⟩) hHeld ?_
            try simp only [Act.put, List.setIfInBounds_toArray, List.set_cons_zero, List.set_cons_succ, List.getElem_toArray, List.getElem_cons_zero, List.getElem_cons_succ]
            have HV := Lib.hid hHeld
            refine wpAnyH_ready (rs := [9]) (by kernel_rfl) (by simp) (AllReadyH.cons rfl (fun K hK => ?_) AllReadyH.nil)
            rw [if_pos (by rfl)]
            go_wp2_with fail
            have hS := hHeld.alloc hHeld.size (.cells #[.string ⟨#[]⟩, .int .i64 0, .int .i64 0, .slice none 0 0] 24)
            clear hHeld
            refine hK.out _ _ hS (fun hHeld => ?_)
            clear hK K
            try simp only [Act.put, List.setIfInBounds_toArray, List.set_cons_zero, List.set_cons_succ, List.getElem_toArray, List.getElem_cons_zero, List.getElem_cons_succ]
            clear hS
            refine wpAnyH_ready (rs := [10]) (by kernel_rfl) (by simp) (AllReadyH.cons rfl (fun K hK => ?_) AllReadyH.nil)
            rw [if_pos (by rfl)]
            go_wp2_with fail
            have hS := HV.out.alloc HV.out.size (.cells #[.string ⟨#[97]⟩, .int .i64 7, .int .i64 nxb, .slice A2 n2 c2] 24)
            clear hHeld
            refine hK.out _ _ hS (fun hHeld => ?_)
            clear hK K
            try simp only [Act.put, List.setIfInBounds_toArray, List.set_cons_zero, List.set_cons_succ, List.getElem_toArray, List.getElem_cons_zero, List.getElem_cons_succ]
            clear hS
            refine wpAnyH_take (i := 11) (v := .slice A3 n3 c3) rfl (by kernel_rfl) (by kernel_rfl) (by kernel_rfl) (fun _ _ _ h => h) (Or.inl ⟨by rfl, fun w0 hC => by simp [execOp, Act.eval, Act.put, go_sem]⟩) hHeld ?_
            try simp only [Act.put, List.setIfInBounds_toArray, List.set_cons_zero, List.set_cons_succ, List.getElem_toArray, List.getElem_cons_zero, List.getElem_cons_succ]
            refine wpAnyH_take (i := 12) (v := .int .i64 0) rfl (by kernel_rfl) (by kernel_rfl) (by kernel_rfl) (fun _ _ _ h => h) (Or.inl ⟨by rfl, fun w0 hC => by simp [execOp, Act.eval, Act.put, go_sem]⟩) hHeld ?_
            try simp only [Act.put, List.setIfInBounds_toArray, List.set_cons_zero, List.set_cons_succ, List.getElem_toArray, List.getElem_cons_zero, List.getElem_cons_succ]
            refine wpAnyH_done (by kernel_rfl) ?_ _
            go_wp2_with fail
            go_meet
            exact ⟨_, A2, n2, c2, A3, n3, c3, rfl, rfl, rfl, Bk.new _ _ _, hm2.later ((Below.refl _ _).alloc (Nat.le_refl _) _), HN3.out, hHeld⟩
          · rw [if_pos (by rfl)]
            go_wp2_with fail
            have HZB : Hid (Bk (W.alloc (.cells #[.string ⟨#[]⟩, .int .i64 0, .int .i64 0, .slice none 0 0] 24)) W.heap.size 24 #[.string ⟨#[]⟩, .int .i64 0, .int .i64 0, .slice none 0 0]) := Lib.hid (Bk.new _ _ _)
            have hws := hHeld.size
            obtain ⟨bN, hbN⟩ : ∃ q, W.heap.size = q := ⟨_, rfl⟩
            have hS := hHeld.alloc hHeld.size (.cells #[.string ⟨#[]⟩, .int .i64 0, .int .i64 0, .slice none 0 0] 24)
            rw [hbN] at HZB ⊢
            have hwN : w3.heap.size ≤ bN := by rw [← hbN]; exact hws
            clear hHeld hbN hws
            generalize W.alloc (.cells #[.string ⟨#[]⟩, .int .i64 0, .int .i64 0, .slice none 0 0] 24) = V at *
            refine hK.out _ _ hS (fun hHeld => ?_)
            clear hK K
            try simp only [Act.put, List.setIfInBounds_toArray, List.set_cons_zero, List.set_cons_succ, List.getElem_toArray, List.getElem_cons_zero, List.getElem_cons_succ]
            clear hS
            refine wpAnyH_ready (rs := [4]) (by kernel_rfl) (by simp) (AllReadyH.cons rfl (fun K hK => ?_) AllReadyH.nil)
            rw [if_pos (by rfl)]
            go_wp2_with fail
            refine (take_rise HRB.out.2.2.2.2 j V (HRB.out.2.1.later hHeld) (by omega) ((HUJ.out.below hHeld (Nat.le_refl _)).more hHeld.size) (by omega)).mono ?_
            rintro e W2 ⟨A2, n2, c2, A3, n3, c3, rfl, hm2, hm3, hb2⟩
            have hn3 : n3 = nu - j := by have h1 := hm3.len; rw [List.length_drop] at h1; have h2 := HRB.out.2.1.len; omega
            have HN3 := Lib.hid hn3
            clear hm3 hn3
            have HZ2 := Lib.hid (HZB.out.below hb2 HZB.out.lt)
            have hS := hHeld.trans (hb2.mono hHeld.size)
            clear hHeld hb2 HZB
            refine hK.out _ _ hS (fun hHeld => ?_)
            clear hK K
            try simp only [Act.put, List.setIfInBounds_toArray, List.set_cons_zero, List.set_cons_succ, List.getElem_toArray, List.getElem_cons_zero, List.getElem_cons_succ]
            clear hS
            generalize W2 = U at *
            refine wpAnyH_take (i := 5) (v := .tuple #[.agg #[.string ⟨#[97]⟩, .int .i64 7, .int .i64 nxb, .slice A2 n2 c2], .slice A3 n3 c3, .int .i64 0]) rfl (by kernel_rfl) (by kernel_rfl) (by kernel_rfl) (fun _ _ _ h => h) (Or.inl ⟨by rfl, fun w0 hC => by simp [execOp, Act.eval, Act.put, go_sem]⟩) hHeld ?_
            try simp only [Act.put, List.setIfInBounds_toArray, List.set_cons_zero, List.set_cons_succ, List.getElem_toArray, List.getElem_cons_zero, List.getElem_cons_succ]
            refine wpAnyH_take (i := 6) (v := .agg #[.string ⟨#[97]⟩, .int .i64 7, .int .i64 nxb, .slice A2 n2 c2]) rfl (by kernel_rfl) (by kernel_rfl) (by kernel_rfl) (fun _ _ _ h => h) (Or.inl ⟨by rfl, fun w0 hC => by simp [execOp, Act.eval, Act.put, go_sem]⟩) hHeld ?_
            try simp only [Act.put, List.setIfInBounds_toArray, List.set_cons_zero, List.set_cons_succ, List.getElem_toArray, List.getElem_cons_zero, List.getElem_cons_succ]
            refine wpAnyH_take (i := 7) (v := .slice A3 n3 c3) rfl (by kernel_rfl) (by kernel_rfl) (by kernel_rfl) (fun _ _ _ h => h) (Or.inl ⟨by rfl, fun w0 hC => by simp [execOp, Act.eval, Act.put, go_sem]⟩) hHeld ?_
            try simp only [Act.put, List.setIfInBounds_toArray, List.set_cons_zero, List.set_cons_succ, List.getElem_toArray, List.getElem_cons_zero, List.getElem_cons_succ]
            refine wpAnyH_take (i := 8) (v := .int .i64 0) rfl (by kernel_rfl) (by kernel_rfl) (by kernel_rfl) (fun _ _ _ h => h) (Or.inl ⟨by rfl, fun w0 hC => by simp [execOp, Act.eval, Act.put, go_sem]⟩) hHeld ?_
            try simp only [Act.put, List.setIfInBounds_toArray, List.set_cons_zero, List.set_cons_succ, List.getElem_toArray, List.getElem_cons_zero, List.getElem_cons_succ]
            obtain ⟨⟨z0, z1, z2, z3⟩, z4, z5, z6, z7⟩ := HZ2.out.four
            have lz := HZ2.out.lt
            refine wpAnyH_ready (rs := [10]) (by kernel_rfl) (by simp) (AllReadyH.cons rfl (fun K hK => ?_) AllReadyH.nil)
            rw [if_pos (by rfl)]
            go_wp2_with fail
            have hg := grown_put4 U bN (.string ⟨#[97]⟩) (.int .i64 7) (.int .i64 nxb) (.slice A2 n2 c2)
            have kz := HZ2.out.put4 (.string ⟨#[97]⟩) (.int .i64 7) (.int .i64 nxb) (.slice A2 n2 c2)
            have hmz := (hm2.box4 HZ2.out hg).more hg.size
            have hS := below_put4 hHeld hwN (.string ⟨#[97]⟩) (.int .i64 7) (.int .i64 nxb) (.slice A2 n2 c2)
            clear hHeld z0 z1 z2 z3 z4 z5 z6 z7 hg hm2 lz
            refine hK.out _ _ hS (fun hHeld => ?_)
            clear hK K
            try simp only [Act.put, List.setIfInBounds_toArray, List.set_cons_zero, List.set_cons_succ, List.getElem_toArray, List.getElem_cons_zero, List.getElem_cons_succ]
            clear hS
            refine wpAnyH_take (i := 11) (v := .slice A3 n3 c3) rfl (by kernel_rfl) (by kernel_rfl) (by kernel_rfl) (fun _ _ _ h => h) (Or.inl ⟨by rfl, fun w0 hC => by simp [execOp, Act.eval, Act.put, go_sem]⟩) hHeld ?_
            try simp only [Act.put, List.setIfInBounds_toArray, List.set_cons_zero, List.set_cons_succ, List.getElem_toArray, List.getElem_cons_zero, List.getElem_cons_succ]
            refine wpAnyH_take (i := 12) (v := .int .i64 0) rfl (by kernel_rfl) (by kernel_rfl) (by kernel_rfl) (fun _ _ _ h => h) (Or.inl ⟨by rfl, fun w0 hC => by simp [execOp, Act.eval, Act.put, go_sem]⟩) hHeld ?_
            try simp only [Act.put, List.setIfInBounds_toArray, List.set_cons_zero, List.set_cons_succ, List.getElem_toArray, List.getElem_cons_zero, List.getElem_cons_succ]
            refine wpAnyH_done (by kernel_rfl) ?_ _
            go_wp2_with fail
            go_meet
            exact ⟨bN, A2, n2, c2, A3, n3, c3, rfl, rfl, rfl, kz, hmz, HN3.out, hHeld⟩
        case rest =>
          obtain ⟨bN, A2, n2, c2, A3, n3, c3, rfl, rfl, rfl, kn, hmn, hn3, hbw⟩ := hcut
          generalize wc = wm at *
          have HRW := Lib.hid (HRB.out.below hbw)
          have KN := Lib.hid kn
          have HMN := Lib.hid hmn
          have hn2 : n2 = j := by rw [← hmn.len, List.length_take, HRB.out.2.1.len]; omega
          subst hn2
          have hn3b : ((n3 : Int) != (nu : Int) - (n2 : Int)) = false := by rw [hn3]; simp; omega
          clear kn hmn hbw b0 b1 b2 b3 lb HRB hn3
          have hj0 : (0 : Int) ≤ (nu : Int) - (n2 : Int) := by omega
          have hj1 : (nu : Int) - (n2 : Int) ≤ 40 := by omega
          obtain ⟨⟨b0, b1, b2, b3⟩, b4, b5, b6, b7⟩ := HRW.out.1.four
          obtain ⟨⟨n0, n1_, n2_, n3_⟩, -, -, -, -⟩ := KN.out.four
          go_wp2_with fail
          go_roundw
          case rel => exact ⟨k + 1, last, nxb, A2, n2, c2, l.take n2, by omega, by go_num, rfl, HNL.out, HRW.out.put HMN.out HOKJ.out⟩
          case measure => simp [intOf]; omega
    · have hkn : decide ((k : Int) < (tn : Int)) = false := decide_eq_false (by omega)
      obtain ⟨⟨b0, b1, b2, b3⟩, -, -, -, -⟩ := HRA.out.1.four
      go_wp2_with fail
      go_ret
      exact ⟨rfl, HRA.out.2.2.1⟩
end Go.Proofs.Ythmlgbeonmpbjaa
