/-
  Contracts over the document's own package for events: bytes' event.
-/
import Derived.Test.YtoiffchhfnbooaaGreatDoorQEventN
import Derived.Test.YtoiffchhfnbooaaGreatDoorQEventG
namespace Go.Proofs.YtoiffchhfnbooaaGreatDoor
set_option linter.unusedVariables false
set_option linter.unusedSimpArgs false
open Go.RowKit
set_option linter.unusedVariables false
set_option linter.unusedSimpArgs false

theorem wpList_load_wanted {P : Program} {ops : Array Oper} {rest : List Oper} {op : Oper} {a : Act} {w : World} {Q : Exit → Act → World → Prop} (hw : Region.wanted op (yielded ops a.tmps) = true) (ty : TypeId) (x : Operand) (ho : op.op = .load ty x)
    (b o : Nat) (hx : a.eval x = .pointer (some ⟨b, o, none⟩)) (cs : List Value) (d : TypeDesc) (hc : w.rangeAt b o cs)
    (hu : P.underlying ty = some d) (hd : d.isRow = true) (hi : (P.info? ty).map (·.size) = some cs.length)
    (h : wpList P ops Q rest (a.put op.dst (.agg cs.toArray)) w) : wpList P ops Q (op :: rest) a w :=
  wpList_step fun K hK => by
    rw [if_pos hw]
    exact wp_load_mid ty x ho b o hx cs d hc hu hd hi (hK _ _ h)
set_option maxRecDepth 20000 in
set_option maxHeartbeats 8000000 in
theorem xeDecode_far (A : Option Addr) (n c : Nat) (b : List Nat) (w : World) (hb : Bytes w w.heap.size A n b) (hn : n ≤ 140737488355328) (hnc : n ≤ c) (hc : c ≤ maxLen) :
    Calls Tryz.prog 31 #[.slice A n c] w (DecFar b w) := by
  have H256 := Lib.hid hb.2.1
  have HLN : Hid (b.length ≤ 140737488355328) := Lib.hid (by rw [hb.1]; exact hn)
  have HBY := Lib.hid hb
  have HNC := Lib.hid hnc
  have HCM := Lib.hid hc
  have HNN := Lib.hid hn
  clear hb hnc hc hn
  go_enter Tryz.func31, Tryz.ntmps31
  go_wp2_with fail
  obtain ⟨b2, hb2⟩ : ∃ b, b = w.heap.size := ⟨_, rfl⟩
  obtain ⟨g, hg⟩ : ∃ b, b = w.heap.size + 1 := ⟨_, rfl⟩
  have N := Lib.hid (show b2 = w.heap.size ∧ g = w.heap.size + 1 from ⟨hb2, hg⟩)
  refine calls_overE (fun W => Bk W b2 29 (evC (bareH 0 0)) ∧ RdR W g w.heap.size b 0 ∧ Below w.heap.size w W) ⟨by rw [hb2]; exact (Bk.new _ _ _).alloc _, by
    rw [hg]
    exact ⟨A, n, c, Bk.new2 _ _ _ _, HNC.out, HCM.out, HNN.out, HBY.out.below (((Below.refl _ _).alloc (Nat.le_refl _) _).alloc (by simp) _) (Nat.le_refl _)⟩, ((Below.refl _ _).alloc (Nat.le_refl _) _).alloc (by simp) _⟩ ?_
  rw [← hg, ← hb2]
  clear hb2 hg HBY HNC HCM HNN
  rintro W ⟨k2, kr, kb⟩
  have K2 := Lib.hid k2
  have KB := Lib.hid (show Below w.heap.size w W by rw [← N.out.1]; exact kb)
  have CR := Lib.hid (xeRead_any g b2 b W kr (by have := N.out; omega) HLN.out H256.out)
  clear k2 kr kb
  refine CR.out.mono ?_
  rintro e w2 ⟨H, rfl, hv, hin, hrd, hgr⟩
  have J2 := Lib.hid (K2.out.kept hgr (by have := N.out; omega))
  have JI := Lib.hid hin
  have J2W := Lib.hid (show b2 < W.heap.size from K2.out.lt)
  have JR := Lib.hid hrd
  have JB : Hid (Below w.heap.size w w2) := Lib.hid (KB.out.grown hgr KB.out.size (fun k hk => by cases hk; have := N.out; omega))
  have HV := Lib.hid hv
  clear hv hin hrd hgr CR K2 KB
  go_wp2_with ((with_reducible show wpList _ _ _ (⟨none, _, _, _, _, _⟩ :: _) _ _); refine hold ?_)
  obtain ⟨b5, hb5⟩ : ∃ b, b = w2.heap.size := ⟨_, rfl⟩
  have Z5 := Lib.hid (show b2 < b5 ∧ g < b5 ∧ w.heap.size ≤ b5 from ⟨by rw [hb5]; exact J2.out.lt, by rw [hb5]; exact JR.out.lt, by rw [hb5]; exact JB.out.size⟩)
  refine held (wpList_store_wide rfl 29 (.tmp 5) (.tmp 11) rfl w2.heap.size 0 (evC H) rfl rfl 29 (evC (bareH 0 0)) (Bk.new w2 29 (evC (bareH 0 0))) (by rw [evC_size, evC_size]; decide) (by rw [evC_size]; exact info_ev) (evC_one _) ?_)
  intro w3 hw3
  have hw3' := w_setRow_allE hw3 (by rw [evC_size, evC_size])
  have hbw : Below w2.heap.size w2 w3 := by rw [hw3']; exact below_setRow ((Below.refl _ _).alloc (Nat.le_refl _) _) (Nat.le_refl _) _
  have L5 : Hid (Bk w3 b5 29 (evC H)) := Lib.hid (by rw [hw3', hb5]; exact (Bk.new w2 29 (evC (bareH 0 0))).setRow_same _)
  have L2 := Lib.hid (J2.out.below hbw J2.out.lt)
  have LI := Lib.hid (JI.out.below hbw)
  have LR := Lib.hid (JR.out.belowE hbw JR.out.lt (by have := J2.out.lt; omega))
  have LB := Lib.hid (JB.out.trans (hbw.mono JB.out.size))
  rw [← hb5]
  clear hb5 hw3 hw3' hbw J2 JI JR JB
  have CD := Lib.hid (rDone_any g b2 _ _ w3 LR.out (by have := N.out; omega))
  have HDE : Hid (decE b = if decD b = 0 then (if rightE (decS b).1 = true then 0 else 3) else decD b) := Lib.hid rfl
  have HDV : Hid (decV b = if decE b = 0 then (decS b).1 else bare 0 0) := Lib.hid rfl
  obtain ⟨dd, hdd⟩ : ∃ dd, doneE (docS b).2.1 (docS b).2.2 = dd := ⟨_, rfl⟩
  have hdd2 : decD b = dd := by rw [← docD]; exact hdd
  have HS : Hid (dd = 0 → H.e = (decS b).1) := Lib.hid fun h0 => by rw [HV.out]; exact (doc_same b).2 (by rw [hdd2]; exact h0)
  rw [hdd] at CD
  rw [hdd2] at HDE
  clear hdd hdd2
  go_wp2_with fail
  refine CD.out.mono ?_
  rintro e w' ⟨rfl, rfl⟩
  clear CD LR
  by_cases h0 : dd = 0
  · have HS1 := Lib.hid (HS.out h0)
    have HE1 : Hid (decE b = if rightE (decS b).1 = true then 0 else 3) := Lib.hid (by rw [HDE.out, if_pos h0])
    clear HDE HS
    subst h0
    go_wp2_with ((with_reducible show wpList _ _ _ (⟨some 17, _, _, _, _, _⟩ :: _) _ _); refine hold ?_)
    refine held (wpList_load_wanted (by rfl) 29 (.tmp 5) rfl b5 0 rfl _ _ L5.out.range Tryz.underlying29 rfl (by kernel_rfl) ?_)
    go_wp2_with fail
    refine (xeRight_any H w3 LI.out.inn).mono ?_
    rintro e W8 ⟨rfl, hb8⟩
    have X2 := Lib.hid (L2.out.below hb8 L2.out.lt)
    have X5 := Lib.hid (L5.out.below hb8 L5.out.lt)
    have XI := Lib.hid (LI.out.below hb8)
    have XB := Lib.hid (LB.out.trans (hb8.mono LB.out.size))
    clear hb8 L2 L5 LI LB
    cases hre : rightE H.e
    · have HE3 : Hid (decE b = 3) := Lib.hid (by rw [HE1.out, ← HS1.out, hre]; rfl)
      have HVB : Hid (decV b = bare 0 0) := Lib.hid (by rw [HDV.out, HE3.out]; rfl)
      clear hre
      go_wp2_with ((with_reducible show wpList _ _ _ (⟨none, _, _, _, _, _⟩ :: _) _ _); refine hold ?_)
      refine held (wpList_store_wide rfl 29 (.tmp 2) (.tmp 23) rfl b2 0 (evC (bareH 0 0)) rfl rfl 29 _ X2.out (by rw [evC_size]; decide) (by rw [evC_size]; exact info_ev) (evC_one _) ?_)
      intro w10 hw10
      obtain rfl := w_setRow_allE hw10 (by rw [evC_size])
      go_wp2_with fail
      refine bodyPost_ret (results_cell2E rfl _ _ ⟨b2, 0, none⟩ _ _ rfl rfl (Bk.ev (Bk.setRow_same X2.out _))) rfl ⟨bareH 0 0, by rw [HE3.out]; rfl, by rw [HVB.out]; rfl, EvFar.bare _ _ _ _, below_setRow XB.out (by rw [N.out.1]; exact Nat.le_refl _) _⟩
    · have HE0 : Hid (decE b = 0) := Lib.hid (by rw [HE1.out, ← HS1.out, hre]; rfl)
      have HVB : Hid (decV b = H.e) := Lib.hid (by rw [HDV.out, HE0.out, HS1.out]; rfl)
      clear hre
      go_wp2_with ((with_reducible show wpList _ _ _ (⟨some 25, _, _, _, _, _⟩ :: _) _ _); refine hold ?_)
      refine held (wpList_load_mid rfl 29 (.tmp 5) rfl b5 0 rfl _ _ X5.out.range Tryz.underlying29 rfl (by kernel_rfl) ?_)
      go_wp2_with ((with_reducible show wpList _ _ _ (⟨none, _, _, _, _, _⟩ :: _) _ _); refine hold ?_)
      refine held (wpList_store_wide rfl 29 (.tmp 2) (.tmp 25) rfl b2 0 (evC H) rfl rfl 29 _ X2.out (by rw [evC_size, evC_size]; decide) (by rw [evC_size]; exact info_ev) (evC_one _) ?_)
      intro w10 hw10
      obtain rfl := w_setRow_allE hw10 (by rw [evC_size, evC_size])
      go_wp2_with fail
      have hgs := grownBy_setRow X2.out (evC H)
      refine bodyPost_ret (results_cell2E rfl _ _ ⟨b2, 0, none⟩ _ _ rfl rfl (Bk.ev (Bk.setRow_same X2.out _))) rfl ⟨H, by rw [HE0.out]; rfl, HVB.out.symm, (XI.out.kept hgs J2W.out).mono (by have := J2W.out; have := N.out; omega), below_setRow XB.out (by rw [N.out.1]; exact Nat.le_refl _) _⟩
  · have hne : (((dd : Nat) : Int) != 0) = true := by simpa using h0
    have hne2 : (((dd : Nat) : Int) == 0) = false := by simpa using h0
    have HE3 : Hid (decE b = dd) := Lib.hid (by rw [HDE.out, if_neg h0])
    have HVB : Hid (decV b = bare 0 0) := Lib.hid (by rw [HDV.out, HE3.out, if_neg h0])
    clear h0
    go_wp2_with ((with_reducible show wpList _ _ _ (⟨none, _, _, _, _, _⟩ :: _) _ _); refine hold ?_)
    refine held (wpList_store_wide rfl 29 (.tmp 2) (.tmp 23) rfl b2 0 (evC (bareH 0 0)) rfl rfl 29 _ L2.out (by rw [evC_size]; decide) (by rw [evC_size]; exact info_ev) (evC_one _) ?_)
    intro w10 hw10
    obtain rfl := w_setRow_allE hw10 (by rw [evC_size])
    go_wp2_with fail
    refine bodyPost_ret (results_cell2E rfl _ _ ⟨b2, 0, none⟩ _ _ rfl rfl (Bk.ev (Bk.setRow_same L2.out _))) rfl ⟨bareH 0 0, by rw [HE3.out] <;> rfl, by rw [HVB.out]; rfl, EvFar.bare _ _ _ _, below_setRow LB.out (by rw [N.out.1]; exact Nat.le_refl _) _⟩
theorem xeDecode_any (A : Option Addr) (n c : Nat) (b : List Nat) (w : World) (hb : Bytes w w.heap.size A n b) (hn : n ≤ 140737488355328) (hnc : n ≤ c) (hc : c ≤ maxLen) :
    Calls Tryz.prog 31 #[.slice A n c] w (DecIs b w) := by
  refine (xeDecode_far A n c b w hb hn hnc hc).mono ?_
  rintro e w' ⟨H, h1, h2, h3, h4⟩
  exact ⟨H, h1, h2, h3.inn, h4⟩
end Go.Proofs.YtoiffchhfnbooaaGreatDoor
