/-
  The law RecordLinks of layer 15, as a walk.
-/
import Derived.Test.YtoiffchhfnbooaaDoorQRecLinkR
import Derived.Test.YtoiffchhfnbooaaDoorQEventD
import Derived.Deep.DeepCutAuto
import Derived.Deep.QuietTactic
import Derived.BigQuiet
import Derived.IntWalk
namespace Go.Proofs.YtoiffchhfnbooaaDoor
set_option linter.unusedVariables false
set_option linter.unusedSimpArgs false
open Go.RowKit
set_option linter.unusedVariables false
set_option linter.unusedSimpArgs false

theorem xeSame_yesL (h g : Eh) (w : World) (Hh : EvIn w w.heap.size h) (Hg : EvIn w w.heap.size g) (he : h.e = g.e) : Calls Tryd.prog 8 #[.agg (evC h), .agg (evC g)] w fun e w' => e = .returned (.bool true) ∧ Below w.heap.size w w' := by
  refine (xeSame_any h g w Hh Hg).mono ?_
  rintro e w' ⟨h1, h2⟩
  exact ⟨by rw [h1, he, evEq_self], h2⟩
theorem ch_guardL : Tryd.prog.eqGuardType Tryd.prog.depth 26 = false := by kernel_rfl
theorem exec_neq_ch {o : Oper} {ρ : Operand → Value} {w : World} {x y : Operand} {X Y : Ch} (ho : o.op = .binOp .neq 26 x y 26) (hx : ρ x = .agg (chC X)) (hy : ρ y = .agg (chC Y)) (h1 : X.Ok) (h2 : Y.Ok) : (execOp ρ o).run Tryd.prog w = .ok (.value (.bool (!decide (X = Y)))) w := by
  have hg : (eqGuard .neq 26 x y (.agg (chC X)) (.agg (chC Y))).run Tryd.prog w = .ok () w := by
    unfold eqGuard
    simp [ch_guardL, Sem.run_bind]
  unfold execOp
  simp [ho, hx, hy, run_neq_ch w X Y h1 h2, hg]
theorem range_below15 {w w' : World} {B b o : Nat} {cs : List Value} (h : w.rangeAt b o cs) (hb : Below B w w') (hl : b < B) : w'.rangeAt b o cs := fun j v hv => (hb.cell (p := ⟨b, o + j, none⟩) hl).trans (h j v hv)
/-- between the rounds -/
def LkAt (w : World) (b5 i m : Nat) (rs : List Rc) (cur : Ch) (us : List Value) (A6 : Option Addr) (c6 : Nat) (A7 : Option Addr) (c7 : Nat) (W : World) : Prop :=
  rs.length = m ∧ m ≤ i ∧ RcOk rs ∧ cur.Ok ∧ cur.count = (m : Int) ∧ us.length = m ∧ LkSt w b5 rs cur us m m (rs.map Rc.c) A6 c6 A7 c7 W
/-- what Next has given -/
def NxGot (W2 : World) (cur : Ch) (e : Ev) (A9 : Option Addr) (N9 k9 b10 : Nat) (W : World) : Prop :=
  Bk W b10 26 (chC (nextC cur e)) ∧ OwnB W W2.heap.size 5 A9 N9 k9 (nextB cur e) ∧ W2.heap.size ≤ b10 ∧ Below W2.heap.size W2 W
set_option maxRecDepth 100000 in
set_option maxHeartbeats 8000000 in
theorem recordLinks_walk (A : Option Addr) (n c : Nat) (l : List Eh) (k : Nat) (w : World) (hl : EvsIn w w.heap.size A n l) (hn : n ≤ 140737488355328) (hk : k < 256) (hK : Kinds w) (ht : Tabs w) :
    Calls Tryd.prog 3 #[.slice A n c, .int .u8 (k : Int)] w fun e w' => e = .returned (.bool true) ∧ Below w.heap.size w w' := by
  have hmx : Tryd.prog.follows .mixedOrders = true := by kernel_rfl
  have HL := Lib.hid hl
  have HK := Lib.hid hK
  have HT := Lib.hid ht
  have HKB := Lib.hid hk
  clear hl hK ht hn hk
  go_enter Tryd.func3, Tryd.ntmps3
  go_wp2_with fail
  refine (alive15_any w HK.out HT.out).mono ?_
  rintro e W1 ⟨rfl, hb⟩
  have B1 := Lib.hid hb
  clear hb
  by_cases h50 : (50 : Int) < (n : Int)
  · go_wp2_with fail
    go_ret
    exact ⟨rfl, B1.out⟩
  have HN : Hid (n ≤ 50) := Lib.hid (by omega)
  go_wp2_with fail
  obtain ⟨b5, hb5⟩ : ∃ b, W1.heap.size = b := ⟨_, rfl⟩
  have R0 : Hid (LkAt w b5 0 0 [] ch0 [] none 0 none 0 (W1.alloc (.cells (chC ch0) 26))) := Lib.hid ⟨rfl, Nat.le_refl _, RcOk.nil, ch0_ok, rfl, rfl, ⟨by rw [← hb5]; exact Bk.new _ _ _, OwnK.nil oneV_len, ⟨[], RecsIn.nil _ _, List.nil_prefix⟩, OwnK.nil chL_len, by rw [← hb5]; exact B1.out.size, B1.out.alloc B1.out.size _⟩⟩
  rw [hb5]
  clear hb5 h50 B1
  go_loopw [6, 7, 8] (fun x6 x7 x8 wx => ∃ (i m : Nat) (rs : List Rc) (cur : Ch) (us : List Value) (A6 : Option Addr) (c6 : Nat) (A7 : Option Addr) (c7 : Nat), i ≤ n ∧ x6 = .slice A6 m c6 ∧ x7 = .slice A7 m c7 ∧ x8 = .int .i64 (i : Int) ∧ LkAt w b5 i m rs cur us A6 c6 A7 c7 wx) (fun _ _ x8 _ => n - (intOf x8).toNat)
  case atStart => exact ⟨0, 0, [], ch0, [], none, 0, none, 0, Nat.zero_le _, rfl, rfl, rfl, R0.out⟩
  case round =>
    obtain ⟨i, m, rs, cur, us, A6, c6, A7, c7, hi, rfl, rfl, rfl, hr⟩ := hrel
    obtain ⟨wo, rfl⟩ : ∃ wo, wo = wr := ⟨_, rfl⟩
    have H := Lib.hid hr
    clear hr R0
    by_cases hlt : i < n
    · obtain ⟨eb, eo, h, rfl, heb, hle, hrg, hin⟩ := (HL.out.later H.out.2.2.2.2.2.2.hb).at_ hlt
      have HRG := Lib.hid hrg
      have HIN := Lib.hid hin
      have HEB := Lib.hid heb
      have hi0 : (0 : Int) ≤ (i : Int) := by omega
      have hin' : (i : Int) < (n : Int) := by omega
      have HI := Lib.hid (show i < n ∧ (0 : Int) ≤ (i : Int) ∧ (i : Int) < (n : Int) ∧ n ≤ 50 from ⟨hlt, hi0, hin', HN.out⟩)
      clear hle hrg hin heb
      go_wp2_with ((with_reducible show wpList _ _ _ (⟨some 34, _, _, _, _, _⟩ :: _) _ _); refine hold ?_)
      refine held (wpList_load_mid rfl 34 (.tmp 33) rfl eb (eo + i * 11) rfl _ _ HRG.out Tryd.underlying34 rfl (by kernel_rfl) ?_)
      go_wp2_with fail
      refine (xeGreat_any h wo).mono ?_
      rintro e W2 ⟨gr, rfl, hsm, hb⟩
      have H2 : Hid (LkSt w b5 rs cur us m m (rs.map Rc.c) A6 c6 A7 c7 W2) := Lib.hid (H.out.2.2.2.2.2.2.next hb)
      have HF : Hid (rs.length = m ∧ m ≤ i ∧ RcOk rs ∧ cur.Ok ∧ cur.count = (m : Int) ∧ us.length = m) := Lib.hid ⟨H.out.1, H.out.2.1, H.out.2.2.1, H.out.2.2.2.1, H.out.2.2.2.2.1, H.out.2.2.2.2.2.1⟩
      have HRG2 := Lib.hid (range_below15 HRG.out hb HEB.out)
      have HIN2 := Lib.hid (HIN.out.later hb)
      have HEB2 : Hid (eb < W2.heap.size) := Lib.hid (Nat.lt_of_lt_of_le HEB.out hb.size)
      have HS6 : Hid (∀ q, (Value.slice A6 m c6).ownBlock = some q → q < W2.heap.size) := Lib.hid (fun q hq => (H2.out.rec_.1.lt q hq).2)
      have HS7 : Hid (∀ q, (Value.slice A7 m c7).ownBlock = some q → q < W2.heap.size) := Lib.hid (fun q hq => (H2.out.chn.1.lt q hq).2)
      clear hsm hb H HRG HIN HEB hi0 hin'
      cases gr
      case true =>
        go_wp2_with fail
        go_ret
        exact ⟨rfl, H2.out.hb⟩
      go_upto_region 13 with (fail)
      go_cut [9, 10, 11] (fun x9 x10 x11 wx => ∃ (A9 : Option Addr) (N9 k9 b10 : Nat), x9 = .slice A9 N9 k9 ∧ x10 = .pointer (some ⟨b10, 0, none⟩) ∧ x11 = .int .i64 ((nextE cur h.e : Nat) : Int) ∧ NxGot W2 cur h.e A9 N9 k9 b10 wx)
      case first =>
        have hi0 := HI.out.2.1
        have hin' := HI.out.2.2.1
        have hlt2 := HI.out.1
        go_wp2_with fail
        refine wp_region_held_drew (S := fun W' => Below W2.heap.size W2 W') hmx (Below.refl _ _).drew (fun hHeld => ?_)
        generalize hW0 : W2.drew = V0 at *
        clear hW0
        simp only [List.size_toArray, List.length_cons, List.length_nil, Nat.reduceAdd]
        refine wpAnyH_take (i := 0) (v := .agg (chC cur)) rfl (by kernel_rfl) (by kernel_rfl) (by kernel_rfl) (fun _ _ _ h => h) (Or.inl ⟨by rfl, fun w0 hC => exec_load rfl rfl (H2.out.bx.below hC H2.out.bx.lt).range Tryd.underlying26 rfl (info_ch' HF.out.2.2.2.1)⟩) hHeld ?_
        try simp only [Act.put, List.setIfInBounds_toArray, List.set_cons_zero, List.set_cons_succ, List.getElem_toArray, List.getElem_cons_zero, List.getElem_cons_succ]
        refine wpAnyH_take (i := 1) (v := .slice (some ⟨eb, eo, none⟩) n c) rfl (by kernel_rfl) (by kernel_rfl) (by kernel_rfl) (fun _ _ _ h => h) (Or.inl ⟨by rfl, fun w0 hC => by simp [execOp, Act.eval, Act.put, go_sem]⟩) hHeld ?_
        try simp only [Act.put, List.setIfInBounds_toArray, List.set_cons_zero, List.set_cons_succ, List.getElem_toArray, List.getElem_cons_zero, List.getElem_cons_succ]
        refine wpAnyH_take (i := 2) (v := .int .i64 (i : Int)) rfl (by kernel_rfl) (by kernel_rfl) (by kernel_rfl) (fun _ _ _ h => h) (Or.inl ⟨by rfl, fun w0 hC => by simp [execOp, Act.eval, Act.put, go_sem]⟩) hHeld ?_
        try simp only [Act.put, List.setIfInBounds_toArray, List.set_cons_zero, List.set_cons_succ, List.getElem_toArray, List.getElem_cons_zero, List.getElem_cons_succ]
        refine wpAnyH_take (i := 3) (v := .pointer (some ⟨eb, eo + i * 11, none⟩)) rfl (by kernel_rfl) (by kernel_rfl) (by kernel_rfl) (fun _ _ _ h => h) (Or.inl ⟨by rfl, fun w0 hC => by simp [execOp, Act.eval, Act.put, go_sem, hi0, hin', hlt2]⟩) hHeld ?_
        try simp only [Act.put, List.setIfInBounds_toArray, List.set_cons_zero, List.set_cons_succ, List.getElem_toArray, List.getElem_cons_zero, List.getElem_cons_succ]
        refine wpAnyH_take (i := 4) (v := .agg (evC h)) rfl (by kernel_rfl) (by kernel_rfl) (by kernel_rfl) (fun _ _ _ h => h) (Or.inl ⟨by rfl, fun w0 hC => exec_load rfl rfl (range_below15 HRG2.out hC HEB2.out) Tryd.underlying34 rfl (by rw [evC_size]; exact info_ev)⟩) hHeld ?_
        try simp only [Act.put, List.setIfInBounds_toArray, List.set_cons_zero, List.set_cons_succ, List.getElem_toArray, List.getElem_cons_zero, List.getElem_cons_succ]
        clear hi0 hin' hlt2
        obtain ⟨X, hX⟩ : ∃ X, nextC cur h.e = X := ⟨_, rfl⟩
        have HX := Lib.hid hX
        have HXO : Hid X.Ok := Lib.hid (by rw [← hX]; exact nextC_ok cur h.e)
        clear hX
        obtain ⟨er, her⟩ : ∃ er, nextE cur h.e = er := ⟨_, rfl⟩
        have HER := Lib.hid her
        clear her
        refine wpAnyH_ready (rs := [5, 10]) (by kernel_rfl) (by simp) (AllReadyH.cons rfl (fun K hK => ?_) (AllReadyH.cons rfl (fun K hK => ?_) AllReadyH.nil))
        · rw [if_pos (by rfl)]
          go_wp2_with fail
          refine (rcNext_any cur h V0 HF.out.2.2.2.1 ((HIN2.out.below hHeld (Nat.le_refl _)).more hHeld.size) ((HK.out.below H2.out.hb).below hHeld) (Tabs.later15 (Tabs.later15 HT.out H2.out.hb) hHeld)).mono ?_
          rintro e U1 ⟨A9, N9, k9, rfl, ho, hbc⟩
          rw [HX.out, HER.out]
          have HO := Lib.hid (ho.base_le hHeld.size)
          have hS := hHeld.trans (hbc.mono hHeld.size)
          clear hHeld ho hbc
          refine hK.out _ _ hS (fun hHeld => ?_)
          clear hK K
          try simp only [Act.put, List.setIfInBounds_toArray, List.set_cons_zero, List.set_cons_succ, List.getElem_toArray, List.getElem_cons_zero, List.getElem_cons_succ]
          clear hS
          refine wpAnyH_take (i := 6) (v := .tuple #[.slice A9 N9 k9, .agg (chC X), .int .i64 (er : Int)]) rfl (by kernel_rfl) (by kernel_rfl) (by kernel_rfl) (fun _ _ _ h => h) (Or.inl ⟨by rfl, fun w0 hC => by simp [execOp, Act.eval, Act.put, go_sem]⟩) hHeld ?_
          try simp only [Act.put, List.setIfInBounds_toArray, List.set_cons_zero, List.set_cons_succ, List.getElem_toArray, List.getElem_cons_zero, List.getElem_cons_succ]
          refine wpAnyH_take (i := 7) (v := .slice A9 N9 k9) rfl (by kernel_rfl) (by kernel_rfl) (by kernel_rfl) (fun _ _ _ h => h) (Or.inl ⟨by rfl, fun w0 hC => by simp [execOp, Act.eval, Act.put, go_sem]⟩) hHeld ?_
          try simp only [Act.put, List.setIfInBounds_toArray, List.set_cons_zero, List.set_cons_succ, List.getElem_toArray, List.getElem_cons_zero, List.getElem_cons_succ]
          refine wpAnyH_take (i := 8) (v := .agg (chC X)) rfl (by kernel_rfl) (by kernel_rfl) (by kernel_rfl) (fun _ _ _ h => h) (Or.inl ⟨by rfl, fun w0 hC => by simp [execOp, Act.eval, Act.put, go_sem]⟩) hHeld ?_
          try simp only [Act.put, List.setIfInBounds_toArray, List.set_cons_zero, List.set_cons_succ, List.getElem_toArray, List.getElem_cons_zero, List.getElem_cons_succ]
          refine wpAnyH_take (i := 9) (v := .int .i64 (er : Int)) rfl (by kernel_rfl) (by kernel_rfl) (by kernel_rfl) (fun _ _ _ h => h) (Or.inl ⟨by rfl, fun w0 hC => by simp [execOp, Act.eval, Act.put, go_sem]⟩) hHeld ?_
          try simp only [Act.put, List.setIfInBounds_toArray, List.set_cons_zero, List.set_cons_succ, List.getElem_toArray, List.getElem_cons_zero, List.getElem_cons_succ]
          refine wpAnyH_ready (rs := [10]) (by kernel_rfl) (by simp) (AllReadyH.cons rfl (fun K hK => ?_) AllReadyH.nil)
          rw [if_pos (by rfl)]
          go_wp2_with fail
          have HB10 : Hid (W2.heap.size ≤ U1.heap.size) := Lib.hid hHeld.size
          refine k_over (fun W => Below W2.heap.size W2 W ∧ Bk W U1.heap.size 26 (chC ch0) ∧ OwnB W W2.heap.size 5 A9 N9 k9 (nextB cur h.e)) ⟨hHeld.alloc hHeld.size _, Bk.new _ _ _, HO.out.below ((Below.refl _ _).alloc (Nat.le_refl _) _)⟩ ?_
          obtain ⟨b10, hb10⟩ : ∃ b, U1.heap.size = b := ⟨_, rfl⟩
          rw [hb10] at HB10 ⊢
          clear hb10 hHeld HO
          rintro U2 ⟨hS, q2, q3⟩
          have K10 := Lib.hid q2
          have HO := Lib.hid q3
          clear q2 q3
          refine hK.out _ _ hS (fun hHeld => ?_)
          clear hK K
          try simp only [Act.put, List.setIfInBounds_toArray, List.set_cons_zero, List.set_cons_succ, List.getElem_toArray, List.getElem_cons_zero, List.getElem_cons_succ]
          clear hS
          refine wpAnyH_ready (rs := [11]) (by kernel_rfl) (by simp) (AllReadyH.cons rfl (fun K hK => ?_) AllReadyH.nil)
          rw [if_pos (by rfl)]
          go_wp2_with fail
          have hS := hHeld
          clear hHeld
          refine hK.out _ _ hS (fun hHeld => ?_)
          clear hK K
          try simp only [Act.put, List.setIfInBounds_toArray, List.set_cons_zero, List.set_cons_succ, List.getElem_toArray, List.getElem_cons_zero, List.getElem_cons_succ]
          clear hS
          refine wpAnyH_ready (rs := [12]) (by kernel_rfl) (by simp) (AllReadyH.cons rfl (fun K hK => ?_) AllReadyH.nil)
          rw [if_pos (by rfl)]
          have hS := below_setRow hHeld HB10.out (chC X)
          have K10b := Lib.hid (K10.out.setRow_same (chC X))
          have HOb := Lib.hid (own_row15 HO.out K10.out (by decide) (chC X))
          refine wp_skip (exec_store15 rfl rfl rfl K10.out (by rw [chC_size HXO.out]; rfl) (info_ch' HXO.out) (chC_one _)) ?_
          clear hHeld K10 HO
          refine hK.out _ _ hS (fun hHeld => ?_)
          clear hK K
          try simp only [Act.put, List.setIfInBounds_toArray, List.set_cons_zero, List.set_cons_succ, List.getElem_toArray, List.getElem_cons_zero, List.getElem_cons_succ]
          clear hS
          refine wpAnyH_ready (rs := [13]) (by kernel_rfl) (by simp) (AllReadyH.cons rfl (fun K hK => ?_) AllReadyH.nil)
          rw [if_pos (by rfl)]
          go_wp2_with fail
          have hS := hHeld
          clear hHeld
          refine hK.out _ _ hS (fun hHeld => ?_)
          clear hK K
          try simp only [Act.put, List.setIfInBounds_toArray, List.set_cons_zero, List.set_cons_succ, List.getElem_toArray, List.getElem_cons_zero, List.getElem_cons_succ]
          clear hS
          refine wpAnyH_done (by kernel_rfl) ?_ _
          go_wp2_with fail
          go_meet
          exact ⟨A9, N9, k9, b10, rfl, rfl, by rw [HER.out], by rw [HX.out]; exact K10b.out, HOb.out, HB10.out, hHeld⟩
        · rw [if_pos (by rfl)]
          go_wp2_with fail
          have HB10 : Hid (W2.heap.size ≤ V0.heap.size) := Lib.hid hHeld.size
          refine k_over (fun W => Below W2.heap.size W2 W ∧ Bk W V0.heap.size 26 (chC ch0)) ⟨hHeld.alloc hHeld.size _, Bk.new _ _ _⟩ ?_
          obtain ⟨b10, hb10⟩ : ∃ b, V0.heap.size = b := ⟨_, rfl⟩
          rw [hb10] at HB10 ⊢
          clear hb10 hHeld
          rintro U2 ⟨hS, q2⟩
          have K10a := Lib.hid q2
          clear q2
          refine hK.out _ _ hS (fun hHeld => ?_)
          clear hK K
          try simp only [Act.put, List.setIfInBounds_toArray, List.set_cons_zero, List.set_cons_succ, List.getElem_toArray, List.getElem_cons_zero, List.getElem_cons_succ]
          clear hS
          refine wpAnyH_ready (rs := [5]) (by kernel_rfl) (by simp) (AllReadyH.cons rfl (fun K hK => ?_) AllReadyH.nil)
          rw [if_pos (by rfl)]
          go_wp2_with fail
          refine (rcNext_any cur h U2 HF.out.2.2.2.1 ((HIN2.out.below hHeld (Nat.le_refl _)).more hHeld.size) ((HK.out.below H2.out.hb).below hHeld) (Tabs.later15 (Tabs.later15 HT.out H2.out.hb) hHeld)).mono ?_
          rintro e U1 ⟨A9, N9, k9, rfl, ho, hbc⟩
          rw [HX.out, HER.out]
          have HO := Lib.hid (ho.base_le hHeld.size)
          have hS := hHeld.trans (hbc.mono hHeld.size)
          have K10 := Lib.hid (K10a.out.below hbc K10a.out.lt)
          clear hHeld ho hbc K10a
          refine hK.out _ _ hS (fun hHeld => ?_)
          clear hK K
          try simp only [Act.put, List.setIfInBounds_toArray, List.set_cons_zero, List.set_cons_succ, List.getElem_toArray, List.getElem_cons_zero, List.getElem_cons_succ]
          clear hS
          refine wpAnyH_take (i := 6) (v := .tuple #[.slice A9 N9 k9, .agg (chC X), .int .i64 (er : Int)]) rfl (by kernel_rfl) (by kernel_rfl) (by kernel_rfl) (fun _ _ _ h => h) (Or.inl ⟨by rfl, fun w0 hC => by simp [execOp, Act.eval, Act.put, go_sem]⟩) hHeld ?_
          try simp only [Act.put, List.setIfInBounds_toArray, List.set_cons_zero, List.set_cons_succ, List.getElem_toArray, List.getElem_cons_zero, List.getElem_cons_succ]
          refine wpAnyH_take (i := 7) (v := .slice A9 N9 k9) rfl (by kernel_rfl) (by kernel_rfl) (by kernel_rfl) (fun _ _ _ h => h) (Or.inl ⟨by rfl, fun w0 hC => by simp [execOp, Act.eval, Act.put, go_sem]⟩) hHeld ?_
          try simp only [Act.put, List.setIfInBounds_toArray, List.set_cons_zero, List.set_cons_succ, List.getElem_toArray, List.getElem_cons_zero, List.getElem_cons_succ]
          refine wpAnyH_take (i := 8) (v := .agg (chC X)) rfl (by kernel_rfl) (by kernel_rfl) (by kernel_rfl) (fun _ _ _ h => h) (Or.inl ⟨by rfl, fun w0 hC => by simp [execOp, Act.eval, Act.put, go_sem]⟩) hHeld ?_
          try simp only [Act.put, List.setIfInBounds_toArray, List.set_cons_zero, List.set_cons_succ, List.getElem_toArray, List.getElem_cons_zero, List.getElem_cons_succ]
          refine wpAnyH_take (i := 9) (v := .int .i64 (er : Int)) rfl (by kernel_rfl) (by kernel_rfl) (by kernel_rfl) (fun _ _ _ h => h) (Or.inl ⟨by rfl, fun w0 hC => by simp [execOp, Act.eval, Act.put, go_sem]⟩) hHeld ?_
          try simp only [Act.put, List.setIfInBounds_toArray, List.set_cons_zero, List.set_cons_succ, List.getElem_toArray, List.getElem_cons_zero, List.getElem_cons_succ]
          refine wpAnyH_ready (rs := [11]) (by kernel_rfl) (by simp) (AllReadyH.cons rfl (fun K hK => ?_) AllReadyH.nil)
          rw [if_pos (by rfl)]
          go_wp2_with fail
          have hS := hHeld
          clear hHeld
          refine hK.out _ _ hS (fun hHeld => ?_)
          clear hK K
          try simp only [Act.put, List.setIfInBounds_toArray, List.set_cons_zero, List.set_cons_succ, List.getElem_toArray, List.getElem_cons_zero, List.getElem_cons_succ]
          clear hS
          refine wpAnyH_ready (rs := [12]) (by kernel_rfl) (by simp) (AllReadyH.cons rfl (fun K hK => ?_) AllReadyH.nil)
          rw [if_pos (by rfl)]
          have hS := below_setRow hHeld HB10.out (chC X)
          have K10b := Lib.hid (K10.out.setRow_same (chC X))
          have HOb := Lib.hid (own_row15 HO.out K10.out (by decide) (chC X))
          refine wp_skip (exec_store15 rfl rfl rfl K10.out (by rw [chC_size HXO.out]; rfl) (info_ch' HXO.out) (chC_one _)) ?_
          clear hHeld K10 HO
          refine hK.out _ _ hS (fun hHeld => ?_)
          clear hK K
          try simp only [Act.put, List.setIfInBounds_toArray, List.set_cons_zero, List.set_cons_succ, List.getElem_toArray, List.getElem_cons_zero, List.getElem_cons_succ]
          clear hS
          refine wpAnyH_ready (rs := [13]) (by kernel_rfl) (by simp) (AllReadyH.cons rfl (fun K hK => ?_) AllReadyH.nil)
          rw [if_pos (by rfl)]
          go_wp2_with fail
          have hS := hHeld
          clear hHeld
          refine hK.out _ _ hS (fun hHeld => ?_)
          clear hK K
          try simp only [Act.put, List.setIfInBounds_toArray, List.set_cons_zero, List.set_cons_succ, List.getElem_toArray, List.getElem_cons_zero, List.getElem_cons_succ]
          clear hS
          refine wpAnyH_done (by kernel_rfl) ?_ _
          go_wp2_with fail
          go_meet
          exact ⟨A9, N9, k9, b10, rfl, rfl, by rw [HER.out], by rw [HX.out]; exact K10b.out, HOb.out, HB10.out, hHeld⟩
      case rest =>
      obtain ⟨A9, N9, k9, b10, rfl, rfl, rfl, hg⟩ := hcut
      generalize wc = W3 at *
      have G := Lib.hid hg
      clear hg
      have H3 := Lib.hid (H2.out.next G.out.2.2.2)
      have HRG3 := Lib.hid (range_below15 HRG2.out G.out.2.2.2 HEB2.out)
      have HIN3 := Lib.hid ((HIN2.out.below G.out.2.2.2 (Nat.le_refl _)).more G.out.2.2.2.size)
      have HEB3 : Hid (eb < W3.heap.size) := Lib.hid (Nat.lt_of_lt_of_le HEB2.out G.out.2.2.2.size)
      have HB5 : Hid (b5 < W2.heap.size) := Lib.hid H2.out.bx.lt
      clear H2 HRG2 HIN2 HEB2
      obtain ⟨er, her⟩ : ∃ er, nextE cur h.e = er := ⟨_, rfl⟩
      have HER := Lib.hid her
      rw [her]
      clear her
      by_cases he : er = 0
      case neg =>
        have hne : (((er : Nat) : Int) != 0) = true := by simpa using he
        clear he
        go_wp2_with fail
        go_roundw
        case rel => exact ⟨i + 1, m, rs, cur, us, A6, c6, A7, c7, by have := HI.out.1; omega, rfl, rfl, by go_num, HF.out.1, by have := HF.out.2.1; omega, HF.out.2.2.1, HF.out.2.2.2.1, HF.out.2.2.2.2.1, HF.out.2.2.2.2.2, H3.out⟩
        case measure => simp [intOf]; have := HI.out.1; omega
      subst he
      obtain ⟨X, hX⟩ : ∃ X, nextC cur h.e = X := ⟨_, rfl⟩
      have HXO : Hid X.Ok := Lib.hid (by rw [← hX]; exact nextC_ok cur h.e)
      have HXC : Hid (X.count = cur.count + 1) := Lib.hid (by rw [← hX]; exact nextC_count HER.out)
      obtain ⟨rb, hrb⟩ : ∃ rb, recB cur h.e = rb := ⟨_, rfl⟩
      have HB256 : Hid (∀ y ∈ h.e.body, y < 256) := Lib.hid HIN3.out.2.2.1.2.1
      have HLB := Lib.hid (link_back HF.out.2.2.2.1 HER.out HB256.out)
      rw [hX, hrb] at HLB
      have HRB := Lib.hid hrb
      have HNB : Hid (nextB cur h.e = rb) := Lib.hid (by rw [← hrb]; exact if_pos HER.out)
      have K10 : Hid (Bk W3 b10 26 (chC X)) := Lib.hid (by rw [← hX]; exact G.out.1)
      have HO : Hid (OwnB W3 W2.heap.size 5 A9 N9 k9 rb) := Lib.hid (by rw [← HNB.out]; exact G.out.2.1)
      have HN9 : Hid (N9 ≤ 1000000) := Lib.hid (by
        have h1 := HO.out.len
        rw [← HRB.out, recB_len HF.out.2.2.2.1] at h1
        have h2 := (bytesE_len (nextE_0 HER.out).2).2
        omega)
      have HB10 : Hid (W2.heap.size ≤ b10) := Lib.hid G.out.2.2.1
      have HW23 : Hid (W2.heap.size ≤ W3.heap.size) := Lib.hid G.out.2.2.2.size
      clear hX hrb G HNB
      go_wp2_with ((with_reducible show wpList _ _ _ (⟨some 49, _, _, _, _, _⟩ :: _) _ _); refine hold ?_)
      refine held (wpList_load_mid rfl 26 (.tmp 5) rfl b5 0 rfl _ _ H3.out.bx.range Tryd.underlying26 rfl (info_chl HF.out.2.2.2.1) ?_)
      go_wp2_with fail
      refine (rcLink_any cur A9 N9 k9 rb W3 HF.out.2.2.2.1 HO.out.bytes HN9.out HO.out.cap.1 HO.out.cap.2 (HK.out.below H3.out.hb) (Tabs.later15 HT.out H3.out.hb)).mono ?_
      rintro e W4 ⟨H4, rfl, hv, hin4, hb⟩
      rw [HLB.out.1, HLB.out.2.1]
      rw [HLB.out.2.2] at hv
      have H4s := Lib.hid (H3.out.next hb)
      have HRG4 := Lib.hid (range_below15 HRG3.out hb HEB3.out)
      have HIN4 := Lib.hid (HIN3.out.later hb)
      have K10b := Lib.hid (K10.out.below hb K10.out.lt)
      have HOb := Lib.hid (HO.out.below hb)
      have HV4 := Lib.hid hv
      have HI4 := Lib.hid hin4.inn
      have HW34 := Lib.hid hb.size
      clear hv hin4 hb H3 HRG3 HIN3 K10 HO
      go_wp2_with ((with_reducible show wpList _ _ _ (⟨none, _, _, _, _, _⟩ :: _) _ _); refine hold ?_)
      refine held (wpList_store_wide rfl 26 (.tmp 12) (.tmp 52) rfl W4.heap.size 0 (chC X) rfl rfl 26 (chC ch0) ((Bk.new W4 26 (chC ch0)).alloc _) (by rw [chC_size HXO.out]; exact Nat.le_refl _) (info_ch' HXO.out) (chC_one _) ?_)
      intro w4 hw4
      have hk4 : Bk w4 (W4.heap.size + 1) 34 (evC (bareH 0 0)) := by rw [ch_setRow hw4 ch0_ok HXO.out]; exact (Bk.new2 _ _ _ _).setRow_other (by omega) _
      go_wp2_with ((with_reducible show wpList _ _ _ (⟨none, _, _, _, _, _⟩ :: _) _ _); refine hold ?_)
      refine held (wpList_store_wide rfl 34 (.tmp 13) (.tmp 53) rfl (W4.heap.size + 1) 0 (evC H4) rfl rfl 34 _ hk4 (by rw [evC_size, evC_size]; decide) (by rw [evC_size]; exact info_ev) (evC_one _) ?_)
      intro W5 hw5
      obtain ⟨k12, k13, i13, hb⟩ := che_new HXO.out rfl HI4.out hw4 hw5
      have H5 := Lib.hid (H4s.out.next hb)
      have HRG5 := Lib.hid (range_below15 HRG4.out hb (Nat.lt_of_lt_of_le HEB3.out HW34.out))
      have HIN5 := Lib.hid (HIN4.out.later hb)
      have K10 := Lib.hid (K10b.out.below hb K10b.out.lt)
      have HO := Lib.hid (HOb.out.below hb)
      have K12 := Lib.hid k12
      have K13 := Lib.hid k13
      have I13 := Lib.hid i13
      have HEB5 : Hid (eb < W5.heap.size) := Lib.hid (Nat.lt_of_lt_of_le HEB3.out (Nat.le_trans HW34.out hb.size))
      obtain ⟨b12, hb12⟩ : ∃ b, W4.heap.size = b := ⟨_, rfl⟩
      rw [hb12] at K12 K13 ⊢
      clear k12 k13 i13 hb hw4 hw5 hk4 hb12 H4s HRG4 HIN4 K10b HOb HI4 HEB3
      go_upto_region 16 with (fail)
      go_cut [70] (fun x70 wx => x70 = .bool false ∧ Below W5.heap.size W5 wx)
      case first =>
        have hi0 := HI.out.2.1
        have hin' := HI.out.2.2.1
        have hlt2 := HI.out.1
        go_wp2_with fail
        refine wp_region_held_drew (S := fun W' => Below W5.heap.size W5 W') hmx (Below.refl _ _).drew (fun hHeld => ?_)
        generalize hW0 : W5.drew = V0 at *
        clear hW0
        simp only [List.size_toArray, List.length_cons, List.length_nil, Nat.reduceAdd]
        refine wpAnyH_take (i := 0) (v := .int .i64 0) rfl (by kernel_rfl) (by kernel_rfl) (by kernel_rfl) (fun _ _ _ h => h) (Or.inl ⟨by rfl, fun w0 hC => by simp [execOp, Act.eval, Act.put, go_sem]⟩) hHeld ?_
        try simp only [Act.put, List.setIfInBounds_toArray, List.set_cons_zero, List.set_cons_succ, List.getElem_toArray, List.getElem_cons_zero, List.getElem_cons_succ]
        refine wpAnyH_take (i := 1) (v := .bool false) rfl (by kernel_rfl) (by kernel_rfl) (by kernel_rfl) (fun _ _ _ h => h) (Or.inl ⟨by rfl, fun w0 hC => by simp [execOp, Act.eval, Act.put, go_sem]⟩) hHeld ?_
        try simp only [Act.put, List.setIfInBounds_toArray, List.set_cons_zero, List.set_cons_succ, List.getElem_toArray, List.getElem_cons_zero, List.getElem_cons_succ]
        refine wpAnyH_take (i := 2) (v := .bool false) rfl (by kernel_rfl) (by kernel_rfl) (by kernel_rfl) (fun _ _ _ h => h) (Or.inl ⟨by rfl, fun w0 hC => by simp [execOp, Act.eval, Act.put, go_sem]⟩) hHeld ?_
        try simp only [Act.put, List.setIfInBounds_toArray, List.set_cons_zero, List.set_cons_succ, List.getElem_toArray, List.getElem_cons_zero, List.getElem_cons_succ]
        refine wpAnyH_take (i := 3) (v := .agg (chC X)) rfl (by kernel_rfl) (by kernel_rfl) (by kernel_rfl) (fun _ _ _ h => h) (Or.inl ⟨by rfl, fun w0 hC => exec_load rfl rfl (K12.out.below hC K12.out.lt).range Tryd.underlying26 rfl (info_ch' HXO.out)⟩) hHeld ?_
        try simp only [Act.put, List.setIfInBounds_toArray, List.set_cons_zero, List.set_cons_succ, List.getElem_toArray, List.getElem_cons_zero, List.getElem_cons_succ]
        refine wpAnyH_take (i := 4) (v := .agg (chC X)) rfl (by kernel_rfl) (by kernel_rfl) (by kernel_rfl) (fun _ _ _ h => h) (Or.inl ⟨by rfl, fun w0 hC => exec_load rfl rfl (K10.out.below hC K10.out.lt).range Tryd.underlying26 rfl (info_ch' HXO.out)⟩) hHeld ?_
        try simp only [Act.put, List.setIfInBounds_toArray, List.set_cons_zero, List.set_cons_succ, List.getElem_toArray, List.getElem_cons_zero, List.getElem_cons_succ]
        refine wpAnyH_take (i := 5) (v := .bool false) rfl (by kernel_rfl) (by kernel_rfl) (by kernel_rfl) (fun _ _ _ h => h) (Or.inl ⟨by rfl, fun w0 hC => (exec_neq_ch rfl rfl rfl HXO.out HXO.out).trans (by rw [decide_eq_true rfl]; rfl)⟩) hHeld ?_
        try simp only [Act.put, List.setIfInBounds_toArray, List.set_cons_zero, List.set_cons_succ, List.getElem_toArray, List.getElem_cons_zero, List.getElem_cons_succ]
        refine wpAnyH_take (i := 6) (v := .bool false) rfl (by kernel_rfl) (by kernel_rfl) (by kernel_rfl) (fun _ _ _ h => h) (Or.inl ⟨by rfl, fun w0 hC => by simp [execOp, Act.eval, Act.put, go_sem]⟩) hHeld ?_
        try simp only [Act.put, List.setIfInBounds_toArray, List.set_cons_zero, List.set_cons_succ, List.getElem_toArray, List.getElem_cons_zero, List.getElem_cons_succ]
        refine wpAnyH_take (i := 7) (v := .bool false) rfl (by kernel_rfl) (by kernel_rfl) (by kernel_rfl) (fun _ _ _ h => h) (Or.inl ⟨by rfl, fun w0 hC => by simp [execOp, Act.eval, Act.put, go_sem]⟩) hHeld ?_
        try simp only [Act.put, List.setIfInBounds_toArray, List.set_cons_zero, List.set_cons_succ, List.getElem_toArray, List.getElem_cons_zero, List.getElem_cons_succ]
        refine wpAnyH_take (i := 8) (v := .agg (evC H4)) rfl (by kernel_rfl) (by kernel_rfl) (by kernel_rfl) (fun _ _ _ h => h) (Or.inl ⟨by rfl, fun w0 hC => exec_load rfl rfl (K13.out.below hC K13.out.lt).range Tryd.underlying34 rfl (by rw [evC_size]; exact info_ev)⟩) hHeld ?_
        try simp only [Act.put, List.setIfInBounds_toArray, List.set_cons_zero, List.set_cons_succ, List.getElem_toArray, List.getElem_cons_zero, List.getElem_cons_succ]
        refine wpAnyH_take (i := 9) (v := .slice (some ⟨eb, eo, none⟩) n c) rfl (by kernel_rfl) (by kernel_rfl) (by kernel_rfl) (fun _ _ _ h => h) (Or.inl ⟨by rfl, fun w0 hC => by simp [execOp, Act.eval, Act.put, go_sem]⟩) hHeld ?_
        try simp only [Act.put, List.setIfInBounds_toArray, List.set_cons_zero, List.set_cons_succ, List.getElem_toArray, List.getElem_cons_zero, List.getElem_cons_succ]
        refine wpAnyH_take (i := 10) (v := .int .i64 (i : Int)) rfl (by kernel_rfl) (by kernel_rfl) (by kernel_rfl) (fun _ _ _ h => h) (Or.inl ⟨by rfl, fun w0 hC => by simp [execOp, Act.eval, Act.put, go_sem]⟩) hHeld ?_
        try simp only [Act.put, List.setIfInBounds_toArray, List.set_cons_zero, List.set_cons_succ, List.getElem_toArray, List.getElem_cons_zero, List.getElem_cons_succ]
        refine wpAnyH_take (i := 11) (v := .pointer (some ⟨eb, eo + i * 11, none⟩)) rfl (by kernel_rfl) (by kernel_rfl) (by kernel_rfl) (fun _ _ _ h => h) (Or.inl ⟨by rfl, fun w0 hC => by simp [execOp, Act.eval, Act.put, go_sem, hi0, hin', hlt2]⟩) hHeld ?_
        try simp only [Act.put, List.setIfInBounds_toArray, List.set_cons_zero, List.set_cons_succ, List.getElem_toArray, List.getElem_cons_zero, List.getElem_cons_succ]
        refine wpAnyH_take (i := 12) (v := .agg (evC h)) rfl (by kernel_rfl) (by kernel_rfl) (by kernel_rfl) (fun _ _ _ h => h) (Or.inl ⟨by rfl, fun w0 hC => exec_load rfl rfl (range_below15 HRG5.out hC HEB5.out) Tryd.underlying34 rfl (by rw [evC_size]; exact info_ev)⟩) hHeld ?_
        try simp only [Act.put, List.setIfInBounds_toArray, List.set_cons_zero, List.set_cons_succ, List.getElem_toArray, List.getElem_cons_zero, List.getElem_cons_succ]
        clear hi0 hin' hlt2
        refine wpAnyH_ready (rs := [13]) (by kernel_rfl) (by simp) (AllReadyH.cons rfl (fun K hK => ?_) AllReadyH.nil)
        rw [if_pos (by rfl)]
        go_wp2_with fail
        refine (xeSame_yesL H4 h V0 ((I13.out.below hHeld (Nat.le_refl _)).more hHeld.size) ((HIN5.out.below hHeld (Nat.le_refl _)).more hHeld.size) HV4.out).mono ?_
        rintro e V1 ⟨rfl, hb⟩
        have hS := hHeld.trans (hb.mono hHeld.size)
        clear hHeld hb
        refine hK.out _ _ hS (fun hHeld => ?_)
        clear hK K
        try simp only [Act.put, List.setIfInBounds_toArray, List.set_cons_zero, List.set_cons_succ, List.getElem_toArray, List.getElem_cons_zero, List.getElem_cons_succ]
        clear hS
        refine wpAnyH_take (i := 14) (v := .bool false) rfl (by kernel_rfl) (by kernel_rfl) (by kernel_rfl) (fun _ _ _ h => h) (Or.inl ⟨by rfl, fun w0 hC => by simp [execOp, Act.eval, Act.put, go_sem]⟩) hHeld ?_
        try simp only [Act.put, List.setIfInBounds_toArray, List.set_cons_zero, List.set_cons_succ, List.getElem_toArray, List.getElem_cons_zero, List.getElem_cons_succ]
        refine wpAnyH_take (i := 15) (v := .bool false) rfl (by kernel_rfl) (by kernel_rfl) (by kernel_rfl) (fun _ _ _ h => h) (Or.inl ⟨by rfl, fun w0 hC => by simp [execOp, Act.eval, Act.put, go_sem]⟩) hHeld ?_
        try simp only [Act.put, List.setIfInBounds_toArray, List.set_cons_zero, List.set_cons_succ, List.getElem_toArray, List.getElem_cons_zero, List.getElem_cons_succ]
        refine wpAnyH_done (by kernel_rfl) ?_ _
        go_wp2_with fail
        go_meet
        exact ⟨rfl, hHeld⟩
      case rest =>
      obtain ⟨rfl, hbw⟩ := hcut
      generalize wc = W6 at *
      have H6 := Lib.hid (H5.out.next hbw)
      have K10b := Lib.hid (K10.out.below hbw K10.out.lt)
      have HOb := Lib.hid (HO.out.below hbw)
      have HW36 : Hid (W2.heap.size ≤ W6.heap.size) := Lib.hid (by have h1 := HW23.out; have h2 := K10b.out.lt; have h3 := HB10.out; omega)
      clear hbw H5 HRG5 HIN5 K10 HO K12 K13 I13 HEB5
      have K10 := K10b
      have HO := HOb
      clear K10b HOb
      have Q : Hid (LkSt w b5 rs cur us m m (rs.map Rc.c) A6 c6 A7 c7 W6 ∧ Bk W6 b10 26 (chC X) ∧ OwnB W6 (b5 + 1) 5 A9 N9 k9 rb) := Lib.hid ⟨H6.out, K10.out, HO.out.base_le HB5.out⟩
      clear H6 K10 HO
      go_wp2_with fail
      have Q0 := Lib.hid (show LkSt w b5 rs cur us m m (rs.map Rc.c) A6 c6 A7 c7 W6.drew ∧ Bk W6.drew b10 26 (chC X) ∧ OwnB W6.drew (b5 + 1) 5 A9 N9 k9 rb from ⟨Q.out.1.next (Below.refl _ _).drew, Q.out.2.1.drew, Q.out.2.2.below (Below.refl _ _).drew⟩)
      have HV0 : Hid (W2.heap.size ≤ W6.drew.heap.size) := Lib.hid (Nat.le_trans HW36.out (Below.refl W6.heap.size W6).drew.size)
      have HM : Hid (m ≤ 1000) := Lib.hid (by have := HF.out.2.1; have := HI.out; omega)
      have HCO : Hid cur.Ok := Lib.hid HF.out.2.2.2.1
      have HREL : Hid (∀ (A6' : Option Addr) (c6' : Nat) (A7' : Option Addr) (c7' : Nat) (Wz : World), LkSt w b5 rs cur (us ++ [.slice A9 N9 k9]) (m + 1) (m + 1) (rs.map Rc.c ++ [⟨cur, HCO.out⟩]) A6' c6' A7' c7' Wz → OwnB Wz (b5 + 1) 5 A9 N9 k9 rb → LkAt w b5 (i + 1) (m + 1) (rs ++ [⟨⟨cur, HCO.out⟩, h.e⟩]) X (us ++ [.slice A9 N9 k9]) A6' c6' A7' c7' (Wz.setRow b5 (chC X))) := Lib.hid (by
        intro A6' c6' A7' c7' Wz h1 h2
        refine ⟨by rw [List.length_append, HF.out.1]; rfl, by have := HF.out.2.1; omega, HF.out.2.2.1.snoc (by show cur.count = _; rw [HF.out.2.2.2.2.1, HF.out.1]) HER.out HB256.out, HXO.out, by rw [HXC.out, HF.out.2.2.2.2.1]; omega, by rw [List.length_append, HF.out.2.2.2.2.2]; rfl, ?_⟩
        have h3 := (h1.more (r := ⟨⟨cur, HCO.out⟩, h.e⟩) rfl (by rw [HF.out.2.2.2.2.2, HF.out.1]) HN9.out (by show OwnB Wz (b5 + 1) 5 A9 N9 k9 (recB cur h.e); rw [HRB.out]; exact h2)).store X
        rw [List.map_append]
        exact h3)
      have HI1 := Lib.hid (show i + 1 ≤ n from HI.out.1)
      have HMS := Lib.hid (show n - (i + 1) < n - i by have := HI.out.1; omega)
      refine wp_region_held_drew (S := fun W' => Bk W' b10 26 (chC X)) hmx Q0.out.2.1 (fun hHeld => ?_)
      clear Q
      generalize hW0 : W6.drew = V0 at *
      clear hW0
      simp only [List.size_toArray, List.length_cons, List.length_nil, Nat.reduceAdd]
      refine wpAnyH_take (i := 0) (v := .slice A6 m c6) rfl (by kernel_rfl) (by kernel_rfl) (by kernel_rfl) (fun _ _ _ h => h) (Or.inl ⟨by rfl, fun w0 hC => by simp [execOp, Act.eval, Act.put, go_sem]⟩) hHeld ?_
      try simp only [Act.put, List.setIfInBounds_toArray, List.set_cons_zero, List.set_cons_succ, List.getElem_toArray, List.getElem_cons_zero, List.getElem_cons_succ]
      refine wpAnyH_take (i := 1) (v := .slice A9 N9 k9) rfl (by kernel_rfl) (by kernel_rfl) (by kernel_rfl) (fun _ _ _ h => h) (Or.inl ⟨by rfl, fun w0 hC => by simp [execOp, Act.eval, Act.put, go_sem]⟩) hHeld ?_
      try simp only [Act.put, List.setIfInBounds_toArray, List.set_cons_zero, List.set_cons_succ, List.getElem_toArray, List.getElem_cons_zero, List.getElem_cons_succ]
      refine wpAnyH_take (i := 4) (v := .slice A7 m c7) rfl (by kernel_rfl) (by kernel_rfl) (by kernel_rfl) (fun _ _ _ h => h) (Or.inl ⟨by rfl, fun w0 hC => by simp [execOp, Act.eval, Act.put, go_sem]⟩) hHeld ?_
      try simp only [Act.put, List.setIfInBounds_toArray, List.set_cons_zero, List.set_cons_succ, List.getElem_toArray, List.getElem_cons_zero, List.getElem_cons_succ]
      refine wpAnyH_take (i := 8) (v := .agg (chC X)) rfl (by kernel_rfl) (by kernel_rfl) (by kernel_rfl) (fun _ _ _ h => h) (Or.inl ⟨by rfl, fun w0 hC => exec_load rfl rfl hC.range Tryd.underlying26 rfl (info_ch' HXO.out)⟩) hHeld ?_
      try simp only [Act.put, List.setIfInBounds_toArray, List.set_cons_zero, List.set_cons_succ, List.getElem_toArray, List.getElem_cons_zero, List.getElem_cons_succ]
      have Q := Q0
      clear Q0
      have HLO := HV0
      clear HV0
      have HS6x := HS6
      have HS7x := HS7
      clear HS6 HS7
      refine wpAnyH_ready (rs := [2, 5]) (by kernel_rfl) (by simp) (AllReadyH.cons rfl (fun K hK => ?_) (AllReadyH.cons rfl (fun K hK => ?_) AllReadyH.nil))
      · rw [if_pos (by rfl)]
        go_wp2_with fail
        have hal : ∀ (o : Obj), Below V0.heap.size V0 (V0.alloc o) := fun o => (Below.refl _ _).alloc (Nat.le_refl _) _
        refine k_over (fun W => (LkSt w b5 rs cur us m m (rs.map Rc.c) A6 c6 A7 c7 W ∧ Bk W b10 26 (chC X) ∧ OwnB W (b5 + 1) 5 A9 N9 k9 rb) ∧ Bk W V0.heap.size 32 #[.slice A9 N9 k9] ∧ W2.heap.size ≤ W.heap.size) ⟨⟨Q.out.1.next (hal _), Q.out.2.1.alloc _, Q.out.2.2.below (hal _)⟩, Bk.new _ _ _, Nat.le_trans HLO.out (hal _).size⟩ ?_
        obtain ⟨s2, hs⟩ : ∃ b, V0.heap.size = b := ⟨_, rfl⟩
        have HS2 : Hid (W2.heap.size ≤ s2) := Lib.hid (by rw [← hs]; exact HLO.out)
        rw [hs]
        clear hs hal Q HLO
        rintro V1 ⟨q1, q2, q3⟩
        have Q := Lib.hid q1
        have P2 := Lib.hid q2
        have HLO := Lib.hid q3
        clear q1 q2 q3
        have hS := Q.out.2.1
        refine hK.out _ _ hS (fun hHeld => ?_)
        clear hK K
        try simp only [Act.put, List.setIfInBounds_toArray, List.set_cons_zero, List.set_cons_succ, List.getElem_toArray, List.getElem_cons_zero, List.getElem_cons_succ]
        clear hS
        refine wpAnyH_ready (rs := [3, 5]) (by kernel_rfl) (by simp) (AllReadyH.cons rfl (fun K hK => ?_) (AllReadyH.cons rfl (fun K hK => ?_) AllReadyH.nil))
        · rw [if_pos (by rfl)]
          obtain ⟨A6b, c6b, V2, hrun, hst, hgr⟩ := Q.out.1.app6 P2.out rfl HM.out 27
          have hbig : ∀ b, W2.heap.size ≤ b → some b ≠ (Value.slice A6 m c6).ownBlock := fun b hb e => by have := HS6x.out b e.symm; omega
          have Q1 := Lib.hid (And.intro hst (And.intro (Q.out.2.1.keptR hgr (hbig b10 HB10.out)) (show OwnB V2 (b5 + 1) 5 A9 N9 k9 rb from ⟨Q.out.2.2.1.kept hgr (row_apart15 Q.out.1.rec_.1 Q.out.2.2.1 (by decide)), Q.out.2.2.2⟩)))
          have HLO1 : Hid (W2.heap.size ≤ V2.heap.size) := Lib.hid (Nat.le_trans HLO.out hgr.size)
          have HRUN := Lib.hid hrun
          clear hrun hst hgr hbig Q HLO P2
          refine wp_append_ks (s := .tmp 71) (x := .tmp 73) rfl rfl rfl HRUN.out ?_
          have Q := Q1
          have HLO := HLO1
          clear Q1 HLO1 HRUN
          have hS := Q.out.2.1
          refine hK.out _ _ hS (fun hHeld => ?_)
          clear hK K
          try simp only [Act.put, List.setIfInBounds_toArray, List.set_cons_zero, List.set_cons_succ, List.getElem_toArray, List.getElem_cons_zero, List.getElem_cons_succ]
          clear hS
          refine wpAnyH_ready (rs := [5]) (by kernel_rfl) (by simp) (AllReadyH.cons rfl (fun K hK => ?_) AllReadyH.nil)
          rw [if_pos (by rfl)]
          refine wp_value (exec_load rfl rfl Q.out.1.bx.range Tryd.underlying26 rfl (info_ch' HCO.out)) ?_
          have hS := Q.out.2.1
          refine hK.out _ _ hS (fun hHeld => ?_)
          clear hK K
          try simp only [Act.put, List.setIfInBounds_toArray, List.set_cons_zero, List.set_cons_succ, List.getElem_toArray, List.getElem_cons_zero, List.getElem_cons_succ]
          clear hS
          obtain ⟨V3, hv⟩ : ∃ v, v = V2 := ⟨_, rfl⟩
          rw [← hv] at Q HLO hHeld ⊢
          clear hv
          refine wpAnyH_ready (rs := [6]) (by kernel_rfl) (by simp) (AllReadyH.cons rfl (fun K hK => ?_) AllReadyH.nil)
          rw [if_pos (by rfl)]
          refine wp_bslice_ch (.tmp 76) rfl cur rfl HCO.out ?_
          have hal : ∀ (o : Obj), Below V3.heap.size V3 (V3.alloc o) := fun o => (Below.refl _ _).alloc (Nat.le_refl _) _
          refine k_over (fun W => (LkSt w b5 rs cur (us ++ [.slice A9 N9 k9]) (m + 1) m (rs.map Rc.c) A6b c6b A7 c7 W ∧ Bk W b10 26 (chC X) ∧ OwnB W (b5 + 1) 5 A9 N9 k9 rb) ∧ Bk W V3.heap.size 26 (chC cur) ∧ W2.heap.size ≤ W.heap.size) ⟨⟨Q.out.1.next (hal _), Q.out.2.1.alloc _, Q.out.2.2.below (hal _)⟩, Bk.new _ _ _, Nat.le_trans HLO.out (hal _).size⟩ ?_
          obtain ⟨s6, hs⟩ : ∃ b, V3.heap.size = b := ⟨_, rfl⟩
          have HS6 : Hid (W2.heap.size ≤ s6) := Lib.hid (by rw [← hs]; exact HLO.out)
          rw [hs]
          clear hs hal Q HLO
          rintro V4 ⟨q1, q2, q3⟩
          have Q := Lib.hid q1
          have P6 := Lib.hid q2
          have HLO := Lib.hid q3
          clear q1 q2 q3
          have hS := Q.out.2.1
          refine hK.out _ _ hS (fun hHeld => ?_)
          clear hK K
          try simp only [Act.put, List.setIfInBounds_toArray, List.set_cons_zero, List.set_cons_succ, List.getElem_toArray, List.getElem_cons_zero, List.getElem_cons_succ]
          clear hS
          refine wpAnyH_ready (rs := [7]) (by kernel_rfl) (by simp) (AllReadyH.cons rfl (fun K hK => ?_) AllReadyH.nil)
          rw [if_pos (by rfl)]
          obtain ⟨A7b, c7b, V5, hrun, hst, hgr⟩ := Q.out.1.app7 ⟨cur, HCO.out⟩ P6.out HM.out 28
          have hbig : ∀ b, W2.heap.size ≤ b → some b ≠ (Value.slice A7 m c7).ownBlock := fun b hb e => by have := HS7x.out b e.symm; omega
          have Q1 := Lib.hid (And.intro hst (And.intro (Q.out.2.1.keptR hgr (hbig b10 HB10.out)) (show OwnB V5 (b5 + 1) 5 A9 N9 k9 rb from ⟨Q.out.2.2.1.kept hgr (row_apart15 Q.out.1.chn.1 Q.out.2.2.1 (by decide)), Q.out.2.2.2⟩)))
          have HLO1 : Hid (W2.heap.size ≤ V5.heap.size) := Lib.hid (Nat.le_trans HLO.out hgr.size)
          have HRUN := Lib.hid hrun
          clear hrun hst hgr hbig Q HLO P6
          refine wp_append_ks (s := .tmp 75) (x := .tmp 77) rfl rfl rfl HRUN.out ?_
          have Q := Q1
          have HLO := HLO1
          clear Q1 HLO1 HRUN
          have hS := Q.out.2.1
          refine hK.out _ _ hS (fun hHeld => ?_)
          clear hK K
          try simp only [Act.put, List.setIfInBounds_toArray, List.set_cons_zero, List.set_cons_succ, List.getElem_toArray, List.getElem_cons_zero, List.getElem_cons_succ]
          clear hS
          refine wpAnyH_ready (rs := [9]) (by kernel_rfl) (by simp) (AllReadyH.cons rfl (fun K hK => ?_) AllReadyH.nil)
          rw [if_pos (by rfl)]
          go_wp2_with fail
          have hS := Q.out.2.1
          refine hK.out _ _ hS (fun hHeld => ?_)
          clear hK K
          try simp only [Act.put, List.setIfInBounds_toArray, List.set_cons_zero, List.set_cons_succ, List.getElem_toArray, List.getElem_cons_zero, List.getElem_cons_succ]
          clear hS
          refine wpAnyH_ready (rs := [10]) (by kernel_rfl) (by simp) (AllReadyH.cons rfl (fun K hK => ?_) AllReadyH.nil)
          rw [if_pos (by rfl)]
          go_wp2_with fail
          have hS := Q.out.2.1
          refine hK.out _ _ hS (fun hHeld => ?_)
          clear hK K
          try simp only [Act.put, List.setIfInBounds_toArray, List.set_cons_zero, List.set_cons_succ, List.getElem_toArray, List.getElem_cons_zero, List.getElem_cons_succ]
          clear hS
          refine wpAnyH_ready (rs := [11]) (by kernel_rfl) (by simp) (AllReadyH.cons rfl (fun K hK => ?_) AllReadyH.nil)
          rw [if_pos (by rfl)]
          have hS : Bk (V5.setRow b5 (chC X)) b10 26 (chC X) := Q.out.2.1.setRow_other (by have := HB10.out; have := HB5.out; omega) _
          have RR := Lib.hid (HREL.out _ _ _ _ _ Q.out.1 Q.out.2.2)
          refine wp_skip (exec_store15 rfl rfl rfl Q.out.1.bx (by rw [chC_size HXO.out, chC_size HCO.out]) (info_ch' HXO.out) (chC_one _)) ?_
          refine hK.out _ _ hS (fun hHeld => ?_)
          clear hK K
          try simp only [Act.put, List.setIfInBounds_toArray, List.set_cons_zero, List.set_cons_succ, List.getElem_toArray, List.getElem_cons_zero, List.getElem_cons_succ]
          clear hS
          refine wpAnyH_done (by kernel_rfl) ?_ _
          clear Q hHeld HREL
          go_wp2_with fail
          go_roundw
          case rel => exact ⟨i + 1, m + 1, _, _, _, A6b, c6b, A7b, c7b, HI1.out, rfl, rfl, by go_num, RR.out⟩
          case measure => simp [intOf]; have := HMS.out; omega
        · rw [if_pos (by rfl)]
          refine wp_value (exec_load rfl rfl Q.out.1.bx.range Tryd.underlying26 rfl (info_ch' HCO.out)) ?_
          have hS := Q.out.2.1
          refine hK.out _ _ hS (fun hHeld => ?_)
          clear hK K
          try simp only [Act.put, List.setIfInBounds_toArray, List.set_cons_zero, List.set_cons_succ, List.getElem_toArray, List.getElem_cons_zero, List.getElem_cons_succ]
          clear hS
          obtain ⟨V2, hv⟩ : ∃ v, v = V1 := ⟨_, rfl⟩
          rw [← hv] at Q HLO hHeld P2 ⊢
          clear hv
          refine wpAnyH_ready (rs := [3, 6]) (by kernel_rfl) (by simp) (AllReadyH.cons rfl (fun K hK => ?_) (AllReadyH.cons rfl (fun K hK => ?_) AllReadyH.nil))
          · rw [if_pos (by rfl)]
            obtain ⟨A6b, c6b, V3, hrun, hst, hgr⟩ := Q.out.1.app6 P2.out rfl HM.out 27
            have hbig : ∀ b, W2.heap.size ≤ b → some b ≠ (Value.slice A6 m c6).ownBlock := fun b hb e => by have := HS6x.out b e.symm; omega
            have Q1 := Lib.hid (And.intro hst (And.intro (Q.out.2.1.keptR hgr (hbig b10 HB10.out)) (show OwnB V3 (b5 + 1) 5 A9 N9 k9 rb from ⟨Q.out.2.2.1.kept hgr (row_apart15 Q.out.1.rec_.1 Q.out.2.2.1 (by decide)), Q.out.2.2.2⟩)))
            have HLO1 : Hid (W2.heap.size ≤ V3.heap.size) := Lib.hid (Nat.le_trans HLO.out hgr.size)
            have HRUN := Lib.hid hrun
            clear hrun hst hgr hbig Q HLO P2
            refine wp_append_ks (s := .tmp 71) (x := .tmp 73) rfl rfl rfl HRUN.out ?_
            have Q := Q1
            have HLO := HLO1
            clear Q1 HLO1 HRUN
            have hS := Q.out.2.1
            refine hK.out _ _ hS (fun hHeld => ?_)
            clear hK K
            try simp only [Act.put, List.setIfInBounds_toArray, List.set_cons_zero, List.set_cons_succ, List.getElem_toArray, List.getElem_cons_zero, List.getElem_cons_succ]
            clear hS
            refine wpAnyH_ready (rs := [6]) (by kernel_rfl) (by simp) (AllReadyH.cons rfl (fun K hK => ?_) AllReadyH.nil)
            rw [if_pos (by rfl)]
            refine wp_bslice_ch (.tmp 76) rfl cur rfl HCO.out ?_
            have hal : ∀ (o : Obj), Below V3.heap.size V3 (V3.alloc o) := fun o => (Below.refl _ _).alloc (Nat.le_refl _) _
            refine k_over (fun W => (LkSt w b5 rs cur (us ++ [.slice A9 N9 k9]) (m + 1) m (rs.map Rc.c) A6b c6b A7 c7 W ∧ Bk W b10 26 (chC X) ∧ OwnB W (b5 + 1) 5 A9 N9 k9 rb) ∧ Bk W V3.heap.size 26 (chC cur) ∧ W2.heap.size ≤ W.heap.size) ⟨⟨Q.out.1.next (hal _), Q.out.2.1.alloc _, Q.out.2.2.below (hal _)⟩, Bk.new _ _ _, Nat.le_trans HLO.out (hal _).size⟩ ?_
            obtain ⟨s6, hs⟩ : ∃ b, V3.heap.size = b := ⟨_, rfl⟩
            have HS6 : Hid (W2.heap.size ≤ s6) := Lib.hid (by rw [← hs]; exact HLO.out)
            rw [hs]
            clear hs hal Q HLO
            rintro V4 ⟨q1, q2, q3⟩
            have Q := Lib.hid q1
            have P6 := Lib.hid q2
            have HLO := Lib.hid q3
            clear q1 q2 q3
            have hS := Q.out.2.1
            refine hK.out _ _ hS (fun hHeld => ?_)
            clear hK K
            try simp only [Act.put, List.setIfInBounds_toArray, List.set_cons_zero, List.set_cons_succ, List.getElem_toArray, List.getElem_cons_zero, List.getElem_cons_succ]
            clear hS
            refine wpAnyH_ready (rs := [7]) (by kernel_rfl) (by simp) (AllReadyH.cons rfl (fun K hK => ?_) AllReadyH.nil)
            rw [if_pos (by rfl)]
            obtain ⟨A7b, c7b, V5, hrun, hst, hgr⟩ := Q.out.1.app7 ⟨cur, HCO.out⟩ P6.out HM.out 28
            have hbig : ∀ b, W2.heap.size ≤ b → some b ≠ (Value.slice A7 m c7).ownBlock := fun b hb e => by have := HS7x.out b e.symm; omega
            have Q1 := Lib.hid (And.intro hst (And.intro (Q.out.2.1.keptR hgr (hbig b10 HB10.out)) (show OwnB V5 (b5 + 1) 5 A9 N9 k9 rb from ⟨Q.out.2.2.1.kept hgr (row_apart15 Q.out.1.chn.1 Q.out.2.2.1 (by decide)), Q.out.2.2.2⟩)))
            have HLO1 : Hid (W2.heap.size ≤ V5.heap.size) := Lib.hid (Nat.le_trans HLO.out hgr.size)
            have HRUN := Lib.hid hrun
            clear hrun hst hgr hbig Q HLO P6
            refine wp_append_ks (s := .tmp 75) (x := .tmp 77) rfl rfl rfl HRUN.out ?_
            have Q := Q1
            have HLO := HLO1
            clear Q1 HLO1 HRUN
            have hS := Q.out.2.1
            refine hK.out _ _ hS (fun hHeld => ?_)
            clear hK K
            try simp only [Act.put, List.setIfInBounds_toArray, List.set_cons_zero, List.set_cons_succ, List.getElem_toArray, List.getElem_cons_zero, List.getElem_cons_succ]
            clear hS
            refine wpAnyH_ready (rs := [9]) (by kernel_rfl) (by simp) (AllReadyH.cons rfl (fun K hK => ?_) AllReadyH.nil)
            rw [if_pos (by rfl)]
            go_wp2_with fail
            have hS := Q.out.2.1
            refine hK.out _ _ hS (fun hHeld => ?_)
            clear hK K
            try simp only [Act.put, List.setIfInBounds_toArray, List.set_cons_zero, List.set_cons_succ, List.getElem_toArray, List.getElem_cons_zero, List.getElem_cons_succ]
            clear hS
            refine wpAnyH_ready (rs := [10]) (by kernel_rfl) (by simp) (AllReadyH.cons rfl (fun K hK => ?_) AllReadyH.nil)
            rw [if_pos (by rfl)]
            go_wp2_with fail
            have hS := Q.out.2.1
            refine hK.out _ _ hS (fun hHeld => ?_)
            clear hK K
            try simp only [Act.put, List.setIfInBounds_toArray, List.set_cons_zero, List.set_cons_succ, List.getElem_toArray, List.getElem_cons_zero, List.getElem_cons_succ]
            clear hS
            refine wpAnyH_ready (rs := [11]) (by kernel_rfl) (by simp) (AllReadyH.cons rfl (fun K hK => ?_) AllReadyH.nil)
            rw [if_pos (by rfl)]
            have hS : Bk (V5.setRow b5 (chC X)) b10 26 (chC X) := Q.out.2.1.setRow_other (by have := HB10.out; have := HB5.out; omega) _
            have RR := Lib.hid (HREL.out _ _ _ _ _ Q.out.1 Q.out.2.2)
            refine wp_skip (exec_store15 rfl rfl rfl Q.out.1.bx (by rw [chC_size HXO.out, chC_size HCO.out]) (info_ch' HXO.out) (chC_one _)) ?_
            refine hK.out _ _ hS (fun hHeld => ?_)
            clear hK K
            try simp only [Act.put, List.setIfInBounds_toArray, List.set_cons_zero, List.set_cons_succ, List.getElem_toArray, List.getElem_cons_zero, List.getElem_cons_succ]
            clear hS
            refine wpAnyH_done (by kernel_rfl) ?_ _
            clear Q hHeld HREL
            go_wp2_with fail
            go_roundw
            case rel => exact ⟨i + 1, m + 1, _, _, _, A6b, c6b, A7b, c7b, HI1.out, rfl, rfl, by go_num, RR.out⟩
            case measure => simp [intOf]; have := HMS.out; omega
          · rw [if_pos (by rfl)]
            refine wp_bslice_ch (.tmp 76) rfl cur rfl HCO.out ?_
            have hal : ∀ (o : Obj), Below V2.heap.size V2 (V2.alloc o) := fun o => (Below.refl _ _).alloc (Nat.le_refl _) _
            refine k_over (fun W => (LkSt w b5 rs cur us m m (rs.map Rc.c) A6 c6 A7 c7 W ∧ Bk W b10 26 (chC X) ∧ OwnB W (b5 + 1) 5 A9 N9 k9 rb) ∧ Bk W V2.heap.size 26 (chC cur) ∧ W2.heap.size ≤ W.heap.size ∧ Bk W s2 32 #[.slice A9 N9 k9]) ⟨⟨Q.out.1.next (hal _), Q.out.2.1.alloc _, Q.out.2.2.below (hal _)⟩, Bk.new _ _ _, Nat.le_trans HLO.out (hal _).size, P2.out.alloc _⟩ ?_
            obtain ⟨s6, hs⟩ : ∃ b, V2.heap.size = b := ⟨_, rfl⟩
            have HS6 : Hid (W2.heap.size ≤ s6) := Lib.hid (by rw [← hs]; exact HLO.out)
            rw [hs]
            clear hs hal Q HLO P2
            rintro V3 ⟨q1, q2, q3, q4⟩
            have Q := Lib.hid q1
            have P6 := Lib.hid q2
            have HLO := Lib.hid q3
            have P2 := Lib.hid q4
            clear q1 q2 q3 q4
            have hS := Q.out.2.1
            refine hK.out _ _ hS (fun hHeld => ?_)
            clear hK K
            try simp only [Act.put, List.setIfInBounds_toArray, List.set_cons_zero, List.set_cons_succ, List.getElem_toArray, List.getElem_cons_zero, List.getElem_cons_succ]
            clear hS
            refine wpAnyH_ready (rs := [3]) (by kernel_rfl) (by simp) (AllReadyH.cons rfl (fun K hK => ?_) AllReadyH.nil)
            rw [if_pos (by rfl)]
            obtain ⟨A6b, c6b, V4, hrun, hst, hgr⟩ := Q.out.1.app6 P2.out rfl HM.out 27
            have hbig : ∀ b, W2.heap.size ≤ b → some b ≠ (Value.slice A6 m c6).ownBlock := fun b hb e => by have := HS6x.out b e.symm; omega
            have Q1 := Lib.hid (And.intro hst (And.intro (Q.out.2.1.keptR hgr (hbig b10 HB10.out)) (show OwnB V4 (b5 + 1) 5 A9 N9 k9 rb from ⟨Q.out.2.2.1.kept hgr (row_apart15 Q.out.1.rec_.1 Q.out.2.2.1 (by decide)), Q.out.2.2.2⟩)))
            have HLO1 : Hid (W2.heap.size ≤ V4.heap.size) := Lib.hid (Nat.le_trans HLO.out hgr.size)
            have P6n := Lib.hid (P6.out.keptR hgr (hbig s6 HS6.out))
            have HRUN := Lib.hid hrun
            clear hrun hst hgr hbig Q HLO P2 P6
            refine wp_append_ks (s := .tmp 71) (x := .tmp 73) rfl rfl rfl HRUN.out ?_
            have Q := Q1
            have HLO := HLO1
            have P6 := P6n
            clear Q1 HLO1 HRUN P6n
            have hS := Q.out.2.1
            refine hK.out _ _ hS (fun hHeld => ?_)
            clear hK K
            try simp only [Act.put, List.setIfInBounds_toArray, List.set_cons_zero, List.set_cons_succ, List.getElem_toArray, List.getElem_cons_zero, List.getElem_cons_succ]
            clear hS
            refine wpAnyH_ready (rs := [7]) (by kernel_rfl) (by simp) (AllReadyH.cons rfl (fun K hK => ?_) AllReadyH.nil)
            rw [if_pos (by rfl)]
            obtain ⟨A7b, c7b, V5, hrun, hst, hgr⟩ := Q.out.1.app7 ⟨cur, HCO.out⟩ P6.out HM.out 28
            have hbig : ∀ b, W2.heap.size ≤ b → some b ≠ (Value.slice A7 m c7).ownBlock := fun b hb e => by have := HS7x.out b e.symm; omega
            have Q1 := Lib.hid (And.intro hst (And.intro (Q.out.2.1.keptR hgr (hbig b10 HB10.out)) (show OwnB V5 (b5 + 1) 5 A9 N9 k9 rb from ⟨Q.out.2.2.1.kept hgr (row_apart15 Q.out.1.chn.1 Q.out.2.2.1 (by decide)), Q.out.2.2.2⟩)))
            have HLO1 : Hid (W2.heap.size ≤ V5.heap.size) := Lib.hid (Nat.le_trans HLO.out hgr.size)
            have HRUN := Lib.hid hrun
            clear hrun hst hgr hbig Q HLO P6
            refine wp_append_ks (s := .tmp 75) (x := .tmp 77) rfl rfl rfl HRUN.out ?_
            have Q := Q1
            have HLO := HLO1
            clear Q1 HLO1 HRUN
            have hS := Q.out.2.1
            refine hK.out _ _ hS (fun hHeld => ?_)
            clear hK K
            try simp only [Act.put, List.setIfInBounds_toArray, List.set_cons_zero, List.set_cons_succ, List.getElem_toArray, List.getElem_cons_zero, List.getElem_cons_succ]
            clear hS
            refine wpAnyH_ready (rs := [9]) (by kernel_rfl) (by simp) (AllReadyH.cons rfl (fun K hK => ?_) AllReadyH.nil)
            rw [if_pos (by rfl)]
            go_wp2_with fail
            have hS := Q.out.2.1
            refine hK.out _ _ hS (fun hHeld => ?_)
            clear hK K
            try simp only [Act.put, List.setIfInBounds_toArray, List.set_cons_zero, List.set_cons_succ, List.getElem_toArray, List.getElem_cons_zero, List.getElem_cons_succ]
            clear hS
            refine wpAnyH_ready (rs := [10]) (by kernel_rfl) (by simp) (AllReadyH.cons rfl (fun K hK => ?_) AllReadyH.nil)
            rw [if_pos (by rfl)]
            go_wp2_with fail
            have hS := Q.out.2.1
            refine hK.out _ _ hS (fun hHeld => ?_)
            clear hK K
            try simp only [Act.put, List.setIfInBounds_toArray, List.set_cons_zero, List.set_cons_succ, List.getElem_toArray, List.getElem_cons_zero, List.getElem_cons_succ]
            clear hS
            refine wpAnyH_ready (rs := [11]) (by kernel_rfl) (by simp) (AllReadyH.cons rfl (fun K hK => ?_) AllReadyH.nil)
            rw [if_pos (by rfl)]
            have hS : Bk (V5.setRow b5 (chC X)) b10 26 (chC X) := Q.out.2.1.setRow_other (by have := HB10.out; have := HB5.out; omega) _
            have RR := Lib.hid (HREL.out _ _ _ _ _ Q.out.1 Q.out.2.2)
            refine wp_skip (exec_store15 rfl rfl rfl Q.out.1.bx (by rw [chC_size HXO.out, chC_size HCO.out]) (info_ch' HXO.out) (chC_one _)) ?_
            refine hK.out _ _ hS (fun hHeld => ?_)
            clear hK K
            try simp only [Act.put, List.setIfInBounds_toArray, List.set_cons_zero, List.set_cons_succ, List.getElem_toArray, List.getElem_cons_zero, List.getElem_cons_succ]
            clear hS
            refine wpAnyH_done (by kernel_rfl) ?_ _
            clear Q hHeld HREL
            go_wp2_with fail
            go_roundw
            case rel => exact ⟨i + 1, m + 1, _, _, _, A6b, c6b, A7b, c7b, HI1.out, rfl, rfl, by go_num, RR.out⟩
            case measure => simp [intOf]; have := HMS.out; omega
      · rw [if_pos (by rfl)]
        refine wp_value (exec_load rfl rfl Q.out.1.bx.range Tryd.underlying26 rfl (info_ch' HCO.out)) ?_
        have hS := Q.out.2.1
        refine hK.out _ _ hS (fun hHeld => ?_)
        clear hK K
        try simp only [Act.put, List.setIfInBounds_toArray, List.set_cons_zero, List.set_cons_succ, List.getElem_toArray, List.getElem_cons_zero, List.getElem_cons_succ]
        clear hS
        obtain ⟨V1, hv⟩ : ∃ v, v = V0 := ⟨_, rfl⟩
        rw [← hv] at Q HLO hHeld ⊢
        clear hv
        refine wpAnyH_ready (rs := [2, 6]) (by kernel_rfl) (by simp) (AllReadyH.cons rfl (fun K hK => ?_) (AllReadyH.cons rfl (fun K hK => ?_) AllReadyH.nil))
        · rw [if_pos (by rfl)]
          go_wp2_with fail
          have hal : ∀ (o : Obj), Below V1.heap.size V1 (V1.alloc o) := fun o => (Below.refl _ _).alloc (Nat.le_refl _) _
          refine k_over (fun W => (LkSt w b5 rs cur us m m (rs.map Rc.c) A6 c6 A7 c7 W ∧ Bk W b10 26 (chC X) ∧ OwnB W (b5 + 1) 5 A9 N9 k9 rb) ∧ Bk W V1.heap.size 32 #[.slice A9 N9 k9] ∧ W2.heap.size ≤ W.heap.size) ⟨⟨Q.out.1.next (hal _), Q.out.2.1.alloc _, Q.out.2.2.below (hal _)⟩, Bk.new _ _ _, Nat.le_trans HLO.out (hal _).size⟩ ?_
          obtain ⟨s2, hs⟩ : ∃ b, V1.heap.size = b := ⟨_, rfl⟩
          have HS2 : Hid (W2.heap.size ≤ s2) := Lib.hid (by rw [← hs]; exact HLO.out)
          rw [hs]
          clear hs hal Q HLO
          rintro V2 ⟨q1, q2, q3⟩
          have Q := Lib.hid q1
          have P2 := Lib.hid q2
          have HLO := Lib.hid q3
          clear q1 q2 q3
          have hS := Q.out.2.1
          refine hK.out _ _ hS (fun hHeld => ?_)
          clear hK K
          try simp only [Act.put, List.setIfInBounds_toArray, List.set_cons_zero, List.set_cons_succ, List.getElem_toArray, List.getElem_cons_zero, List.getElem_cons_succ]
          clear hS
          refine wpAnyH_ready (rs := [3, 6]) (by kernel_rfl) (by simp) (AllReadyH.cons rfl (fun K hK => ?_) (AllReadyH.cons rfl (fun K hK => ?_) AllReadyH.nil))
          · rw [if_pos (by rfl)]
            obtain ⟨A6b, c6b, V3, hrun, hst, hgr⟩ := Q.out.1.app6 P2.out rfl HM.out 27
            have hbig : ∀ b, W2.heap.size ≤ b → some b ≠ (Value.slice A6 m c6).ownBlock := fun b hb e => by have := HS6x.out b e.symm; omega
            have Q1 := Lib.hid (And.intro hst (And.intro (Q.out.2.1.keptR hgr (hbig b10 HB10.out)) (show OwnB V3 (b5 + 1) 5 A9 N9 k9 rb from ⟨Q.out.2.2.1.kept hgr (row_apart15 Q.out.1.rec_.1 Q.out.2.2.1 (by decide)), Q.out.2.2.2⟩)))
            have HLO1 : Hid (W2.heap.size ≤ V3.heap.size) := Lib.hid (Nat.le_trans HLO.out hgr.size)
            have HRUN := Lib.hid hrun
            clear hrun hst hgr hbig Q HLO P2
            refine wp_append_ks (s := .tmp 71) (x := .tmp 73) rfl rfl rfl HRUN.out ?_
            have Q := Q1
            have HLO := HLO1
            clear Q1 HLO1 HRUN
            have hS := Q.out.2.1
            refine hK.out _ _ hS (fun hHeld => ?_)
            clear hK K
            try simp only [Act.put, List.setIfInBounds_toArray, List.set_cons_zero, List.set_cons_succ, List.getElem_toArray, List.getElem_cons_zero, List.getElem_cons_succ]
            clear hS
            refine wpAnyH_ready (rs := [6]) (by kernel_rfl) (by simp) (AllReadyH.cons rfl (fun K hK => ?_) AllReadyH.nil)
            rw [if_pos (by rfl)]
            refine wp_bslice_ch (.tmp 76) rfl cur rfl HCO.out ?_
            have hal : ∀ (o : Obj), Below V3.heap.size V3 (V3.alloc o) := fun o => (Below.refl _ _).alloc (Nat.le_refl _) _
            refine k_over (fun W => (LkSt w b5 rs cur (us ++ [.slice A9 N9 k9]) (m + 1) m (rs.map Rc.c) A6b c6b A7 c7 W ∧ Bk W b10 26 (chC X) ∧ OwnB W (b5 + 1) 5 A9 N9 k9 rb) ∧ Bk W V3.heap.size 26 (chC cur) ∧ W2.heap.size ≤ W.heap.size) ⟨⟨Q.out.1.next (hal _), Q.out.2.1.alloc _, Q.out.2.2.below (hal _)⟩, Bk.new _ _ _, Nat.le_trans HLO.out (hal _).size⟩ ?_
            obtain ⟨s6, hs⟩ : ∃ b, V3.heap.size = b := ⟨_, rfl⟩
            have HS6 : Hid (W2.heap.size ≤ s6) := Lib.hid (by rw [← hs]; exact HLO.out)
            rw [hs]
            clear hs hal Q HLO
            rintro V4 ⟨q1, q2, q3⟩
            have Q := Lib.hid q1
            have P6 := Lib.hid q2
            have HLO := Lib.hid q3
            clear q1 q2 q3
            have hS := Q.out.2.1
            refine hK.out _ _ hS (fun hHeld => ?_)
            clear hK K
            try simp only [Act.put, List.setIfInBounds_toArray, List.set_cons_zero, List.set_cons_succ, List.getElem_toArray, List.getElem_cons_zero, List.getElem_cons_succ]
            clear hS
            refine wpAnyH_ready (rs := [7]) (by kernel_rfl) (by simp) (AllReadyH.cons rfl (fun K hK => ?_) AllReadyH.nil)
            rw [if_pos (by rfl)]
            obtain ⟨A7b, c7b, V5, hrun, hst, hgr⟩ := Q.out.1.app7 ⟨cur, HCO.out⟩ P6.out HM.out 28
            have hbig : ∀ b, W2.heap.size ≤ b → some b ≠ (Value.slice A7 m c7).ownBlock := fun b hb e => by have := HS7x.out b e.symm; omega
            have Q1 := Lib.hid (And.intro hst (And.intro (Q.out.2.1.keptR hgr (hbig b10 HB10.out)) (show OwnB V5 (b5 + 1) 5 A9 N9 k9 rb from ⟨Q.out.2.2.1.kept hgr (row_apart15 Q.out.1.chn.1 Q.out.2.2.1 (by decide)), Q.out.2.2.2⟩)))
            have HLO1 : Hid (W2.heap.size ≤ V5.heap.size) := Lib.hid (Nat.le_trans HLO.out hgr.size)
            have HRUN := Lib.hid hrun
            clear hrun hst hgr hbig Q HLO P6
            refine wp_append_ks (s := .tmp 75) (x := .tmp 77) rfl rfl rfl HRUN.out ?_
            have Q := Q1
            have HLO := HLO1
            clear Q1 HLO1 HRUN
            have hS := Q.out.2.1
            refine hK.out _ _ hS (fun hHeld => ?_)
            clear hK K
            try simp only [Act.put, List.setIfInBounds_toArray, List.set_cons_zero, List.set_cons_succ, List.getElem_toArray, List.getElem_cons_zero, List.getElem_cons_succ]
            clear hS
            refine wpAnyH_ready (rs := [9]) (by kernel_rfl) (by simp) (AllReadyH.cons rfl (fun K hK => ?_) AllReadyH.nil)
            rw [if_pos (by rfl)]
            go_wp2_with fail
            have hS := Q.out.2.1
            refine hK.out _ _ hS (fun hHeld => ?_)
            clear hK K
            try simp only [Act.put, List.setIfInBounds_toArray, List.set_cons_zero, List.set_cons_succ, List.getElem_toArray, List.getElem_cons_zero, List.getElem_cons_succ]
            clear hS
            refine wpAnyH_ready (rs := [10]) (by kernel_rfl) (by simp) (AllReadyH.cons rfl (fun K hK => ?_) AllReadyH.nil)
            rw [if_pos (by rfl)]
            go_wp2_with fail
            have hS := Q.out.2.1
            refine hK.out _ _ hS (fun hHeld => ?_)
            clear hK K
            try simp only [Act.put, List.setIfInBounds_toArray, List.set_cons_zero, List.set_cons_succ, List.getElem_toArray, List.getElem_cons_zero, List.getElem_cons_succ]
            clear hS
            refine wpAnyH_ready (rs := [11]) (by kernel_rfl) (by simp) (AllReadyH.cons rfl (fun K hK => ?_) AllReadyH.nil)
            rw [if_pos (by rfl)]
            have hS : Bk (V5.setRow b5 (chC X)) b10 26 (chC X) := Q.out.2.1.setRow_other (by have := HB10.out; have := HB5.out; omega) _
            have RR := Lib.hid (HREL.out _ _ _ _ _ Q.out.1 Q.out.2.2)
            refine wp_skip (exec_store15 rfl rfl rfl Q.out.1.bx (by rw [chC_size HXO.out, chC_size HCO.out]) (info_ch' HXO.out) (chC_one _)) ?_
            refine hK.out _ _ hS (fun hHeld => ?_)
            clear hK K
            try simp only [Act.put, List.setIfInBounds_toArray, List.set_cons_zero, List.set_cons_succ, List.getElem_toArray, List.getElem_cons_zero, List.getElem_cons_succ]
            clear hS
            refine wpAnyH_done (by kernel_rfl) ?_ _
            clear Q hHeld HREL
            go_wp2_with fail
            go_roundw
            case rel => exact ⟨i + 1, m + 1, _, _, _, A6b, c6b, A7b, c7b, HI1.out, rfl, rfl, by go_num, RR.out⟩
            case measure => simp [intOf]; have := HMS.out; omega
          · rw [if_pos (by rfl)]
            refine wp_bslice_ch (.tmp 76) rfl cur rfl HCO.out ?_
            have hal : ∀ (o : Obj), Below V2.heap.size V2 (V2.alloc o) := fun o => (Below.refl _ _).alloc (Nat.le_refl _) _
            refine k_over (fun W => (LkSt w b5 rs cur us m m (rs.map Rc.c) A6 c6 A7 c7 W ∧ Bk W b10 26 (chC X) ∧ OwnB W (b5 + 1) 5 A9 N9 k9 rb) ∧ Bk W V2.heap.size 26 (chC cur) ∧ W2.heap.size ≤ W.heap.size ∧ Bk W s2 32 #[.slice A9 N9 k9]) ⟨⟨Q.out.1.next (hal _), Q.out.2.1.alloc _, Q.out.2.2.below (hal _)⟩, Bk.new _ _ _, Nat.le_trans HLO.out (hal _).size, P2.out.alloc _⟩ ?_
            obtain ⟨s6, hs⟩ : ∃ b, V2.heap.size = b := ⟨_, rfl⟩
            have HS6 : Hid (W2.heap.size ≤ s6) := Lib.hid (by rw [← hs]; exact HLO.out)
            rw [hs]
            clear hs hal Q HLO P2
            rintro V3 ⟨q1, q2, q3, q4⟩
            have Q := Lib.hid q1
            have P6 := Lib.hid q2
            have HLO := Lib.hid q3
            have P2 := Lib.hid q4
            clear q1 q2 q3 q4
            have hS := Q.out.2.1
            refine hK.out _ _ hS (fun hHeld => ?_)
            clear hK K
            try simp only [Act.put, List.setIfInBounds_toArray, List.set_cons_zero, List.set_cons_succ, List.getElem_toArray, List.getElem_cons_zero, List.getElem_cons_succ]
            clear hS
            refine wpAnyH_ready (rs := [3]) (by kernel_rfl) (by simp) (AllReadyH.cons rfl (fun K hK => ?_) AllReadyH.nil)
            rw [if_pos (by rfl)]
            obtain ⟨A6b, c6b, V4, hrun, hst, hgr⟩ := Q.out.1.app6 P2.out rfl HM.out 27
            have hbig : ∀ b, W2.heap.size ≤ b → some b ≠ (Value.slice A6 m c6).ownBlock := fun b hb e => by have := HS6x.out b e.symm; omega
            have Q1 := Lib.hid (And.intro hst (And.intro (Q.out.2.1.keptR hgr (hbig b10 HB10.out)) (show OwnB V4 (b5 + 1) 5 A9 N9 k9 rb from ⟨Q.out.2.2.1.kept hgr (row_apart15 Q.out.1.rec_.1 Q.out.2.2.1 (by decide)), Q.out.2.2.2⟩)))
            have HLO1 : Hid (W2.heap.size ≤ V4.heap.size) := Lib.hid (Nat.le_trans HLO.out hgr.size)
            have P6n := Lib.hid (P6.out.keptR hgr (hbig s6 HS6.out))
            have HRUN := Lib.hid hrun
            clear hrun hst hgr hbig Q HLO P2 P6
            refine wp_append_ks (s := .tmp 71) (x := .tmp 73) rfl rfl rfl HRUN.out ?_
            have Q := Q1
            have HLO := HLO1
            have P6 := P6n
            clear Q1 HLO1 HRUN P6n
            have hS := Q.out.2.1
            refine hK.out _ _ hS (fun hHeld => ?_)
            clear hK K
            try simp only [Act.put, List.setIfInBounds_toArray, List.set_cons_zero, List.set_cons_succ, List.getElem_toArray, List.getElem_cons_zero, List.getElem_cons_succ]
            clear hS
            refine wpAnyH_ready (rs := [7]) (by kernel_rfl) (by simp) (AllReadyH.cons rfl (fun K hK => ?_) AllReadyH.nil)
            rw [if_pos (by rfl)]
            obtain ⟨A7b, c7b, V5, hrun, hst, hgr⟩ := Q.out.1.app7 ⟨cur, HCO.out⟩ P6.out HM.out 28
            have hbig : ∀ b, W2.heap.size ≤ b → some b ≠ (Value.slice A7 m c7).ownBlock := fun b hb e => by have := HS7x.out b e.symm; omega
            have Q1 := Lib.hid (And.intro hst (And.intro (Q.out.2.1.keptR hgr (hbig b10 HB10.out)) (show OwnB V5 (b5 + 1) 5 A9 N9 k9 rb from ⟨Q.out.2.2.1.kept hgr (row_apart15 Q.out.1.chn.1 Q.out.2.2.1 (by decide)), Q.out.2.2.2⟩)))
            have HLO1 : Hid (W2.heap.size ≤ V5.heap.size) := Lib.hid (Nat.le_trans HLO.out hgr.size)
            have HRUN := Lib.hid hrun
            clear hrun hst hgr hbig Q HLO P6
            refine wp_append_ks (s := .tmp 75) (x := .tmp 77) rfl rfl rfl HRUN.out ?_
            have Q := Q1
            have HLO := HLO1
            clear Q1 HLO1 HRUN
            have hS := Q.out.2.1
            refine hK.out _ _ hS (fun hHeld => ?_)
            clear hK K
            try simp only [Act.put, List.setIfInBounds_toArray, List.set_cons_zero, List.set_cons_succ, List.getElem_toArray, List.getElem_cons_zero, List.getElem_cons_succ]
            clear hS
            refine wpAnyH_ready (rs := [9]) (by kernel_rfl) (by simp) (AllReadyH.cons rfl (fun K hK => ?_) AllReadyH.nil)
            rw [if_pos (by rfl)]
            go_wp2_with fail
            have hS := Q.out.2.1
            refine hK.out _ _ hS (fun hHeld => ?_)
            clear hK K
            try simp only [Act.put, List.setIfInBounds_toArray, List.set_cons_zero, List.set_cons_succ, List.getElem_toArray, List.getElem_cons_zero, List.getElem_cons_succ]
            clear hS
            refine wpAnyH_ready (rs := [10]) (by kernel_rfl) (by simp) (AllReadyH.cons rfl (fun K hK => ?_) AllReadyH.nil)
            rw [if_pos (by rfl)]
            go_wp2_with fail
            have hS := Q.out.2.1
            refine hK.out _ _ hS (fun hHeld => ?_)
            clear hK K
            try simp only [Act.put, List.setIfInBounds_toArray, List.set_cons_zero, List.set_cons_succ, List.getElem_toArray, List.getElem_cons_zero, List.getElem_cons_succ]
            clear hS
            refine wpAnyH_ready (rs := [11]) (by kernel_rfl) (by simp) (AllReadyH.cons rfl (fun K hK => ?_) AllReadyH.nil)
            rw [if_pos (by rfl)]
            have hS : Bk (V5.setRow b5 (chC X)) b10 26 (chC X) := Q.out.2.1.setRow_other (by have := HB10.out; have := HB5.out; omega) _
            have RR := Lib.hid (HREL.out _ _ _ _ _ Q.out.1 Q.out.2.2)
            refine wp_skip (exec_store15 rfl rfl rfl Q.out.1.bx (by rw [chC_size HXO.out, chC_size HCO.out]) (info_ch' HXO.out) (chC_one _)) ?_
            refine hK.out _ _ hS (fun hHeld => ?_)
            clear hK K
            try simp only [Act.put, List.setIfInBounds_toArray, List.set_cons_zero, List.set_cons_succ, List.getElem_toArray, List.getElem_cons_zero, List.getElem_cons_succ]
            clear hS
            refine wpAnyH_done (by kernel_rfl) ?_ _
            clear Q hHeld HREL
            go_wp2_with fail
            go_roundw
            case rel => exact ⟨i + 1, m + 1, _, _, _, A6b, c6b, A7b, c7b, HI1.out, rfl, rfl, by go_num, RR.out⟩
            case measure => simp [intOf]; have := HMS.out; omega
        · rw [if_pos (by rfl)]
          refine wp_bslice_ch (.tmp 76) rfl cur rfl HCO.out ?_
          have hal : ∀ (o : Obj), Below V1.heap.size V1 (V1.alloc o) := fun o => (Below.refl _ _).alloc (Nat.le_refl _) _
          refine k_over (fun W => (LkSt w b5 rs cur us m m (rs.map Rc.c) A6 c6 A7 c7 W ∧ Bk W b10 26 (chC X) ∧ OwnB W (b5 + 1) 5 A9 N9 k9 rb) ∧ Bk W V1.heap.size 26 (chC cur) ∧ W2.heap.size ≤ W.heap.size) ⟨⟨Q.out.1.next (hal _), Q.out.2.1.alloc _, Q.out.2.2.below (hal _)⟩, Bk.new _ _ _, Nat.le_trans HLO.out (hal _).size⟩ ?_
          obtain ⟨s6, hs⟩ : ∃ b, V1.heap.size = b := ⟨_, rfl⟩
          have HS6 : Hid (W2.heap.size ≤ s6) := Lib.hid (by rw [← hs]; exact HLO.out)
          rw [hs]
          clear hs hal Q HLO
          rintro V2 ⟨q1, q2, q3⟩
          have Q := Lib.hid q1
          have P6 := Lib.hid q2
          have HLO := Lib.hid q3
          clear q1 q2 q3
          have hS := Q.out.2.1
          refine hK.out _ _ hS (fun hHeld => ?_)
          clear hK K
          try simp only [Act.put, List.setIfInBounds_toArray, List.set_cons_zero, List.set_cons_succ, List.getElem_toArray, List.getElem_cons_zero, List.getElem_cons_succ]
          clear hS
          refine wpAnyH_ready (rs := [2]) (by kernel_rfl) (by simp) (AllReadyH.cons rfl (fun K hK => ?_) AllReadyH.nil)
          rw [if_pos (by rfl)]
          go_wp2_with fail
          have hal : ∀ (o : Obj), Below V2.heap.size V2 (V2.alloc o) := fun o => (Below.refl _ _).alloc (Nat.le_refl _) _
          refine k_over (fun W => (LkSt w b5 rs cur us m m (rs.map Rc.c) A6 c6 A7 c7 W ∧ Bk W b10 26 (chC X) ∧ OwnB W (b5 + 1) 5 A9 N9 k9 rb) ∧ Bk W V2.heap.size 32 #[.slice A9 N9 k9] ∧ W2.heap.size ≤ W.heap.size ∧ Bk W s6 26 (chC cur)) ⟨⟨Q.out.1.next (hal _), Q.out.2.1.alloc _, Q.out.2.2.below (hal _)⟩, Bk.new _ _ _, Nat.le_trans HLO.out (hal _).size, P6.out.alloc _⟩ ?_
          obtain ⟨s2, hs⟩ : ∃ b, V2.heap.size = b := ⟨_, rfl⟩
          have HS2 : Hid (W2.heap.size ≤ s2) := Lib.hid (by rw [← hs]; exact HLO.out)
          rw [hs]
          clear hs hal Q HLO P6
          rintro V3 ⟨q1, q2, q3, q4⟩
          have Q := Lib.hid q1
          have P2 := Lib.hid q2
          have HLO := Lib.hid q3
          have P6 := Lib.hid q4
          clear q1 q2 q3 q4
          have hS := Q.out.2.1
          refine hK.out _ _ hS (fun hHeld => ?_)
          clear hK K
          try simp only [Act.put, List.setIfInBounds_toArray, List.set_cons_zero, List.set_cons_succ, List.getElem_toArray, List.getElem_cons_zero, List.getElem_cons_succ]
          clear hS
          refine wpAnyH_ready (rs := [3]) (by kernel_rfl) (by simp) (AllReadyH.cons rfl (fun K hK => ?_) AllReadyH.nil)
          rw [if_pos (by rfl)]
          obtain ⟨A6b, c6b, V4, hrun, hst, hgr⟩ := Q.out.1.app6 P2.out rfl HM.out 27
          have hbig : ∀ b, W2.heap.size ≤ b → some b ≠ (Value.slice A6 m c6).ownBlock := fun b hb e => by have := HS6x.out b e.symm; omega
          have Q1 := Lib.hid (And.intro hst (And.intro (Q.out.2.1.keptR hgr (hbig b10 HB10.out)) (show OwnB V4 (b5 + 1) 5 A9 N9 k9 rb from ⟨Q.out.2.2.1.kept hgr (row_apart15 Q.out.1.rec_.1 Q.out.2.2.1 (by decide)), Q.out.2.2.2⟩)))
          have HLO1 : Hid (W2.heap.size ≤ V4.heap.size) := Lib.hid (Nat.le_trans HLO.out hgr.size)
          have P6n := Lib.hid (P6.out.keptR hgr (hbig s6 HS6.out))
          have HRUN := Lib.hid hrun
          clear hrun hst hgr hbig Q HLO P2 P6
          refine wp_append_ks (s := .tmp 71) (x := .tmp 73) rfl rfl rfl HRUN.out ?_
          have Q := Q1
          have HLO := HLO1
          have P6 := P6n
          clear Q1 HLO1 HRUN P6n
          have hS := Q.out.2.1
          refine hK.out _ _ hS (fun hHeld => ?_)
          clear hK K
          try simp only [Act.put, List.setIfInBounds_toArray, List.set_cons_zero, List.set_cons_succ, List.getElem_toArray, List.getElem_cons_zero, List.getElem_cons_succ]
          clear hS
          refine wpAnyH_ready (rs := [7]) (by kernel_rfl) (by simp) (AllReadyH.cons rfl (fun K hK => ?_) AllReadyH.nil)
          rw [if_pos (by rfl)]
          obtain ⟨A7b, c7b, V5, hrun, hst, hgr⟩ := Q.out.1.app7 ⟨cur, HCO.out⟩ P6.out HM.out 28
          have hbig : ∀ b, W2.heap.size ≤ b → some b ≠ (Value.slice A7 m c7).ownBlock := fun b hb e => by have := HS7x.out b e.symm; omega
          have Q1 := Lib.hid (And.intro hst (And.intro (Q.out.2.1.keptR hgr (hbig b10 HB10.out)) (show OwnB V5 (b5 + 1) 5 A9 N9 k9 rb from ⟨Q.out.2.2.1.kept hgr (row_apart15 Q.out.1.chn.1 Q.out.2.2.1 (by decide)), Q.out.2.2.2⟩)))
          have HLO1 : Hid (W2.heap.size ≤ V5.heap.size) := Lib.hid (Nat.le_trans HLO.out hgr.size)
          have HRUN := Lib.hid hrun
          clear hrun hst hgr hbig Q HLO P6
          refine wp_append_ks (s := .tmp 75) (x := .tmp 77) rfl rfl rfl HRUN.out ?_
          have Q := Q1
          have HLO := HLO1
          clear Q1 HLO1 HRUN
          have hS := Q.out.2.1
          refine hK.out _ _ hS (fun hHeld => ?_)
          clear hK K
          try simp only [Act.put, List.setIfInBounds_toArray, List.set_cons_zero, List.set_cons_succ, List.getElem_toArray, List.getElem_cons_zero, List.getElem_cons_succ]
          clear hS
          refine wpAnyH_ready (rs := [9]) (by kernel_rfl) (by simp) (AllReadyH.cons rfl (fun K hK => ?_) AllReadyH.nil)
          rw [if_pos (by rfl)]
          go_wp2_with fail
          have hS := Q.out.2.1
          refine hK.out _ _ hS (fun hHeld => ?_)
          clear hK K
          try simp only [Act.put, List.setIfInBounds_toArray, List.set_cons_zero, List.set_cons_succ, List.getElem_toArray, List.getElem_cons_zero, List.getElem_cons_succ]
          clear hS
          refine wpAnyH_ready (rs := [10]) (by kernel_rfl) (by simp) (AllReadyH.cons rfl (fun K hK => ?_) AllReadyH.nil)
          rw [if_pos (by rfl)]
          go_wp2_with fail
          have hS := Q.out.2.1
          refine hK.out _ _ hS (fun hHeld => ?_)
          clear hK K
          try simp only [Act.put, List.setIfInBounds_toArray, List.set_cons_zero, List.set_cons_succ, List.getElem_toArray, List.getElem_cons_zero, List.getElem_cons_succ]
          clear hS
          refine wpAnyH_ready (rs := [11]) (by kernel_rfl) (by simp) (AllReadyH.cons rfl (fun K hK => ?_) AllReadyH.nil)
          rw [if_pos (by rfl)]
          have hS : Bk (V5.setRow b5 (chC X)) b10 26 (chC X) := Q.out.2.1.setRow_other (by have := HB10.out; have := HB5.out; omega) _
          have RR := Lib.hid (HREL.out _ _ _ _ _ Q.out.1 Q.out.2.2)
          refine wp_skip (exec_store15 rfl rfl rfl Q.out.1.bx (by rw [chC_size HXO.out, chC_size HCO.out]) (info_ch' HXO.out) (chC_one _)) ?_
          refine hK.out _ _ hS (fun hHeld => ?_)
          clear hK K
          try simp only [Act.put, List.setIfInBounds_toArray, List.set_cons_zero, List.set_cons_succ, List.getElem_toArray, List.getElem_cons_zero, List.getElem_cons_succ]
          clear hS
          refine wpAnyH_done (by kernel_rfl) ?_ _
          clear Q hHeld HREL
          go_wp2_with fail
          go_roundw
          case rel => exact ⟨i + 1, m + 1, _, _, _, A6b, c6b, A7b, c7b, HI1.out, rfl, rfl, by go_num, RR.out⟩
          case measure => simp [intOf]; have := HMS.out; omega
    · have HF : Hid (rs.length = m ∧ m ≤ i ∧ RcOk rs ∧ us.length = m) := Lib.hid ⟨H.out.1, H.out.2.1, H.out.2.2.1, H.out.2.2.2.2.2.1⟩
      have H2 := Lib.hid H.out.2.2.2.2.2.2
      have hnl : ¬ (i : Int) < (n : Int) := by omega
      clear H hlt
      by_cases hm : m = 0
      · subst hm
        go_wp2_with fail
        go_ret
        exact ⟨rfl, H2.out.hb⟩
      obtain ⟨kk, hkk, hkl⟩ : ∃ kk : Nat, (k : Int) % (m : Int) = (kk : Int) ∧ kk < m := ⟨k % m, (Int.natCast_emod k m).symm, Nat.mod_lt _ (by omega)⟩
      have HKL := Lib.hid hkl
      have hk0 : (0 : Int) ≤ (k : Int) := by omega
      have hk1 : (k : Int) < 256 := by have := HKB.out; omega
      have hm0 : ((m : Int) == 0) = false := by simpa using hm
      have hm1 : (0 : Int) < (m : Int) := by omega
      have HM50 : Hid (m ≤ 50) := Lib.hid (by have := HF.out.2.1; have := HN.out; omega)
      have hm2 : (m : Int) ≤ 50 := by have := HM50.out; omega
      clear hkl hm
      go_wp2_with fail
      clear hkk hk0 hk1 hm0 hm1 hm2 hnl
      go_loopw [16] (fun x16 wx => ∃ i2 : Nat, i2 ≤ m ∧ x16 = .int .i64 (i2 : Int) ∧ LkSt w b5 rs cur us m m (rs.map Rc.c) A6 c6 A7 c7 wx) (fun x16 _ => m - (intOf x16).toNat)
      case atStart => exact ⟨0, Nat.zero_le _, rfl, H2.out⟩
      case round =>
        obtain ⟨i2, hi2, rfl, hr⟩ := hrel
        obtain ⟨U, rfl⟩ : ∃ U, U = wr := ⟨_, rfl⟩
        have H := Lib.hid hr
        clear hr H2
        by_cases hlt : i2 < m
        · obtain ⟨ri, hri⟩ : ∃ r, rs[i2]? = some r := ⟨_, List.getElem?_eq_getElem (by rw [HF.out.1]; exact hlt)⟩
          obtain ⟨rk, hrk⟩ : ∃ r, rs[kk]? = some r := ⟨_, List.getElem?_eq_getElem (by rw [HF.out.1]; exact HKL.out)⟩
          have HOD := Lib.hid (own_dec HF.out.2.2.1 hri hrk)
          obtain ⟨g7, rfl, hg7, hg7l, hrg⟩ := H.out.chn.range (by have := HKL.out; omega)
          have HR7 : Hid (U.rangeAt g7 (i2 * 33) (chC ri.c.1).toList) := Lib.hid (hrg i2 ri.c (by rw [List.getElem?_map, hri]; rfl))
          obtain ⟨g6, rfl, hg6, hg6l, hrg6⟩ := H.out.rec_.range (by have := HKL.out; omega)
          obtain ⟨us0, hrin, hpre⟩ := H.out.ins
          have hus : us0 = us := hpre.eq_of_length (by rw [hrin.1, HF.out.1, HF.out.2.2.2])
          subst hus
          obtain ⟨Ak, Nk, ck, huk, hNk, hok⟩ := hrin.2 kk rk hrk
          have HC6 : Hid (U.cell? ⟨g6, kk, none⟩ = some (.slice Ak Nk ck)) := Lib.hid (by
            have h1 := hrg6 kk _ huk 0 (.slice Ak Nk ck) rfl
            rwa [Nat.mul_one, Nat.add_zero] at h1)
          have HG := Lib.hid (And.intro hg6l hg7l)
          have HOK := Lib.hid hok
          have HNK := Lib.hid hNk
          have HI2 := Lib.hid (show i2 < m from hlt)
          obtain ⟨le, hle⟩ : ∃ le, linkE ri.c.1 rk.bytes = le := ⟨_, rfl⟩
          have HLE := Lib.hid hle
          rw [hle] at HOD
          clear hle hri hrk hg7 hrg hg6 hrg6 hrin hpre huk hNk hok hg6l hg7l
          go_upto_region 25 with (fail)
          go_cut [19] (fun x19 wx => x19 = .int .i64 (le : Int) ∧ Below U.heap.size U wx)
          case first =>
            have a0 : (0 : Int) ≤ (i2 : Int) := by omega
            have a1 : (i2 : Int) < (m : Int) := by omega
            have a2 : (0 : Int) ≤ (kk : Int) := by omega
            have a3 : (kk : Int) < (m : Int) := by have := HKL.out; omega
            have a4 : kk < m := HKL.out
            go_wp2_with fail
            refine wp_region_held_drew (S := fun W' => Below U.heap.size U W') hmx (Below.refl _ _).drew (fun hHeld => ?_)
            generalize hW0 : U.drew = V0 at *
            clear hW0
            simp only [List.size_toArray, List.length_cons, List.length_nil, Nat.reduceAdd]
            refine wpAnyH_take (i := 0) (v := .slice (some ⟨g7, 0, none⟩) m c7) rfl (by kernel_rfl) (by kernel_rfl) (by kernel_rfl) (fun _ _ _ h => h) (Or.inl ⟨by rfl, fun w0 hC => by simp [execOp, Act.eval, Act.put, go_sem]⟩) hHeld ?_
            try simp only [Act.put, List.setIfInBounds_toArray, List.set_cons_zero, List.set_cons_succ, List.getElem_toArray, List.getElem_cons_zero, List.getElem_cons_succ]
            refine wpAnyH_take (i := 1) (v := .int .i64 (i2 : Int)) rfl (by kernel_rfl) (by kernel_rfl) (by kernel_rfl) (fun _ _ _ h => h) (Or.inl ⟨by rfl, fun w0 hC => by simp [execOp, Act.eval, Act.put, go_sem]⟩) hHeld ?_
            try simp only [Act.put, List.setIfInBounds_toArray, List.set_cons_zero, List.set_cons_succ, List.getElem_toArray, List.getElem_cons_zero, List.getElem_cons_succ]
            refine wpAnyH_take (i := 2) (v := .pointer (some ⟨g7, i2 * 33, none⟩)) rfl (by kernel_rfl) (by kernel_rfl) (by kernel_rfl) (fun _ _ _ h => h) (Or.inl ⟨by rfl, fun w0 hC => by simp [execOp, Act.eval, Act.put, go_sem, a0, a1, hlt]⟩) hHeld ?_
            try simp only [Act.put, List.setIfInBounds_toArray, List.set_cons_zero, List.set_cons_succ, List.getElem_toArray, List.getElem_cons_zero, List.getElem_cons_succ]
            refine wpAnyH_take (i := 3) (v := .agg (chC ri.c.1)) rfl (by kernel_rfl) (by kernel_rfl) (by kernel_rfl) (fun _ _ _ h => h) (Or.inl ⟨by rfl, fun w0 hC => exec_load rfl rfl (range_below15 HR7.out hC HG.out.2) Tryd.underlying26 rfl (info_ch' ri.c.2)⟩) hHeld ?_
            try simp only [Act.put, List.setIfInBounds_toArray, List.set_cons_zero, List.set_cons_succ, List.getElem_toArray, List.getElem_cons_zero, List.getElem_cons_succ]
            refine wpAnyH_take (i := 4) (v := .slice (some ⟨g6, 0, none⟩) m c6) rfl (by kernel_rfl) (by kernel_rfl) (by kernel_rfl) (fun _ _ _ h => h) (Or.inl ⟨by rfl, fun w0 hC => by simp [execOp, Act.eval, Act.put, go_sem]⟩) hHeld ?_
            try simp only [Act.put, List.setIfInBounds_toArray, List.set_cons_zero, List.set_cons_succ, List.getElem_toArray, List.getElem_cons_zero, List.getElem_cons_succ]
            refine wpAnyH_take (i := 5) (v := .int .i64 (kk : Int)) rfl (by kernel_rfl) (by kernel_rfl) (by kernel_rfl) (fun _ _ _ h => h) (Or.inl ⟨by rfl, fun w0 hC => by simp [execOp, Act.eval, Act.put, go_sem]⟩) hHeld ?_
            try simp only [Act.put, List.setIfInBounds_toArray, List.set_cons_zero, List.set_cons_succ, List.getElem_toArray, List.getElem_cons_zero, List.getElem_cons_succ]
            refine wpAnyH_take (i := 6) (v := .pointer (some ⟨g6, kk, none⟩)) rfl (by kernel_rfl) (by kernel_rfl) (by kernel_rfl) (fun _ _ _ h => h) (Or.inl ⟨by rfl, fun w0 hC => by simp [execOp, Act.eval, Act.put, go_sem, a2, a3, a4]⟩) hHeld ?_
            try simp only [Act.put, List.setIfInBounds_toArray, List.set_cons_zero, List.set_cons_succ, List.getElem_toArray, List.getElem_cons_zero, List.getElem_cons_succ]
            refine wpAnyH_take (i := 7) (v := .slice Ak Nk ck) rfl (by kernel_rfl) (by kernel_rfl) (by kernel_rfl) (fun _ _ _ h => h) (Or.inl ⟨by rfl, fun w0 hC => by simp [execOp, Act.eval, Act.put, go_sem, (hC.cell (p := ⟨g6, kk, none⟩) HG.out.1).trans HC6.out]⟩) hHeld ?_
            try simp only [Act.put, List.setIfInBounds_toArray, List.set_cons_zero, List.set_cons_succ, List.getElem_toArray, List.getElem_cons_zero, List.getElem_cons_succ]
            clear a0 a1 a2 a3 a4
            refine wpAnyH_ready (rs := [8, 13, 14]) (by kernel_rfl) (by simp) (AllReadyH.cons rfl (fun K hK => ?_) (AllReadyH.cons rfl (fun K hK => ?_) (AllReadyH.cons rfl (fun K hK => ?_) AllReadyH.nil)))
            · rw [if_pos (by rfl)]
              go_wp2_with fail
              refine (rcLink_any ri.c.1 Ak Nk ck rk.bytes V0 ri.c.2 (((HOK.out.bytes).below hHeld (Nat.le_refl _)).more hHeld.size) HNK.out HOK.out.cap.1 HOK.out.cap.2 ((HK.out.below H.out.hb).below hHeld) (Tabs.later15 (Tabs.later15 HT.out H.out.hb) hHeld)).mono ?_
              rintro e V1 ⟨H4, rfl, hv, hin4, hbc⟩
              rw [HLE.out]
              have hS := hHeld.trans (hbc.mono hHeld.size)
              clear hv hin4 hbc hHeld
              refine hK.out _ _ hS (fun hHeld => ?_)
              clear hK K
              try simp only [Act.put, List.setIfInBounds_toArray, List.set_cons_zero, List.set_cons_succ, List.getElem_toArray, List.getElem_cons_zero, List.getElem_cons_succ]
              clear hS
              refine wpAnyH_take (i := 9) (v := .tuple #[.agg (chC (linkC ri.c.1 rk.bytes)), .agg (evC H4), .int .i64 (le : Int)]) rfl (by kernel_rfl) (by kernel_rfl) (by kernel_rfl) (fun _ _ _ h => h) (Or.inl ⟨by rfl, fun w0 hC => by simp [execOp, Act.eval, Act.put, go_sem]⟩) hHeld ?_
              try simp only [Act.put, List.setIfInBounds_toArray, List.set_cons_zero, List.set_cons_succ, List.getElem_toArray, List.getElem_cons_zero, List.getElem_cons_succ]
              refine wpAnyH_take (i := 10) (v := .agg (chC (linkC ri.c.1 rk.bytes))) rfl (by kernel_rfl) (by kernel_rfl) (by kernel_rfl) (fun _ _ _ h => h) (Or.inl ⟨by rfl, fun w0 hC => by simp [execOp, Act.eval, Act.put, go_sem]⟩) hHeld ?_
              try simp only [Act.put, List.setIfInBounds_toArray, List.set_cons_zero, List.set_cons_succ, List.getElem_toArray, List.getElem_cons_zero, List.getElem_cons_succ]
              refine wpAnyH_take (i := 11) (v := .agg (evC H4)) rfl (by kernel_rfl) (by kernel_rfl) (by kernel_rfl) (fun _ _ _ h => h) (Or.inl ⟨by rfl, fun w0 hC => by simp [execOp, Act.eval, Act.put, go_sem]⟩) hHeld ?_
              try simp only [Act.put, List.setIfInBounds_toArray, List.set_cons_zero, List.set_cons_succ, List.getElem_toArray, List.getElem_cons_zero, List.getElem_cons_succ]
              refine wpAnyH_take (i := 12) (v := .int .i64 (le : Int)) rfl (by kernel_rfl) (by kernel_rfl) (by kernel_rfl) (fun _ _ _ h => h) (Or.inl ⟨by rfl, fun w0 hC => by simp [execOp, Act.eval, Act.put, go_sem]⟩) hHeld ?_
              try simp only [Act.put, List.setIfInBounds_toArray, List.set_cons_zero, List.set_cons_succ, List.getElem_toArray, List.getElem_cons_zero, List.getElem_cons_succ]
              refine wpAnyH_ready (rs := [13, 14]) (by kernel_rfl) (by simp) (AllReadyH.cons rfl (fun K hK => ?_) (AllReadyH.cons rfl (fun K hK => ?_) AllReadyH.nil))
              · rw [if_pos (by rfl)]
                go_wp2_with fail
                have HL13 : Hid (U.heap.size ≤ V1.heap.size) := Lib.hid hHeld.size
                refine k_over (fun W => Below U.heap.size U W ∧ Bk W V1.heap.size 26 (chC ch0)) ⟨hHeld.alloc hHeld.size _, Bk.new _ _ _⟩ ?_
                obtain ⟨b13, hb⟩ : ∃ b, V1.heap.size = b := ⟨_, rfl⟩
                rw [hb] at HL13 ⊢
                clear hb hHeld
                rintro V2 ⟨hS, q2⟩
                have K13 := Lib.hid q2
                clear q2
                refine hK.out _ _ hS (fun hHeld => ?_)
                clear hK K
                try simp only [Act.put, List.setIfInBounds_toArray, List.set_cons_zero, List.set_cons_succ, List.getElem_toArray, List.getElem_cons_zero, List.getElem_cons_succ]
                clear hS
                refine wpAnyH_ready (rs := [14]) (by kernel_rfl) (by simp) (AllReadyH.cons rfl (fun K hK => ?_) AllReadyH.nil)
                rw [if_pos (by rfl)]
                go_wp2_with fail
                have HL14 : Hid (U.heap.size ≤ V2.heap.size) := Lib.hid hHeld.size
                have HNE : Hid (V2.heap.size ≠ b13) := Lib.hid (by have := K13.out.lt; omega)
                refine k_over (fun W => Below U.heap.size U W ∧ Bk W V2.heap.size 34 (evC (bareH 0 0)) ∧ Bk W b13 26 (chC ch0)) ⟨hHeld.alloc hHeld.size _, Bk.new _ _ _, K13.out.alloc _⟩ ?_
                obtain ⟨b14, hb⟩ : ∃ b, V2.heap.size = b := ⟨_, rfl⟩
                rw [hb] at HL14 HNE ⊢
                clear hb hHeld K13
                rintro V3 ⟨hS, q2, q4⟩
                have K14 := Lib.hid q2
                have K13 := Lib.hid q4
                clear q2 q4
                refine hK.out _ _ hS (fun hHeld => ?_)
                clear hK K
                try simp only [Act.put, List.setIfInBounds_toArray, List.set_cons_zero, List.set_cons_succ, List.getElem_toArray, List.getElem_cons_zero, List.getElem_cons_succ]
                clear hS
                have HYO : Hid (linkC ri.c.1 rk.bytes).Ok := Lib.hid (by unfold linkC; split; exact grownC_ok _ _; exact ch0_ok)
                obtain ⟨Y, hY⟩ : ∃ Y, linkC ri.c.1 rk.bytes = Y := ⟨_, rfl⟩
                rw [hY] at HYO ⊢
                clear hY
                refine wpAnyH_ready (rs := [15]) (by kernel_rfl) (by simp) (AllReadyH.cons rfl (fun K hK => ?_) AllReadyH.nil)
                rw [if_pos (by rfl)]
                have hS := below_setRow hHeld HL13.out (chC Y)
                have K14b := Lib.hid (K14.out.setRow_other HNE.out (chC Y))
                refine wp_skip (exec_store15 rfl rfl rfl K13.out (by rw [chC_size HYO.out]; rfl) (info_ch' HYO.out) (chC_one _)) ?_
                clear hHeld K13 K14
                refine hK.out _ _ hS (fun hHeld => ?_)
                clear hK K
                try simp only [Act.put, List.setIfInBounds_toArray, List.set_cons_zero, List.set_cons_succ, List.getElem_toArray, List.getElem_cons_zero, List.getElem_cons_succ]
                clear hS
                refine wpAnyH_ready (rs := [16]) (by kernel_rfl) (by simp) (AllReadyH.cons rfl (fun K hK => ?_) AllReadyH.nil)
                rw [if_pos (by rfl)]
                have hS := below_setRow hHeld HL14.out (evC H4)
                refine wp_skip (exec_store15 rfl rfl rfl K14b.out (by rw [evC_size, evC_size]) (by rw [evC_size]; exact info_ev) (evC_one _)) ?_
                clear hHeld K14b
                refine hK.out _ _ hS (fun hHeld => ?_)
                clear hK K
                try simp only [Act.put, List.setIfInBounds_toArray, List.set_cons_zero, List.set_cons_succ, List.getElem_toArray, List.getElem_cons_zero, List.getElem_cons_succ]
                clear hS
                refine wpAnyH_ready (rs := [17]) (by kernel_rfl) (by simp) (AllReadyH.cons rfl (fun K hK => ?_) AllReadyH.nil)
                rw [if_pos (by rfl)]
                go_wp2_with fail
                have hS := hHeld
                clear hHeld
                refine hK.out _ _ hS (fun hHeld => ?_)
                clear hK K
                try simp only [Act.put, List.setIfInBounds_toArray, List.set_cons_zero, List.set_cons_succ, List.getElem_toArray, List.getElem_cons_zero, List.getElem_cons_succ]
                clear hS
                refine wpAnyH_done (by kernel_rfl) ?_ _
                go_wp2_with fail
                go_meet
                exact ⟨rfl, hHeld⟩
              · rw [if_pos (by rfl)]
                go_wp2_with fail
                have HL14 : Hid (U.heap.size ≤ V1.heap.size) := Lib.hid hHeld.size
                refine k_over (fun W => Below U.heap.size U W ∧ Bk W V1.heap.size 34 (evC (bareH 0 0))) ⟨hHeld.alloc hHeld.size _, Bk.new _ _ _⟩ ?_
                obtain ⟨b14, hb⟩ : ∃ b, V1.heap.size = b := ⟨_, rfl⟩
                rw [hb] at HL14 ⊢
                clear hb hHeld
                rintro V2 ⟨hS, q2⟩
                have K14 := Lib.hid q2
                clear q2
                refine hK.out _ _ hS (fun hHeld => ?_)
                clear hK K
                try simp only [Act.put, List.setIfInBounds_toArray, List.set_cons_zero, List.set_cons_succ, List.getElem_toArray, List.getElem_cons_zero, List.getElem_cons_succ]
                clear hS
                refine wpAnyH_ready (rs := [13]) (by kernel_rfl) (by simp) (AllReadyH.cons rfl (fun K hK => ?_) AllReadyH.nil)
                rw [if_pos (by rfl)]
                go_wp2_with fail
                have HL13 : Hid (U.heap.size ≤ V2.heap.size) := Lib.hid hHeld.size
                have HNE : Hid (b14 ≠ V2.heap.size) := Lib.hid (by have := K14.out.lt; omega)
                refine k_over (fun W => Below U.heap.size U W ∧ Bk W V2.heap.size 26 (chC ch0) ∧ Bk W b14 34 (evC (bareH 0 0))) ⟨hHeld.alloc hHeld.size _, Bk.new _ _ _, K14.out.alloc _⟩ ?_
                obtain ⟨b13, hb⟩ : ∃ b, V2.heap.size = b := ⟨_, rfl⟩
                rw [hb] at HL13 HNE ⊢
                clear hb hHeld K14
                rintro V3 ⟨hS, q2, q4⟩
                have K13 := Lib.hid q2
                have K14 := Lib.hid q4
                clear q2 q4
                refine hK.out _ _ hS (fun hHeld => ?_)
                clear hK K
                try simp only [Act.put, List.setIfInBounds_toArray, List.set_cons_zero, List.set_cons_succ, List.getElem_toArray, List.getElem_cons_zero, List.getElem_cons_succ]
                clear hS
                have HYO : Hid (linkC ri.c.1 rk.bytes).Ok := Lib.hid (by unfold linkC; split; exact grownC_ok _ _; exact ch0_ok)
                obtain ⟨Y, hY⟩ : ∃ Y, linkC ri.c.1 rk.bytes = Y := ⟨_, rfl⟩
                rw [hY] at HYO ⊢
                clear hY
                refine wpAnyH_ready (rs := [15]) (by kernel_rfl) (by simp) (AllReadyH.cons rfl (fun K hK => ?_) AllReadyH.nil)
                rw [if_pos (by rfl)]
                have hS := below_setRow hHeld HL13.out (chC Y)
                have K14b := Lib.hid (K14.out.setRow_other HNE.out (chC Y))
                refine wp_skip (exec_store15 rfl rfl rfl K13.out (by rw [chC_size HYO.out]; rfl) (info_ch' HYO.out) (chC_one _)) ?_
                clear hHeld K13 K14
                refine hK.out _ _ hS (fun hHeld => ?_)
                clear hK K
                try simp only [Act.put, List.setIfInBounds_toArray, List.set_cons_zero, List.set_cons_succ, List.getElem_toArray, List.getElem_cons_zero, List.getElem_cons_succ]
                clear hS
                refine wpAnyH_ready (rs := [16]) (by kernel_rfl) (by simp) (AllReadyH.cons rfl (fun K hK => ?_) AllReadyH.nil)
                rw [if_pos (by rfl)]
                have hS := below_setRow hHeld HL14.out (evC H4)
                refine wp_skip (exec_store15 rfl rfl rfl K14b.out (by rw [evC_size, evC_size]) (by rw [evC_size]; exact info_ev) (evC_one _)) ?_
                clear hHeld K14b
                refine hK.out _ _ hS (fun hHeld => ?_)
                clear hK K
                try simp only [Act.put, List.setIfInBounds_toArray, List.set_cons_zero, List.set_cons_succ, List.getElem_toArray, List.getElem_cons_zero, List.getElem_cons_succ]
                clear hS
                refine wpAnyH_ready (rs := [17]) (by kernel_rfl) (by simp) (AllReadyH.cons rfl (fun K hK => ?_) AllReadyH.nil)
                rw [if_pos (by rfl)]
                go_wp2_with fail
                have hS := hHeld
                clear hHeld
                refine hK.out _ _ hS (fun hHeld => ?_)
                clear hK K
                try simp only [Act.put, List.setIfInBounds_toArray, List.set_cons_zero, List.set_cons_succ, List.getElem_toArray, List.getElem_cons_zero, List.getElem_cons_succ]
                clear hS
                refine wpAnyH_done (by kernel_rfl) ?_ _
                go_wp2_with fail
                go_meet
                exact ⟨rfl, hHeld⟩
            · rw [if_pos (by rfl)]
              go_wp2_with fail
              have HL13 : Hid (U.heap.size ≤ V0.heap.size) := Lib.hid hHeld.size
              refine k_over (fun W => Below U.heap.size U W ∧ Bk W V0.heap.size 26 (chC ch0)) ⟨hHeld.alloc hHeld.size _, Bk.new _ _ _⟩ ?_
              obtain ⟨b13, hb⟩ : ∃ b, V0.heap.size = b := ⟨_, rfl⟩
              rw [hb] at HL13 ⊢
              clear hb hHeld
              rintro V1 ⟨hS, q2⟩
              have K13 := Lib.hid q2
              clear q2
              refine hK.out _ _ hS (fun hHeld => ?_)
              clear hK K
              try simp only [Act.put, List.setIfInBounds_toArray, List.set_cons_zero, List.set_cons_succ, List.getElem_toArray, List.getElem_cons_zero, List.getElem_cons_succ]
              clear hS
              refine wpAnyH_ready (rs := [8, 14]) (by kernel_rfl) (by simp) (AllReadyH.cons rfl (fun K hK => ?_) (AllReadyH.cons rfl (fun K hK => ?_) AllReadyH.nil))
              · rw [if_pos (by rfl)]
                go_wp2_with fail
                refine (rcLink_any ri.c.1 Ak Nk ck rk.bytes V1 ri.c.2 (((HOK.out.bytes).below hHeld (Nat.le_refl _)).more hHeld.size) HNK.out HOK.out.cap.1 HOK.out.cap.2 ((HK.out.below H.out.hb).below hHeld) (Tabs.later15 (Tabs.later15 HT.out H.out.hb) hHeld)).mono ?_
                rintro e V2 ⟨H4, rfl, hv, hin4, hbc⟩
                rw [HLE.out]
                have hS := hHeld.trans (hbc.mono hHeld.size)
                have K13b := Lib.hid (K13.out.below hbc K13.out.lt)
                clear hv hin4 hbc hHeld K13
                refine hK.out _ _ hS (fun hHeld => ?_)
                clear hK K
                try simp only [Act.put, List.setIfInBounds_toArray, List.set_cons_zero, List.set_cons_succ, List.getElem_toArray, List.getElem_cons_zero, List.getElem_cons_succ]
                clear hS
                refine wpAnyH_take (i := 9) (v := .tuple #[.agg (chC (linkC ri.c.1 rk.bytes)), .agg (evC H4), .int .i64 (le : Int)]) rfl (by kernel_rfl) (by kernel_rfl) (by kernel_rfl) (fun _ _ _ h => h) (Or.inl ⟨by rfl, fun w0 hC => by simp [execOp, Act.eval, Act.put, go_sem]⟩) hHeld ?_
                try simp only [Act.put, List.setIfInBounds_toArray, List.set_cons_zero, List.set_cons_succ, List.getElem_toArray, List.getElem_cons_zero, List.getElem_cons_succ]
                refine wpAnyH_take (i := 10) (v := .agg (chC (linkC ri.c.1 rk.bytes))) rfl (by kernel_rfl) (by kernel_rfl) (by kernel_rfl) (fun _ _ _ h => h) (Or.inl ⟨by rfl, fun w0 hC => by simp [execOp, Act.eval, Act.put, go_sem]⟩) hHeld ?_
                try simp only [Act.put, List.setIfInBounds_toArray, List.set_cons_zero, List.set_cons_succ, List.getElem_toArray, List.getElem_cons_zero, List.getElem_cons_succ]
                refine wpAnyH_take (i := 11) (v := .agg (evC H4)) rfl (by kernel_rfl) (by kernel_rfl) (by kernel_rfl) (fun _ _ _ h => h) (Or.inl ⟨by rfl, fun w0 hC => by simp [execOp, Act.eval, Act.put, go_sem]⟩) hHeld ?_
                try simp only [Act.put, List.setIfInBounds_toArray, List.set_cons_zero, List.set_cons_succ, List.getElem_toArray, List.getElem_cons_zero, List.getElem_cons_succ]
                refine wpAnyH_take (i := 12) (v := .int .i64 (le : Int)) rfl (by kernel_rfl) (by kernel_rfl) (by kernel_rfl) (fun _ _ _ h => h) (Or.inl ⟨by rfl, fun w0 hC => by simp [execOp, Act.eval, Act.put, go_sem]⟩) hHeld ?_
                try simp only [Act.put, List.setIfInBounds_toArray, List.set_cons_zero, List.set_cons_succ, List.getElem_toArray, List.getElem_cons_zero, List.getElem_cons_succ]
                have K13 := K13b
                clear K13b
                refine wpAnyH_ready (rs := [14]) (by kernel_rfl) (by simp) (AllReadyH.cons rfl (fun K hK => ?_) AllReadyH.nil)
                rw [if_pos (by rfl)]
                go_wp2_with fail
                have HL14 : Hid (U.heap.size ≤ V2.heap.size) := Lib.hid hHeld.size
                have HNE : Hid (V2.heap.size ≠ b13) := Lib.hid (by have := K13.out.lt; omega)
                refine k_over (fun W => Below U.heap.size U W ∧ Bk W V2.heap.size 34 (evC (bareH 0 0)) ∧ Bk W b13 26 (chC ch0)) ⟨hHeld.alloc hHeld.size _, Bk.new _ _ _, K13.out.alloc _⟩ ?_
                obtain ⟨b14, hb⟩ : ∃ b, V2.heap.size = b := ⟨_, rfl⟩
                rw [hb] at HL14 HNE ⊢
                clear hb hHeld K13
                rintro V3 ⟨hS, q2, q4⟩
                have K14 := Lib.hid q2
                have K13 := Lib.hid q4
                clear q2 q4
                refine hK.out _ _ hS (fun hHeld => ?_)
                clear hK K
                try simp only [Act.put, List.setIfInBounds_toArray, List.set_cons_zero, List.set_cons_succ, List.getElem_toArray, List.getElem_cons_zero, List.getElem_cons_succ]
                clear hS
                have HYO : Hid (linkC ri.c.1 rk.bytes).Ok := Lib.hid (by unfold linkC; split; exact grownC_ok _ _; exact ch0_ok)
                obtain ⟨Y, hY⟩ : ∃ Y, linkC ri.c.1 rk.bytes = Y := ⟨_, rfl⟩
                rw [hY] at HYO ⊢
                clear hY
                refine wpAnyH_ready (rs := [15]) (by kernel_rfl) (by simp) (AllReadyH.cons rfl (fun K hK => ?_) AllReadyH.nil)
                rw [if_pos (by rfl)]
                have hS := below_setRow hHeld HL13.out (chC Y)
                have K14b := Lib.hid (K14.out.setRow_other HNE.out (chC Y))
                refine wp_skip (exec_store15 rfl rfl rfl K13.out (by rw [chC_size HYO.out]; rfl) (info_ch' HYO.out) (chC_one _)) ?_
                clear hHeld K13 K14
                refine hK.out _ _ hS (fun hHeld => ?_)
                clear hK K
                try simp only [Act.put, List.setIfInBounds_toArray, List.set_cons_zero, List.set_cons_succ, List.getElem_toArray, List.getElem_cons_zero, List.getElem_cons_succ]
                clear hS
                refine wpAnyH_ready (rs := [16]) (by kernel_rfl) (by simp) (AllReadyH.cons rfl (fun K hK => ?_) AllReadyH.nil)
                rw [if_pos (by rfl)]
                have hS := below_setRow hHeld HL14.out (evC H4)
                refine wp_skip (exec_store15 rfl rfl rfl K14b.out (by rw [evC_size, evC_size]) (by rw [evC_size]; exact info_ev) (evC_one _)) ?_
                clear hHeld K14b
                refine hK.out _ _ hS (fun hHeld => ?_)
                clear hK K
                try simp only [Act.put, List.setIfInBounds_toArray, List.set_cons_zero, List.set_cons_succ, List.getElem_toArray, List.getElem_cons_zero, List.getElem_cons_succ]
                clear hS
                refine wpAnyH_ready (rs := [17]) (by kernel_rfl) (by simp) (AllReadyH.cons rfl (fun K hK => ?_) AllReadyH.nil)
                rw [if_pos (by rfl)]
                go_wp2_with fail
                have hS := hHeld
                clear hHeld
                refine hK.out _ _ hS (fun hHeld => ?_)
                clear hK K
                try simp only [Act.put, List.setIfInBounds_toArray, List.set_cons_zero, List.set_cons_succ, List.getElem_toArray, List.getElem_cons_zero, List.getElem_cons_succ]
                clear hS
                refine wpAnyH_done (by kernel_rfl) ?_ _
                go_wp2_with fail
                go_meet
                exact ⟨rfl, hHeld⟩
              · rw [if_pos (by rfl)]
                go_wp2_with fail
                have HL14 : Hid (U.heap.size ≤ V1.heap.size) := Lib.hid hHeld.size
                have HNE : Hid (V1.heap.size ≠ b13) := Lib.hid (by have := K13.out.lt; omega)
                refine k_over (fun W => Below U.heap.size U W ∧ Bk W V1.heap.size 34 (evC (bareH 0 0)) ∧ Bk W b13 26 (chC ch0)) ⟨hHeld.alloc hHeld.size _, Bk.new _ _ _, K13.out.alloc _⟩ ?_
                obtain ⟨b14, hb⟩ : ∃ b, V1.heap.size = b := ⟨_, rfl⟩
                rw [hb] at HL14 HNE ⊢
                clear hb hHeld K13
                rintro V2 ⟨hS, q2, q4⟩
                have K14 := Lib.hid q2
                have K13 := Lib.hid q4
                clear q2 q4
                refine hK.out _ _ hS (fun hHeld => ?_)
                clear hK K
                try simp only [Act.put, List.setIfInBounds_toArray, List.set_cons_zero, List.set_cons_succ, List.getElem_toArray, List.getElem_cons_zero, List.getElem_cons_succ]
                clear hS
                refine wpAnyH_ready (rs := [8]) (by kernel_rfl) (by simp) (AllReadyH.cons rfl (fun K hK => ?_) AllReadyH.nil)
                rw [if_pos (by rfl)]
                go_wp2_with fail
                refine (rcLink_any ri.c.1 Ak Nk ck rk.bytes V2 ri.c.2 (((HOK.out.bytes).below hHeld (Nat.le_refl _)).more hHeld.size) HNK.out HOK.out.cap.1 HOK.out.cap.2 ((HK.out.below H.out.hb).below hHeld) (Tabs.later15 (Tabs.later15 HT.out H.out.hb) hHeld)).mono ?_
                rintro e V3 ⟨H4, rfl, hv, hin4, hbc⟩
                rw [HLE.out]
                have hS := hHeld.trans (hbc.mono hHeld.size)
                have K13b := Lib.hid (K13.out.below hbc K13.out.lt)
                have K14b := Lib.hid (K14.out.below hbc K14.out.lt)
                clear hv hin4 hbc hHeld K13 K14
                refine hK.out _ _ hS (fun hHeld => ?_)
                clear hK K
                try simp only [Act.put, List.setIfInBounds_toArray, List.set_cons_zero, List.set_cons_succ, List.getElem_toArray, List.getElem_cons_zero, List.getElem_cons_succ]
                clear hS
                refine wpAnyH_take (i := 9) (v := .tuple #[.agg (chC (linkC ri.c.1 rk.bytes)), .agg (evC H4), .int .i64 (le : Int)]) rfl (by kernel_rfl) (by kernel_rfl) (by kernel_rfl) (fun _ _ _ h => h) (Or.inl ⟨by rfl, fun w0 hC => by simp [execOp, Act.eval, Act.put, go_sem]⟩) hHeld ?_
                try simp only [Act.put, List.setIfInBounds_toArray, List.set_cons_zero, List.set_cons_succ, List.getElem_toArray, List.getElem_cons_zero, List.getElem_cons_succ]
                refine wpAnyH_take (i := 10) (v := .agg (chC (linkC ri.c.1 rk.bytes))) rfl (by kernel_rfl) (by kernel_rfl) (by kernel_rfl) (fun _ _ _ h => h) (Or.inl ⟨by rfl, fun w0 hC => by simp [execOp, Act.eval, Act.put, go_sem]⟩) hHeld ?_
                try simp only [Act.put, List.setIfInBounds_toArray, List.set_cons_zero, List.set_cons_succ, List.getElem_toArray, List.getElem_cons_zero, List.getElem_cons_succ]
                refine wpAnyH_take (i := 11) (v := .agg (evC H4)) rfl (by kernel_rfl) (by kernel_rfl) (by kernel_rfl) (fun _ _ _ h => h) (Or.inl ⟨by rfl, fun w0 hC => by simp [execOp, Act.eval, Act.put, go_sem]⟩) hHeld ?_
                try simp only [Act.put, List.setIfInBounds_toArray, List.set_cons_zero, List.set_cons_succ, List.getElem_toArray, List.getElem_cons_zero, List.getElem_cons_succ]
                refine wpAnyH_take (i := 12) (v := .int .i64 (le : Int)) rfl (by kernel_rfl) (by kernel_rfl) (by kernel_rfl) (fun _ _ _ h => h) (Or.inl ⟨by rfl, fun w0 hC => by simp [execOp, Act.eval, Act.put, go_sem]⟩) hHeld ?_
                try simp only [Act.put, List.setIfInBounds_toArray, List.set_cons_zero, List.set_cons_succ, List.getElem_toArray, List.getElem_cons_zero, List.getElem_cons_succ]
                have K13 := K13b
                clear K13b
                have K14 := K14b
                clear K14b
                have HYO : Hid (linkC ri.c.1 rk.bytes).Ok := Lib.hid (by unfold linkC; split; exact grownC_ok _ _; exact ch0_ok)
                obtain ⟨Y, hY⟩ : ∃ Y, linkC ri.c.1 rk.bytes = Y := ⟨_, rfl⟩
                rw [hY] at HYO ⊢
                clear hY
                refine wpAnyH_ready (rs := [15]) (by kernel_rfl) (by simp) (AllReadyH.cons rfl (fun K hK => ?_) AllReadyH.nil)
                rw [if_pos (by rfl)]
                have hS := below_setRow hHeld HL13.out (chC Y)
                have K14b := Lib.hid (K14.out.setRow_other HNE.out (chC Y))
                refine wp_skip (exec_store15 rfl rfl rfl K13.out (by rw [chC_size HYO.out]; rfl) (info_ch' HYO.out) (chC_one _)) ?_
                clear hHeld K13 K14
                refine hK.out _ _ hS (fun hHeld => ?_)
                clear hK K
                try simp only [Act.put, List.setIfInBounds_toArray, List.set_cons_zero, List.set_cons_succ, List.getElem_toArray, List.getElem_cons_zero, List.getElem_cons_succ]
                clear hS
                refine wpAnyH_ready (rs := [16]) (by kernel_rfl) (by simp) (AllReadyH.cons rfl (fun K hK => ?_) AllReadyH.nil)
                rw [if_pos (by rfl)]
                have hS := below_setRow hHeld HL14.out (evC H4)
                refine wp_skip (exec_store15 rfl rfl rfl K14b.out (by rw [evC_size, evC_size]) (by rw [evC_size]; exact info_ev) (evC_one _)) ?_
                clear hHeld K14b
                refine hK.out _ _ hS (fun hHeld => ?_)
                clear hK K
                try simp only [Act.put, List.setIfInBounds_toArray, List.set_cons_zero, List.set_cons_succ, List.getElem_toArray, List.getElem_cons_zero, List.getElem_cons_succ]
                clear hS
                refine wpAnyH_ready (rs := [17]) (by kernel_rfl) (by simp) (AllReadyH.cons rfl (fun K hK => ?_) AllReadyH.nil)
                rw [if_pos (by rfl)]
                go_wp2_with fail
                have hS := hHeld
                clear hHeld
                refine hK.out _ _ hS (fun hHeld => ?_)
                clear hK K
                try simp only [Act.put, List.setIfInBounds_toArray, List.set_cons_zero, List.set_cons_succ, List.getElem_toArray, List.getElem_cons_zero, List.getElem_cons_succ]
                clear hS
                refine wpAnyH_done (by kernel_rfl) ?_ _
                go_wp2_with fail
                go_meet
                exact ⟨rfl, hHeld⟩
            · rw [if_pos (by rfl)]
              go_wp2_with fail
              have HL14 : Hid (U.heap.size ≤ V0.heap.size) := Lib.hid hHeld.size
              refine k_over (fun W => Below U.heap.size U W ∧ Bk W V0.heap.size 34 (evC (bareH 0 0))) ⟨hHeld.alloc hHeld.size _, Bk.new _ _ _⟩ ?_
              obtain ⟨b14, hb⟩ : ∃ b, V0.heap.size = b := ⟨_, rfl⟩
              rw [hb] at HL14 ⊢
              clear hb hHeld
              rintro V1 ⟨hS, q2⟩
              have K14 := Lib.hid q2
              clear q2
              refine hK.out _ _ hS (fun hHeld => ?_)
              clear hK K
              try simp only [Act.put, List.setIfInBounds_toArray, List.set_cons_zero, List.set_cons_succ, List.getElem_toArray, List.getElem_cons_zero, List.getElem_cons_succ]
              clear hS
              refine wpAnyH_ready (rs := [8, 13]) (by kernel_rfl) (by simp) (AllReadyH.cons rfl (fun K hK => ?_) (AllReadyH.cons rfl (fun K hK => ?_) AllReadyH.nil))
              · rw [if_pos (by rfl)]
                go_wp2_with fail
                refine (rcLink_any ri.c.1 Ak Nk ck rk.bytes V1 ri.c.2 (((HOK.out.bytes).below hHeld (Nat.le_refl _)).more hHeld.size) HNK.out HOK.out.cap.1 HOK.out.cap.2 ((HK.out.below H.out.hb).below hHeld) (Tabs.later15 (Tabs.later15 HT.out H.out.hb) hHeld)).mono ?_
                rintro e V2 ⟨H4, rfl, hv, hin4, hbc⟩
                rw [HLE.out]
                have hS := hHeld.trans (hbc.mono hHeld.size)
                have K14b := Lib.hid (K14.out.below hbc K14.out.lt)
                clear hv hin4 hbc hHeld K14
                refine hK.out _ _ hS (fun hHeld => ?_)
                clear hK K
                try simp only [Act.put, List.setIfInBounds_toArray, List.set_cons_zero, List.set_cons_succ, List.getElem_toArray, List.getElem_cons_zero, List.getElem_cons_succ]
                clear hS
                refine wpAnyH_take (i := 9) (v := .tuple #[.agg (chC (linkC ri.c.1 rk.bytes)), .agg (evC H4), .int .i64 (le : Int)]) rfl (by kernel_rfl) (by kernel_rfl) (by kernel_rfl) (fun _ _ _ h => h) (Or.inl ⟨by rfl, fun w0 hC => by simp [execOp, Act.eval, Act.put, go_sem]⟩) hHeld ?_
                try simp only [Act.put, List.setIfInBounds_toArray, List.set_cons_zero, List.set_cons_succ, List.getElem_toArray, List.getElem_cons_zero, List.getElem_cons_succ]
                refine wpAnyH_take (i := 10) (v := .agg (chC (linkC ri.c.1 rk.bytes))) rfl (by kernel_rfl) (by kernel_rfl) (by kernel_rfl) (fun _ _ _ h => h) (Or.inl ⟨by rfl, fun w0 hC => by simp [execOp, Act.eval, Act.put, go_sem]⟩) hHeld ?_
                try simp only [Act.put, List.setIfInBounds_toArray, List.set_cons_zero, List.set_cons_succ, List.getElem_toArray, List.getElem_cons_zero, List.getElem_cons_succ]
                refine wpAnyH_take (i := 11) (v := .agg (evC H4)) rfl (by kernel_rfl) (by kernel_rfl) (by kernel_rfl) (fun _ _ _ h => h) (Or.inl ⟨by rfl, fun w0 hC => by simp [execOp, Act.eval, Act.put, go_sem]⟩) hHeld ?_
                try simp only [Act.put, List.setIfInBounds_toArray, List.set_cons_zero, List.set_cons_succ, List.getElem_toArray, List.getElem_cons_zero, List.getElem_cons_succ]
                refine wpAnyH_take (i := 12) (v := .int .i64 (le : Int)) rfl (by kernel_rfl) (by kernel_rfl) (by kernel_rfl) (fun _ _ _ h => h) (Or.inl ⟨by rfl, fun w0 hC => by simp [execOp, Act.eval, Act.put, go_sem]⟩) hHeld ?_
                try simp only [Act.put, List.setIfInBounds_toArray, List.set_cons_zero, List.set_cons_succ, List.getElem_toArray, List.getElem_cons_zero, List.getElem_cons_succ]
                have K14 := K14b
                clear K14b
                refine wpAnyH_ready (rs := [13]) (by kernel_rfl) (by simp) (AllReadyH.cons rfl (fun K hK => ?_) AllReadyH.nil)
                rw [if_pos (by rfl)]
                go_wp2_with fail
                have HL13 : Hid (U.heap.size ≤ V2.heap.size) := Lib.hid hHeld.size
                have HNE : Hid (b14 ≠ V2.heap.size) := Lib.hid (by have := K14.out.lt; omega)
                refine k_over (fun W => Below U.heap.size U W ∧ Bk W V2.heap.size 26 (chC ch0) ∧ Bk W b14 34 (evC (bareH 0 0))) ⟨hHeld.alloc hHeld.size _, Bk.new _ _ _, K14.out.alloc _⟩ ?_
                obtain ⟨b13, hb⟩ : ∃ b, V2.heap.size = b := ⟨_, rfl⟩
                rw [hb] at HL13 HNE ⊢
                clear hb hHeld K14
                rintro V3 ⟨hS, q2, q4⟩
                have K13 := Lib.hid q2
                have K14 := Lib.hid q4
                clear q2 q4
                refine hK.out _ _ hS (fun hHeld => ?_)
                clear hK K
                try simp only [Act.put, List.setIfInBounds_toArray, List.set_cons_zero, List.set_cons_succ, List.getElem_toArray, List.getElem_cons_zero, List.getElem_cons_succ]
                clear hS
                have HYO : Hid (linkC ri.c.1 rk.bytes).Ok := Lib.hid (by unfold linkC; split; exact grownC_ok _ _; exact ch0_ok)
                obtain ⟨Y, hY⟩ : ∃ Y, linkC ri.c.1 rk.bytes = Y := ⟨_, rfl⟩
                rw [hY] at HYO ⊢
                clear hY
                refine wpAnyH_ready (rs := [15]) (by kernel_rfl) (by simp) (AllReadyH.cons rfl (fun K hK => ?_) AllReadyH.nil)
                rw [if_pos (by rfl)]
                have hS := below_setRow hHeld HL13.out (chC Y)
                have K14b := Lib.hid (K14.out.setRow_other HNE.out (chC Y))
                refine wp_skip (exec_store15 rfl rfl rfl K13.out (by rw [chC_size HYO.out]; rfl) (info_ch' HYO.out) (chC_one _)) ?_
                clear hHeld K13 K14
                refine hK.out _ _ hS (fun hHeld => ?_)
                clear hK K
                try simp only [Act.put, List.setIfInBounds_toArray, List.set_cons_zero, List.set_cons_succ, List.getElem_toArray, List.getElem_cons_zero, List.getElem_cons_succ]
                clear hS
                refine wpAnyH_ready (rs := [16]) (by kernel_rfl) (by simp) (AllReadyH.cons rfl (fun K hK => ?_) AllReadyH.nil)
                rw [if_pos (by rfl)]
                have hS := below_setRow hHeld HL14.out (evC H4)
                refine wp_skip (exec_store15 rfl rfl rfl K14b.out (by rw [evC_size, evC_size]) (by rw [evC_size]; exact info_ev) (evC_one _)) ?_
                clear hHeld K14b
                refine hK.out _ _ hS (fun hHeld => ?_)
                clear hK K
                try simp only [Act.put, List.setIfInBounds_toArray, List.set_cons_zero, List.set_cons_succ, List.getElem_toArray, List.getElem_cons_zero, List.getElem_cons_succ]
                clear hS
                refine wpAnyH_ready (rs := [17]) (by kernel_rfl) (by simp) (AllReadyH.cons rfl (fun K hK => ?_) AllReadyH.nil)
                rw [if_pos (by rfl)]
                go_wp2_with fail
                have hS := hHeld
                clear hHeld
                refine hK.out _ _ hS (fun hHeld => ?_)
                clear hK K
                try simp only [Act.put, List.setIfInBounds_toArray, List.set_cons_zero, List.set_cons_succ, List.getElem_toArray, List.getElem_cons_zero, List.getElem_cons_succ]
                clear hS
                refine wpAnyH_done (by kernel_rfl) ?_ _
                go_wp2_with fail
                go_meet
                exact ⟨rfl, hHeld⟩
              · rw [if_pos (by rfl)]
                go_wp2_with fail
                have HL13 : Hid (U.heap.size ≤ V1.heap.size) := Lib.hid hHeld.size
                have HNE : Hid (b14 ≠ V1.heap.size) := Lib.hid (by have := K14.out.lt; omega)
                refine k_over (fun W => Below U.heap.size U W ∧ Bk W V1.heap.size 26 (chC ch0) ∧ Bk W b14 34 (evC (bareH 0 0))) ⟨hHeld.alloc hHeld.size _, Bk.new _ _ _, K14.out.alloc _⟩ ?_
                obtain ⟨b13, hb⟩ : ∃ b, V1.heap.size = b := ⟨_, rfl⟩
                rw [hb] at HL13 HNE ⊢
                clear hb hHeld K14
                rintro V2 ⟨hS, q2, q4⟩
                have K13 := Lib.hid q2
                have K14 := Lib.hid q4
                clear q2 q4
                refine hK.out _ _ hS (fun hHeld => ?_)
                clear hK K
                try simp only [Act.put, List.setIfInBounds_toArray, List.set_cons_zero, List.set_cons_succ, List.getElem_toArray, List.getElem_cons_zero, List.getElem_cons_succ]
                clear hS
                refine wpAnyH_ready (rs := [8]) (by kernel_rfl) (by simp) (AllReadyH.cons rfl (fun K hK => ?_) AllReadyH.nil)
                rw [if_pos (by rfl)]
                go_wp2_with fail
                refine (rcLink_any ri.c.1 Ak Nk ck rk.bytes V2 ri.c.2 (((HOK.out.bytes).below hHeld (Nat.le_refl _)).more hHeld.size) HNK.out HOK.out.cap.1 HOK.out.cap.2 ((HK.out.below H.out.hb).below hHeld) (Tabs.later15 (Tabs.later15 HT.out H.out.hb) hHeld)).mono ?_
                rintro e V3 ⟨H4, rfl, hv, hin4, hbc⟩
                rw [HLE.out]
                have hS := hHeld.trans (hbc.mono hHeld.size)
                have K13b := Lib.hid (K13.out.below hbc K13.out.lt)
                have K14b := Lib.hid (K14.out.below hbc K14.out.lt)
                clear hv hin4 hbc hHeld K13 K14
                refine hK.out _ _ hS (fun hHeld => ?_)
                clear hK K
                try simp only [Act.put, List.setIfInBounds_toArray, List.set_cons_zero, List.set_cons_succ, List.getElem_toArray, List.getElem_cons_zero, List.getElem_cons_succ]
                clear hS
                refine wpAnyH_take (i := 9) (v := .tuple #[.agg (chC (linkC ri.c.1 rk.bytes)), .agg (evC H4), .int .i64 (le : Int)]) rfl (by kernel_rfl) (by kernel_rfl) (by kernel_rfl) (fun _ _ _ h => h) (Or.inl ⟨by rfl, fun w0 hC => by simp [execOp, Act.eval, Act.put, go_sem]⟩) hHeld ?_
                try simp only [Act.put, List.setIfInBounds_toArray, List.set_cons_zero, List.set_cons_succ, List.getElem_toArray, List.getElem_cons_zero, List.getElem_cons_succ]
                refine wpAnyH_take (i := 10) (v := .agg (chC (linkC ri.c.1 rk.bytes))) rfl (by kernel_rfl) (by kernel_rfl) (by kernel_rfl) (fun _ _ _ h => h) (Or.inl ⟨by rfl, fun w0 hC => by simp [execOp, Act.eval, Act.put, go_sem]⟩) hHeld ?_
                try simp only [Act.put, List.setIfInBounds_toArray, List.set_cons_zero, List.set_cons_succ, List.getElem_toArray, List.getElem_cons_zero, List.getElem_cons_succ]
                refine wpAnyH_take (i := 11) (v := .agg (evC H4)) rfl (by kernel_rfl) (by kernel_rfl) (by kernel_rfl) (fun _ _ _ h => h) (Or.inl ⟨by rfl, fun w0 hC => by simp [execOp, Act.eval, Act.put, go_sem]⟩) hHeld ?_
                try simp only [Act.put, List.setIfInBounds_toArray, List.set_cons_zero, List.set_cons_succ, List.getElem_toArray, List.getElem_cons_zero, List.getElem_cons_succ]
                refine wpAnyH_take (i := 12) (v := .int .i64 (le : Int)) rfl (by kernel_rfl) (by kernel_rfl) (by kernel_rfl) (fun _ _ _ h => h) (Or.inl ⟨by rfl, fun w0 hC => by simp [execOp, Act.eval, Act.put, go_sem]⟩) hHeld ?_
                try simp only [Act.put, List.setIfInBounds_toArray, List.set_cons_zero, List.set_cons_succ, List.getElem_toArray, List.getElem_cons_zero, List.getElem_cons_succ]
                have K13 := K13b
                clear K13b
                have K14 := K14b
                clear K14b
                have HYO : Hid (linkC ri.c.1 rk.bytes).Ok := Lib.hid (by unfold linkC; split; exact grownC_ok _ _; exact ch0_ok)
                obtain ⟨Y, hY⟩ : ∃ Y, linkC ri.c.1 rk.bytes = Y := ⟨_, rfl⟩
                rw [hY] at HYO ⊢
                clear hY
                refine wpAnyH_ready (rs := [15]) (by kernel_rfl) (by simp) (AllReadyH.cons rfl (fun K hK => ?_) AllReadyH.nil)
                rw [if_pos (by rfl)]
                have hS := below_setRow hHeld HL13.out (chC Y)
                have K14b := Lib.hid (K14.out.setRow_other HNE.out (chC Y))
                refine wp_skip (exec_store15 rfl rfl rfl K13.out (by rw [chC_size HYO.out]; rfl) (info_ch' HYO.out) (chC_one _)) ?_
                clear hHeld K13 K14
                refine hK.out _ _ hS (fun hHeld => ?_)
                clear hK K
                try simp only [Act.put, List.setIfInBounds_toArray, List.set_cons_zero, List.set_cons_succ, List.getElem_toArray, List.getElem_cons_zero, List.getElem_cons_succ]
                clear hS
                refine wpAnyH_ready (rs := [16]) (by kernel_rfl) (by simp) (AllReadyH.cons rfl (fun K hK => ?_) AllReadyH.nil)
                rw [if_pos (by rfl)]
                have hS := below_setRow hHeld HL14.out (evC H4)
                refine wp_skip (exec_store15 rfl rfl rfl K14b.out (by rw [evC_size, evC_size]) (by rw [evC_size]; exact info_ev) (evC_one _)) ?_
                clear hHeld K14b
                refine hK.out _ _ hS (fun hHeld => ?_)
                clear hK K
                try simp only [Act.put, List.setIfInBounds_toArray, List.set_cons_zero, List.set_cons_succ, List.getElem_toArray, List.getElem_cons_zero, List.getElem_cons_succ]
                clear hS
                refine wpAnyH_ready (rs := [17]) (by kernel_rfl) (by simp) (AllReadyH.cons rfl (fun K hK => ?_) AllReadyH.nil)
                rw [if_pos (by rfl)]
                go_wp2_with fail
                have hS := hHeld
                clear hHeld
                refine hK.out _ _ hS (fun hHeld => ?_)
                clear hK K
                try simp only [Act.put, List.setIfInBounds_toArray, List.set_cons_zero, List.set_cons_succ, List.getElem_toArray, List.getElem_cons_zero, List.getElem_cons_succ]
                clear hS
                refine wpAnyH_done (by kernel_rfl) ?_ _
                go_wp2_with fail
                go_meet
                exact ⟨rfl, hHeld⟩
          case rest =>
          obtain ⟨rfl, hbw⟩ := hcut
          generalize wc = U2 at *
          have H3 := Lib.hid (H.out.next hbw)
          clear hbw H HR7 HC6 HOK
          by_cases hik : i2 = kk
          · have h1 : (((le : Nat) : Int) == 0) = true := by rw [HOD.out]; exact decide_eq_true hik
            have h2 : ((i2 : Int) == (kk : Int)) = true := by rw [hik]; simp
            have hb50 : (i2 : Int) ≤ 50 := by have := HI2.out; have := HM50.out; omega
            clear hik
            go_wp2_with fail
            go_roundw
            case rel => exact ⟨i2 + 1, HI2.out, by go_num, H3.out⟩
            case measure => simp [intOf]; have := HI2.out; omega
          · have h1 : (((le : Nat) : Int) == 0) = false := by rw [HOD.out]; exact decide_eq_false hik
            have h2 : ((i2 : Int) == (kk : Int)) = false := by simp; omega
            have hb50 : (i2 : Int) ≤ 50 := by have := HI2.out; have := HM50.out; omega
            clear hik
            go_wp2_with fail
            go_roundw
            case rel => exact ⟨i2 + 1, HI2.out, by go_num, H3.out⟩
            case measure => simp [intOf]; have := HI2.out; omega
        · have hml : ¬ (i2 : Int) < (m : Int) := by omega
          go_wp2_with fail
          go_ret
          exact ⟨rfl, H.out.hb⟩
end Go.Proofs.YtoiffchhfnbooaaDoor
