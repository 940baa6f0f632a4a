/-
  Contracts over layer 15: the document's Read.
-/
import Derived.Test.YtoiffchhfnbooaaGreatDoorQRecD
import Derived.Test.YtoiffchhfnbooaaGreatDoorQEventO
import Derived.Test.YtoiffchhfnbooaaGreatDoorQPackFail
import Derived.Deep.DeepCutAuto
import Derived.Deep.QuietTactic
import Derived.BigQuiet
import Derived.IntWalk
namespace Go.Proofs.YtoiffchhfnbooaaGreatDoor
set_option linter.unusedVariables false
set_option linter.unusedSimpArgs false
open Go.RowKit
set_option linter.unusedVariables false
set_option linter.unusedSimpArgs false
/-- the reader stands -/
def RcAtR (w : World) (g : Nat) (r : List Nat) (er : Nat) (W : World) : Prop := RdBx w W ∧ RdR W g w.heap.size r er
theorem RcAtR.next {w W W' : World} {g er : Nat} {r : List Nat} (d : RcAtR w g r er W) (hb : Below W.heap.size W W') : RcAtR w g r er W' := ⟨d.1.next hb, d.2.belowE hb d.2.lt d.1.2.2.size⟩
theorem RcAtR.grown {w W W' : World} {g er er' : Nat} {r r' : List Nat} (d : RcAtR w g r er W) (hs : StoodR g w.heap.size r' er' W W') (hg : w.heap.size + 1 < g) : RcAtR w g r' er' W' := ⟨d.1.grown hs.2 hg, hs.1⟩
theorem head_step {l : List Nat} {j : Nat} (hj : j < 32) (hl : 32 ≤ l.length) : (l.take j ++ List.replicate (32 - j) 0).set j (byteAt l j) = l.take (j + 1) ++ List.replicate (32 - (j + 1)) 0 := by
  have h1 : (l.take j).length = j := by rw [List.length_take]; omega
  obtain ⟨m, hm⟩ : ∃ m, 32 - j = m + 1 := ⟨31 - j, by omega⟩
  rw [List.set_append_right _ _ (by omega), h1, Nat.sub_self, hm, List.replicate_succ, List.set_cons_zero, take_snoc' l j (by omega), List.append_assoc, show 32 - (j + 1) = m by omega]
  rfl
theorem chC_set {c : Ch} (hc : c.Ok) {j : Nat} (hj : j < 32) (x : Nat) : (chC c).setIfInBounds j (.int .u8 (x : Int)) = chC ⟨c.head.set j x, c.count⟩ := by
  unfold chC
  rw [List.setIfInBounds_toArray, List.set_append_left _ _ (by rw [List.length_map, hc.1]; exact hj), List.map_set]
  rfl
/-- what holds at the head of a round -/
def HdAt (w : World) (b7 b9 : Nat) (H : Eh) (l : List Nat) (z : Int) (j : Nat) (W : World) : Prop :=
  RdBx w W ∧ Bk W b7 29 (evC H) ∧ EvIn W b7 H ∧ Bk W b9 24 (chC ⟨l.take j ++ List.replicate (32 - j) 0, z⟩)
theorem built_ev0 : Tryz.prog.built 29 [] = some (evC (bareH 0 0)) := by kernel_rfl
set_option maxRecDepth 100000 in
set_option maxHeartbeats 8000000 in
theorem xrRead_any (A : Option Addr) (n k : Nat) (l : List Nat) (w : World) (hl : Bytes w w.heap.size A n l) (hn : n ≤ 140737488355328) (hnk : n ≤ k) (hk : k ≤ maxLen) : Calls Tryz.prog 14 #[.slice A n k] w (RcdIs l w) := by
  have hmx : Tryz.prog.follows .mixedOrders = true := by kernel_rfl
  have HL := Lib.hid hl
  have HN := Lib.hid hn
  have HNK := Lib.hid hnk
  have HKM := Lib.hid hk
  have H256 := Lib.hid hl.2.1
  have HLN : Hid (l.length = n) := Lib.hid hl.1
  clear hl hn hnk hk
  go_enter Tryz.func14, Tryz.ntmps14
  by_cases h32 : (n : Int) < 32
  · have HE : Hid (readE l = 2) := Lib.hid (readE_short (by rw [HLN.out]; omega))
    have HCC : Hid (readC l = ch0) := Lib.hid (readC_no (by rw [HE.out]; decide))
    have HV : Hid (readV l = bare 0 0) := Lib.hid (readV_no (by rw [HE.out]; decide))
    go_wp2_with ((with_reducible show wpList _ _ _ (⟨some 14, _, _, _, _, _⟩ :: _) _ _); refine hold ?_)
    refine held (list_overE (fun W => RdBx w W) (RdBx.new w) ?_)
    rintro W q
    have Q := Lib.hid q
    clear q
    refine hold ?_
    go_wp2_with ((with_reducible show wpList _ _ _ (⟨some 14, _, _, _, _, _⟩ :: _) _ _); refine hold ?_)
    refine held (wpList_build_to rfl 24 #[] rfl [] rfl (chC ch0) built_ch0 ?_)
    go_wp2_with ((with_reducible show wpList _ _ _ (⟨none, _, _, _, _, _⟩ :: _) _ _); refine hold ?_)
    refine held (wpList_store_wide rfl 24 (.tmp 2) (.tmp 14) rfl (w.heap.size) 0 (chC ch0) rfl rfl 24 _ Q.out.1 (by rw [Nat.zero_add]; exact Nat.le_refl _) (info_ch' ch0_ok) (chC_one _) ?_)
    intro w10 hw10
    obtain rfl := ch_setRow hw10 ch0_ok ch0_ok
    go_wp2_with ((with_reducible show wpList _ _ _ (⟨none, _, _, _, _, _⟩ :: _) _ _); refine hold ?_)
    refine held (wpList_store_wide rfl 29 (.tmp 3) (.tmp 15) rfl (w.heap.size + 1) 0 (evC (bareH 0 0)) rfl rfl 29 _ (Q.out.2.1.setRow_other (by omega) _) (by rw [evC_size]; decide) (by rw [evC_size]; exact info_ev) (evC_one _) ?_)
    intro w11 hw11
    obtain rfl := w_setRow_allE hw11 (by rw [evC_size])
    go_wp2_with fail
    exact bodyPost_ret (results_cell3b rfl _ _ ⟨w.heap.size, 0, none⟩ ⟨w.heap.size + 1, 0, none⟩ _ _ _ rfl rfl rfl (Bk.ch ((Bk.setRow_same Q.out.1 _).setRow_other (by omega) _) ch0_ok) (Bk.ev (Bk.setRow_same (Q.out.2.1.setRow_other (by omega) _) _))) rfl ⟨bareH 0 0, by rw [HE.out, HCC.out] <;> rfl, by rw [HV.out]; rfl, EvFar.bare _ _ _ _, below_setRow (below_setRow Q.out.2.2 (by omega) _) (by omega) _⟩
  have H32 : Hid (¬ l.length < 32 ∧ 32 ≤ n) := Lib.hid ⟨by rw [HLN.out]; omega, by omega⟩
  obtain ⟨ab, ao, rfl, hab, hcell⟩ := HL.out.2.2 (by have := H32.out; omega)
  clear hab hcell
  go_wp2_with ((with_reducible show wpList _ _ _ (⟨some 17, _, _, _, _, _⟩ :: _) _ _); refine hold ?_)
  refine held (list_overE (fun W => RdBx w W) (RdBx.new w) ?_)
  rintro W q
  have Q := Lib.hid q
  clear q
  refine wpList_from15 rfl (.tmp 16) (.const (.int .i64 32)) 27 5 rfl Tryz.underlying27 ch_size_u8 (some ⟨ab, ao, none⟩) n k 32 w.heap.size l rfl rfl (HL.out.below Q.out.2.2 (Nat.le_refl _)) H32.out.2 HNK.out ?_
  intro A5 c5 h51 h52 hby
  have HDL : Hid ((l.drop 32).length = n - 32 ∧ (l.drop 32).length ≤ 140737488355328 ∧ ∀ x ∈ l.drop 32, x < 256) := Lib.hid ⟨by rw [List.length_drop, HLN.out], by rw [List.length_drop, HLN.out]; have := HN.out; omega, fun x hx => H256.out x (List.mem_of_mem_drop hx)⟩
  have HBY := Lib.hid hby
  have H51 : Hid (n - 32 ≤ c5 ∧ c5 ≤ maxLen ∧ n - 32 ≤ 140737488355328) := Lib.hid ⟨h51, Nat.le_trans h52 HKM.out, by have := HN.out; omega⟩
  clear h51 h52 hby
  go_wp2_with fail
  refine calls_overE (fun W' => RcAtR w W.heap.size (l.drop 32) 0 W') ⟨Q.out.next ((Below.refl _ _).alloc (Nat.le_refl _) _), A5, n - 32, c5, Bk.new _ _ _, H51.out.1, H51.out.2.1, H51.out.2.2, HBY.out.below ((Below.refl _ _).alloc (Nat.le_refl _) _) Q.out.2.2.size⟩ ?_
  obtain ⟨g, hg⟩ : ∃ g, W.heap.size = g := ⟨_, rfl⟩
  have HG : Hid (w.heap.size + 1 < g) := Lib.hid (by rw [← hg]; exact Q.out.2.1.lt)
  rw [hg]
  clear hg Q HBY H51
  rintro W4 q
  have S := Lib.hid q
  clear q W
  have HGB : Hid (w.heap.size ≤ g) := Lib.hid (by have := HG.out; omega)
  refine (rNum_any g w.heap.size 0 (l.drop 32) W4 S.out.2 HGB.out).mono ?_
  rintro e W5 ⟨rfl, hs5⟩
  have T := Lib.hid (S.out.grown hs5 HG.out)
  clear hs5 S
  obtain ⟨v, hv⟩ : ∃ v, numV (l.drop 32) 0 = v := ⟨_, rfl⟩
  have HVN : Hid (numR l = v) := Lib.hid hv
  rw [hv]
  clear hv
  obtain ⟨er, her⟩ : ∃ er, numE (l.drop 32) 0 = er := ⟨_, rfl⟩
  have HER := Lib.hid her
  rw [her] at T
  clear her
  go_upto_region 5 with (fail)
  go_cut [] (fun wx => RcAtR w g (restR l) (errR l) wx)
  case first =>
    by_cases h1 : (v : Int) < 1
    case pos =>
      have HBD : Hid (errR l = failE er true) := Lib.hid (by unfold errR; rw [HER.out]; congr 1; unfold badR; rw [HVN.out, decide_eq_true (show v < 1 by omega)]; rfl)
      go_wp2_with fail
      refine (rFailK_any g w.heap.size er true _ W5 T.out.2 HGB.out).mono ?_
      rintro e W6 ⟨rfl, hs6⟩
      have U := Lib.hid (T.out.grown hs6 HG.out)
      clear hs6 T
      go_wp2_with fail
      go_meet
      rw [HBD.out]
      exact U.out
    by_cases h2 : (1099511627776 : Int) < (v : Int)
    case pos =>
      have HBD : Hid (errR l = failE er true) := Lib.hid (by unfold errR; rw [HER.out]; congr 1; unfold badR; rw [HVN.out, decide_eq_true (show 1099511627776 < v by omega), Bool.or_true])
      go_wp2_with fail
      refine (rFailK_any g w.heap.size er true _ W5 T.out.2 HGB.out).mono ?_
      rintro e W6 ⟨rfl, hs6⟩
      have U := Lib.hid (T.out.grown hs6 HG.out)
      clear hs6 T
      go_wp2_with fail
      go_meet
      rw [HBD.out]
      exact U.out
    have HBD : Hid (errR l = failE er false) := Lib.hid (by unfold errR; rw [HER.out]; congr 1; unfold badR; rw [HVN.out, decide_eq_false (show ¬ v < 1 by omega), decide_eq_false (show ¬ 1099511627776 < v by omega)]; rfl)
    go_wp2_with fail
    refine (rFailK_any g w.heap.size er false _ W5 T.out.2 HGB.out).mono ?_
    rintro e W6 ⟨rfl, hs6⟩
    have U := Lib.hid (T.out.grown hs6 HG.out)
    clear hs6 T
    go_wp2_with fail
    go_meet
    rw [HBD.out]
    exact U.out
  case rest =>
  clear T
  generalize wc = W6 at *
  have S := Lib.hid hcut
  clear hcut
  obtain ⟨er2, her2⟩ : ∃ er2, errR l = er2 := ⟨_, rfl⟩
  have HE2 := Lib.hid her2
  rw [her2] at S
  clear her2
  obtain ⟨A7, n7, c7, h71, h72, h73, h74, h75, k0, k1, -, -, -, -⟩ := S.out.2.open_ HGB.out
  have HB7 := Lib.hid h74
  have H7 : Hid (n7 ≤ c7 ∧ c7 ≤ maxLen ∧ n7 ≤ 140737488355328) := Lib.hid ⟨h71, h72, h73⟩
  clear h71 h72 h73 h74 h75
  by_cases he : er2 = 0
  case neg =>
    have HE : Hid (readE l = er2) := Lib.hid (by rw [readE_err H32.out.1 (by rw [HE2.out]; exact he), HE2.out])
    have HCC : Hid (readC l = ch0) := Lib.hid (readC_no (by rw [HE.out]; exact he))
    have HV : Hid (readV l = bare 0 0) := Lib.hid (readV_no (by rw [HE.out]; exact he))
    have hne : (((er2 : Nat) : Int) != 0) = true := by simpa using he
    clear he
    go_wp2_with fail
    have E := Lib.hid S.out.1.drew
    have HK1 := Lib.hid k1
    clear S k0 k1 hne
    refine wp_region_held_drew (S := fun W' => W'.cell? ⟨g, 1, none⟩ = some (.int .i64 (er2 : Int))) hmx HK1.out (fun hHeld => ?_)
    generalize hW0 : W6.drew = W1b at *
    clear hW0 HK1
    simp only [List.size_toArray, List.length_cons, List.length_nil, Nat.reduceAdd]
    refine wpAnyH_take (i := 0) (v := .agg (chC ch0)) rfl (by kernel_rfl) (by kernel_rfl) (by kernel_rfl) (fun _ _ _ h => h) (Or.inl ⟨by rfl, fun w0 hC => exec_build15 rfl rfl built_ch0⟩) hHeld ?_
    try simp only [Act.put, List.setIfInBounds_toArray, List.set_cons_zero, List.set_cons_succ, List.getElem_toArray, List.getElem_cons_zero, List.getElem_cons_succ]
    refine wpAnyH_take (i := 1) (v := .agg (evC (bareH 0 0))) rfl (by kernel_rfl) (by kernel_rfl) (by kernel_rfl) (fun _ _ _ h => h) (Or.inl ⟨by rfl, fun w0 hC => exec_build15 rfl rfl built_ev0⟩) hHeld ?_
    try simp only [Act.put, List.setIfInBounds_toArray, List.set_cons_zero, List.set_cons_succ, List.getElem_toArray, List.getElem_cons_zero, List.getElem_cons_succ]
    refine wpAnyH_take (i := 2) (v := .pointer (some ⟨g, 0, none⟩)) rfl (by kernel_rfl) (by kernel_rfl) (by kernel_rfl) (fun _ _ _ h => h) (Or.inl ⟨by rfl, fun w0 hC => by simp [execOp, Act.eval, Act.put, go_sem]⟩) hHeld ?_
    try simp only [Act.put, List.setIfInBounds_toArray, List.set_cons_zero, List.set_cons_succ, List.getElem_toArray, List.getElem_cons_zero, List.getElem_cons_succ]
    refine wpAnyH_take (i := 3) (v := .pointer (some ⟨g, 0, none⟩)) rfl (by kernel_rfl) (by kernel_rfl) (by kernel_rfl) (fun _ _ _ h => h) (Or.inl ⟨by rfl, fun w0 hC => by simp [execOp, Act.eval, Act.put, go_sem]⟩) hHeld ?_
    try simp only [Act.put, List.setIfInBounds_toArray, List.set_cons_zero, List.set_cons_succ, List.getElem_toArray, List.getElem_cons_zero, List.getElem_cons_succ]
    refine wpAnyH_take (i := 4) (v := .pointer (some ⟨g, 1, none⟩)) rfl (by kernel_rfl) (by kernel_rfl) (by kernel_rfl) (fun _ _ _ h => h) (Or.inl ⟨by rfl, fun w0 hC => by simp [execOp, Act.eval, Act.put, go_sem]⟩) hHeld ?_
    try simp only [Act.put, List.setIfInBounds_toArray, List.set_cons_zero, List.set_cons_succ, List.getElem_toArray, List.getElem_cons_zero, List.getElem_cons_succ]
    refine wpAnyH_take (i := 5) (v := .int .i64 (er2 : Int)) rfl (by kernel_rfl) (by kernel_rfl) (by kernel_rfl) (fun _ _ _ h => h) (Or.inl ⟨by rfl, fun w0 hC => by simp [execOp, Act.eval, Act.put, go_sem, hC]⟩) hHeld ?_
    try simp only [Act.put, List.setIfInBounds_toArray, List.set_cons_zero, List.set_cons_succ, List.getElem_toArray, List.getElem_cons_zero, List.getElem_cons_succ]
    refine wpAnyH_ready (rs := [6]) (by kernel_rfl) (by simp) (AllReadyH.cons rfl (fun K hK => ?_) AllReadyH.nil)
    rw [if_pos (by rfl)]
    refine wp_skip (exec_store15 rfl rfl rfl E.out.1 rfl (info_ch' ch0_ok) (chC_one _)) ?_
    have hS : (W1b.setRow w.heap.size (chC ch0)).cell? ⟨g, 1, none⟩ = some (.int .i64 (er2 : Int)) := (cell_setRow_other15 _ (by have := HG.out; omega)).trans hHeld
    have F1 := Lib.hid (E.out.1.setRow_same (chC ch0))
    have F2 := Lib.hid (E.out.2.1.setRow_other (show w.heap.size + 1 ≠ w.heap.size by omega) (chC ch0))
    have F3 := Lib.hid (below_setRow E.out.2.2 (Nat.le_refl _) (chC ch0))
    clear hHeld E
    refine hK.out _ _ hS (fun hHeld => ?_)
    clear hK K
    try simp only [Act.put, List.setIfInBounds_toArray, List.set_cons_zero, List.set_cons_succ, List.getElem_toArray, List.getElem_cons_zero, List.getElem_cons_succ]
    clear hS
    generalize W1b.setRow w.heap.size (chC ch0) = W2b at *
    refine wpAnyH_ready (rs := [7]) (by kernel_rfl) (by simp) (AllReadyH.cons rfl (fun K hK => ?_) AllReadyH.nil)
    rw [if_pos (by rfl)]
    refine wp_skip (exec_store15 rfl rfl rfl F2.out rfl (by rw [evC_size]; exact info_ev) (evC_one _)) ?_
    have hS : (W2b.setRow (w.heap.size + 1) (evC (bareH 0 0))).cell? ⟨g, 1, none⟩ = some (.int .i64 (er2 : Int)) := (cell_setRow_other15 _ (by have := HG.out; omega)).trans hHeld
    have G1 := Lib.hid (F1.out.setRow_other (show w.heap.size ≠ w.heap.size + 1 by omega) (evC (bareH 0 0)))
    have G2 := Lib.hid (F2.out.setRow_same (evC (bareH 0 0)))
    have G3 := Lib.hid (below_setRow F3.out (Nat.le_succ _) (evC (bareH 0 0)))
    clear hHeld F1 F2 F3
    refine hK.out _ _ hS (fun hHeld => ?_)
    clear hK K
    try simp only [Act.put, List.setIfInBounds_toArray, List.set_cons_zero, List.set_cons_succ, List.getElem_toArray, List.getElem_cons_zero, List.getElem_cons_succ]
    clear hS
    refine wpAnyH_ready (rs := [8]) (by kernel_rfl) (by simp) (AllReadyH.cons rfl (fun K hK => ?_) AllReadyH.nil)
    rw [if_pos (by rfl)]
    go_wp2_with fail
    have hS := hHeld
    clear hHeld
    refine hK.out _ _ hS (fun hHeld => ?_)
    clear hK K
    try simp only [Act.put, List.setIfInBounds_toArray, List.set_cons_zero, List.set_cons_succ, List.getElem_toArray, List.getElem_cons_zero, List.getElem_cons_succ]
    clear hS
    refine wpAnyH_done (by kernel_rfl) ?_ _
    go_wp2_with fail
    exact bodyPost_ret (results_cell3b rfl _ _ ⟨w.heap.size, 0, none⟩ ⟨w.heap.size + 1, 0, none⟩ _ _ _ rfl rfl rfl (Bk.ch G1.out ch0_ok) (Bk.ev G2.out)) rfl ⟨bareH 0 0, by rw [HE.out, HCC.out]; rfl, by rw [HV.out]; rfl, EvFar.bare _ _ _ _, G3.out⟩
  subst he
  have H0 := Lib.hid (errR_0 HE2.out)
  go_wp2_with fail
  refine (xeDecode_far A7 n7 c7 (restR l) W6 (HB7.out.more S.out.1.2.2.size) H7.out.2.2 H7.out.1 H7.out.2.1).mono ?_
  rintro e W8 ⟨H, rfl, hv, hin, hb⟩
  have U := Lib.hid (S.out.1.next hb)
  have HVV := Lib.hid hv
  have HI := Lib.hid hin
  have HB6 : Hid (w.heap.size + 1 < W6.heap.size) := Lib.hid S.out.1.2.1.lt
  clear hv hin hb S HB7 k0 k1
  obtain ⟨dz, hdz⟩ : ∃ dz, decE (restR l) = dz := ⟨_, rfl⟩
  have HDZ := Lib.hid hdz
  rw [hdz]
  clear hdz
  go_wp2_with ((with_reducible show wpList _ _ _ (⟨none, _, _, _, _, _⟩ :: _) _ _); refine hold ?_)
  refine held (wpList_store_wide rfl 29 (.tmp 7) (.tmp 47) rfl W8.heap.size 0 (evC H) rfl rfl 29 (evC (bareH 0 0)) (Bk.new W8 29 (evC (bareH 0 0))) (by rw [evC_size, evC_size]; decide) (by rw [evC_size]; exact info_ev) (evC_one _) ?_)
  intro W9 hw9
  have hw9' := w_setRow_allE hw9 (by rw [evC_size, evC_size])
  have hb9 : Below W8.heap.size W8 W9 := by rw [hw9']; exact below_setRow ((Below.refl _ _).alloc (Nat.le_refl _) _) (Nat.le_refl _) _
  have hk10 : Bk W9 W8.heap.size 29 (evC H) := by rw [hw9']; exact (Bk.new W8 29 (evC (bareH 0 0))).setRow_same _
  have S := Lib.hid (U.out.next hb9)
  have SI := Lib.hid (HI.out.inn.below hb9 (Nat.le_refl _))
  have HAW := Lib.hid (And.intro HI.out.a1 (And.intro HI.out.a2 HI.out.a3))
  have S10 := Lib.hid hk10
  have HB10 : Hid (w.heap.size + 1 < W8.heap.size) := Lib.hid U.out.2.1.lt
  obtain ⟨b7, hb7⟩ : ∃ b, W8.heap.size = b := ⟨_, rfl⟩
  rw [hb7] at S10 HB10 SI ⊢
  clear hb7 hw9 hw9' hb9 hk10 U HI
  by_cases hz : dz = 0
  case neg =>
    have HE : Hid (readE l = dz) := Lib.hid (by rw [readE_dec H32.out.1 HE2.out, HDZ.out])
    have HCC : Hid (readC l = ch0) := Lib.hid (readC_no (by rw [HE.out]; exact hz))
    have HV : Hid (readV l = bare 0 0) := Lib.hid (readV_no (by rw [HE.out]; exact hz))
    have hne : (((dz : Nat) : Int) != 0) = true := by simpa using hz
    clear hz
    go_wp2_with ((with_reducible show wpList _ _ _ (⟨some 51, _, _, _, _, _⟩ :: _) _ _); refine hold ?_)
    refine held (wpList_build_to rfl 24 #[] rfl [] rfl (chC ch0) built_ch0 ?_)
    go_wp2_with ((with_reducible show wpList _ _ _ (⟨none, _, _, _, _, _⟩ :: _) _ _); refine hold ?_)
    refine held (wpList_store_wide rfl 24 (.tmp 2) (.tmp 51) rfl (w.heap.size) 0 (chC ch0) rfl rfl 24 _ S.out.1 (by rw [Nat.zero_add]; exact Nat.le_refl _) (info_ch' ch0_ok) (chC_one _) ?_)
    intro w10 hw10
    obtain rfl := ch_setRow hw10 ch0_ok ch0_ok
    go_wp2_with ((with_reducible show wpList _ _ _ (⟨none, _, _, _, _, _⟩ :: _) _ _); refine hold ?_)
    refine held (wpList_store_wide rfl 29 (.tmp 3) (.tmp 52) rfl (w.heap.size + 1) 0 (evC (bareH 0 0)) rfl rfl 29 _ (S.out.2.1.setRow_other (by omega) _) (by rw [evC_size]; decide) (by rw [evC_size]; exact info_ev) (evC_one _) ?_)
    intro w11 hw11
    obtain rfl := w_setRow_allE hw11 (by rw [evC_size])
    go_wp2_with fail
    exact bodyPost_ret (results_cell3b rfl _ _ ⟨w.heap.size, 0, none⟩ ⟨w.heap.size + 1, 0, none⟩ _ _ _ rfl rfl rfl (Bk.ch ((Bk.setRow_same S.out.1 _).setRow_other (by omega) _) ch0_ok) (Bk.ev (Bk.setRow_same (S.out.2.1.setRow_other (by omega) _) _))) rfl ⟨bareH 0 0, by rw [HE.out, HCC.out] <;> rfl, by rw [HV.out]; rfl, EvFar.bare _ _ _ _, below_setRow (below_setRow S.out.2.2 (by omega) _) (by omega) _⟩
  subst hz
  have HE : Hid (readE l = 0) := Lib.hid (by rw [readE_dec H32.out.1 HE2.out, HDZ.out])
  have HCC : Hid (readC l = ⟨l.take 32, (v : Int) - 1⟩) := Lib.hid (by rw [readC_yes HE.out, HVN.out])
  have HV : Hid (readV l = H.e) := Lib.hid (by rw [readV_yes HE.out, HVV.out])
  have hv1 : 1 ≤ (v : Int) := by have := H0.out.2.1; rw [HVN.out] at this; omega
  have hv2 : (v : Int) ≤ 1099511627776 := by have := H0.out.2.2; rw [HVN.out] at this; omega
  go_wp2_with ((with_reducible show wpList _ _ _ (⟨some 56, _, _, _, _, _⟩ :: _) _ _); refine hold ?_)
  refine held (wpList_build_to rfl 24 #[(1, .tmp 55)] rfl [(1, .int .i64 ((v : Int) - 1))] rfl (chC ⟨List.replicate 32 0, (v : Int) - 1⟩) (built_ch1 _) ?_)
  clear hv1 hv2
  go_wp2_with ((with_reducible show wpList _ _ _ (⟨none, _, _, _, _, _⟩ :: _) _ _); refine hold ?_)
  obtain ⟨z, hzz⟩ : ∃ z, (v : Int) - 1 = z := ⟨_, rfl⟩
  rw [hzz] at HCC ⊢
  clear hzz
  have HOK0 : Hid ((⟨List.replicate 32 0, z⟩ : Ch).Ok) := Lib.hid ⟨rfl, fun x hx => by have := List.eq_of_mem_replicate hx; omega⟩
  refine held (wpList_store_wide rfl 24 (.tmp 9) (.tmp 56) rfl W9.heap.size 0 (chC ⟨List.replicate 32 0, z⟩) rfl rfl 24 (chC ch0) (Bk.new W9 24 (chC ch0)) (by rw [chC_size HOK0.out]; exact Nat.le_refl _) (info_ch' HOK0.out) (chC_one _) ?_)
  intro W10 hw10
  obtain ⟨q1, q2⟩ := ch_new HOK0.out hw10
  have R : Hid (HdAt w b7 W9.heap.size H l z 0 W10) := Lib.hid ⟨S.out.next q2, S10.out.below q2 S10.out.lt, SI.out.below q2 (Nat.le_of_lt S10.out.lt), by rw [List.take_zero, List.nil_append]; exact q1⟩
  have HB9 : Hid (b7 < W9.heap.size) := Lib.hid S10.out.lt
  obtain ⟨b9, hb9⟩ : ∃ b, W9.heap.size = b := ⟨_, rfl⟩
  rw [hb9] at R HB9 ⊢
  clear hb9 hw10 q1 q2 S S10 SI HOK0
  go_wp2_with fail
  go_loopw [10] (fun i wx => ∃ j : Nat, j ≤ 32 ∧ i = .int .i64 (j : Int) ∧ HdAt w b7 b9 H l z j wx) (fun i _ => 32 - (intOf i).toNat)
  case atStart => exact ⟨0, Nat.zero_le _, rfl, R.out⟩
  case round =>
    obtain ⟨j, hj, rfl, hr⟩ := hrel
    have HR := Lib.hid hr
    clear hr R
    by_cases hlt : j < 32
    · obtain ⟨ab', ao', hA, hab', hby⟩ := (HL.out.below HR.out.1.2.2 (Nat.le_refl _)).at_ (show j < n by have := H32.out; omega)
      injection hA with hA
      injection hA with hA1 hA2
      subst hA1
      subst hA2
      have HJ := Lib.hid hlt
      have hj0 : (0 : Int) ≤ (j : Int) := by omega
      have hj1 : (j : Int) < 32 := by omega
      have hj2 : (j : Int) < (n : Int) := by have := H32.out; omega
      have hOK : (⟨l.take j ++ List.replicate (32 - j) 0, z⟩ : Ch).Ok := ⟨by rw [List.length_append, List.length_take, List.length_replicate, HLN.out]; have := H32.out; omega, fun x hx => by
        rcases List.mem_append.1 hx with h | h
        · exact H256.out x (List.mem_of_mem_take h)
        · have := List.eq_of_mem_replicate h; omega⟩
      have k9 : wr.cell? ⟨b9, j, none⟩ = some (.int .u8 ((byteAt (l.take j ++ List.replicate (32 - j) 0) j : Nat) : Int)) := (HR.out.2.2.2.cell j).trans (chC_at hOK hlt)
      have f9 : wr.frozen? ⟨b9, j, none⟩ = false := HR.out.2.2.2.frozen j
      have R2 : Hid (HdAt w b7 b9 H l z (j + 1) (wr.setCell ⟨b9, j, none⟩ (.int .u8 ((byteAt l j : Nat) : Int)))) := Lib.hid (by
        refine ⟨⟨HR.out.1.1.far (by show w.heap.size ≠ b9; have := HB9.out; have := HB10.out; omega) _, HR.out.1.2.1.far (by show w.heap.size + 1 ≠ b9; have := HB9.out; have := HB10.out; omega) _, HR.out.1.2.2.setCell (by show w.heap.size ≤ b9; have := HB9.out; have := HB10.out; omega) _⟩, HR.out.2.1.far (by show b7 ≠ b9; have := HB9.out; omega) _, ?_, ?_⟩
        · exact HR.out.2.2.1.below ((Below.refl b9 wr).setCell (Nat.le_refl _) _) (Nat.le_of_lt HB9.out)
        · have h1 := HR.out.2.2.2.put j (.int .u8 ((byteAt l j : Nat) : Int))
          rw [chC_set hOK hlt] at h1
          simp only at h1
          rw [head_step hlt (by have := H32.out; omega)] at h1
          exact h1)
      clear hOK hlt HR hab'
      go_wp2_with fail
      go_roundw
      case rel => exact ⟨j + 1, by have := HJ.out; omega, by go_num, R2.out⟩
      case measure => simp [intOf]; have := HJ.out; omega
    · obtain rfl : j = 32 := by omega
      have E := Lib.hid HR.out.1.drew
      have K7 := HR.out.2.1
      have hz0 : 32 - 32 = 0 := rfl
      have K9 : Bk wr b9 24 (chC ⟨l.take 32, z⟩) := by
        have h1 := HR.out.2.2.2
        rw [Nat.sub_self, List.replicate_zero, List.append_nil] at h1
        exact h1
      obtain ⟨hd, hhd⟩ : ∃ hd, l.take 32 = hd := ⟨_, rfl⟩
      have HOK : Hid ((⟨hd, z⟩ : Ch).Ok) := Lib.hid ⟨by rw [← hhd, List.length_take, HLN.out]; exact Nat.min_eq_left H32.out.2, fun x hx => by rw [← hhd] at hx; exact H256.out x (List.mem_of_mem_take hx)⟩
      rw [hhd] at K9 HCC
      have EI : Hid (EvFar wr.drew W6.heap.size H) := Lib.hid ⟨(HR.out.2.2.1.more (Nat.le_of_lt HR.out.2.1.lt)).later (Below.refl _ _).drew, HAW.out.1, HAW.out.2.1, HAW.out.2.2⟩
      clear hhd hz0 hlt hj
      go_wp2_with fail
      refine wp_region_held_drew (S := fun W' => Bk W' b9 24 (chC ⟨hd, z⟩) ∧ Bk W' b7 29 (evC H)) hmx ⟨K9.drew, K7.drew⟩ (fun hHeld => ?_)
      clear K9 K7 HR
      generalize hW0 : wr.drew = W1b at *
      clear hW0
      simp only [List.size_toArray, List.length_cons, List.length_nil, Nat.reduceAdd]
      refine wpAnyH_take (i := 0) (v := .agg (chC ⟨hd, z⟩)) rfl (by kernel_rfl) (by kernel_rfl) (by kernel_rfl) (fun _ _ _ h => h) (Or.inl ⟨by rfl, fun w0 hC => exec_load rfl rfl hC.1.range Tryz.underlying24 rfl (info_ch' HOK.out)⟩) hHeld ?_
      try simp only [Act.put, List.setIfInBounds_toArray, List.set_cons_zero, List.set_cons_succ, List.getElem_toArray, List.getElem_cons_zero, List.getElem_cons_succ]
      refine wpAnyH_take (i := 1) (v := .agg (evC H)) rfl (by kernel_rfl) (by kernel_rfl) (by kernel_rfl) (fun _ _ _ h => h) (Or.inl ⟨by rfl, fun w0 hC => exec_load rfl rfl hC.2.range Tryz.underlying29 rfl (by rw [evC_size]; exact info_ev)⟩) hHeld ?_
      try simp only [Act.put, List.setIfInBounds_toArray, List.set_cons_zero, List.set_cons_succ, List.getElem_toArray, List.getElem_cons_zero, List.getElem_cons_succ]
      refine wpAnyH_ready (rs := [2]) (by kernel_rfl) (by simp) (AllReadyH.cons rfl (fun K hK => ?_) AllReadyH.nil)
      rw [if_pos (by rfl)]
      refine wp_skip (exec_store15 rfl rfl rfl E.out.1 (by rw [chC_size HOK.out]; rfl) (info_ch' HOK.out) (chC_one _)) ?_
      have hS : Bk (W1b.setRow w.heap.size (chC ⟨hd, z⟩)) b9 24 (chC ⟨hd, z⟩) ∧ Bk (W1b.setRow w.heap.size (chC ⟨hd, z⟩)) b7 29 (evC H) := ⟨hHeld.1.setRow_other (by have := HB9.out; have := HB10.out; omega) _, hHeld.2.setRow_other (by have := HB10.out; omega) _⟩
      have F1 := Lib.hid (E.out.1.setRow_same (chC ⟨hd, z⟩))
      have F2 := Lib.hid (E.out.2.1.setRow_other (show w.heap.size + 1 ≠ w.heap.size by omega) (chC ⟨hd, z⟩))
      have F3 := Lib.hid (below_setRow E.out.2.2 (Nat.le_refl _) (chC ⟨hd, z⟩))
      have F4 := Lib.hid (EI.out.kept (grownBy_setRow E.out.1 (chC ⟨hd, z⟩)) (by have := HB6.out; omega))
      clear hHeld E EI
      refine hK.out _ _ hS (fun hHeld => ?_)
      clear hK K
      try simp only [Act.put, List.setIfInBounds_toArray, List.set_cons_zero, List.set_cons_succ, List.getElem_toArray, List.getElem_cons_zero, List.getElem_cons_succ]
      clear hS
      generalize W1b.setRow w.heap.size (chC ⟨hd, z⟩) = W2b at *
      refine wpAnyH_ready (rs := [3]) (by kernel_rfl) (by simp) (AllReadyH.cons rfl (fun K hK => ?_) AllReadyH.nil)
      rw [if_pos (by rfl)]
      refine wp_skip (exec_store15 rfl rfl rfl F2.out (by rw [evC_size, evC_size]) (by rw [evC_size]; exact info_ev) (evC_one _)) ?_
      have hS : Bk (W2b.setRow (w.heap.size + 1) (evC H)) b9 24 (chC ⟨hd, z⟩) ∧ Bk (W2b.setRow (w.heap.size + 1) (evC H)) b7 29 (evC H) := ⟨hHeld.1.setRow_other (by have := HB9.out; have := HB10.out; omega) _, hHeld.2.setRow_other (by have := HB10.out; omega) _⟩
      have G1 := Lib.hid (F1.out.setRow_other (show w.heap.size ≠ w.heap.size + 1 by omega) (evC H))
      have G2 := Lib.hid (F2.out.setRow_same (evC H))
      have G3 := Lib.hid (below_setRow F3.out (Nat.le_succ _) (evC H))
      have G4 := Lib.hid ((F4.out.kept (grownBy_setRow F2.out (evC H)) HB6.out).mono (base' := w.heap.size) (by have := HB6.out; omega))
      clear hHeld F1 F2 F3 F4
      refine hK.out _ _ hS (fun hHeld => ?_)
      clear hK K
      try simp only [Act.put, List.setIfInBounds_toArray, List.set_cons_zero, List.set_cons_succ, List.getElem_toArray, List.getElem_cons_zero, List.getElem_cons_succ]
      clear hS
      refine wpAnyH_ready (rs := [4]) (by kernel_rfl) (by simp) (AllReadyH.cons rfl (fun K hK => ?_) AllReadyH.nil)
      rw [if_pos (by rfl)]
      go_wp2_with fail
      have hS := hHeld
      clear hHeld
      refine hK.out _ _ hS (fun hHeld => ?_)
      clear hK K
      try simp only [Act.put, List.setIfInBounds_toArray, List.set_cons_zero, List.set_cons_succ, List.getElem_toArray, List.getElem_cons_zero, List.getElem_cons_succ]
      clear hS
      refine wpAnyH_done (by kernel_rfl) ?_ _
      go_wp2_with fail
      exact bodyPost_ret (results_cell3b rfl _ _ ⟨w.heap.size, 0, none⟩ ⟨w.heap.size + 1, 0, none⟩ _ _ _ rfl rfl rfl (Bk.ch G1.out HOK.out) (Bk.ev G2.out)) rfl ⟨H, by rw [HE.out, HCC.out]; rfl, HV.out.symm, G4.out, G3.out⟩
end Go.Proofs.YtoiffchhfnbooaaGreatDoor
