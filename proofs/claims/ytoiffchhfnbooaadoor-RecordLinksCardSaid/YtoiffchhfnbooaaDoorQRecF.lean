/-
  Contracts over layer 15: the program's Link.
-/
import Derived.Test.YtoiffchhfnbooaaDoorQRecD
import Derived.Test.YtoiffchhfnbooaaDoorQRecB
import Derived.Deep.DeepCutAuto
import Derived.Deep.QuietTactic
import Derived.BigQuiet
import Derived.IntWalk
namespace Go.Proofs.YtoiffchhfnbooaaDoor
set_option linter.unusedVariables false
set_option linter.unusedSimpArgs false
open Go.RowKit
set_option linter.unusedVariables false
set_option linter.unusedSimpArgs false
def LinkIs (c : Ch) (l : List Nat) (w : World) (e : Ending) (w' : World) : Prop :=
  ∃ H, e = .returned (.tuple #[.agg (chC (linkC c l)), .agg (evC H), .int .i64 ((linkE c l : Nat) : Int)]) ∧ H.e = linkV c l ∧ EvFar w' w.heap.size H ∧ Below w.heap.size w w'
/-- the three boxes of a call of Link -/
def LkBx (w : World) (c : Ch) (W : World) : Prop := Bk W w.heap.size 26 (chC c) ∧ Bk W (w.heap.size + 1) 26 (chC ch0) ∧ Bk W (w.heap.size + 1 + 1) 34 (evC (bareH 0 0)) ∧ Below w.heap.size w W
theorem LkBx.next {w W W' : World} {c : Ch} (d : LkBx w c W) (hb : Below W.heap.size W W') : LkBx w c W' := ⟨d.1.below hb d.1.lt, d.2.1.below hb d.2.1.lt, d.2.2.1.below hb d.2.2.1.lt, d.2.2.2.trans (hb.mono d.2.2.2.size)⟩
theorem LkBx.drew {w W : World} {c : Ch} (d : LkBx w c W) : LkBx w c W.drew := d.next (Below.refl _ _).drew
set_option maxRecDepth 100000 in
set_option maxHeartbeats 8000000 in
theorem rcLink_any (c : Ch) (A : Option Addr) (n k : Nat) (l : List Nat) (w : World) (hc : c.Ok) (hl : Bytes w w.heap.size A n l) (hn : n ≤ 1000000) (hnk : n ≤ k) (hk : k ≤ maxLen) (hK : Kinds w) (ht : Tabs w) : Calls Tryd.prog 7 #[.agg (chC c), .slice A n k] w (LinkIs c l w) := by
  have hmx : Tryd.prog.follows .mixedOrders = true := by kernel_rfl
  have HC := Lib.hid hc
  have HL := Lib.hid hl
  have HN : Hid (n ≤ 1000000 ∧ n ≤ 140737488355328) := Lib.hid ⟨hn, by omega⟩
  have HNK := Lib.hid hnk
  have HKM := Lib.hid hk
  have HK := Lib.hid hK
  have HT := Lib.hid ht
  have HRO := Lib.hid (readC_ok hl.2.1)
  clear hc hl hn hnk hk hK ht
  go_enter Tryd.func7, Tryd.ntmps7
  go_wp2_with fail
  refine calls_overE (fun W => LkBx w c W) ⟨((Bk.new _ _ _).alloc _).alloc _, (Bk.new2 _ _ _ _).alloc _, Bk.new3 _ _ _ _ _, (((Below.refl _ _).alloc (Nat.le_refl _) _).alloc (by simp) _).alloc (by simp; omega) _⟩ ?_
  rintro W q
  have Q := Lib.hid q
  clear q
  refine (rcRead_any A n k l W (HL.out.later Q.out.2.2.2) HN.out.2 HNK.out HKM.out (HK.out.below Q.out.2.2.2)).mono ?_
  rintro e W1 ⟨H, rfl, hv, hin, hb⟩
  have R := Lib.hid (Q.out.next hb)
  have HBW : Hid (w.heap.size + 1 + 1 < W.heap.size) := Lib.hid Q.out.2.2.1.lt
  have HI := Lib.hid hin
  have HV0 := Lib.hid hv
  clear hv hin hb Q
  obtain ⟨x, hx⟩ : ∃ x, readC l = x := ⟨_, rfl⟩
  have HX := Lib.hid hx
  rw [hx] at HRO ⊢
  clear hx
  obtain ⟨er, her⟩ : ∃ er, readE l = er := ⟨_, rfl⟩
  have HER := Lib.hid her
  rw [her]
  clear her
  go_wp2_with ((with_reducible show wpList _ _ _ (⟨none, _, _, _, _, _⟩ :: _) _ _); refine hold ?_)
  refine held (wpList_store_wide rfl 26 (.tmp 7) (.tmp 13) rfl W1.heap.size 0 (chC x) rfl rfl 26 (chC ch0) ((Bk.new W1 26 (chC ch0)).alloc _) (by rw [chC_size HRO.out]; exact Nat.le_refl _) (info_ch' HRO.out) (chC_one _) ?_)
  intro W2 hw2
  have hk2 : Bk W2 (W1.heap.size + 1) 34 (evC (bareH 0 0)) := by rw [ch_setRow hw2 ch0_ok HRO.out]; exact (Bk.new2 _ _ _ _).setRow_other (by omega) _
  go_wp2_with ((with_reducible show wpList _ _ _ (⟨none, _, _, _, _, _⟩ :: _) _ _); refine hold ?_)
  refine held (wpList_store_wide rfl 34 (.tmp 8) (.tmp 14) rfl (W1.heap.size + 1) 0 (evC H) rfl rfl 34 _ hk2 (by rw [evC_size, evC_size]; decide) (by rw [evC_size]; exact info_ev) (evC_one _) ?_)
  intro W3 hw3
  obtain ⟨k7, k8, -, hb⟩ := che_new HRO.out rfl HI.out.inn hw2 hw3
  have Q := Lib.hid (R.out.next hb)
  have QI := Lib.hid (HI.out.below hb)
  have K7 := Lib.hid k7
  have K8 := Lib.hid k8
  have HB7 : Hid (w.heap.size + 1 + 1 < W1.heap.size) := Lib.hid R.out.2.2.1.lt
  clear k7 k8 hb hw2 hw3 hk2 R HI
  obtain ⟨b7, hb7⟩ : ∃ b, W1.heap.size = b := ⟨_, rfl⟩
  rw [hb7] at K7 K8 HB7 ⊢
  clear hb7
  by_cases he : er = 0
  case neg =>
    have HLK := Lib.hid (linkE_err (c := c) (l := l) (by rw [HER.out]; exact he))
    have HE : Hid (linkE c l = er) := Lib.hid (by rw [HLK.out.1, HER.out])
    have HCC : Hid (linkC c l = ch0) := Lib.hid HLK.out.2.1
    have HV : Hid (linkV c l = bare 0 0) := Lib.hid HLK.out.2.2
    have hne : (((er : Nat) : Int) != 0) = true := by simpa using he
    have S := Lib.hid Q.out.2
    clear he Q
    go_wp2_with ((with_reducible show wpList _ _ _ (⟨some 18, _, _, _, _, _⟩ :: _) _ _); refine hold ?_)
    refine held (wpList_build_to rfl 26 #[] rfl [] rfl (chC ch0) built_ch0 ?_)
    go_wp2_with ((with_reducible show wpList _ _ _ (⟨none, _, _, _, _, _⟩ :: _) _ _); refine hold ?_)
    refine held (wpList_store_wide rfl 26 (.tmp 4) (.tmp 18) rfl (w.heap.size + 1) 0 (chC ch0) rfl rfl 26 _ S.out.1 (by rw [Nat.zero_add]; exact Nat.le_refl _) (info_ch' ch0_ok) (chC_one _) ?_)
    intro w10 hw10
    obtain rfl := ch_setRow hw10 ch0_ok ch0_ok
    go_wp2_with ((with_reducible show wpList _ _ _ (⟨none, _, _, _, _, _⟩ :: _) _ _); refine hold ?_)
    refine held (wpList_store_wide rfl 34 (.tmp 5) (.tmp 19) rfl (w.heap.size + 1 + 1) 0 (evC (bareH 0 0)) rfl rfl 34 _ (S.out.2.1.setRow_other (by omega) _) (by rw [evC_size]; decide) (by rw [evC_size]; exact info_ev) (evC_one _) ?_)
    intro w11 hw11
    obtain rfl := w_setRow_allE hw11 (by rw [evC_size])
    go_wp2_with fail
    exact bodyPost_ret (results_cell3b rfl _ _ ⟨w.heap.size + 1, 0, none⟩ ⟨w.heap.size + 1 + 1, 0, none⟩ _ _ _ rfl rfl rfl (Bk.ch ((Bk.setRow_same S.out.1 _).setRow_other (by omega) _) ch0_ok) (Bk.ev (Bk.setRow_same (S.out.2.1.setRow_other (by omega) _) _))) rfl ⟨bareH 0 0, by rw [HE.out, HCC.out] <;> rfl, by rw [HV.out]; rfl, EvFar.bare _ _ _ _, below_setRow (below_setRow S.out.2.2 (by omega) _) (by omega) _⟩
  subst he
  obtain ⟨q, hq⟩ : ∃ q, decide (x = c) = q := ⟨_, rfl⟩
  have hneq : ∀ W, (binOp .neq 26 (.agg (chC x)) (.agg (chC c))).run Tryd.prog W = .ok (.bool (!q)) W := fun W => by rw [← hq]; exact run_neq_ch W x c HRO.out HC.out
  have HQ := Lib.hid hq
  clear hq
  go_wp2_with ((with_reducible show wpList _ _ _ (⟨some 21, _, _, _, _, _⟩ :: _) _ _); refine hold ?_)
  refine held (wpList_load_mid rfl 26 (.tmp 7) rfl b7 0 rfl _ _ K7.out.range Tryd.underlying26 rfl (info_chl HRO.out) ?_)
  refine wpList_load_mid rfl 26 (.tmp 2) rfl w.heap.size 0 rfl _ _ Q.out.1.range Tryd.underlying26 rfl (info_chl HC.out) ?_
  cases q
  case false =>
    have hxc : readC l ≠ c := by rw [HX.out]; exact of_decide_eq_false HQ.out
    have HLK := Lib.hid (linkE_ne (c := c) (l := l) HER.out hxc)
    have HE : Hid (linkE c l = 11) := Lib.hid HLK.out.1
    have HCC : Hid (linkC c l = ch0) := Lib.hid HLK.out.2.1
    have HV : Hid (linkV c l = bare 0 0) := Lib.hid HLK.out.2.2
    have S := Lib.hid Q.out.2
    clear hxc Q
    go_wp2_with ((with_reducible show wpList _ _ _ (⟨some 24, _, _, _, _, _⟩ :: _) _ _); refine hold ?_)
    refine held (wpList_build_to rfl 26 #[] rfl [] rfl (chC ch0) built_ch0 ?_)
    go_wp2_with ((with_reducible show wpList _ _ _ (⟨none, _, _, _, _, _⟩ :: _) _ _); refine hold ?_)
    refine held (wpList_store_wide rfl 26 (.tmp 4) (.tmp 24) rfl (w.heap.size + 1) 0 (chC ch0) rfl rfl 26 _ S.out.1 (by rw [Nat.zero_add]; exact Nat.le_refl _) (info_ch' ch0_ok) (chC_one _) ?_)
    intro w10 hw10
    obtain rfl := ch_setRow hw10 ch0_ok ch0_ok
    go_wp2_with ((with_reducible show wpList _ _ _ (⟨none, _, _, _, _, _⟩ :: _) _ _); refine hold ?_)
    refine held (wpList_store_wide rfl 34 (.tmp 5) (.tmp 25) rfl (w.heap.size + 1 + 1) 0 (evC (bareH 0 0)) rfl rfl 34 _ (S.out.2.1.setRow_other (by omega) _) (by rw [evC_size]; decide) (by rw [evC_size]; exact info_ev) (evC_one _) ?_)
    intro w11 hw11
    obtain rfl := w_setRow_allE hw11 (by rw [evC_size])
    go_wp2_with fail
    exact bodyPost_ret (results_cell3b rfl _ _ ⟨w.heap.size + 1, 0, none⟩ ⟨w.heap.size + 1 + 1, 0, none⟩ _ _ _ rfl rfl rfl (Bk.ch ((Bk.setRow_same S.out.1 _).setRow_other (by omega) _) ch0_ok) (Bk.ev (Bk.setRow_same (S.out.2.1.setRow_other (by omega) _) _))) rfl ⟨bareH 0 0, by rw [HE.out, HCC.out] <;> rfl, by rw [HV.out]; rfl, EvFar.bare _ _ _ _, below_setRow (below_setRow S.out.2.2 (by omega) _) (by omega) _⟩
  case true =>
  have hxc : readC l = c := by rw [HX.out]; exact of_decide_eq_true HQ.out
  have HLK := Lib.hid (linkE_eq (c := c) (l := l) HER.out hxc)
  have HCN := Lib.hid (readC_count HER.out)
  rw [hxc] at HCN
  have HE : Hid (linkE c l = 0) := Lib.hid HLK.out.1
  have HCC : Hid (linkC c l = grownC c l) := Lib.hid HLK.out.2.1
  have HV : Hid (linkV c l = H.e) := Lib.hid (by rw [HLK.out.2.2, ← HV0.out])
  have HGO : Hid ((grownC c l).Ok) := Lib.hid (grownC_ok c l)
  clear hxc
  go_wp2_with fail
  have E := Lib.hid (And.intro Q.out.2.1.drew Q.out.2.2.1.drew)
  have EI := Lib.hid (QI.out.below (Below.refl _ _).drew)
  clear hneq
  refine wp_region_held_drew (S := fun W' => Bk W' w.heap.size 26 (chC c) ∧ Bk W' (b7 + 1) 34 (evC H) ∧ Below w.heap.size w W') hmx ⟨Q.out.1.drew, K8.out.drew, Q.out.2.2.2.drew⟩ (fun hHeld => ?_)
  clear Q K7 K8 QI
  generalize hW0 : W3.drew = W4 at *
  clear hW0
  simp only [List.size_toArray, List.length_cons, List.length_nil, Nat.reduceAdd]
  refine wpAnyH_take (i := 0) (v := .agg (chC c)) rfl (by kernel_rfl) (by kernel_rfl) (by kernel_rfl) (fun _ _ _ h => h) (Or.inl ⟨by rfl, fun w0 hC => exec_load rfl rfl hC.1.range Tryd.underlying26 rfl (info_ch' HC.out)⟩) hHeld ?_
  try simp only [Act.put, List.setIfInBounds_toArray, List.set_cons_zero, List.set_cons_succ, List.getElem_toArray, List.getElem_cons_zero, List.getElem_cons_succ]
  refine wpAnyH_take (i := 1) (v := .slice A n k) rfl (by kernel_rfl) (by kernel_rfl) (by kernel_rfl) (fun _ _ _ h => h) (Or.inl ⟨by rfl, fun w0 hC => by simp [execOp, Act.eval, Act.put, go_sem]⟩) hHeld ?_
  try simp only [Act.put, List.setIfInBounds_toArray, List.set_cons_zero, List.set_cons_succ, List.getElem_toArray, List.getElem_cons_zero, List.getElem_cons_succ]
  refine wpAnyH_take (i := 3) (v := .agg (evC H)) rfl (by kernel_rfl) (by kernel_rfl) (by kernel_rfl) (fun _ _ _ h => h) (Or.inl ⟨by rfl, fun w0 hC => exec_load rfl rfl hC.2.1.range Tryd.underlying34 rfl (by rw [evC_size]; exact info_ev)⟩) hHeld ?_
  try simp only [Act.put, List.setIfInBounds_toArray, List.set_cons_zero, List.set_cons_succ, List.getElem_toArray, List.getElem_cons_zero, List.getElem_cons_succ]
  refine wpAnyH_ready (rs := [2]) (by kernel_rfl) (by simp) (AllReadyH.cons rfl (fun K hK => ?_) AllReadyH.nil)
  rw [if_pos (by rfl)]
  go_wp2_with fail
  refine (rcgrown_any c A n k l W4 HC.out (HL.out.later hHeld.2.2) HN.out.1 HCN.out.1 (Int.le_of_lt HCN.out.2) (Tabs.later15 HT.out hHeld.2.2)).mono ?_
  rintro e W5 ⟨rfl, hb⟩
  have hS := And.intro (hHeld.1.below hb hHeld.1.lt) (And.intro (hHeld.2.1.below hb hHeld.2.1.lt) (hHeld.2.2.trans (hb.mono hHeld.2.2.size)))
  have F := Lib.hid (And.intro (E.out.1.below hb E.out.1.lt) (E.out.2.below hb E.out.2.lt))
  have FI := Lib.hid (EI.out.below hb)
  clear hHeld hb E EI
  refine hK.out _ _ hS (fun hHeld => ?_)
  clear hK K
  try simp only [Act.put, List.setIfInBounds_toArray, List.set_cons_zero, List.set_cons_succ, List.getElem_toArray, List.getElem_cons_zero, List.getElem_cons_succ]
  clear hS
  obtain ⟨y, hy⟩ : ∃ y, grownC c l = y := ⟨_, rfl⟩
  rw [hy] at HGO HCC ⊢
  clear hy
  refine wpAnyH_ready (rs := [4]) (by kernel_rfl) (by simp) (AllReadyH.cons rfl (fun K hK => ?_) AllReadyH.nil)
  rw [if_pos (by rfl)]
  refine wp_skip (exec_store15 rfl rfl rfl F.out.1 (by rw [chC_size HGO.out]; rfl) (info_ch' HGO.out) (chC_one _)) ?_
  have hS : Bk (W5.setRow (w.heap.size + 1) (chC y)) w.heap.size 26 (chC c) ∧ Bk (W5.setRow (w.heap.size + 1) (chC y)) (b7 + 1) 34 (evC H) ∧ Below w.heap.size w (W5.setRow (w.heap.size + 1) (chC y)) := ⟨hHeld.1.setRow_other (by omega) _, hHeld.2.1.setRow_other (by have := HB7.out; omega) _, below_setRow hHeld.2.2 (by omega) _⟩
  have F1 := Lib.hid (F.out.1.setRow_same (chC y))
  have F2 := Lib.hid (F.out.2.setRow_other (show w.heap.size + 1 + 1 ≠ w.heap.size + 1 by omega) (chC y))
  have F4 := Lib.hid (FI.out.kept (grownBy_setRow F.out.1 (chC y)) (by have := HBW.out; omega))
  clear hHeld F FI
  refine hK.out _ _ hS (fun hHeld => ?_)
  clear hK K
  try simp only [Act.put, List.setIfInBounds_toArray, List.set_cons_zero, List.set_cons_succ, List.getElem_toArray, List.getElem_cons_zero, List.getElem_cons_succ]
  clear hS
  generalize W5.setRow (w.heap.size + 1) (chC y) = W6 at *
  refine wpAnyH_ready (rs := [5]) (by kernel_rfl) (by simp) (AllReadyH.cons rfl (fun K hK => ?_) AllReadyH.nil)
  rw [if_pos (by rfl)]
  refine wp_skip (exec_store15 rfl rfl rfl F2.out (by rw [evC_size, evC_size]) (by rw [evC_size]; exact info_ev) (evC_one _)) ?_
  have hS : Bk (W6.setRow (w.heap.size + 1 + 1) (evC H)) w.heap.size 26 (chC c) ∧ Bk (W6.setRow (w.heap.size + 1 + 1) (evC H)) (b7 + 1) 34 (evC H) ∧ Below w.heap.size w (W6.setRow (w.heap.size + 1 + 1) (evC H)) := ⟨hHeld.1.setRow_other (by omega) _, hHeld.2.1.setRow_other (by have := HB7.out; omega) _, below_setRow hHeld.2.2 (by omega) _⟩
  have G1 := Lib.hid (F1.out.setRow_other (show w.heap.size + 1 ≠ w.heap.size + 1 + 1 by omega) (evC H))
  have G2 := Lib.hid (F2.out.setRow_same (evC H))
  have G4 := Lib.hid ((F4.out.kept (grownBy_setRow F2.out (evC H)) HBW.out).mono (base' := w.heap.size) (by have := HBW.out; omega))
  clear hHeld F1 F2 F4
  refine hK.out _ _ hS (fun hHeld => ?_)
  clear hK K
  try simp only [Act.put, List.setIfInBounds_toArray, List.set_cons_zero, List.set_cons_succ, List.getElem_toArray, List.getElem_cons_zero, List.getElem_cons_succ]
  clear hS
  refine wpAnyH_ready (rs := [6]) (by kernel_rfl) (by simp) (AllReadyH.cons rfl (fun K hK => ?_) AllReadyH.nil)
  rw [if_pos (by rfl)]
  go_wp2_with fail
  have hS := hHeld
  clear hHeld
  refine hK.out _ _ hS (fun hHeld => ?_)
  clear hK K
  try simp only [Act.put, List.setIfInBounds_toArray, List.set_cons_zero, List.set_cons_succ, List.getElem_toArray, List.getElem_cons_zero, List.getElem_cons_succ]
  clear hS
  refine wpAnyH_done (by kernel_rfl) ?_ _
  go_wp2_with fail
  exact bodyPost_ret (results_cell3b rfl _ _ ⟨w.heap.size + 1, 0, none⟩ ⟨w.heap.size + 1 + 1, 0, none⟩ _ _ _ rfl rfl rfl (Bk.ch G1.out HGO.out) (Bk.ev G2.out)) rfl ⟨H, by rw [HE.out, HCC.out]; rfl, HV.out.symm, G4.out, hHeld.2.2⟩
end Go.Proofs.YtoiffchhfnbooaaDoor
