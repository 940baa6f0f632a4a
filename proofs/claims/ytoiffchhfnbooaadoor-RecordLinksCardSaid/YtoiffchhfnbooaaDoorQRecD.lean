/-
  Contracts over layer 15: the program's Read.
-/
import Derived.Test.YtoiffchhfnbooaaDoorQRecRows
import Derived.Test.YtoiffchhfnbooaaDoorQEventM
import Derived.Test.YtoiffchhfnbooaaDoorQPackWalksB
import Derived.Test.YtoiffchhfnbooaaDoorQLaid
import Derived.Deep.DeepCutAuto
import Derived.Deep.QuietTactic
import Derived.BigQuiet
import Derived.IntWalk
namespace Go.Proofs.YtoiffchhfnbooaaDoor
set_option linter.unusedVariables false
set_option linter.unusedSimpArgs false
open Go.RowKit
set_option linter.unusedVariables false
set_option linter.unusedSimpArgs false
def RcdIs (l : List Nat) (w : World) (e : Ending) (w' : World) : Prop :=
  ∃ H, e = .returned (.tuple #[.agg (chC (readC l)), .agg (evC H), .int .i64 ((readE l : Nat) : Int)]) ∧ H.e = readV l ∧ EvFar w' w.heap.size H ∧ Below w.heap.size w w'
/-- the two boxes of a call of Read -/
def RdBx (w W : World) : Prop := Bk W w.heap.size 26 (chC ch0) ∧ Bk W (w.heap.size + 1) 34 (evC (bareH 0 0)) ∧ Below w.heap.size w W
theorem RdBx.next {w W W' : World} (d : RdBx w W) (hb : Below W.heap.size W W') : RdBx w W' := ⟨d.1.below hb d.1.lt, d.2.1.below hb d.2.1.lt, d.2.2.trans (hb.mono d.2.2.size)⟩
theorem RdBx.drew {w W : World} (d : RdBx w W) : RdBx w W.drew := d.next (Below.refl _ _).drew
theorem RdBx.new (w : World) : RdBx w ((w.alloc (.cells (chC ch0) 26)).alloc (.cells (evC (bareH 0 0)) 34)) := ⟨(Bk.new _ _ _).alloc _, Bk.new2 _ _ _ _, ((Below.refl _ _).alloc (Nat.le_refl _) _).alloc (by simp) _⟩
theorem RdBx.grown {w W W' : World} {g : Nat} (d : RdBx w W) (hg : W.grownBy W' (some g)) (h : w.heap.size + 1 < g) : RdBx w W' :=
  ⟨d.1.kept hg (by omega), d.2.1.kept hg (by omega), d.2.2.grown hg d.2.2.size (fun k hk => by cases hk; omega)⟩
theorem RdBx.set {w W : World} {g : Nat} (d : RdBx w W) (h : w.heap.size + 1 < g) (cs : Array Value) : RdBx w (W.setRow g cs) := ⟨d.1.setRow_other (by omega) _, d.2.1.setRow_other (by omega) _, below_setRow d.2.2 (by omega) _⟩
/-- the head is copied, the reader stands -/
def RcAt (w : World) (b5 : Nat) (hd : List Nat) (g : Nat) (r : List Nat) (er : Nat) (W : World) : Prop := RdBx w W ∧ Bk W b5 24 (cb hd) ∧ RdP W g r er
theorem RcAt.next {w W W' : World} {b5 g er : Nat} {hd r : List Nat} (d : RcAt w b5 hd g r er W) (hb : Below W.heap.size W W') : RcAt w b5 hd g r er W' := ⟨d.1.next hb, d.2.1.below hb d.2.1.lt, d.2.2.below hb d.2.2.lt⟩
theorem RcAt.grown {w W W' : World} {b5 g er er' : Nat} {hd r r' : List Nat} (d : RcAt w b5 hd g r er W) (hg : W.grownBy W' (some g)) (h : RdP W' g r' er') (hb5 : w.heap.size + 1 < b5 ∧ b5 < g) : RcAt w b5 hd g r' er' W' := ⟨d.1.grown hg (by omega), d.2.1.kept hg (by omega), h⟩
set_option maxRecDepth 100000 in
set_option maxHeartbeats 8000000 in
theorem rcRead_any (A : Option Addr) (n k : Nat) (l : List Nat) (w : World) (hl : Bytes w w.heap.size A n l) (hn : n ≤ 140737488355328) (hnk : n ≤ k) (hk : k ≤ maxLen) (hK : Kinds w) : Calls Tryd.prog 13 #[.slice A n k] w (RcdIs l w) := by
  have hmx : Tryd.prog.follows .mixedOrders = true := by kernel_rfl
  have HL := Lib.hid hl
  have HN := Lib.hid hn
  have HNK := Lib.hid hnk
  have HKM := Lib.hid hk
  have HK := Lib.hid hK
  have H256 := Lib.hid hl.2.1
  have HLN : Hid (l.length = n) := Lib.hid hl.1
  clear hl hn hnk hk hK
  go_enter Tryd.func13, Tryd.ntmps13
  by_cases h32 : (n : Int) < 32
  · have HE : Hid (readE l = 2) := Lib.hid (readE_short (by rw [HLN.out]; omega))
    have HCC : Hid (readC l = ch0) := Lib.hid (readC_no (by rw [HE.out]; decide))
    have HV : Hid (readV l = bare 0 0) := Lib.hid (readV_no (by rw [HE.out]; decide))
    go_wp2_with ((with_reducible show wpList _ _ _ (⟨some 15, _, _, _, _, _⟩ :: _) _ _); refine hold ?_)
    refine held (list_overE (fun W => RdBx w W) (RdBx.new w) ?_)
    rintro W q
    have Q := Lib.hid q
    clear q
    refine hold ?_
    go_wp2_with ((with_reducible show wpList _ _ _ (⟨some 15, _, _, _, _, _⟩ :: _) _ _); refine hold ?_)
    refine held (wpList_build_to rfl 26 #[] rfl [] rfl (chC ch0) built_ch0 ?_)
    go_wp2_with ((with_reducible show wpList _ _ _ (⟨none, _, _, _, _, _⟩ :: _) _ _); refine hold ?_)
    refine held (wpList_store_wide rfl 26 (.tmp 2) (.tmp 15) rfl (w.heap.size) 0 (chC ch0) rfl rfl 26 _ Q.out.1 (by rw [Nat.zero_add]; exact Nat.le_refl _) (info_ch' ch0_ok) (chC_one _) ?_)
    intro w10 hw10
    obtain rfl := ch_setRow hw10 ch0_ok ch0_ok
    go_wp2_with ((with_reducible show wpList _ _ _ (⟨none, _, _, _, _, _⟩ :: _) _ _); refine hold ?_)
    refine held (wpList_store_wide rfl 34 (.tmp 3) (.tmp 16) rfl (w.heap.size + 1) 0 (evC (bareH 0 0)) rfl rfl 34 _ (Q.out.2.1.setRow_other (by omega) _) (by rw [evC_size]; decide) (by rw [evC_size]; exact info_ev) (evC_one _) ?_)
    intro w11 hw11
    obtain rfl := w_setRow_allE hw11 (by rw [evC_size])
    go_wp2_with fail
    exact bodyPost_ret (results_cell3b rfl _ _ ⟨w.heap.size, 0, none⟩ ⟨w.heap.size + 1, 0, none⟩ _ _ _ rfl rfl rfl (Bk.ch ((Bk.setRow_same Q.out.1 _).setRow_other (by omega) _) ch0_ok) (Bk.ev (Bk.setRow_same (Q.out.2.1.setRow_other (by omega) _) _))) rfl ⟨bareH 0 0, by rw [HE.out, HCC.out] <;> rfl, by rw [HV.out]; rfl, EvFar.bare _ _ _ _, below_setRow (below_setRow Q.out.2.2 (by omega) _) (by omega) _⟩
  have H32 : Hid (¬ l.length < 32 ∧ 32 ≤ n) := Lib.hid ⟨by rw [HLN.out]; omega, by omega⟩
  go_wp2_with fail
  refine code_over (fun W => RdBx w W) (RdBx.new w) ?_
  rintro W q
  have Q := Lib.hid q
  clear q
  obtain ⟨ab, ao, rfl, hab, _⟩ := HL.out.2.2 (by have := H32.out; omega)
  have HAB := Lib.hid hab
  obtain ⟨hd, hhd⟩ : ∃ hd, l.take 32 = hd := ⟨_, rfl⟩
  have HHD := Lib.hid hhd
  clear hhd
  have HH32 : Hid (hd.length = 32) := Lib.hid (by rw [← HHD.out, List.length_take, HLN.out]; exact Nat.min_eq_left H32.out.2)
  have HBH : Hid (Bytes w w.heap.size (some ⟨ab, ao, none⟩) 32 hd) := Lib.hid (by rw [← HHD.out]; exact HL.out.to H32.out.2)
  obtain ⟨A5, hA5⟩ : ∃ A5, A5 = (if k = 32 then some ⟨ab, ao, none⟩ else (some ⟨ab, ao, none⟩ : Option Addr).map (·.add 32)) := ⟨_, rfl⟩
  have HL5 : Hid (Bytes w w.heap.size A5 (n - 32) (l.drop 32)) := Lib.hid (by rw [hA5]; exact Bytes.from15 HL.out H32.out.2 HNK.out)
  have HA5 := Lib.hid hA5
  clear hA5 hab
  refine wp_region_held_drew (S := fun W' => RdBx w W') hmx (RdBx.drew Q.out) (fun hHeld => ?_)
  clear Q
  generalize hW0 : W.drew = W1 at *
  clear hW0
  simp only [List.size_toArray, List.length_cons, List.length_nil, Nat.reduceAdd]
  refine wpAnyH_take (i := 0) (v := .slice (some ⟨ab, ao, none⟩) n k) rfl (by kernel_rfl) (by kernel_rfl) (by kernel_rfl) (fun _ _ _ h => h) (Or.inl ⟨by rfl, fun w0 hC => by simp [execOp, Act.eval, Act.put, go_sem]⟩) hHeld ?_
  try simp only [Act.put, List.setIfInBounds_toArray, List.set_cons_zero, List.set_cons_succ, List.getElem_toArray, List.getElem_cons_zero, List.getElem_cons_succ]
  refine wpAnyH_take (i := 1) (v := .pointer (some ⟨ab, ao, none⟩)) rfl (by kernel_rfl) (by kernel_rfl) (by kernel_rfl) (fun _ _ _ h => h) (Or.inl ⟨by rfl, fun w0 hC => exec_arr15 rfl rfl Tryd.underlying24 H32.out.2⟩) hHeld ?_
  try simp only [Act.put, List.setIfInBounds_toArray, List.set_cons_zero, List.set_cons_succ, List.getElem_toArray, List.getElem_cons_zero, List.getElem_cons_succ]
  refine wpAnyH_take (i := 2) (v := .agg (cb hd)) rfl (by kernel_rfl) (by kernel_rfl) (by kernel_rfl) (fun _ _ _ h => h) (Or.inl ⟨by rfl, fun w0 hC => exec_load rfl rfl (HBH.out.range (fun p hp => hC.2.2.cell (by rw [hp]; exact HAB.out))) Tryd.underlying24 rfl (by rw [cb_size, HH32.out]; exact info_h32)⟩) hHeld ?_
  try simp only [Act.put, List.setIfInBounds_toArray, List.set_cons_zero, List.set_cons_succ, List.getElem_toArray, List.getElem_cons_zero, List.getElem_cons_succ]
  refine wpAnyH_take (i := 3) (v := .slice (some ⟨ab, ao, none⟩) n k) rfl (by kernel_rfl) (by kernel_rfl) (by kernel_rfl) (fun _ _ _ h => h) (Or.inl ⟨by rfl, fun w0 hC => by simp [execOp, Act.eval, Act.put, go_sem]⟩) hHeld ?_
  try simp only [Act.put, List.setIfInBounds_toArray, List.set_cons_zero, List.set_cons_succ, List.getElem_toArray, List.getElem_cons_zero, List.getElem_cons_succ]
  refine wpAnyH_take (i := 4) (v := .slice A5 (n - 32) (k - 32)) rfl (by kernel_rfl) (by kernel_rfl) (by kernel_rfl) (fun _ _ _ h => h) (Or.inl ⟨by rfl, fun w0 hC => by rw [HA5.out]; exact exec_from15 rfl Tryd.underlying32 ch_size_u8 rfl rfl H32.out.2 HNK.out⟩) hHeld ?_
  try simp only [Act.put, List.setIfInBounds_toArray, List.set_cons_zero, List.set_cons_succ, List.getElem_toArray, List.getElem_cons_zero, List.getElem_cons_succ]
  refine wpAnyH_ready (rs := [5]) (by kernel_rfl) (by simp) (AllReadyH.cons rfl (fun K hK => ?_) AllReadyH.nil)
  rw [if_pos (by rfl)]
  go_wp2_with fail
  have HB5 : Hid (w.heap.size + 1 < W1.heap.size) := Lib.hid hHeld.2.1.lt
  refine k_over (fun W => RdBx w W ∧ Bk W W1.heap.size 24 (cb (List.replicate 32 0))) ⟨hHeld.next ((Below.refl _ _).alloc (Nat.le_refl _) _), Bk.new _ _ _⟩ ?_
  obtain ⟨b5, hb5⟩ : ∃ b5, W1.heap.size = b5 := ⟨_, rfl⟩
  rw [hb5] at HB5 ⊢
  clear hb5 hHeld
  rintro W2 ⟨hS, q2⟩
  have K5 := Lib.hid q2
  clear q2
  refine hK.out _ _ hS (fun hHeld => ?_)
  clear hK K
  try simp only [Act.put, List.setIfInBounds_toArray, List.set_cons_zero, List.set_cons_succ, List.getElem_toArray, List.getElem_cons_zero, List.getElem_cons_succ]
  clear hS
  refine wpAnyH_ready (rs := [6]) (by kernel_rfl) (by simp) (AllReadyH.cons rfl (fun K hK => ?_) AllReadyH.nil)
  rw [if_pos (by rfl)]
  have hS := hHeld.set HB5.out (cb hd)
  have R5 := Lib.hid (K5.out.setRow_same (cb hd))
  refine wp_skip (exec_store15 rfl rfl rfl K5.out (by rw [cb_size, cb_size, HH32.out]; rfl) (by rw [cb_size, HH32.out]; exact info_h32) (cb_one15 _)) ?_
  clear hHeld K5
  refine hK.out _ _ hS (fun hHeld => ?_)
  clear hK K
  try simp only [Act.put, List.setIfInBounds_toArray, List.set_cons_zero, List.set_cons_succ, List.getElem_toArray, List.getElem_cons_zero, List.getElem_cons_succ]
  clear hS
  refine wpAnyH_ready (rs := [7]) (by kernel_rfl) (by simp) (AllReadyH.cons rfl (fun K hK => ?_) AllReadyH.nil)
  rw [if_pos (by rfl)]
  go_wp2_with fail
  have hS := hHeld
  clear hHeld
  refine hK.out _ _ hS (fun hHeld => ?_)
  clear hK K
  try simp only [Act.put, List.setIfInBounds_toArray, List.set_cons_zero, List.set_cons_succ, List.getElem_toArray, List.getElem_cons_zero, List.getElem_cons_succ]
  clear hS
  refine wpAnyH_done (by kernel_rfl) ?_ _
  have Q := Lib.hid hHeld
  clear hHeld
  generalize W2.setRow b5 (cb hd) = W3 at *
  go_wp2_with fail
  refine (pFrom_any A5 (n - 32) (k - 32) w.heap.size (l.drop 32) W3 (HL5.out.below Q.out.2.2 (Nat.le_refl _))).mono ?_
  rintro e W4 ⟨rfl, hr4, hb4⟩
  obtain ⟨g, hg⟩ : ∃ g, g = W3.heap.size := ⟨_, rfl⟩
  have HG : Hid (w.heap.size + 1 < b5 ∧ b5 < g) := Lib.hid ⟨HB5.out, by rw [hg]; exact R5.out.lt⟩
  rw [← hg] at hr4 ⊢
  have S : Hid (RcAt w b5 hd g (l.drop 32) 0 W4) := Lib.hid ⟨Q.out.next hb4, R5.out.below hb4 R5.out.lt, hr4⟩
  clear hg hr4 hb4 Q R5 HB5
  have HDL : Hid ((l.drop 32).length = n - 32 ∧ (l.drop 32).length ≤ 140737488355328 ∧ ∀ x ∈ l.drop 32, x < 256) := Lib.hid ⟨by rw [List.length_drop, HLN.out], by rw [List.length_drop, HLN.out]; have := HN.out; omega, fun x hx => H256.out x (List.mem_of_mem_drop hx)⟩
  go_wp2_with fail
  refine (pNum_any g 0 (l.drop 32) W4 S.out.2.2 HDL.out.2.1 HDL.out.2.2).mono ?_
  rintro e W5 ⟨rfl, hr5, hg5⟩
  have T := Lib.hid (S.out.grown hg5 hr5 HG.out)
  clear hr5 hg5 S
  obtain ⟨v, hv⟩ : ∃ v, numV (l.drop 32) 0 = v := ⟨_, rfl⟩
  have HVN : Hid (numR l = v) := Lib.hid hv
  rw [hv]
  clear hv
  obtain ⟨er, her⟩ : ∃ er, numE (l.drop 32) 0 = er := ⟨_, rfl⟩
  have HER := Lib.hid her
  rw [her] at T
  clear her
  go_upto_region 6 with (fail)
  go_cut [] (fun wx => RcAt w b5 hd g (restR l) (errR l) wx)
  case first =>
    by_cases h1 : (v : Int) < 1
    case pos =>
      have HBD : Hid (errR l = failE er true) := Lib.hid (by unfold errR; rw [HER.out]; congr 1; unfold badR; rw [HVN.out, decide_eq_true (show v < 1 by omega)]; rfl)
      go_wp2_with fail
      refine (pFailK_any g er true _ W5 T.out.2.2).mono ?_
      rintro e W6 ⟨rfl, hr6, hg6⟩
      have U := Lib.hid (T.out.grown hg6 hr6 HG.out)
      clear hr6 hg6 T
      go_wp2_with fail
      go_meet
      rw [HBD.out]
      exact U.out
    by_cases h2 : (1099511627776 : Int) < (v : Int)
    case pos =>
      have HBD : Hid (errR l = failE er true) := Lib.hid (by unfold errR; rw [HER.out]; congr 1; unfold badR; rw [HVN.out, decide_eq_true (show 1099511627776 < v by omega), Bool.or_true])
      go_wp2_with fail
      refine (pFailK_any g er true _ W5 T.out.2.2).mono ?_
      rintro e W6 ⟨rfl, hr6, hg6⟩
      have U := Lib.hid (T.out.grown hg6 hr6 HG.out)
      clear hr6 hg6 T
      go_wp2_with fail
      go_meet
      rw [HBD.out]
      exact U.out
    have HBD : Hid (errR l = failE er false) := Lib.hid (by unfold errR; rw [HER.out]; congr 1; unfold badR; rw [HVN.out, decide_eq_false (show ¬ v < 1 by omega), decide_eq_false (show ¬ 1099511627776 < v by omega)]; rfl)
    go_wp2_with fail
    refine (pFailK_any g er false _ W5 T.out.2.2).mono ?_
    rintro e W6 ⟨rfl, hr6, hg6⟩
    have U := Lib.hid (T.out.grown hg6 hr6 HG.out)
    clear hr6 hg6 T
    go_wp2_with fail
    go_meet
    rw [HBD.out]
    exact U.out
  case rest =>
  clear T
  generalize wc = W6 at *
  have S := Lib.hid hcut
  clear hcut
  obtain ⟨er2, her2⟩ : ∃ er2, errR l = er2 := ⟨_, rfl⟩
  have HE2 := Lib.hid her2
  rw [her2] at S
  clear her2
  go_wp2_with fail
  refine (pErr_any g er2 _ W6 S.out.2.2).mono ?_
  rintro e w' ⟨rfl, rfl⟩
  by_cases he : er2 = 0
  case neg =>
    have HE : Hid (readE l = er2) := Lib.hid (by rw [readE_err H32.out.1 (by rw [HE2.out]; exact he), HE2.out])
    have HCC : Hid (readC l = ch0) := Lib.hid (readC_no (by rw [HE.out]; exact he))
    have HV : Hid (readV l = bare 0 0) := Lib.hid (readV_no (by rw [HE.out]; exact he))
    have hne : (((er2 : Nat) : Int) != 0) = true := by simpa using he
    have Q := Lib.hid S.out.1
    clear he S
    go_wp2_with ((with_reducible show wpList _ _ _ (⟨some 38, _, _, _, _, _⟩ :: _) _ _); refine hold ?_)
    refine held (wpList_build_to rfl 26 #[] rfl [] rfl (chC ch0) built_ch0 ?_)
    go_wp2_with ((with_reducible show wpList _ _ _ (⟨none, _, _, _, _, _⟩ :: _) _ _); refine hold ?_)
    refine held (wpList_store_wide rfl 26 (.tmp 2) (.tmp 38) rfl (w.heap.size) 0 (chC ch0) rfl rfl 26 _ Q.out.1 (by rw [Nat.zero_add]; exact Nat.le_refl _) (info_ch' ch0_ok) (chC_one _) ?_)
    intro w10 hw10
    obtain rfl := ch_setRow hw10 ch0_ok ch0_ok
    go_wp2_with ((with_reducible show wpList _ _ _ (⟨none, _, _, _, _, _⟩ :: _) _ _); refine hold ?_)
    refine held (wpList_store_wide rfl 34 (.tmp 3) (.tmp 39) rfl (w.heap.size + 1) 0 (evC (bareH 0 0)) rfl rfl 34 _ (Q.out.2.1.setRow_other (by omega) _) (by rw [evC_size]; decide) (by rw [evC_size]; exact info_ev) (evC_one _) ?_)
    intro w11 hw11
    obtain rfl := w_setRow_allE hw11 (by rw [evC_size])
    go_wp2_with fail
    exact bodyPost_ret (results_cell3b rfl _ _ ⟨w.heap.size, 0, none⟩ ⟨w.heap.size + 1, 0, none⟩ _ _ _ rfl rfl rfl (Bk.ch ((Bk.setRow_same Q.out.1 _).setRow_other (by omega) _) ch0_ok) (Bk.ev (Bk.setRow_same (Q.out.2.1.setRow_other (by omega) _) _))) rfl ⟨bareH 0 0, by rw [HE.out, HCC.out] <;> rfl, by rw [HV.out]; rfl, EvFar.bare _ _ _ _, below_setRow (below_setRow Q.out.2.2 (by omega) _) (by omega) _⟩
  subst he
  have H0 := Lib.hid (errR_0 HE2.out)
  have H8 : Hid (8 ≤ n - 32) := Lib.hid (by have := numE_0 H0.out.1; rw [HDL.out.1] at this; exact this)
  have HRS : Hid (restR l = (l.drop 32).drop 8) := Lib.hid (restR_drop H0.out.1)
  have hal : Below W6.heap.size W6 (W6.alloc (.cells #[.int .i64 (v : Int)] 3)) := (Below.refl _ _).alloc (Nat.le_refl _) _
  have hbi : Bk (W6.alloc (.cells #[.int .i64 (v : Int)] 3)) W6.heap.size 3 #[.int .i64 (v : Int)] := Bk.new _ _ _
  have CN := Lib.hid (pnum_any none 0 0 [] (some ⟨W6.heap.size, 0, none⟩) 1 1 [(v : Int)] (W6.alloc (.cells #[.int .i64 (v : Int)] 3)) Bytes.nil ⟨rfl, fun _ => ⟨_, _, rfl, by simp, fun i a ha => by
    rw [Nat.zero_add, hbi.cell i]
    match i, ha with
    | 0, ha => cases ha; rfl⟩⟩ (by omega))
  have S2 := Lib.hid (S.out.next hal)
  clear hal hbi S
  go_wp2_with fail
  refine CN.out.mono ?_
  rintro e W7 ⟨A2, c2, rfl, ho, hb⟩
  have T := Lib.hid (S2.out.next hb)
  clear ho hb CN S2
  go_wp2_with ((with_reducible show wpList _ _ _ (⟨some 47, _, _, _, _, _⟩ :: _) _ _); refine hold ?_)
  refine held (wpList_from15 rfl (.tmp 42) (.tmp 46) 32 5 rfl Tryd.underlying32 ch_size_u8 A5 (n - 32) (k - 32) 8 w.heap.size (l.drop 32) rfl rfl (HL5.out.below T.out.1.2.2 (Nat.le_refl _)) H8.out (by have := HNK.out; omega) ?_)
  intro A6 c6 h61 h62 hby
  rw [← HRS.out] at hby
  have HBY := Lib.hid (hby.more T.out.1.2.2.size)
  clear h61 h62 hby
  go_wp2_with fail
  refine (evDecode_far A6 (n - 32 - 8) c6 (restR l) W7 HBY.out (by have := HN.out; omega) (HK.out.below T.out.1.2.2)).mono ?_
  rintro e W8 ⟨H, rfl, hv, hin, hb⟩
  have U := Lib.hid (T.out.next hb)
  have HVV := Lib.hid hv
  have HI := Lib.hid hin
  have HB7 : Hid (w.heap.size + 1 < W7.heap.size) := Lib.hid T.out.1.2.1.lt
  clear hv hin hb T HBY
  obtain ⟨dz, hdz⟩ : ∃ dz, decE (restR l) = dz := ⟨_, rfl⟩
  have HDZ := Lib.hid hdz
  rw [hdz]
  clear hdz
  go_wp2_with ((with_reducible show wpList _ _ _ (⟨none, _, _, _, _, _⟩ :: _) _ _); refine hold ?_)
  refine held (wpList_store_wide rfl 34 (.tmp 10) (.tmp 49) rfl W8.heap.size 0 (evC H) rfl rfl 34 (evC (bareH 0 0)) (Bk.new W8 34 (evC (bareH 0 0))) (by rw [evC_size, evC_size]; decide) (by rw [evC_size]; exact info_ev) (evC_one _) ?_)
  intro W9 hw9
  have hw9' := w_setRow_allE hw9 (by rw [evC_size, evC_size])
  have hb9 : Below W8.heap.size W8 W9 := by rw [hw9']; exact below_setRow ((Below.refl _ _).alloc (Nat.le_refl _) _) (Nat.le_refl _) _
  have hk10 : Bk W9 W8.heap.size 34 (evC H) := by rw [hw9']; exact (Bk.new W8 34 (evC (bareH 0 0))).setRow_same _
  have S := Lib.hid (U.out.next hb9)
  have SI := Lib.hid (HI.out.below hb9)
  have S10 := Lib.hid hk10
  have HB10 : Hid (b5 < W8.heap.size) := Lib.hid U.out.2.1.lt
  obtain ⟨b10, hb10⟩ : ∃ b, W8.heap.size = b := ⟨_, rfl⟩
  rw [hb10] at S10 HB10 ⊢
  clear hb10 hw9 hw9' hb9 hk10 U HI
  by_cases hz : dz = 0
  case neg =>
    have HE : Hid (readE l = dz) := Lib.hid (by rw [readE_dec H32.out.1 HE2.out, HDZ.out])
    have HCC : Hid (readC l = ch0) := Lib.hid (readC_no (by rw [HE.out]; exact hz))
    have HV : Hid (readV l = bare 0 0) := Lib.hid (readV_no (by rw [HE.out]; exact hz))
    have hne : (((dz : Nat) : Int) != 0) = true := by simpa using hz
    have Q := Lib.hid S.out.1
    clear hz S
    go_wp2_with ((with_reducible show wpList _ _ _ (⟨some 53, _, _, _, _, _⟩ :: _) _ _); refine hold ?_)
    refine held (wpList_build_to rfl 26 #[] rfl [] rfl (chC ch0) built_ch0 ?_)
    go_wp2_with ((with_reducible show wpList _ _ _ (⟨none, _, _, _, _, _⟩ :: _) _ _); refine hold ?_)
    refine held (wpList_store_wide rfl 26 (.tmp 2) (.tmp 53) rfl (w.heap.size) 0 (chC ch0) rfl rfl 26 _ Q.out.1 (by rw [Nat.zero_add]; exact Nat.le_refl _) (info_ch' ch0_ok) (chC_one _) ?_)
    intro w10 hw10
    obtain rfl := ch_setRow hw10 ch0_ok ch0_ok
    go_wp2_with ((with_reducible show wpList _ _ _ (⟨none, _, _, _, _, _⟩ :: _) _ _); refine hold ?_)
    refine held (wpList_store_wide rfl 34 (.tmp 3) (.tmp 54) rfl (w.heap.size + 1) 0 (evC (bareH 0 0)) rfl rfl 34 _ (Q.out.2.1.setRow_other (by omega) _) (by rw [evC_size]; decide) (by rw [evC_size]; exact info_ev) (evC_one _) ?_)
    intro w11 hw11
    obtain rfl := w_setRow_allE hw11 (by rw [evC_size])
    go_wp2_with fail
    exact bodyPost_ret (results_cell3b rfl _ _ ⟨w.heap.size, 0, none⟩ ⟨w.heap.size + 1, 0, none⟩ _ _ _ rfl rfl rfl (Bk.ch ((Bk.setRow_same Q.out.1 _).setRow_other (by omega) _) ch0_ok) (Bk.ev (Bk.setRow_same (Q.out.2.1.setRow_other (by omega) _) _))) rfl ⟨bareH 0 0, by rw [HE.out, HCC.out] <;> rfl, by rw [HV.out]; rfl, EvFar.bare _ _ _ _, below_setRow (below_setRow Q.out.2.2 (by omega) _) (by omega) _⟩
  subst hz
  have HE : Hid (readE l = 0) := Lib.hid (by rw [readE_dec H32.out.1 HE2.out, HDZ.out])
  have HCC : Hid (readC l = ⟨hd, (v : Int) - 1⟩) := Lib.hid (by rw [readC_yes HE.out, HVN.out, HHD.out])
  have HV : Hid (readV l = H.e) := Lib.hid (by rw [readV_yes HE.out, HVV.out])
  have HOK : Hid ((⟨hd, (v : Int) - 1⟩ : Ch).Ok) := Lib.hid ⟨HH32.out, HBH.out.2.1⟩
  have HW := Lib.hid (IntWalk.i64_in ((v : Int) - 1) (by have := H0.out.2; rw [HVN.out] at this; omega))
  go_wp2_with fail
  have E := Lib.hid S.out.1.drew
  have EI := Lib.hid (SI.out.below (Below.refl _ _).drew)
  refine wp_region_held_drew (S := fun W' => Bk W' b5 24 (cb hd) ∧ Bk W' b10 34 (evC H)) hmx ⟨S.out.2.1.drew, S10.out.drew⟩ (fun hHeld => ?_)
  clear S S10 SI
  generalize hW0 : W9.drew = W1b at *
  clear hW0
  simp only [List.size_toArray, List.length_cons, List.length_nil, Nat.reduceAdd]
  refine wpAnyH_take (i := 0) (v := .agg (cb hd)) rfl (by kernel_rfl) (by kernel_rfl) (by kernel_rfl) (fun _ _ _ h => h) (Or.inl ⟨by rfl, fun w0 hC => exec_load rfl rfl hC.1.range Tryd.underlying24 rfl (by rw [cb_size, HH32.out]; exact info_h32)⟩) hHeld ?_
  try simp only [Act.put, List.setIfInBounds_toArray, List.set_cons_zero, List.set_cons_succ, List.getElem_toArray, List.getElem_cons_zero, List.getElem_cons_succ]
  refine wpAnyH_take (i := 1) (v := .int .i64 (v : Int)) rfl (by kernel_rfl) (by kernel_rfl) (by kernel_rfl) (fun _ _ _ h => h) (Or.inl ⟨by rfl, fun w0 hC => by simp [execOp, Act.eval, Act.put, go_sem]⟩) hHeld ?_
  try simp only [Act.put, List.setIfInBounds_toArray, List.set_cons_zero, List.set_cons_succ, List.getElem_toArray, List.getElem_cons_zero, List.getElem_cons_succ]
  refine wpAnyH_take (i := 2) (v := .int .i64 ((v : Int) - 1)) rfl (by kernel_rfl) (by kernel_rfl) (by kernel_rfl) (fun _ _ _ h => h) (Or.inl ⟨by rfl, fun w0 hC => by simp [execOp, Act.eval, Act.put, go_sem, HW.out]⟩) hHeld ?_
  try simp only [Act.put, List.setIfInBounds_toArray, List.set_cons_zero, List.set_cons_succ, List.getElem_toArray, List.getElem_cons_zero, List.getElem_cons_succ]
  refine wpAnyH_take (i := 3) (v := .agg (chC ⟨hd, (v : Int) - 1⟩)) rfl (by kernel_rfl) (by kernel_rfl) (by kernel_rfl) (fun _ _ _ h => h) (Or.inl ⟨by rfl, fun w0 hC => exec_build15 rfl rfl (built_ch _ HH32.out)⟩) hHeld ?_
  try simp only [Act.put, List.setIfInBounds_toArray, List.set_cons_zero, List.set_cons_succ, List.getElem_toArray, List.getElem_cons_zero, List.getElem_cons_succ]
  refine wpAnyH_take (i := 4) (v := .agg (evC H)) rfl (by kernel_rfl) (by kernel_rfl) (by kernel_rfl) (fun _ _ _ h => h) (Or.inl ⟨by rfl, fun w0 hC => exec_load rfl rfl hC.2.range Tryd.underlying34 rfl (by rw [evC_size]; exact info_ev)⟩) hHeld ?_
  try simp only [Act.put, List.setIfInBounds_toArray, List.set_cons_zero, List.set_cons_succ, List.getElem_toArray, List.getElem_cons_zero, List.getElem_cons_succ]
  refine wpAnyH_ready (rs := [5]) (by kernel_rfl) (by simp) (AllReadyH.cons rfl (fun K hK => ?_) AllReadyH.nil)
  rw [if_pos (by rfl)]
  refine wp_skip (exec_store15 rfl rfl rfl E.out.1 (by rw [chC_size HOK.out]; rfl) (info_ch' HOK.out) (chC_one _)) ?_
  have hS : Bk (W1b.setRow w.heap.size (chC ⟨hd, (v : Int) - 1⟩)) b5 24 (cb hd) ∧ Bk (W1b.setRow w.heap.size (chC ⟨hd, (v : Int) - 1⟩)) b10 34 (evC H) := ⟨hHeld.1.setRow_other (by have := HG.out; omega) _, hHeld.2.setRow_other (by have := HG.out; have := HB10.out; omega) _⟩
  have F1 := Lib.hid (E.out.1.setRow_same (chC ⟨hd, (v : Int) - 1⟩))
  have F2 := Lib.hid (E.out.2.1.setRow_other (show w.heap.size + 1 ≠ w.heap.size by omega) (chC ⟨hd, (v : Int) - 1⟩))
  have F3 := Lib.hid (below_setRow E.out.2.2 (Nat.le_refl _) (chC ⟨hd, (v : Int) - 1⟩))
  have hb0 : W1b.grownBy (W1b.setRow w.heap.size (chC ⟨hd, (v : Int) - 1⟩)) (some w.heap.size) := grownBy_setRow E.out.1 _
  have F4 := Lib.hid (EI.out.kept hb0 (by have := HB7.out; omega))
  clear hHeld E EI hb0
  refine hK.out _ _ hS (fun hHeld => ?_)
  clear hK K
  try simp only [Act.put, List.setIfInBounds_toArray, List.set_cons_zero, List.set_cons_succ, List.getElem_toArray, List.getElem_cons_zero, List.getElem_cons_succ]
  clear hS
  generalize W1b.setRow w.heap.size (chC ⟨hd, (v : Int) - 1⟩) = W2b at *
  refine wpAnyH_ready (rs := [6]) (by kernel_rfl) (by simp) (AllReadyH.cons rfl (fun K hK => ?_) AllReadyH.nil)
  rw [if_pos (by rfl)]
  refine wp_skip (exec_store15 rfl rfl rfl F2.out (by rw [evC_size, evC_size]) (by rw [evC_size]; exact info_ev) (evC_one _)) ?_
  have hS : Bk (W2b.setRow (w.heap.size + 1) (evC H)) b5 24 (cb hd) ∧ Bk (W2b.setRow (w.heap.size + 1) (evC H)) b10 34 (evC H) := ⟨hHeld.1.setRow_other (by have := HG.out; omega) _, hHeld.2.setRow_other (by have := HG.out; have := HB10.out; omega) _⟩
  have G1 := Lib.hid (F1.out.setRow_other (show w.heap.size ≠ w.heap.size + 1 by omega) (evC H))
  have G2 := Lib.hid (F2.out.setRow_same (evC H))
  have G3 := Lib.hid (below_setRow F3.out (Nat.le_succ _) (evC H))
  have G4 := Lib.hid ((F4.out.kept (grownBy_setRow F2.out (evC H)) HB7.out).mono (base' := w.heap.size) (by have := HB7.out; omega))
  clear hHeld F1 F2 F3 F4
  refine hK.out _ _ hS (fun hHeld => ?_)
  clear hK K
  try simp only [Act.put, List.setIfInBounds_toArray, List.set_cons_zero, List.set_cons_succ, List.getElem_toArray, List.getElem_cons_zero, List.getElem_cons_succ]
  clear hS
  refine wpAnyH_ready (rs := [7]) (by kernel_rfl) (by simp) (AllReadyH.cons rfl (fun K hK => ?_) AllReadyH.nil)
  rw [if_pos (by rfl)]
  go_wp2_with fail
  have hS := hHeld
  clear hHeld
  refine hK.out _ _ hS (fun hHeld => ?_)
  clear hK K
  try simp only [Act.put, List.setIfInBounds_toArray, List.set_cons_zero, List.set_cons_succ, List.getElem_toArray, List.getElem_cons_zero, List.getElem_cons_succ]
  clear hS
  refine wpAnyH_done (by kernel_rfl) ?_ _
  go_wp2_with fail
  exact bodyPost_ret (results_cell3b rfl _ _ ⟨w.heap.size, 0, none⟩ ⟨w.heap.size + 1, 0, none⟩ _ _ _ rfl rfl rfl (Bk.ch G1.out HOK.out) (Bk.ev G2.out)) rfl ⟨H, by rw [HE.out, HCC.out]; rfl, HV.out.symm, G4.out, G3.out⟩
end Go.Proofs.YtoiffchhfnbooaaDoor
