/-
  Contracts over layer 15: the program's Right and Next.
-/
import Derived.Test.YtoiffchhfnbooaaDoorQRecRows
import Derived.Test.YtoiffchhfnbooaaDoorQEventH
import Derived.Test.YtoiffchhfnbooaaDoorQPackWalksB
import Derived.Deep.QuietTactic
import Derived.BigQuiet
import Derived.IntWalk
namespace Go.Proofs.YtoiffchhfnbooaaDoor
set_option linter.unusedVariables false
set_option linter.unusedSimpArgs false
open Go.RowKit
set_option linter.unusedVariables false
set_option linter.unusedSimpArgs false

theorem nums_one15 (z : Int) : numsB [z] = encB 8 (clampB z) := by rw [numsB_cons, numsB_nil, List.append_nil]
def NextIs (c : Ch) (h : Eh) (w : World) (e : Ending) (w' : World) : Prop :=
  ∃ A N k, e = .returned (.tuple #[.slice A N k, .agg (chC (nextC c h.e)), .int .i64 ((nextE c h.e : Nat) : Int)]) ∧ OwnB w' w.heap.size 5 A N k (nextB c h.e) ∧ Below w.heap.size w w'
/-- the three boxes of a call of Next -/
def NxAt (w : World) (c : Ch) (h : Eh) (W : World) : Prop := Bk W w.heap.size 26 (chC c) ∧ Bk W (w.heap.size + 1) 34 (evC h) ∧ Bk W (w.heap.size + 1 + 1) 26 (chC ch0) ∧ Below w.heap.size w W
theorem NxAt.next {w W W' : World} {c : Ch} {h : Eh} (d : NxAt w c h W) (hb : Below W.heap.size W W') : NxAt w c h W' := ⟨d.1.below hb d.1.lt, d.2.1.below hb d.2.1.lt, d.2.2.1.below hb d.2.2.1.lt, d.2.2.2.trans (hb.mono d.2.2.2.size)⟩
theorem NxAt.under {w W W' : World} {c : Ch} {h : Eh} {B : Nat} (d : NxAt w c h W) (hb : Below B W W') (hB : w.heap.size + 1 + 1 < B) : NxAt w c h W' := ⟨d.1.below hb (by omega), d.2.1.below hb (by omega), d.2.2.1.below hb hB, d.2.2.2.trans (hb.mono (by omega))⟩
theorem NxAt.drew {w W : World} {c : Ch} {h : Eh} (d : NxAt w c h W) : NxAt w c h W.drew := d.next (Below.refl _ _).drew
set_option maxRecDepth 20000 in
set_option maxHeartbeats 4000000 in
theorem rcRight_any (c : Ch) (w : World) (hc : c.Ok) : Calls Tryd.prog 10 #[.agg (chC c)] w fun e w' => e = .returned (.bool (rightC c)) ∧ Below w.heap.size w w' := by
  have HC := Lib.hid hc
  clear hc
  go_enter Tryd.func10, Tryd.ntmps10
  go_wp2_with ((with_reducible show wpList _ _ _ (⟨some 3, _, _, _, _, _⟩ :: _) _ _); refine hold ?_)
  refine held (list_overE (fun W => Bk W w.heap.size 26 (chC c) ∧ Below w.heap.size w W) ⟨Bk.new _ _ _, (Below.refl _ _).alloc (Nat.le_refl _) _⟩ ?_)
  rintro W ⟨q1, q2⟩
  have c32 : W.cell? ⟨w.heap.size, 32, none⟩ = some (.int .i64 c.count) := q1.count HC.out
  have Q2 := Lib.hid q2
  clear q1 q2
  have HR : Hid (rightC c = (decide (0 ≤ c.count) && decide (c.count ≤ 1099511627776))) := Lib.hid rfl
  obtain ⟨n, hn⟩ : ∃ n, c.count = n := ⟨_, rfl⟩
  rw [hn] at c32 HR
  clear hn
  by_cases h0 : 0 ≤ n
  case neg =>
    have HR2 : Hid (rightC c = false) := Lib.hid (by rw [HR.out, decide_eq_false h0]; rfl)
    go_wp2_with fail
    go_ret
    exact ⟨by rw [HR2.out]; rfl, Q2.out⟩
  by_cases h1 : n ≤ 1099511627776
  case neg =>
    have HR2 : Hid (rightC c = false) := Lib.hid (by rw [HR.out, decide_eq_true h0, decide_eq_false h1]; rfl)
    go_wp2_with fail
    go_ret
    exact ⟨by rw [HR2.out]; rfl, Q2.out⟩
  have HR2 : Hid (rightC c = true) := Lib.hid (by rw [HR.out, decide_eq_true h0, decide_eq_true h1]; rfl)
  go_wp2_with fail
  go_ret
  exact ⟨by rw [HR2.out]; rfl, Q2.out⟩
set_option maxRecDepth 20000 in
set_option maxHeartbeats 4000000 in
theorem rcgrown_any (c : Ch) (A : Option Addr) (n k : Nat) (l : List Nat) (w : World) (hc : c.Ok) (hl : Bytes w w.heap.size A n l) (hn : n ≤ 1000000) (h1 : 0 ≤ c.count) (h2 : c.count ≤ 1099511627776) (ht : Tabs w) :
    Calls Tryd.prog 12 #[.agg (chC c), .slice A n k] w fun e w' => e = .returned (.agg (chC (grownC c l))) ∧ Below w.heap.size w w' := by
  have hmx : Tryd.prog.follows .mixedOrders = true := by kernel_rfl
  have HC := Lib.hid hc
  have HL := Lib.hid hl
  have HT := Lib.hid ht
  have HN := Lib.hid hn
  have HW := Lib.hid (IntWalk.i64_in (c.count + 1) (by omega))
  clear hc hl ht hn h1 h2
  go_enter Tryd.func12, Tryd.ntmps12
  go_wp2_with fail
  refine code_over (fun W => Bk W w.heap.size 26 (chC c) ∧ Bk W (w.heap.size + 1) 26 (chC ch0) ∧ Below w.heap.size w W) ⟨(Bk.new _ _ _).alloc _, Bk.new2 _ _ _ _, ((Below.refl _ _).alloc (Nat.le_refl _) _).alloc (by simp) _⟩ ?_
  rintro W ⟨q1, q2, q3⟩
  have Q := Lib.hid (And.intro q1 q3)
  have Q4 := Lib.hid (q2.drew)
  clear q1 q2 q3
  refine wp_region_held_drew (S := fun W' => Bk W' w.heap.size 26 (chC c) ∧ Below w.heap.size w W') hmx ⟨Q.out.1.drew, Q.out.2.drew⟩ (fun hHeld => ?_)
  clear Q
  generalize hW0 : W.drew = W1 at *
  clear hW0
  simp only [List.size_toArray, List.length_cons, List.length_nil, Nat.reduceAdd]
  refine wpAnyH_take (i := 0) (v := .slice A n k) rfl (by kernel_rfl) (by kernel_rfl) (by kernel_rfl) (fun _ _ _ h => h) (Or.inl ⟨by rfl, fun w0 hC => by simp [execOp, Act.eval, Act.put, go_sem]⟩) hHeld ?_
  try simp only [Act.put, List.setIfInBounds_toArray, List.set_cons_zero, List.set_cons_succ, List.getElem_toArray, List.getElem_cons_zero, List.getElem_cons_succ]
  refine wpAnyH_take (i := 2) (v := .pointer (some ⟨w.heap.size, 32, none⟩)) rfl (by kernel_rfl) (by kernel_rfl) (by kernel_rfl) (fun _ _ _ h => h) (Or.inl ⟨by rfl, fun w0 hC => by simp [execOp, Act.eval, Act.put, go_sem]⟩) hHeld ?_
  try simp only [Act.put, List.setIfInBounds_toArray, List.set_cons_zero, List.set_cons_succ, List.getElem_toArray, List.getElem_cons_zero, List.getElem_cons_succ]
  refine wpAnyH_take (i := 3) (v := .int .i64 c.count) rfl (by kernel_rfl) (by kernel_rfl) (by kernel_rfl) (fun _ _ _ h => h) (Or.inl ⟨by rfl, fun w0 hC => by simp [execOp, Act.eval, Act.put, go_sem, hC.1.count HC.out]⟩) hHeld ?_
  try simp only [Act.put, List.setIfInBounds_toArray, List.set_cons_zero, List.set_cons_succ, List.getElem_toArray, List.getElem_cons_zero, List.getElem_cons_succ]
  refine wpAnyH_take (i := 4) (v := .int .i64 (c.count + 1)) rfl (by kernel_rfl) (by kernel_rfl) (by kernel_rfl) (fun _ _ _ h => h) (Or.inl ⟨by rfl, fun w0 hC => by simp [execOp, Act.eval, Act.put, go_sem, HW.out]⟩) hHeld ?_
  try simp only [Act.put, List.setIfInBounds_toArray, List.set_cons_zero, List.set_cons_succ, List.getElem_toArray, List.getElem_cons_zero, List.getElem_cons_succ]
  refine wpAnyH_ready (rs := [1]) (by kernel_rfl) (by simp) (AllReadyH.cons rfl (fun K hK => ?_) AllReadyH.nil)
  rw [if_pos (by rfl)]
  go_wp2_with fail
  refine (sum_any A n k W1.heap.size l W1 (HL.out.later hHeld.2) (Nat.le_refl _) HN.out (Tabs.later15 HT.out hHeld.2)).mono ?_
  rintro e W2 ⟨rfl, hb⟩
  have hS := And.intro (hHeld.1.below hb hHeld.1.lt) (hHeld.2.trans (hb.mono hHeld.2.size))
  have P4 := Lib.hid (Q4.out.below hb Q4.out.lt)
  clear hHeld hb Q4
  refine hK.out _ _ hS (fun hHeld => ?_)
  clear hK K
  try simp only [Act.put, List.setIfInBounds_toArray, List.set_cons_zero, List.set_cons_succ, List.getElem_toArray, List.getElem_cons_zero, List.getElem_cons_succ]
  clear hS
  refine wpAnyH_take (i := 5) (v := .agg (chC (grownC c l))) rfl (by kernel_rfl) (by kernel_rfl) (by kernel_rfl) (fun _ _ _ h => h) (Or.inl ⟨by rfl, fun w0 hC => exec_build15 rfl rfl (built_ch _ (sumB_length l))⟩) hHeld ?_
  try simp only [Act.put, List.setIfInBounds_toArray, List.set_cons_zero, List.set_cons_succ, List.getElem_toArray, List.getElem_cons_zero, List.getElem_cons_succ]
  refine wpAnyH_ready (rs := [6]) (by kernel_rfl) (by simp) (AllReadyH.cons rfl (fun K hK => ?_) AllReadyH.nil)
  rw [if_pos (by rfl)]
  have hS : Bk (W2.setRow (w.heap.size + 1) (chC (grownC c l))) w.heap.size 26 (chC c) ∧ Below w.heap.size w (W2.setRow (w.heap.size + 1) (chC (grownC c l))) := ⟨hHeld.1.setRow_other (by omega) _, below_setRow hHeld.2 (Nat.le_succ _) _⟩
  have R4 := Lib.hid (P4.out.setRow_same (chC (grownC c l)))
  refine wp_skip (exec_store15 rfl rfl rfl P4.out (by rw [chC_size (grownC_ok c l)]; rfl) (info_ch' (grownC_ok c l)) (chC_one _)) ?_
  clear hHeld P4
  refine hK.out _ _ hS (fun hHeld => ?_)
  clear hK K
  try simp only [Act.put, List.setIfInBounds_toArray, List.set_cons_zero, List.set_cons_succ, List.getElem_toArray, List.getElem_cons_zero, List.getElem_cons_succ]
  clear hS
  refine wpAnyH_done (by kernel_rfl) ?_ _
  go_wp2_with fail
  exact bodyPost_ret (results_cell rfl rfl (Bk.ch R4.out (grownC_ok c l))) rfl ⟨rfl, hHeld.2⟩
set_option maxRecDepth 20000 in
set_option maxHeartbeats 8000000 in
theorem rcNext_any (c : Ch) (h : Eh) (w : World) (hc : c.Ok) (Hh : EvIn w w.heap.size h) (hK : Kinds w) (ht : Tabs w) : Calls Tryd.prog 6 #[.agg (chC c), .agg (evC h)] w (NextIs c h w) := by
  have hmx : Tryd.prog.follows .mixedOrders = true := by kernel_rfl
  have HC := Lib.hid hc
  have HH := Lib.hid Hh
  have HK := Lib.hid hK
  have HT := Lib.hid ht
  clear hc Hh hK ht
  go_enter Tryd.func6, Tryd.ntmps6
  go_wp2_with ((with_reducible show wpList _ _ _ (⟨some 11, _, _, _, _, _⟩ :: _) _ _); refine hold ?_)
  refine held (list_overE (fun W => Bk W w.heap.size 26 (chC c) ∧ Bk W (w.heap.size + 1) 34 (evC h) ∧ Bk W (w.heap.size + 1 + 1) 26 (chC ch0) ∧ Below w.heap.size w W) ⟨((Bk.new _ _ _).alloc _).alloc _, (Bk.new2 _ _ _ _).alloc _, Bk.new3 _ _ _ _ _, (((Below.refl _ _).alloc (Nat.le_refl _) _).alloc (by simp) _).alloc (by simp; omega) _⟩ ?_)
  rintro W ⟨q1, q2, q3, q4⟩
  have Q := Lib.hid (And.intro q1 (And.intro q2 (And.intro q3 q4)))
  clear q1 q2 q3 q4
  refine wpList_load_mid rfl 34 (.tmp 3) rfl (w.heap.size + 1) 0 rfl _ _ Q.out.2.1.range Tryd.underlying34 rfl (by kernel_rfl) ?_
  go_wp2_with fail
  refine (evEncode_any h W (HH.out.later Q.out.2.2.2) (HK.out.below Q.out.2.2.2)).mono ?_
  rintro e W1 ⟨A1, N1, c1, rfl, ho, hb⟩
  have R := Lib.hid (NxAt.next Q.out hb)
  have RO := Lib.hid (ho.base_le Q.out.2.2.2.size)
  clear ho hb Q
  obtain ⟨ez, hez⟩ : ∃ ez, encE h.e = ez := ⟨_, rfl⟩
  have HEZ := Lib.hid hez
  rw [hez]
  clear hez
  go_wp2_with ((with_reducible show wpList _ _ _ (⟨some 15, _, _, _, _, _⟩ :: _) _ _); refine hold ?_)
  refine held (wpList_load_mid rfl 26 (.tmp 2) rfl w.heap.size 0 rfl _ _ R.out.1.range Tryd.underlying26 rfl (info_chl HC.out) ?_)
  go_wp2_with fail
  refine (rcRight_any c W1 HC.out).mono ?_
  rintro e W2 ⟨rfl, hb⟩
  have S := Lib.hid (NxAt.next R.out hb)
  have SO := Lib.hid (RO.out.below hb)
  clear hb R RO
  obtain ⟨r, hr⟩ : ∃ r, rightC c = r := ⟨_, rfl⟩
  have HR := Lib.hid hr
  rw [hr]
  clear hr
  cases r
  case false =>
    have HE : Hid (nextE c h.e = 1) := Lib.hid (by unfold nextE; rw [if_neg (by rw [HR.out]; simp)])
    have HB : Hid (nextB c h.e = []) := Lib.hid (by unfold nextB; rw [HE.out, if_neg (by decide)])
    have HCC : Hid (nextC c h.e = ch0) := Lib.hid (by unfold nextC; rw [HE.out, if_neg (by decide)])
    go_wp2_with ((with_reducible show wpList _ _ _ (⟨some 22, _, _, _, _, _⟩ :: _) _ _); refine hold ?_)
    refine held (wpList_build_to rfl 26 #[] rfl [] rfl (chC ch0) built_ch0 ?_)
    go_wp2_with ((with_reducible show wpList _ _ _ (⟨none, _, _, _, _, _⟩ :: _) _ _); refine hold ?_)
    refine held (wpList_store_wide rfl 26 (.tmp 5) (.tmp 22) rfl (w.heap.size + 1 + 1) 0 (chC ch0) rfl rfl 26 _ S.out.2.2.1 (Nat.le_refl _) (info_ch' ch0_ok) (chC_one _) ?_)
    intro w10 hw10
    obtain rfl := ch_setRow hw10 ch0_ok ch0_ok
    go_wp2_with fail
    exact bodyPost_ret (results_cell3a rfl _ _ ⟨w.heap.size + 1 + 1, 0, none⟩ _ _ _ rfl rfl rfl (Bk.ch (Bk.setRow_same S.out.2.2.1 _) ch0_ok)) rfl ⟨none, 0, 0, by rw [HE.out, HCC.out]; rfl, by rw [HB.out]; exact OwnB.nil, below_setRow S.out.2.2.2 (by omega) _⟩
  case true =>
  by_cases hz : ez = 0
  case neg =>
    have HE : Hid (nextE c h.e = 1) := Lib.hid (by unfold nextE; rw [if_neg (by rw [HEZ.out]; exact fun hh => hz hh.2)])
    have HB : Hid (nextB c h.e = []) := Lib.hid (by unfold nextB; rw [HE.out, if_neg (by decide)])
    have HCC : Hid (nextC c h.e = ch0) := Lib.hid (by unfold nextC; rw [HE.out, if_neg (by decide)])
    have hne : (((ez : Nat) : Int) != 0) = true := by simpa using hz
    clear hz
    go_wp2_with ((with_reducible show wpList _ _ _ (⟨some 22, _, _, _, _, _⟩ :: _) _ _); refine hold ?_)
    refine held (wpList_build_to rfl 26 #[] rfl [] rfl (chC ch0) built_ch0 ?_)
    go_wp2_with ((with_reducible show wpList _ _ _ (⟨none, _, _, _, _, _⟩ :: _) _ _); refine hold ?_)
    refine held (wpList_store_wide rfl 26 (.tmp 5) (.tmp 22) rfl (w.heap.size + 1 + 1) 0 (chC ch0) rfl rfl 26 _ S.out.2.2.1 (Nat.le_refl _) (info_ch' ch0_ok) (chC_one _) ?_)
    intro w10 hw10
    obtain rfl := ch_setRow hw10 ch0_ok ch0_ok
    go_wp2_with fail
    exact bodyPost_ret (results_cell3a rfl _ _ ⟨w.heap.size + 1 + 1, 0, none⟩ _ _ _ rfl rfl rfl (Bk.ch (Bk.setRow_same S.out.2.2.1 _) ch0_ok)) rfl ⟨none, 0, 0, by rw [HE.out, HCC.out]; rfl, by rw [HB.out]; exact OwnB.nil, below_setRow S.out.2.2.2 (by omega) _⟩
  subst hz
  have HRC := Lib.hid ((rightC_iff c).1 HR.out)
  have HEV := Lib.hid (encE_0 HEZ.out)
  have c32 : W2.cell? ⟨w.heap.size, 32, none⟩ = some (.int .i64 c.count) := S.out.1.count HC.out
  obtain ⟨z, hz⟩ : ∃ z, c.count = z := ⟨_, rfl⟩
  have HZ := Lib.hid hz
  rw [hz] at c32
  clear hz
  by_cases hm : z = 1099511627776
  case pos =>
    have HE : Hid (nextE c h.e = 15) := Lib.hid (by unfold nextE; rw [if_pos ⟨HR.out, HEZ.out⟩, HZ.out, if_pos hm])
    have HB : Hid (nextB c h.e = []) := Lib.hid (by unfold nextB; rw [HE.out, if_neg (by decide)])
    have HCC : Hid (nextC c h.e = ch0) := Lib.hid (by unfold nextC; rw [HE.out, if_neg (by decide)])
    go_wp2_with ((with_reducible show wpList _ _ _ (⟨some 26, _, _, _, _, _⟩ :: _) _ _); refine hold ?_)
    refine held (wpList_build_to rfl 26 #[] rfl [] rfl (chC ch0) built_ch0 ?_)
    go_wp2_with ((with_reducible show wpList _ _ _ (⟨none, _, _, _, _, _⟩ :: _) _ _); refine hold ?_)
    refine held (wpList_store_wide rfl 26 (.tmp 5) (.tmp 26) rfl (w.heap.size + 1 + 1) 0 (chC ch0) rfl rfl 26 _ S.out.2.2.1 (Nat.le_refl _) (info_ch' ch0_ok) (chC_one _) ?_)
    intro w10 hw10
    obtain rfl := ch_setRow hw10 ch0_ok ch0_ok
    go_wp2_with fail
    exact bodyPost_ret (results_cell3a rfl _ _ ⟨w.heap.size + 1 + 1, 0, none⟩ _ _ _ rfl rfl rfl (Bk.ch (Bk.setRow_same S.out.2.2.1 _) ch0_ok)) rfl ⟨none, 0, 0, by rw [HE.out, HCC.out]; rfl, by rw [HB.out]; exact OwnB.nil, below_setRow S.out.2.2.2 (by omega) _⟩
  have HE : Hid (nextE c h.e = 0) := Lib.hid (by unfold nextE; rw [if_pos ⟨HR.out, HEZ.out⟩, HZ.out, if_neg hm])
  have HB : Hid (nextB c h.e = recB c h.e) := Lib.hid (if_pos HE.out)
  have HCC : Hid (nextC c h.e = grownC c (recB c h.e)) := Lib.hid (if_pos HE.out)
  have HLZ : Hid (0 ≤ z ∧ z < 1099511627776) := Lib.hid (by have := HRC.out; rw [HZ.out] at this; exact ⟨this.1, by omega⟩)
  have HW := Lib.hid (IntWalk.i64_in (z + 1) (by have := HLZ.out; omega))
  have hN1 : N1 ≤ 20016 := by have h1 := SO.out.len; rw [HEV.out.2] at h1; have := (bytesE_len HEV.out.1).2; omega
  have HN1 := Lib.hid hN1
  go_wp2_with fail
  clear c32 hN1 hm
  refine wp_region_held_drew (S := fun W' => NxAt w c h W') hmx (NxAt.drew S.out) (fun hHeld => ?_)
  have SO2 := Lib.hid (SO.out.below (Below.refl _ _).drew)
  clear S SO
  have SO := SO2
  clear SO2
  generalize hW0 : W2.drew = W3 at *
  clear hW0
  simp only [List.size_toArray, List.length_cons, List.length_nil, Nat.reduceAdd]
  have HL : Hid (w.heap.size < W3.heap.size) := Lib.hid hHeld.1.lt
  have HB3 : Hid (w.heap.size + 1 + 1 < W3.heap.size) := Lib.hid hHeld.2.2.1.lt
  refine wpAnyH_take (i := 0) (v := .pointer (some ⟨w.heap.size, 0, none⟩)) rfl (by kernel_rfl) (by kernel_rfl) (by kernel_rfl) (fun _ _ _ h => h) (Or.inl ⟨by rfl, fun w0 hC => by simp [execOp, Act.eval, Act.put, go_sem]⟩) hHeld ?_
  try simp only [Act.put, List.setIfInBounds_toArray, List.set_cons_zero, List.set_cons_succ, List.getElem_toArray, List.getElem_cons_zero, List.getElem_cons_succ]
  refine wpAnyH_take (i := 1) (v := .slice (some ⟨w.heap.size, 0, none⟩) 32 32) rfl (by kernel_rfl) (by kernel_rfl) (by kernel_rfl) (fun _ _ _ h => h) (Or.inl ⟨by rfl, fun w0 hC => by simp [execOp, Act.eval, Act.put, go_sem]⟩) hHeld ?_
  try simp only [Act.put, List.setIfInBounds_toArray, List.set_cons_zero, List.set_cons_succ, List.getElem_toArray, List.getElem_cons_zero, List.getElem_cons_succ]
  refine wpAnyH_take (i := 2) (v := .pointer (some ⟨w.heap.size, 32, none⟩)) rfl (by kernel_rfl) (by kernel_rfl) (by kernel_rfl) (fun _ _ _ h => h) (Or.inl ⟨by rfl, fun w0 hC => by simp [execOp, Act.eval, Act.put, go_sem]⟩) hHeld ?_
  try simp only [Act.put, List.setIfInBounds_toArray, List.set_cons_zero, List.set_cons_succ, List.getElem_toArray, List.getElem_cons_zero, List.getElem_cons_succ]
  refine wpAnyH_take (i := 3) (v := .int .i64 z) rfl (by kernel_rfl) (by kernel_rfl) (by kernel_rfl) (fun _ _ _ h => h) (Or.inl ⟨by rfl, fun w0 hC => by simp [execOp, Act.eval, Act.put, go_sem, hC.1.count HC.out, HZ.out]⟩) hHeld ?_
  try simp only [Act.put, List.setIfInBounds_toArray, List.set_cons_zero, List.set_cons_succ, List.getElem_toArray, List.getElem_cons_zero, List.getElem_cons_succ]
  refine wpAnyH_take (i := 4) (v := .int .i64 (z + 1)) rfl (by kernel_rfl) (by kernel_rfl) (by kernel_rfl) (fun _ _ _ h => h) (Or.inl ⟨by rfl, fun w0 hC => by simp [execOp, Act.eval, Act.put, go_sem, HW.out]⟩) hHeld ?_
  try simp only [Act.put, List.setIfInBounds_toArray, List.set_cons_zero, List.set_cons_succ, List.getElem_toArray, List.getElem_cons_zero, List.getElem_cons_succ]
  refine wpAnyH_take (i := 7) (v := .slice A1 N1 c1) rfl (by kernel_rfl) (by kernel_rfl) (by kernel_rfl) (fun _ _ _ h => h) (Or.inl ⟨by rfl, fun w0 hC => by simp [execOp, Act.eval, Act.put, go_sem]⟩) hHeld ?_
  try simp only [Act.put, List.setIfInBounds_toArray, List.set_cons_zero, List.set_cons_succ, List.getElem_toArray, List.getElem_cons_zero, List.getElem_cons_succ]
  refine wpAnyH_ready (rs := [5]) (by kernel_rfl) (by simp) (AllReadyH.cons rfl (fun K hK => ?_) AllReadyH.nil)
  rw [if_pos (by rfl)]
  go_wp2_with fail
  have hal : Below W3.heap.size W3 (W3.alloc (.cells #[.int .i64 (z + 1)] 3)) := (Below.refl _ _).alloc (Nat.le_refl _) _
  have hbi : Bk (W3.alloc (.cells #[.int .i64 (z + 1)] 3)) W3.heap.size 3 #[.int .i64 (z + 1)] := Bk.new _ _ _
  have HCI : Hid (Col ints (W3.alloc (.cells #[.int .i64 (z + 1)] 3)) (W3.alloc (.cells #[.int .i64 (z + 1)] 3)).heap.size (some ⟨W3.heap.size, 0, none⟩) 1 [z + 1]) := Lib.hid ⟨rfl, fun _ => ⟨_, _, rfl, by simp, fun i a ha => by
    rw [Nat.zero_add, hbi.cell i]
    match i, ha with
    | 0, ha => cases ha; rfl⟩⟩
  have hS := NxAt.next hHeld hal
  have SO3 := Lib.hid (SO.out.below hal)
  clear SO hbi hal hHeld
  have HAS := Lib.hid (show W3.heap.size ≤ (W3.alloc (.cells #[.int .i64 (z + 1)] 3)).heap.size by simp)
  have HBI := Lib.hid (show w.heap.size < (W3.alloc (.cells #[.int .i64 (z + 1)] 3)).heap.size from hS.1.lt)
  refine hK.out _ _ hS (fun hHeld => ?_)
  clear hK K
  try simp only [Act.put, List.setIfInBounds_toArray, List.set_cons_zero, List.set_cons_succ, List.getElem_toArray, List.getElem_cons_zero, List.getElem_cons_succ]
  clear hS
  generalize W3.alloc (.cells #[.int .i64 (z + 1)] 3) = W3b at *
  refine wpAnyH_ready (rs := [6]) (by kernel_rfl) (by simp) (AllReadyH.cons rfl (fun K hK => ?_) AllReadyH.nil)
  rw [if_pos (by rfl)]
  go_wp2_with fail
  refine (pnum_any (some ⟨w.heap.size, 0, none⟩) 32 32 c.head (some ⟨W3.heap.size, 0, none⟩) 1 1 [z + 1] W3b (hHeld.1.headBytes HC.out HBI.out) HCI.out (by omega)).mono ?_
  rintro e W4 ⟨A2, c2, rfl, ho2, hb2⟩
  have HO2 : Hid (OwnB W4 W3.heap.size 5 A2 40 c2 (c.head ++ encB 8 (clampB (z + 1)))) := Lib.hid (by have h9 := ho2.base_le HAS.out; rwa [nums_one15] at h9)
  have SO := SO3
  clear SO3 HCI HBI
  have hS := NxAt.next hHeld hb2
  have SO4 := Lib.hid (SO.out.below hb2)
  have HBS : Hid (W3.heap.size ≤ W4.heap.size) := Lib.hid (Nat.le_trans HAS.out hb2.size)
  clear hHeld hb2 ho2 SO
  refine hK.out _ _ hS (fun hHeld => ?_)
  clear hK K
  try simp only [Act.put, List.setIfInBounds_toArray, List.set_cons_zero, List.set_cons_succ, List.getElem_toArray, List.getElem_cons_zero, List.getElem_cons_succ]
  clear hS
  obtain ⟨A3, c3, W5, hrun, ho3, hb3, _⟩ := run_append_bytes (c' := c1) HO2.out 32 32 Tryd.underlying32 info_u8 SO4.out.bytes (by have := HN1.out; omega) HBS.out
  have HO3 : Hid (OwnB W5 W3.heap.size 5 A3 (40 + N1) c3 (recB c h.e)) := Lib.hid (by
    have h9 := ho3
    rw [HEV.out.2] at h9
    unfold recB
    rw [HZ.out]
    exact h9)
  have HRUN := Lib.hid hrun
  have hS := NxAt.under hHeld hb3 HB3.out
  clear hrun ho3 hb3 hHeld HO2 SO4
  refine wpAnyH_ready (rs := [8]) (by kernel_rfl) (by simp) (AllReadyH.cons rfl (fun K hK => ?_) AllReadyH.nil)
  rw [if_pos (by rfl)]
  refine wp_append_ks (s := .tmp 33) (x := .tmp 34) rfl rfl rfl HRUN.out ?_
  refine hK.out _ _ hS (fun hHeld => ?_)
  clear hK K
  try simp only [Act.put, List.setIfInBounds_toArray, List.set_cons_zero, List.set_cons_succ, List.getElem_toArray, List.getElem_cons_zero, List.getElem_cons_succ]
  clear hS HRUN
  refine wpAnyH_ready (rs := [9]) (by kernel_rfl) (by simp) (AllReadyH.cons rfl (fun K hK => ?_) AllReadyH.nil)
  rw [if_pos (by rfl)]
  go_wp2_with fail
  have hS := hHeld
  clear hHeld
  refine hK.out _ _ hS (fun hHeld => ?_)
  clear hK K
  try simp only [Act.put, List.setIfInBounds_toArray, List.set_cons_zero, List.set_cons_succ, List.getElem_toArray, List.getElem_cons_zero, List.getElem_cons_succ]
  clear hS
  refine wpAnyH_done (by kernel_rfl) ?_ _
  have S := Lib.hid hHeld
  clear hHeld
  go_wp2_with ((with_reducible show wpList _ _ _ (⟨some 37, _, _, _, _, _⟩ :: _) _ _); refine hold ?_)
  refine held (wpList_load_mid rfl 26 (.tmp 2) rfl w.heap.size 0 rfl _ _ S.out.1.range Tryd.underlying26 rfl (info_chl HC.out) ?_)
  go_wp2_with fail
  refine (rcgrown_any c A3 (40 + N1) c3 (recB c h.e) W5 HC.out HO3.out.bytes (by have := HN1.out; omega) (by rw [HZ.out]; exact HLZ.out.1) (by rw [HZ.out]; exact Int.le_of_lt HLZ.out.2) (Tabs.later15 HT.out S.out.2.2.2)).mono ?_
  rintro e W6 ⟨rfl, hb⟩
  have T := Lib.hid (NxAt.next S.out hb)
  have TO := Lib.hid (HO3.out.below hb)
  clear hb S HO3
  go_wp2_with ((with_reducible show wpList _ _ _ (⟨none, _, _, _, _, _⟩ :: _) _ _); refine hold ?_)
  refine held (wpList_store_wide rfl 26 (.tmp 5) (.tmp 39) rfl (w.heap.size + 1 + 1) 0 (chC (grownC c (recB c h.e))) rfl rfl 26 _ T.out.2.2.1 (by rw [chC_size (grownC_ok _ _)]; exact Nat.le_refl _) (info_ch' (grownC_ok _ _)) (chC_one _) ?_)
  intro w10 hw10
  obtain rfl := ch_setRow hw10 ch0_ok (grownC_ok _ _)
  go_wp2_with fail
  exact bodyPost_ret (results_cell3a rfl _ _ ⟨w.heap.size + 1 + 1, 0, none⟩ _ _ _ rfl rfl rfl (Bk.ch (Bk.setRow_same T.out.2.2.1 _) (grownC_ok _ _))) rfl ⟨A3, 40 + N1, c3, by rw [HE.out, HCC.out]; rfl, by rw [HB.out]; exact (own_row TO.out HB3.out _).base_le (by have := HB3.out; omega), below_setRow T.out.2.2.2 (by omega) _⟩
end Go.Proofs.YtoiffchhfnbooaaDoor
