/-
  Contracts over what package rule calls of the library: a rule inserted.
-/
import Derived.Test.YtkalnaidccgbiaaRuleG
import Derived.Lib.Overlaps
import Derived.Deep.RegionHeld3
namespace Go.Proofs.Ytkalnaidccgbiaa
open Go.RowKit
set_option linter.unusedVariables false
set_option linter.unusedSimpArgs false

def InsIs (w : World) (base : Nat) (l : List Rul) (e : Ending) (w' : World) : Prop := ∃ A' n' c', e = .returned (.slice A' n' c') ∧ OwnK 2 rulC w' base 54 A' n' c' l ∧ Below base w w'
set_option maxRecDepth 20000 in
set_option maxHeartbeats 4000000 in
theorem rlInsert_end (base : Nat) (A : Option Addr) (n c vb : Nat) (x : Rul) (l : List Rul) (w : World) (hl : OwnK 2 rulC w base 54 A n c l) (hn : n ≤ 100000) (hv : Bk w vb 54 (rulA x)) (hbw : base ≤ w.heap.size) :
    Calls Try.prog 35 #[.slice A n c, .int .i64 n, .slice (some ⟨vb, 0, none⟩) 1 1] w (InsIs w base (l ++ [x])) := by
  obtain ⟨A3, c3, w3, hrun, ho3, hb3, hg3⟩ := run_append_ks (P := Try.prog) (f := rulC) hl 22 22 Try.underlying22 info_rul rfl (by omega) (by omega) (A' := some ⟨vb, 0, none⟩) (m := 1) (c' := 1) (us := [x]) (B := w.heap.size)
    ⟨rfl, fun _ => ⟨vb, 0, rfl, hv.lt, fun i a ha => by
      cases i with
      | zero => cases ha; rw [Nat.zero_mul, Nat.add_zero]; exact hv.range
      | succ i => cases ha⟩⟩ (ruls_one _) (by omega) hbw
  have HRUN := Lib.hid hrun
  have hnc : n ≤ c := hl.cap.1
  have hcm : c ≤ 9223372036854775807 := hl.cap.2
  clear hrun hl hg3 hv
  have HO3 := Lib.hid ho3
  have HB3 := Lib.hid hb3
  clear ho3 hb3
  by_cases hcn : c = n
  · subst hcn
    go_enter Try.func35, Try.ntmps35
    go_wp2_with ((with_reducible show wpList _ _ _ (⟨some 25, _, _, _, _, _⟩ :: _) _ _); refine hold ?_)
    refine held (wpList_plain rfl fun K hK => wp_append_ks (s := .tmp 23) (x := .tmp 24) rfl rfl rfl HRUN.out (hK _ _ ?_))
    go_wp2_with fail
    go_ret
    exact ⟨_, _, _, rfl, HO3.out, HB3.out⟩
  · go_enter Try.func35, Try.ntmps35
    go_wp2_with ((with_reducible show wpList _ _ _ (⟨some 25, _, _, _, _, _⟩ :: _) _ _); refine hold ?_)
    refine held (wpList_plain rfl fun K hK => wp_append_ks (s := .tmp 23) (x := .tmp 24) rfl rfl rfl HRUN.out (hK _ _ ?_))
    go_wp2_with fail
    go_ret
    exact ⟨_, _, _, rfl, HO3.out, HB3.out⟩

theorem wp_copy_ks {P : Program} {o : Oper} {a : Act} {w w' : World} {K : Act → World → Prop} {Q : Exit → Act → World → Prop} {d s : Operand} {t t' : TypeId} {u v z : Value} (ho : o.op = .call { callee := .builtin .copy, args := #[d, s], argTypes := #[t, t'] })
    (hd : a.eval d = u) (hs : a.eval s = v) (hrun : (Builtin.copy_ #[t, t'] o.type #[u, v]).run P w = .ok z w') (hK : K (a.put o.dst z) w') : o.wp P a w K Q := by
  unfold Oper.wp execOp
  simp only [ho, resolve, invoke, builtin, Sem.run_bind, Sem.run_pure, Result.andThen_ok, List.map_toArray, List.map_cons, List.map_nil, hd, hs, hrun]
  exact hK
theorem wp_append_ks2 {P : Program} {o : Oper} {a : Act} {w w' : World} {K : Act → World → Prop} {Q : Exit → Act → World → Prop} {s x : Operand} {t t' : TypeId} {v y z : Value} (ho : o.op = .call { callee := .builtin .append, args := #[s, x], argTypes := #[t, t'] })
    (hs : a.eval s = v) (hx : a.eval x = y) (hrun : (Builtin.append_ #[t, t'] o.type #[v, y]).run P w = .ok z w') (hK : K (a.put o.dst z) w') : o.wp P a w K Q := by
  unfold Oper.wp execOp
  simp only [ho, resolve, invoke, builtin, Sem.run_bind, Sem.run_pure, Result.andThen_ok, List.map_toArray, List.map_cons, List.map_nil, hs, hx, hrun]
  exact hK
/-- rows us copied over own rows, from row j on -/
theorem RowsK.copied {P : Program} {α : Type} {k : Nat} {f : α → List Value} {w : World} {e : TypeId} {g c : Nat} {l : List α} (h : RowsK k f w e g c l) {j : Nat} (hj : j ≤ l.length) (us : List α) (hc : j + us.length ≤ c)
    (dT sT ty : TypeId) (hu : P.underlying dT = some (.slice e)) (hs : (P.info? e).map (·.size) = some k) (dLen dCap sLen sCap b o : Nat) (hm : Nat.min sLen dLen = us.length) (hsrc : w.rangeAt b o (us.flatMap f)) (h1 : ∀ u ∈ us, ∀ v ∈ f u, v.oneCell' = true) :
    ∃ cur : Array Value, (Builtin.copy_ #[dT, sT] ty #[.slice (some ⟨g, j * k, none⟩) dLen dCap, .slice (some ⟨b, o, none⟩) sLen sCap]).run P w = .ok (goInt us.length) (w.setRow g cur) ∧ RowsK k f (w.setRow g cur) e g c (l.take j ++ us ++ l.drop (j + us.length)) := by
  obtain ⟨cur, hB, hsz, hR⟩ := h.put hj us hc
  refine ⟨_, ?_, hR⟩
  exact run_copy_k w dT sT ty e g (j * k) dLen dCap ⟨b, o, none⟩ sLen sCap cur e (us.flatMap f) hu hs hm hB (by rw [flat_len h.1]) (fun i v hv => by rw [Addr.add_mid]; exact hsrc i v hv)
    (by rw [flat_len h.1, ← Nat.add_mul, hsz]; exact Nat.mul_le_mul_right _ hc) (fun v hv => by obtain ⟨u, hu, hv⟩ := List.mem_flatMap.1 hv; exact h1 u hu v hv)
theorem Bk.shape {w : World} {b : Nat} {t : TypeId} {cs : Array Value} (h : Bk w b t cs) : w.shape? b = some (t, cs.size) := by
  unfold Bk at h
  simp [World.shape?, h]
theorem overlaps_no {w : World} {vb g o la ca lb cb : Nat} {cs cur : Array Value} (hv : Bk w vb 54 cs) (hg : Bk w g 54 cur) (hne : vb ≠ g) (h0 : cur.size ≠ 0) :
    (callFunc 40 #[.slice (some ⟨vb, 0, none⟩) la ca, .slice (some ⟨g, o, none⟩) lb cb]).run Try.prog w = .ok (.value (.bool false)) w := by
  rw [run_callFunc_extern Try.func40 (by kernel_rfl) (by kernel_rfl) (by kernel_rfl) (e := Extern.SlicesOverlaps.overlaps #[22, 22] #[4]) (by kernel_rfl),
    Lib.run_overlaps_apart w 22 4 54 Try.underlying22 2 Try.sizeOf54 ⟨vb, 0, none⟩ ⟨g, o, none⟩ la ca lb cb hne 54 54 cs.size cur.size hv.shape hg.shape h0 (hv.frozen 0) (hv.frozen cs.size)]
  rfl
theorem ins_shift {l : List Rul} {i : Nat} (hi : i < l.length) (x : Rul) : (l.take (i + 1) ++ l.drop i).take i ++ [x] ++ (l.take (i + 1) ++ l.drop i).drop (i + 1) = l.take i ++ [x] ++ l.drop i := by
  have h1 : (l.take (i + 1)).length = i + 1 := by rw [List.length_take]; omega
  rw [List.take_append_of_le_length (by omega), List.take_take, List.drop_append, List.drop_eq_nil_of_le (by omega), h1, Nat.sub_self, List.drop_zero, List.nil_append, show min i (i + 1) = i by omega]
theorem size_rul (w : World) : (sizeOf (Try.prog.elem 22)).run Try.prog w = .ok 2 w := by
  have hel : Try.prog.elem 22 = 54 := by simp [Program.elem, Try.underlying22]
  rw [hel]; exact Try.sizeOf54 w
theorem und_ruls : Try.prog.underlying 22 = some (.slice (Try.prog.elem 22)) := by
  have hel : Try.prog.elem 22 = 54 := by simp [Program.elem, Try.underlying22]
  rw [hel]; exact Try.underlying22
theorem exec_from13 {o : Oper} {ρ : Operand → Value} {x lo : Operand} {g n c j : Nat} {w : World} (ho : o.op = .slice 22 x (some lo) none none) (hx : ρ x = .slice (some ⟨g, 0, none⟩) n c) (hl : ρ lo = .int .i64 (j : Int)) (hj : j ≤ n) (hc : n ≤ c) (hcj : ¬ (c = j)) :
    (execOp ρ o).run Try.prog w = .ok (.value (.slice (some ⟨g, j * 2, none⟩) (n - j) (c - j))) w := by
  have hrun : (Instr.sliceAt 22 (.slice (some ⟨g, 0, none⟩) n c) (some (.int .i64 (j : Int))) none none).run Try.prog w = .ok (.slice (some ⟨g, j * 2, none⟩) (n - j) (c - j)) w := by
    rw [run_sliceAt_slice w 22 _ _ _ _ und_ruls, run_slice_l w 22 _ n c und_ruls .i64 (j : Int) (by omega) (by omega), size_rul]
    simp [Result.andThen_ok, sliced, hcj]
    rw [Addr.add_mid, Nat.zero_add]
  unfold execOp
  simp [ho, hx, hl, hrun]
set_option maxRecDepth 20000 in
set_option maxHeartbeats 4000000 in
theorem rlInsert_shift (base g n c i vb : Nat) (x : Rul) (l : List Rul) (w : World) (hl : RowsK 2 rulC w 54 g c l) (hln : l.length = n) (hbg : base ≤ g) (hn : n ≤ 100000) (hi : i < n) (hroom : n + 1 ≤ c) (hv : Bk w vb 54 (rulA x)) (hne : vb ≠ g) (hbw : base ≤ w.heap.size) :
    Calls Try.prog 35 #[.slice (some ⟨g, 0, none⟩) n c, .int .i64 i, .slice (some ⟨vb, 0, none⟩) 1 1] w (InsIs w base (l.take i ++ [x] ++ l.drop i)) := by
  have hcm : c ≤ 9223372036854775807 := hl.2.2.1
  have hinfo : (Try.prog.info? 54).map (·.size) = some 2 := by kernel_rfl
  have HOV : Hid (∀ la ca lb cb o, (callFunc 40 #[.slice (some ⟨vb, 0, none⟩) la ca, .slice (some ⟨g, o, none⟩) lb cb]).run Try.prog w = .ok (.value (.bool false)) w) := Lib.hid (by
    intro la ca lb cb o
    obtain ⟨_, _, _, cur, rest, hB, hs, _⟩ := hl
    exact overlaps_no hv hB hne (by rw [hs]; omega))
  have HC1 : Hid (∃ W1 : World, RowsK 2 rulC W1 54 g c (l.take (i + 1) ++ l.drop i) ∧ Below base w W1 ∧ Bk W1 vb 54 (rulA x) ∧ ∀ ty dc sc, (Builtin.copy_ #[22, 22] ty #[.slice (some ⟨g, (i + 1) * 2, none⟩) (n - i) dc, .slice (some ⟨g, i * 2, none⟩) (n + 1 - i) sc]).run Try.prog w.drew = .ok (goInt ((n - i : Nat) : Int)) W1) := Lib.hid (by
    have hd : (l.drop i).length = n - i := by rw [List.length_drop, hln]
    obtain ⟨cur, hB, hsz, hR⟩ := hl.drew.put (j := i + 1) (by omega) (l.drop i) (by omega)
    rw [show l.take (i + 1) ++ l.drop i ++ l.drop (i + 1 + (l.drop i).length) = l.take (i + 1) ++ l.drop i by rw [show l.drop (i + 1 + (l.drop i).length) = [] from List.drop_eq_nil_of_le (by rw [hd]; omega), List.append_nil]] at hR
    refine ⟨_, hR, Ytkalnaidccgbiaa.below_setRow (Below.refl _ _).drew hbg _, hv.drew.setRow_other hne _, fun ty dc sc => ?_⟩
    rw [← hd]
    exact run_copy_k w.drew 22 22 ty 54 g ((i + 1) * 2) _ dc ⟨g, i * 2, none⟩ _ sc cur 54 ((l.drop i).flatMap rulC) Try.underlying22 hinfo (by rw [hd]; exact Nat.min_eq_right (by omega)) hB (by rw [flat_len rulC_len])
      (fun j v hj => by rw [Addr.add_mid]; exact hl.drew.flat i j v hj) (by rw [flat_len rulC_len, ← Nat.add_mul, hsz]; exact Nat.mul_le_mul_right _ (by omega)) (fun v hv => by obtain ⟨u, hu, hv⟩ := List.mem_flatMap.1 hv; exact rulC_one u v hv))
  obtain ⟨W1, hR1, hb1, hv1, hrun1⟩ := HC1.out
  have HC2 : Hid (∃ W2 : World, RowsK 2 rulC W2 54 g c (l.take i ++ [x] ++ l.drop i) ∧ Below base w W2 ∧ ∀ ty dc, (Builtin.copy_ #[22, 22] ty #[.slice (some ⟨g, i * 2, none⟩) (n + 1 - i) dc, .slice (some ⟨vb, 0, none⟩) 1 1]).run Try.prog W1 = .ok (goInt 1) W2) := Lib.hid (by
    have hl1 : (l.take (i + 1) ++ l.drop i).length = n + 1 := by rw [List.length_append, List.length_take, List.length_drop, hln]; omega
    obtain ⟨cur, hB, hsz, hR⟩ := hR1.put (j := i) (by omega) [x] (by simp; omega)
    rw [show i + [x].length = i + 1 from rfl, ins_shift (by omega)] at hR
    refine ⟨_, hR, Ytkalnaidccgbiaa.below_setRow hb1 hbg _, fun ty dc => ?_⟩
    exact run_copy_k W1 22 22 ty 54 g (i * 2) _ dc ⟨vb, 0, none⟩ 1 1 cur 54 ([x].flatMap rulC) Try.underlying22 hinfo (m := 1) (Nat.min_eq_left (by omega)) hB (by simp; rfl)
      (fun j v hj => by rw [Addr.add_mid]; exact hv1.range j v (by simpa [rulA] using hj)) (by rw [flat_len rulC_len, ← Nat.add_mul, hsz]; exact Nat.mul_le_mul_right _ (by simp; omega)) (fun v hv => by obtain ⟨u, hu, hv⟩ := List.mem_flatMap.1 hv; exact rulC_one u v hv))
  obtain ⟨W2, hR2, hb2, hrun2⟩ := HC2.out
  have HR2 := Lib.hid hR2
  have HB2 := Lib.hid hb2
  have HRUN1 := Lib.hid hrun1
  have HRUN2 := Lib.hid hrun2
  have HLN : Hid ((l.take i ++ [x] ++ l.drop i).length = n + 1) := Lib.hid (by simp only [List.length_append, List.length_take, List.length_drop, List.length_cons, List.length_nil, hln]; omega)
  have hz2 : ¬ ((i : Int) = (n : Int)) := by omega
  have hz3 : ¬ ((c : Int) < (n : Int) + 1) := by omega
  have hw1 : IntKind.i64.wrap ((i : Int) + 1) = (i : Int) + 1 := IntWalk.i64_in _ (by omega)
  have hb1' : (0 : Int) ≤ (i : Int) + 1 := by omega
  have hi0 : (0 : Int) ≤ (i : Int) := by omega
  have hin : (i : Int) ≤ (n : Int) := by omega
  have htn : ((i : Int) + 1).toNat = i + 1 := by omega
  have hci : ¬ (c = i) := by omega
  have hci1 : ¬ (c = i + 1) := by omega
  have hi1n : (i : Int) + 1 ≤ (n : Int) + 1 := by omega
  have hin1 : (i : Int) ≤ (n : Int) + 1 := by omega
  clear hR1 hb1 hv1 hrun1 hR2 hb2 hrun2 HC1 HC2 hl hv hln
  go_enter Try.func35, Try.ntmps35
  go_wp2_with (simp only [HOV.out])
  have hm : Try.prog.follows .mixedOrders = true := by kernel_rfl
  have hwq : IntKind.i64.wrap ((i : Int) + 1) = ((i + 1 : Nat) : Int) := by rw [hw1]; omega
  refine wp_region_held_drew (S := fun _ => True) hm trivial (fun hHeld => ?_)
  simp only [List.size_toArray, List.length_cons, List.length_nil, Nat.reduceAdd]
  refine wpAnyH_take (i := 0) (v := .slice (some ⟨g, 0, none⟩) (n + 1) c) rfl (by kernel_rfl) (by kernel_rfl) (by kernel_rfl) (fun _ _ _ h => h) (Or.inl ⟨by rfl, fun w0 hC => by simp [execOp, Act.eval, Act.put, go_sem]⟩) hHeld ?_
  try simp only [Act.put, List.setIfInBounds_toArray, List.set_cons_zero, List.set_cons_succ, List.getElem_toArray, List.getElem_cons_zero, List.getElem_cons_succ]
  refine wpAnyH_take (i := 1) (v := .int .i64 (i : Int)) rfl (by kernel_rfl) (by kernel_rfl) (by kernel_rfl) (fun _ _ _ h => h) (Or.inl ⟨by rfl, fun w0 hC => by simp [execOp, Act.eval, Act.put, go_sem]⟩) hHeld ?_
  try simp only [Act.put, List.setIfInBounds_toArray, List.set_cons_zero, List.set_cons_succ, List.getElem_toArray, List.getElem_cons_zero, List.getElem_cons_succ]
  refine wpAnyH_take (i := 2) (v := .int .i64 1) rfl (by kernel_rfl) (by kernel_rfl) (by kernel_rfl) (fun _ _ _ h => h) (Or.inl ⟨by rfl, fun w0 hC => by simp [execOp, Act.eval, Act.put, go_sem]⟩) hHeld ?_
  try simp only [Act.put, List.setIfInBounds_toArray, List.set_cons_zero, List.set_cons_succ, List.getElem_toArray, List.getElem_cons_zero, List.getElem_cons_succ]
  refine wpAnyH_take (i := 3) (v := .int .i64 ((i + 1 : Nat) : Int)) rfl (by kernel_rfl) (by kernel_rfl) (by kernel_rfl) (fun _ _ _ h => h) (Or.inl ⟨by rfl, fun w0 hC => by simp [execOp, Act.eval, Act.put, go_sem, hwq]⟩) hHeld ?_
  try simp only [Act.put, List.setIfInBounds_toArray, List.set_cons_zero, List.set_cons_succ, List.getElem_toArray, List.getElem_cons_zero, List.getElem_cons_succ]
  refine wpAnyH_take (i := 4) (v := .slice (some ⟨g, (i + 1) * 2, none⟩) (n + 1 - (i + 1)) (c - (i + 1))) rfl (by kernel_rfl) (by kernel_rfl) (by kernel_rfl) (fun _ _ _ h => h) (Or.inl ⟨by rfl, fun w0 hC => exec_from13 rfl rfl rfl (by omega) hroom hci1⟩) hHeld ?_
  try simp only [Act.put, List.setIfInBounds_toArray, List.set_cons_zero, List.set_cons_succ, List.getElem_toArray, List.getElem_cons_zero, List.getElem_cons_succ]
  refine wpAnyH_take (i := 5) (v := .slice (some ⟨g, 0, none⟩) (n + 1) c) rfl (by kernel_rfl) (by kernel_rfl) (by kernel_rfl) (fun _ _ _ h => h) (Or.inl ⟨by rfl, fun w0 hC => by simp [execOp, Act.eval, Act.put, go_sem]⟩) hHeld ?_
  try simp only [Act.put, List.setIfInBounds_toArray, List.set_cons_zero, List.set_cons_succ, List.getElem_toArray, List.getElem_cons_zero, List.getElem_cons_succ]
  refine wpAnyH_take (i := 6) (v := .int .i64 (i : Int)) rfl (by kernel_rfl) (by kernel_rfl) (by kernel_rfl) (fun _ _ _ h => h) (Or.inl ⟨by rfl, fun w0 hC => by simp [execOp, Act.eval, Act.put, go_sem]⟩) hHeld ?_
  try simp only [Act.put, List.setIfInBounds_toArray, List.set_cons_zero, List.set_cons_succ, List.getElem_toArray, List.getElem_cons_zero, List.getElem_cons_succ]
  refine wpAnyH_take (i := 7) (v := .slice (some ⟨g, i * 2, none⟩) (n + 1 - i) (c - i)) rfl (by kernel_rfl) (by kernel_rfl) (by kernel_rfl) (fun _ _ _ h => h) (Or.inl ⟨by rfl, fun w0 hC => exec_from13 rfl rfl rfl (by omega) hroom hci⟩) hHeld ?_
  try simp only [Act.put, List.setIfInBounds_toArray, List.set_cons_zero, List.set_cons_succ, List.getElem_toArray, List.getElem_cons_zero, List.getElem_cons_succ]
  refine wpAnyH_ready (rs := [8]) (by kernel_rfl) (by simp) (AllReadyH.cons rfl (fun K hK => ?_) AllReadyH.nil)
  rw [if_pos (by rfl)]
  refine wp_copy_ks (d := .tmp 73) (s := .tmp 76) rfl rfl rfl (by rw [show n + 1 - (i + 1) = n - i by omega]; exact HRUN1.out _ _ _) ?_
  refine hK.out _ _ trivial (fun hHeld => ?_)
  clear hK K
  try simp only [Act.put, List.setIfInBounds_toArray, List.set_cons_zero, List.set_cons_succ, List.getElem_toArray, List.getElem_cons_zero, List.getElem_cons_succ]
  refine wpAnyH_done (by kernel_rfl) ?_ _
  go_wp2_with ((with_reducible show wpList _ _ _ (⟨some 82, _, _, _, _, _⟩ :: _) _ _); refine hold ?_)
  refine held (wpList_plain rfl fun K hK => wp_copy_ks (d := .tmp 80) (s := .tmp 81) rfl rfl rfl (HRUN2.out _ _) (hK _ _ ?_))
  go_wp2_with fail
  go_ret
  refine ⟨some ⟨g, 0, none⟩, n + 1, c, rfl, ?_, HB2.out⟩
  have := HR2.out.own hbg
  rw [HLN.out] at this
  simpa using this

/-- a slice made longer by nothing but room: a new row of which the first ones are what they were -/
theorem run_grow13 (w : World) (g n c i : Nat) (l : List Rul) (hl : RowsK 2 rulC w 54 g c l) (hln : l.length = n) (hn : n ≤ 100000) (hi : i < n) (hroom : c < n + 1) (ty : TypeId) :
    ∃ W1 c2, (Builtin.append_ #[22, 3] ty #[.slice (some ⟨g, 0, none⟩) i c, .int .i64 ((n + 1 - i : Nat) : Int)]).run Try.prog w = .ok (.slice (some ⟨w.heap.size, 0, none⟩) (n + 1) c2) W1 ∧ n + 1 ≤ c2 ∧ c2 ≤ maxLen ∧
      RowsK 2 rulC W1 54 w.heap.size c2 (l.take i) ∧ Below w.heap.size w W1 := by
  obtain ⟨inf, hinf, hz, hs, hb⟩ := info_parts info_rul
  have hlt : (l.take i).length = i := by rw [List.length_take]; omega
  have hold : (Builtin.firstCells inf.size i (.slice (some ⟨g, 0, none⟩) i c)).run Try.prog w.drew = .ok ((l.take i).flatMap rulC).toArray w.drew := by
    rw [hs]
    refine run_firstCells_some w.drew 2 i ⟨g, 0, none⟩ i c _ (by rw [flat_len rulC_len, hlt]) (fun j v hj => ?_)
    rw [Addr.add_mid, Nat.zero_add]
    have := (hl.drew.to i).flat 0 j v (by simpa using hj)
    simpa using this
  have h := Lib.run_append_grow_zeros w 22 3 ty 54 inf _ .i64 .i64 Try.underlying22 Try.underlying3 hinf hz (some ⟨g, 0, none⟩) i c _ hold (n + 1 - i) (by omega) (by rw [hs]; omega) (by omega) (by omega) (by rw [hb]; omega) (by rw [hb]; exact growslice_fits (by omega) (by omega))
  rw [show i + (n + 1 - i) = n + 1 by omega] at h
  have hg1 := grownCap_ge w (n + 1) c 54
  have hg2 := grownCap_le_maxLen w (n + 1) c 54 (by unfold maxLen; omega)
  refine ⟨_, _, h, hg1, hg2, ⟨rulC_len, by rw [hlt]; omega, hg2, _, (Builtin.zeroCells (Value.agg #[.string ByteArray.empty, .int .i64 0]).cells (n + 1 - i)).toList ++ (Builtin.zeroCells (Value.agg #[.string ByteArray.empty, .int .i64 0]).cells (grownCap w (n + 1) c 54 - (n + 1))).toList, Bk.new w.drew _ _, ?_, ?_⟩, (Below.refl _ _).drew.alloc (Nat.le_refl _) _⟩
  · rw [Array.size_append, Array.size_append, size_zeroCells, size_zeroCells, List.size_toArray, flat_len rulC_len, hlt]
    show i * 2 + (n + 1 - i) * 2 + (grownCap w (n + 1) c 54 - (n + 1)) * 2 = _
    omega
  · simp
set_option maxRecDepth 20000 in
set_option maxHeartbeats 4000000 in
theorem rlInsert_grow (base g n c i vb : Nat) (x : Rul) (l : List Rul) (w : World) (hl : RowsK 2 rulC w 54 g c l) (hln : l.length = n) (hn : n ≤ 100000) (hi : i < n) (hnc : n ≤ c) (hroom : c < n + 1) (hv : Bk w vb 54 (rulA x)) (hbw : base ≤ w.heap.size) :
    Calls Try.prog 35 #[.slice (some ⟨g, 0, none⟩) n c, .int .i64 i, .slice (some ⟨vb, 0, none⟩) 1 1] w (InsIs w base (l.take i ++ [x] ++ l.drop i)) := by
  have hinfo : (Try.prog.info? 54).map (·.size) = some 2 := by kernel_rfl
  obtain ⟨W1, c2, hrun0, hc2, hcm2, hR1, hb1⟩ := run_grow13 w g n c i l hl hln hn hi hroom 22
  have hlt : (l.take i).length = i := by rw [List.length_take]; omega
  obtain ⟨h, hh⟩ : ∃ h, h = w.heap.size := ⟨_, rfl⟩
  rw [← hh] at hrun0 hR1
  have hvh : vb ≠ h := by have := hv.lt; omega
  have hgh : g ≠ h := by have := hl.lt; omega
  have hbh : base ≤ h := by omega
  have hd : (l.drop i).length = n - i := by rw [List.length_drop, hln]
  have hg1 : RowsK 2 rulC W1 54 g c l := hl.below hb1
  have hv1 : Bk W1 vb 54 (rulA x) := hv.below hb1 hv.lt
  have hbb1 : Below base w W1 := hb1.mono hbw
  have HC2 : Hid (∃ W2 : World, RowsK 2 rulC W2 54 h c2 (l.take i ++ [x]) ∧ RowsK 2 rulC W2 54 g c l ∧ Below base w W2 ∧ ∀ ty dc, (Builtin.copy_ #[22, 22] ty #[.slice (some ⟨h, i * 2, none⟩) (n + 1 - i) dc, .slice (some ⟨vb, 0, none⟩) 1 1]).run Try.prog W1 = .ok (goInt 1) W2) := Lib.hid (by
    obtain ⟨cur, hB, hsz, hR⟩ := hR1.put (j := i) (by omega) [x] (by simp; omega)
    rw [show (l.take i).take i ++ [x] ++ (l.take i).drop (i + [x].length) = l.take i ++ [x] by rw [List.take_take, Nat.min_self, List.drop_eq_nil_of_le (by rw [hlt]; simp), List.append_nil]] at hR
    refine ⟨_, hR, ?_, Ytkalnaidccgbiaa.below_setRow hbb1 hbh _, fun ty dc => ?_⟩
    · obtain ⟨a1, a2, a3, cur', rest, a4, a5⟩ := hg1
      exact ⟨a1, a2, a3, cur', rest, a4.setRow_other hgh _, a5⟩
    exact run_copy_k W1 22 22 ty 54 h (i * 2) _ dc ⟨vb, 0, none⟩ 1 1 cur 54 ([x].flatMap rulC) Try.underlying22 hinfo (m := 1) (Nat.min_eq_left (by omega)) hB (by simp; rfl)
      (fun j v hj => by rw [Addr.add_mid]; exact hv1.range j v (by simpa [rulA] using hj)) (by rw [flat_len rulC_len, ← Nat.add_mul, hsz]; exact Nat.mul_le_mul_right _ (by simp; omega)) (fun v hv => by obtain ⟨u, hu, hv⟩ := List.mem_flatMap.1 hv; exact rulC_one u v hv))
  obtain ⟨W2, hR2, hg2, hb2, hrun1⟩ := HC2.out
  have HC3 : Hid (∃ W3 : World, RowsK 2 rulC W3 54 h c2 (l.take i ++ [x] ++ l.drop i) ∧ Below base w W3 ∧ ∀ ty dc sc, (Builtin.copy_ #[22, 22] ty #[.slice (some ⟨h, (i + 1) * 2, none⟩) (n - i) dc, .slice (some ⟨g, i * 2, none⟩) (n - i) sc]).run Try.prog W2.drew = .ok (goInt ((n - i : Nat) : Int)) W3) := Lib.hid (by
    have hl2 : (l.take i ++ [x]).length = i + 1 := by rw [List.length_append, hlt]; rfl
    obtain ⟨cur, hB, hsz, hR⟩ := hR2.drew.put (j := i + 1) (by omega) (l.drop i) (by omega)
    rw [show (l.take i ++ [x]).take (i + 1) ++ l.drop i ++ (l.take i ++ [x]).drop (i + 1 + (l.drop i).length) = l.take i ++ [x] ++ l.drop i by
      rw [List.take_of_length_le (by omega), show (l.take i ++ [x]).drop (i + 1 + (l.drop i).length) = [] from List.drop_eq_nil_of_le (by omega), List.append_nil]] at hR
    refine ⟨_, hR, Ytkalnaidccgbiaa.below_setRow hb2.drew hbh _, fun ty dc sc => ?_⟩
    rw [← hd]
    exact run_copy_k W2.drew 22 22 ty 54 h ((i + 1) * 2) _ dc ⟨g, i * 2, none⟩ _ sc cur 54 ((l.drop i).flatMap rulC) Try.underlying22 hinfo (Nat.min_self _) hB (by rw [flat_len rulC_len])
      (fun j v hj => by rw [Addr.add_mid]; exact hg2.drew.flat i j v hj) (by rw [flat_len rulC_len, ← Nat.add_mul, hsz]; exact Nat.mul_le_mul_right _ (by omega)) (fun v hv => by obtain ⟨u, hu, hv⟩ := List.mem_flatMap.1 hv; exact rulC_one u v hv))
  obtain ⟨W3, hR3, hb3, hrun2⟩ := HC3.out
  have HR3 := Lib.hid hR3
  have HB3 := Lib.hid hb3
  have HRUN0 := Lib.hid hrun0
  have HRUN1 := Lib.hid hrun1
  have HRUN2 := Lib.hid hrun2
  have HLN : Hid ((l.take i ++ [x] ++ l.drop i).length = n + 1) := Lib.hid (by simp only [List.length_append, List.length_take, List.length_drop, List.length_cons, List.length_nil, hln]; omega)
  have hcm : c ≤ 9223372036854775807 := hl.2.2.1
  have hz2 : ¬ ((i : Int) = (n : Int)) := by omega
  have hz3 : (c : Int) < (n : Int) + 1 := by omega
  have hw1 : IntKind.i64.wrap ((i : Int) + 1) = (i : Int) + 1 := IntWalk.i64_in _ (by omega)
  have hb1' : (0 : Int) ≤ (i : Int) + 1 := by omega
  have hi0 : (0 : Int) ≤ (i : Int) := by omega
  have hin : (i : Int) ≤ (n : Int) := by omega
  have htn : ((i : Int) + 1).toNat = i + 1 := by omega
  have hci : ¬ (c = i) := by omega
  have hc2i : ¬ (c2 = i) := by omega
  have hc2i1 : ¬ (c2 = i + 1) := by omega
  have hkk : (n : Int) + 1 - (i : Int) = ((n + 1 - i : Nat) : Int) := by omega
  have hcm3 : c2 ≤ 9223372036854775807 := hcm2
  have hic : (i : Int) ≤ (c : Int) := by omega
  clear hR1 hb1 hv1 hrun1 hR2 hb2 hrun2 HC2 HC3 hl hv hln hh hrun0 hg1 hg2 hR3 hb3 hbb1 hd hlt
  go_enter Try.func35, Try.ntmps35
  go_wp2_with ((with_reducible show wpList _ _ _ (⟨some 40, _, _, _, _, _⟩ :: _) _ _); refine hold ?_)
  refine held (wpList_plain rfl fun K hK => wp_append_ks2 (s := .tmp 34) (x := .tmp 39) rfl rfl rfl HRUN0.out (hK _ _ ?_))
  go_wp2_with ((with_reducible show wpList _ _ _ (⟨some 45, _, _, _, _, _⟩ :: _) _ _); refine hold ?_)
  refine held (wpList_plain rfl fun K hK => wp_copy_ks (d := .tmp 43) (s := .tmp 44) rfl rfl rfl (HRUN1.out _ _) (hK _ _ ?_))
  go_wp2_with fail
  have hm : Try.prog.follows .mixedOrders = true := by kernel_rfl
  have hwq : IntKind.i64.wrap ((i : Int) + 1) = ((i + 1 : Nat) : Int) := by rw [hw1]; omega
  refine wp_region_held_drew (S := fun _ => True) hm trivial (fun hHeld => ?_)
  simp only [List.size_toArray, List.length_cons, List.length_nil, Nat.reduceAdd]
  refine wpAnyH_take (i := 0) (v := .slice (some ⟨h, 0, none⟩) (n + 1) c2) rfl (by kernel_rfl) (by kernel_rfl) (by kernel_rfl) (fun _ _ _ h => h) (Or.inl ⟨by rfl, fun w0 hC => by simp [execOp, Act.eval, Act.put, go_sem]⟩) hHeld ?_
  try simp only [Act.put, List.setIfInBounds_toArray, List.set_cons_zero, List.set_cons_succ, List.getElem_toArray, List.getElem_cons_zero, List.getElem_cons_succ]
  refine wpAnyH_take (i := 1) (v := .int .i64 (i : Int)) rfl (by kernel_rfl) (by kernel_rfl) (by kernel_rfl) (fun _ _ _ h => h) (Or.inl ⟨by rfl, fun w0 hC => by simp [execOp, Act.eval, Act.put, go_sem]⟩) hHeld ?_
  try simp only [Act.put, List.setIfInBounds_toArray, List.set_cons_zero, List.set_cons_succ, List.getElem_toArray, List.getElem_cons_zero, List.getElem_cons_succ]
  refine wpAnyH_take (i := 2) (v := .int .i64 1) rfl (by kernel_rfl) (by kernel_rfl) (by kernel_rfl) (fun _ _ _ h => h) (Or.inl ⟨by rfl, fun w0 hC => by simp [execOp, Act.eval, Act.put, go_sem]⟩) hHeld ?_
  try simp only [Act.put, List.setIfInBounds_toArray, List.set_cons_zero, List.set_cons_succ, List.getElem_toArray, List.getElem_cons_zero, List.getElem_cons_succ]
  refine wpAnyH_take (i := 3) (v := .int .i64 ((i + 1 : Nat) : Int)) rfl (by kernel_rfl) (by kernel_rfl) (by kernel_rfl) (fun _ _ _ h => h) (Or.inl ⟨by rfl, fun w0 hC => by simp [execOp, Act.eval, Act.put, go_sem, hwq]⟩) hHeld ?_
  try simp only [Act.put, List.setIfInBounds_toArray, List.set_cons_zero, List.set_cons_succ, List.getElem_toArray, List.getElem_cons_zero, List.getElem_cons_succ]
  refine wpAnyH_take (i := 4) (v := .slice (some ⟨h, (i + 1) * 2, none⟩) (n + 1 - (i + 1)) (c2 - (i + 1))) rfl (by kernel_rfl) (by kernel_rfl) (by kernel_rfl) (fun _ _ _ h => h) (Or.inl ⟨by rfl, fun w0 hC => exec_from13 rfl rfl rfl (by omega) hc2 hc2i1⟩) hHeld ?_
  try simp only [Act.put, List.setIfInBounds_toArray, List.set_cons_zero, List.set_cons_succ, List.getElem_toArray, List.getElem_cons_zero, List.getElem_cons_succ]
  refine wpAnyH_take (i := 5) (v := .slice (some ⟨g, 0, none⟩) n c) rfl (by kernel_rfl) (by kernel_rfl) (by kernel_rfl) (fun _ _ _ h => h) (Or.inl ⟨by rfl, fun w0 hC => by simp [execOp, Act.eval, Act.put, go_sem]⟩) hHeld ?_
  try simp only [Act.put, List.setIfInBounds_toArray, List.set_cons_zero, List.set_cons_succ, List.getElem_toArray, List.getElem_cons_zero, List.getElem_cons_succ]
  refine wpAnyH_take (i := 6) (v := .int .i64 (i : Int)) rfl (by kernel_rfl) (by kernel_rfl) (by kernel_rfl) (fun _ _ _ h => h) (Or.inl ⟨by rfl, fun w0 hC => by simp [execOp, Act.eval, Act.put, go_sem]⟩) hHeld ?_
  try simp only [Act.put, List.setIfInBounds_toArray, List.set_cons_zero, List.set_cons_succ, List.getElem_toArray, List.getElem_cons_zero, List.getElem_cons_succ]
  refine wpAnyH_take (i := 7) (v := .slice (some ⟨g, i * 2, none⟩) (n - i) (c - i)) rfl (by kernel_rfl) (by kernel_rfl) (by kernel_rfl) (fun _ _ _ h => h) (Or.inl ⟨by rfl, fun w0 hC => exec_from13 rfl rfl rfl (by omega) hnc hci⟩) hHeld ?_
  try simp only [Act.put, List.setIfInBounds_toArray, List.set_cons_zero, List.set_cons_succ, List.getElem_toArray, List.getElem_cons_zero, List.getElem_cons_succ]
  refine wpAnyH_ready (rs := [8]) (by kernel_rfl) (by simp) (AllReadyH.cons rfl (fun K hK => ?_) AllReadyH.nil)
  rw [if_pos (by rfl)]
  refine wp_copy_ks (d := .tmp 50) (s := .tmp 53) rfl rfl rfl (by rw [show n + 1 - (i + 1) = n - i by omega]; exact HRUN2.out _ _ _) ?_
  refine hK.out _ _ trivial (fun hHeld => ?_)
  clear hK K
  try simp only [Act.put, List.setIfInBounds_toArray, List.set_cons_zero, List.set_cons_succ, List.getElem_toArray, List.getElem_cons_zero, List.getElem_cons_succ]
  refine wpAnyH_done (by kernel_rfl) ?_ _
  go_wp2_with fail
  go_ret
  refine ⟨some ⟨h, 0, none⟩, n + 1, c2, rfl, ?_, HB3.out⟩
  have := HR3.out.own hbh
  rw [HLN.out] at this
  simpa using this

theorem rlInsert_any (base : Nat) (A : Option Addr) (n c i vb : Nat) (x : Rul) (l : List Rul) (w : World) (hl : OwnK 2 rulC w base 54 A n c l) (hn : n ≤ 100000) (hi : i ≤ n) (hv : Bk w vb 54 (rulA x)) (hne : ∀ a, A = some a → vb ≠ a.block) (hbw : base ≤ w.heap.size) :
    Calls Try.prog 35 #[.slice A n c, .int .i64 i, .slice (some ⟨vb, 0, none⟩) 1 1] w (InsIs w base (l.take i ++ [x] ++ l.drop i)) := by
  rcases Nat.lt_or_ge i n with h | h
  · obtain ⟨g, rfl, hbg, hR⟩ := hl.rows (by omega)
    rcases Nat.lt_or_ge n c with h2 | h2
    · exact rlInsert_shift base g n c i vb x l w hR hl.len hbg hn h h2 hv (hne _ rfl) hbw
    · exact rlInsert_grow base g n c i vb x l w hR hl.len hn h hl.cap.1 (by omega) hv hbw
  · obtain rfl : i = n := by omega
    have := rlInsert_end base A i c vb x l w hl hn hv hbw
    have hlen := hl.len
    rw [List.take_of_length_le (by omega), List.drop_eq_nil_of_le (by omega), List.append_nil]
    exact this
end Go.Proofs.Ytkalnaidccgbiaa
