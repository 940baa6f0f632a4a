/-
  The law ShaSteps as a walk.
-/
import Derived.Test.YtihpfkkbnbjboaaDoorShaLawsA
import Derived.Test.YtihpfkkbnbjboaaDoorShaRefG
import Derived.Deep.QuietTactic
namespace Go.Proofs.YtihpfkkbnbjboaaDoor
set_option linter.unusedVariables false
set_option linter.unusedSimpArgs false
open Go.RowKit

section
variable {P : Program} {ops : Array Oper} {C : World → Prop} {Q : Act → Prop} {a : Act} {o : Oper} {rest : List Oper}
/-- an operation that answers one value in every world of a class -/
theorem quiet_val {v : Value} (hw : Region.wanted o (yielded ops a.tmps) = true) (h : ∀ w, C w → (execOp a.eval o).run P w = .ok (.value v) w) (hn : wpQuiet P ops C Q rest (a.put o.dst v)) : wpQuiet P ops C Q (o :: rest) a := by
  unfold wpQuiet
  rw [if_pos hw]
  exact ⟨v, fun w hC => by unfold Oper.quietAt; rw [h w hC]; exact ⟨rfl, rfl⟩, hn⟩
/-- a call whose answer is one value in every world of a class, and that stays within the class -/
theorem quiet_call {v : Value} {f : FuncId} {args : Array Value} (hw : Region.wanted o (yielded ops a.tmps) = true) (h : ∀ w, C w → (execOp a.eval o).run P w = .ok (.enter f args) w)
    (hc : ∀ w, C w → Calls P f args w fun e w'' => e = .returned v ∧ C w'') (hn : wpQuiet P ops C Q rest (a.put o.dst v)) : wpQuiet P ops C Q (o :: rest) a := by
  unfold wpQuiet
  rw [if_pos hw]
  exact ⟨v, fun w hC => by unfold Oper.quietAt; rw [h w hC]; exact ⟨rfl, hc w hC⟩, hn⟩
theorem exec_eql {w : World} {ρ : Operand → Value} {t yt : TypeId} {x y : Operand} (ho : o.op = .binOp .eql t x y yt) {vx vy v : Value} (hx : ρ x = vx) (hy : ρ y = vy) (hg : (eqGuard .eql t x y vx vy).run P w = .ok () w) (h : (binOp .eql t vx vy).run P w = .ok v w) : (execOp ρ o).run P w = .ok (.value v) w := by
  unfold execOp
  simp [ho, hx, hy, hg, h]
theorem exec_move {w : World} {ρ : Operand → Value} {x : Operand} (ho : o.op = .move x) {v : Value} (hx : ρ x = v) : (execOp ρ o).run P w = .ok (.value v) w := by
  unfold execOp
  simp [ho, hx]
theorem exec_fn {w : World} {ρ : Operand → Value} {f : FuncId} {xs : Array Operand} {ts : Array TypeId} {args : Array Value} (ho : o.op = .call { callee := .value (.func f), args := xs, argTypes := ts }) (hf : ρ (.func f) = .func (.func f) #[] #[]) (ha : xs.map ρ = args) (he : (callFunc f args).run P w = .ok (.enter f args) w) : (execOp ρ o).run P w = .ok (.enter f args) w := by
  subst ha
  unfold execOp
  simp [ho, hf, resolve, invoke, Deferred.ofValue, go_sem, he]
end

theorem guard_8 (w : World) (x y : Operand) (a b : Array Value) : (eqGuard .eql 31 x y (.agg a) (.agg b)).run Tryd.prog w = .ok () w := by
  have h : Tryd.prog.eqGuardType Tryd.prog.depth 31 = false := by kernel_rfl
  simp [eqGuard, h]
set_option maxRecDepth 20000 in
set_option maxHeartbeats 2000000 in
theorem shaSteps_walk (s : Wd) (l fs : List Nat) (w : World) (hs : s.Ok) (hl : l.length = 64) (hby : ∀ x ∈ l, x < 256) (hfl : fs.length = 32) (hfb : ∀ x ∈ fs, x < 256) (ht : Tabs w) :
    Calls Tryd.prog 4 #[.agg (cw s.list), .agg (cb l), .agg (cb fs)] w fun e w' => e = .returned (.bool true) ∧ Below w.heap.size w w' := by
  have HL := hide hl; have HFL := hide hfl; have HT := hide ht
  have HE := hide (fun W => eql_8 W (stepN kL s l).list rfl)
  clear hl hfl ht
  rw [wd_cells s]
  go_enter Tryd.func4, Tryd.ntmps4
  go_wp2_with fail
  have hb0 : Below w.heap.size w (((w.alloc (.cells (cw s.list) 31)).alloc (.cells (cb l) 32)).alloc (.cells (cb fs) 24)) := (((Below.refl _ _).alloc (Nat.le_refl _) _).alloc (by simp) _).alloc (by first | (simp; done) | (simp; omega)) _
  refine (alive04_any _ (((HT.out.alloc _).alloc _).alloc _)).mono ?_
  rintro e W ⟨rfl, hbA⟩
  have b0 : Bk W w.heap.size 31 (cw s.list) := Bk.below (((Bk.new w 31 (cw s.list)).alloc _).alloc _) hbA (by first | (simp; done) | (simp; omega))
  have b1 : Bk W (w.heap.size + 1) 32 (cb l) := Bk.below ((Bk.new2 w _ 32 (cb l)).alloc _) hbA (by first | (simp; done) | (simp; omega))
  have b2 : Bk W (w.heap.size + 1 + 1) 24 (cb fs) := Bk.below (Bk.new3 w _ _ 24 (cb fs)) hbA (by simp)
  have HB := hide (hb0.trans (hbA.mono hb0.size))
  have HTW := hide (HT.out.later HB.out)
  have B0 := hide b0; have B1 := hide b1; have B2 := hide b2
  have hl0 := b0.lt; have hl1 := b1.lt; have hl2 := b2.lt
  clear hb0 hbA b0 b1 b2
  go_wp2_with fail
  have hm : Tryd.prog.follows .mixedOrders = true := by kernel_rfl
  have e16 : ∀ args w, (callFunc 16 args).run Tryd.prog w = .ok (.enter 16 args) w := enters_of Tryd.func16 (by kernel_rfl) rfl
  have e17 : ∀ args w, (callFunc 17 args).run Tryd.prog w = .ok (.enter 17 args) w := enters_of Tryd.func17 (by kernel_rfl) rfl
  have e11 : ∀ args w, (callFunc 11 args).run Tryd.prog w = .ok (.enter 11 args) w := enters_of Tryd.func11 (by kernel_rfl) rfl
  have e12 : ∀ args w, (callFunc 12 args).run Tryd.prog w = .ok (.enter 12 args) w := enters_of Tryd.func12 (by kernel_rfl) rfl
  have heq := HE.out
  refine wp_region_quiet (C := fun W' => Below W.heap.size W W') hm (by kernel_rfl) (show Below W.heap.size W W.drew from (Below.refl _ _).drew) ?_
  refine quiet_val (by simp [Region.wanted]) (fun W' hC => exec_load rfl rfl (B0.out.below hC hl0).range Tryd.underlying31 rfl (by rw [cw_size]; exact size8)) ?_
  simp only [Act.put, List.setIfInBounds_toArray, List.set_cons_zero, List.set_cons_succ]
  refine quiet_val (by simp [Region.wanted]) (fun W' hC => exec_load rfl rfl (B1.out.below hC hl1).range Tryd.underlying32 rfl (by rw [cb_size, HL.out]; exact sizeSec)) ?_
  simp only [Act.put, List.setIfInBounds_toArray, List.set_cons_zero, List.set_cons_succ]
  refine quiet_call (v := .agg (cw (stepN kL s l).list)) (f := 16) (args := #[.agg (cw s.list), .agg (cb l)]) (by simp [Region.wanted]) (fun W' hC => exec_fn rfl rfl (by simp [Act.eval]) (e16 _ _)) (fun W' hC => (step_any s l W' hs HL.out hby (HTW.out.later hC)).mono (fun _ _ h => ⟨h.1, hC.trans (h.2.mono hC.size)⟩)) ?_
  simp only [Act.put, List.setIfInBounds_toArray, List.set_cons_zero, List.set_cons_succ]
  refine quiet_val (by simp [Region.wanted]) (fun W' hC => exec_load rfl rfl (B0.out.below hC hl0).range Tryd.underlying31 rfl (by rw [cw_size]; exact size8)) ?_
  simp only [Act.put, List.setIfInBounds_toArray, List.set_cons_zero, List.set_cons_succ]
  refine quiet_val (by simp [Region.wanted]) (fun W' hC => exec_load rfl rfl (B1.out.below hC hl1).range Tryd.underlying32 rfl (by rw [cb_size, HL.out]; exact sizeSec)) ?_
  simp only [Act.put, List.setIfInBounds_toArray, List.set_cons_zero, List.set_cons_succ]
  refine quiet_call (v := .agg (cw (stepN kL s l).list)) (f := 17) (args := #[.agg (cw s.list), .agg (cb l)]) (by simp [Region.wanted]) (fun W' hC => exec_fn rfl rfl (by simp [Act.eval]) (e17 _ _)) (fun W' hC => (rstep1_any s l W' hs HL.out hby).mono (fun _ _ h => ⟨h.1, hC.trans (h.2.mono hC.size)⟩)) ?_
  simp only [Act.put, List.setIfInBounds_toArray, List.set_cons_zero, List.set_cons_succ]
  refine quiet_val (v := .bool true) (by simp [Region.wanted]) (fun W' hC => exec_eql rfl rfl rfl (guard_8 _ _ _ _ _) (heq W')) ?_
  simp only [Act.put, List.setIfInBounds_toArray, List.set_cons_zero, List.set_cons_succ]
  refine quiet_val (by simp [Region.wanted]) (fun W' hC => exec_move rfl rfl) ?_
  simp only [Act.put, List.setIfInBounds_toArray, List.set_cons_zero, List.set_cons_succ]
  refine quiet_val (by rfl) (fun W' hC => exec_load rfl rfl (B2.out.below hC hl2).range Tryd.underlying24 rfl (by rw [cb_size, HFL.out]; exact size32)) ?_
  simp only [Act.put, List.setIfInBounds_toArray, List.set_cons_zero, List.set_cons_succ]
  refine quiet_call (v := .string (strOf (textN fs))) (f := 11) (args := #[.agg (cb fs)]) (by rfl) (fun W' hC => exec_fn rfl rfl (by simp [Act.eval]) (e11 _ _)) (fun W' hC => (text_any fs W' HFL.out hfb).mono (fun _ _ h => ⟨h.1, hC.trans (h.2.mono hC.size)⟩)) ?_
  simp only [Act.put, List.setIfInBounds_toArray, List.set_cons_zero, List.set_cons_succ]
  refine quiet_val (by rfl) (fun W' hC => exec_load rfl rfl (B2.out.below hC hl2).range Tryd.underlying24 rfl (by rw [cb_size, HFL.out]; exact size32)) ?_
  simp only [Act.put, List.setIfInBounds_toArray, List.set_cons_zero, List.set_cons_succ]
  refine quiet_call (v := .string (strOf (textN fs))) (f := 12) (args := #[.agg (cb fs)]) (by rfl) (fun W' hC => exec_fn rfl rfl (by simp [Act.eval]) (e12 _ _)) (fun W' hC => (rtext_any fs W' HFL.out hfb).mono (fun _ _ h => ⟨h.1, hC.trans (h.2.mono hC.size)⟩)) ?_
  simp only [Act.put, List.setIfInBounds_toArray, List.set_cons_zero, List.set_cons_succ]
  refine quiet_val (v := .bool true) (by rfl) (fun W' hC => by simp [execOp, Act.eval, Act.put, go_sem]) ?_
  simp only [Act.put, List.setIfInBounds_toArray, List.set_cons_zero, List.set_cons_succ]
  refine quiet_val (v := .bool true) (by rfl) (fun W' hC => by simp [execOp, Act.eval, Act.put, go_sem]) ?_
  simp only [Act.put, List.setIfInBounds_toArray, List.set_cons_zero, List.set_cons_succ]
  refine quiet_val (v := .bool true) (by rfl) (fun W' hC => by simp [execOp, Act.eval, Act.put, go_sem]) ?_
  simp only [Act.put, List.setIfInBounds_toArray, List.set_cons_zero, List.set_cons_succ]
  refine wpQuiet_nil ?_
  intro W' hC
  have HF := hide (HB.out.trans (hC.mono HB.out.size))
  clear hC heq
  go_wp2
  go_ret
  exact ⟨rfl, HF.out⟩
end Go.Proofs.YtihpfkkbnbjboaaDoor
