/-
  Contracts over package wal: may a log be on a disk, and its room.
-/
import Derived.Test.YtofbpkaebngnlaaDoorQWalInner
import Derived.Deep.QuietTactic
namespace Go.Proofs.YtofbpkaebngnlaaDoor
set_option linter.unusedVariables false
set_option linter.unusedSimpArgs false
set_option linter.unusedVariables false
set_option linter.unusedSimpArgs false
open Go.RowKit

section
variable {P : Program} {ops : Array Oper} {C : World → Prop} {Q : Act → Prop} {a : Act} {o : Oper} {rest : List Oper}
/-- an operation that answers one value in every world of a class -/
theorem quiet_val {v : Value} (hw : Region.wanted o (yielded ops a.tmps) = true) (h : ∀ w, C w → (execOp a.eval o).run P w = .ok (.value v) w) (hn : wpQuiet P ops C Q rest (a.put o.dst v)) : wpQuiet P ops C Q (o :: rest) a := by
  unfold wpQuiet
  rw [if_pos hw]
  exact ⟨v, fun w hC => by unfold Oper.quietAt; rw [h w hC]; exact ⟨rfl, rfl⟩, hn⟩
/-- an operation behind a guard that is shut -/
theorem quiet_skip (hw : Region.wanted o (yielded ops a.tmps) = false) (hn : wpQuiet P ops C Q rest (a.put o.dst undef)) : wpQuiet P ops C Q (o :: rest) a := by
  unfold wpQuiet
  rw [if_neg (by rw [hw]; decide)]
  exact hn
/-- a call whose answer is one value in every world of a class, and that stays within the class -/
theorem quiet_call {v : Value} {f : FuncId} {args : Array Value} (hw : Region.wanted o (yielded ops a.tmps) = true) (h : ∀ w, C w → (execOp a.eval o).run P w = .ok (.enter f args) w)
    (hc : ∀ w, C w → Calls P f args w fun e w'' => e = .returned v ∧ C w'') (hn : wpQuiet P ops C Q rest (a.put o.dst v)) : wpQuiet P ops C Q (o :: rest) a := by
  unfold wpQuiet
  rw [if_pos hw]
  exact ⟨v, fun w hC => by unfold Oper.quietAt; rw [h w hC]; exact ⟨rfl, hc w hC⟩, hn⟩
theorem exec_fn {w : World} {ρ : Operand → Value} {f : FuncId} {xs : Array Operand} {ts : Array TypeId} {args : Array Value} (ho : o.op = .call { callee := .value (.func f), args := xs, argTypes := ts }) (hf : ρ (.func f) = .func (.func f) #[] #[]) (ha : xs.map ρ = args) (he : (callFunc f args).run P w = .ok (.enter f args) w) : (execOp ρ o).run P w = .ok (.enter f args) w := by
  subst ha
  unfold execOp
  simp [ho, hf, resolve, invoke, Deferred.ofValue, go_sem, he]
end

set_option maxRecDepth 20000 in
theorem field_size (a b : Int) (w : World) : (Instr.field 53 (.agg #[.int .i64 a, .int .i64 b]) 1).run Tryd.prog w = .ok (.int .i64 b) w := by rfl
set_option maxRecDepth 20000 in
theorem field_from (a b : Int) (w : World) : (Instr.field 53 (.agg #[.int .i64 a, .int .i64 b]) 0).run Tryd.prog w = .ok (.int .i64 a) w := by rfl
theorem exec_size {o : Oper} {ρ : Operand → Value} {x : Operand} (ho : o.op = .field 53 x 1) {a b : Nat} (hx : ρ x = halfV a b) (w : World) : (execOp ρ o).run Tryd.prog w = .ok (.value (.int .i64 (b : Int))) w := by
  unfold execOp
  simp only [ho, hx, halfV]
  have := field_size (a : Int) (b : Int) w
  simp [this]

set_option maxRecDepth 20000 in
set_option maxHeartbeats 4000000 in
theorem right_0 (v : Value) (d : Dk) (g u k : Int) (w : World) (hd : DkAt w w.heap.size v d) (hr : rightB d = true) (hg1 : 1 ≤ g) (hg2 : g ≤ 1099511627776) (hu2 : 2 ≤ u) (hus : u ≤ ((d.secs.length / 2 : Nat) : Int)) (hk1 : 1 ≤ k) (hku : k ≤ u) :
    Calls Tryd.prog 21 #[v, .agg #[.int .i64 0, .int .i64 g, .int .i64 u, .int .i64 k]] w fun e w' => e = .returned (.bool true) ∧ Below w.heap.size w w' := by
  obtain ⟨A, n, c, A', n', c', rfl, hx⟩ := hd
  have HD := Lib.hid (show DkAt w w.heap.size (.agg #[.slice A n c, .slice A' n' c', .int .i64 d.fuse, .bool d.down]) d from ⟨A, n, c, A', n', c', rfl, hx⟩)
  have hsl : d.secs.length ≤ 4096 := (rightB_of.1 hr).1
  have HR := Lib.hid hr
  have HG : Hid ((decide (1 ≤ g) && decide (g ≤ 1099511627776)) = true) := Lib.hid (by simp [hg1, hg2])
  clear hx hr hg1 hg2
  go_enter Tryd.func21, Tryd.ntmps21
  go_wp2_with fail
  have hm : Tryd.prog.follows .mixedOrders = true := by kernel_rfl
  have e31 : ∀ args w, (callFunc 14 args).run Tryd.prog w = .ok (.enter 14 args) w := enters_of Tryd.func14 (by kernel_rfl) rfl
  have e38 : ∀ args w, (callFunc 39 args).run Tryd.prog w = .ok (.enter 39 args) w := enters_of Tryd.func39 (by kernel_rfl) rfl
  have e37 : ∀ args w, (callFunc 15 args).run Tryd.prog w = .ok (.enter 15 args) w := enters_of Tryd.func15 (by kernel_rfl) rfl
  have b0 : Bk ((w.alloc (.cells #[.slice A n c, .slice A' n' c', .int .i64 d.fuse, .bool d.down] 28)).alloc (.cells #[.int .i64 0, .int .i64 g, .int .i64 u, .int .i64 k] 35)) w.heap.size 28 _ := (Bk.new w _ _).alloc _
  have b1 : Bk ((w.alloc (.cells #[.slice A n c, .slice A' n' c', .int .i64 d.fuse, .bool d.down] 28)).alloc (.cells #[.int .i64 0, .int .i64 g, .int .i64 u, .int .i64 k] 35)) (w.heap.size + 1) 35 _ := Bk.new2 w _ _ _
  have HB0 : Hid (Below w.heap.size w ((w.alloc (.cells #[.slice A n c, .slice A' n' c', .int .i64 d.fuse, .bool d.down] 28)).alloc (.cells #[.int .i64 0, .int .i64 g, .int .i64 u, .int .i64 k] 35))) := Lib.hid (((Below.refl _ _).alloc (Nat.le_refl _) _).alloc (by simp) _)
  generalize (w.alloc (.cells #[.slice A n c, .slice A' n' c', .int .i64 d.fuse, .bool d.down] 28)).alloc (.cells #[.int .i64 0, .int .i64 g, .int .i64 u, .int .i64 k] 35) = W at *
  have HBD := Lib.hid b0; have HBL := Lib.hid b1
  have hld := b0.lt; have hll := b1.lt
  clear b0 b1
  refine wp_region_quiet (C := fun W' => Below W.heap.size W W') hm (by kernel_rfl) (show Below W.heap.size W W.drew from (Below.refl _ _).drew) ?_
  refine quiet_val (v := (.agg #[.slice A n c, .slice A' n' c', .int .i64 d.fuse, .bool d.down])) (by rfl) (fun W' hC => by have := (HBD.out.below hC hld).four.1; simp [execOp, Act.eval, Act.put, go_sem, this.1, this.2.1, this.2.2.1, this.2.2.2]) ?_
  simp only [Act.put, List.setIfInBounds_toArray, List.set_cons_zero, List.set_cons_succ]
  refine quiet_call (v := .bool true) (f := 14) (args := #[(.agg #[.slice A n c, .slice A' n' c', .int .i64 d.fuse, .bool d.down])]) (by rfl) (fun W' hC => exec_fn rfl rfl (by simp [Act.eval]) (e31 _ _)) (fun W' hC => (right_any _ d W' (HD.out.later (HB0.out.trans (hC.mono HB0.out.size)))).mono (fun _ _ hh => ⟨by rw [hh.1, HR.out], hC.trans (hh.2.mono hC.size)⟩)) ?_
  simp only [Act.put, List.setIfInBounds_toArray, List.set_cons_zero, List.set_cons_succ]
  refine quiet_val (v := .bool true) (by rfl) (fun W' hC => by simp [execOp, Act.eval, Act.put, go_sem]) ?_
  simp only [Act.put, List.setIfInBounds_toArray, List.set_cons_zero, List.set_cons_succ]
  refine quiet_val (v := .pointer (some ⟨w.heap.size + 1, 0, none⟩)) (by rfl) (fun W' hC => by simp [execOp, Act.eval, Act.put, go_sem]) ?_
  simp only [Act.put, List.setIfInBounds_toArray, List.set_cons_zero, List.set_cons_succ]
  refine quiet_val (v := .int .i64 0) (by rfl) (fun W' hC => by have := (HBL.out.below hC hll).four.1; simp [execOp, Act.eval, Act.put, go_sem, this.1]) ?_
  simp only [Act.put, List.setIfInBounds_toArray, List.set_cons_zero, List.set_cons_succ]
  refine quiet_val (v := .bool true) (by rfl) (fun W' hC => by simp [execOp, Act.eval, Act.put, go_sem]) ?_
  simp only [Act.put, List.setIfInBounds_toArray, List.set_cons_zero, List.set_cons_succ]
  refine quiet_val (v := .bool true) (by rfl) (fun W' hC => by simp [execOp, Act.eval, Act.put, go_sem]) ?_
  simp only [Act.put, List.setIfInBounds_toArray, List.set_cons_zero, List.set_cons_succ]
  refine quiet_skip (by rfl) ?_
  simp only [Act.put, List.setIfInBounds_toArray, List.set_cons_zero, List.set_cons_succ]
  refine quiet_skip (by rfl) ?_
  simp only [Act.put, List.setIfInBounds_toArray, List.set_cons_zero, List.set_cons_succ]
  refine quiet_skip (by rfl) ?_
  simp only [Act.put, List.setIfInBounds_toArray, List.set_cons_zero, List.set_cons_succ]
  refine quiet_val (v := .bool true) (by rfl) (fun W' hC => by simp [execOp, Act.eval, Act.put, go_sem]) ?_
  simp only [Act.put, List.setIfInBounds_toArray, List.set_cons_zero, List.set_cons_succ]
  refine quiet_val (v := .bool true) (by rfl) (fun W' hC => by simp [execOp, Act.eval, Act.put, go_sem]) ?_
  simp only [Act.put, List.setIfInBounds_toArray, List.set_cons_zero, List.set_cons_succ]
  refine quiet_val (v := .bool true) (by rfl) (fun W' hC => by simp [execOp, Act.eval, Act.put, go_sem]) ?_
  simp only [Act.put, List.setIfInBounds_toArray, List.set_cons_zero, List.set_cons_succ]
  refine quiet_val (v := .pointer (some ⟨w.heap.size + 1, 1, none⟩)) (by rfl) (fun W' hC => by simp [execOp, Act.eval, Act.put, go_sem]) ?_
  simp only [Act.put, List.setIfInBounds_toArray, List.set_cons_zero, List.set_cons_succ]
  refine quiet_val (v := .int .i64 g) (by rfl) (fun W' hC => by have := (HBL.out.below hC hll).four.1; simp [execOp, Act.eval, Act.put, go_sem, this.2.1]) ?_
  simp only [Act.put, List.setIfInBounds_toArray, List.set_cons_zero, List.set_cons_succ]
  refine quiet_call (v := .bool true) (f := 39) (args := #[.int .i64 g]) (by rfl) (fun W' hC => exec_fn rfl rfl (by simp [Act.eval]) (e38 _ _)) (fun W' hC => (genMay_any g W').mono (fun _ _ hh => ⟨by rw [hh.1, HG.out], hh.2 ▸ hC⟩)) ?_
  simp only [Act.put, List.setIfInBounds_toArray, List.set_cons_zero, List.set_cons_succ]
  refine quiet_val (v := .bool true) (by rfl) (fun W' hC => by simp [execOp, Act.eval, Act.put, go_sem]) ?_
  simp only [Act.put, List.setIfInBounds_toArray, List.set_cons_zero, List.set_cons_succ]
  refine quiet_val (v := .bool true) (by rfl) (fun W' hC => by simp [execOp, Act.eval, Act.put, go_sem]) ?_
  simp only [Act.put, List.setIfInBounds_toArray, List.set_cons_zero, List.set_cons_succ]
  refine quiet_val (v := .pointer (some ⟨w.heap.size + 1, 2, none⟩)) (by rfl) (fun W' hC => by simp [execOp, Act.eval, Act.put, go_sem]) ?_
  simp only [Act.put, List.setIfInBounds_toArray, List.set_cons_zero, List.set_cons_succ]
  refine quiet_val (v := .int .i64 u) (by rfl) (fun W' hC => by have := (HBL.out.below hC hll).four.1; simp [execOp, Act.eval, Act.put, go_sem, this.2.2.1]) ?_
  simp only [Act.put, List.setIfInBounds_toArray, List.set_cons_zero, List.set_cons_succ]
  refine quiet_val (v := .bool true) (by rfl) (fun W' hC => by simp [execOp, Act.eval, Act.put, go_sem, hu2]) ?_
  simp only [Act.put, List.setIfInBounds_toArray, List.set_cons_zero, List.set_cons_succ]
  refine quiet_val (v := .bool true) (by rfl) (fun W' hC => by simp [execOp, Act.eval, Act.put, go_sem]) ?_
  simp only [Act.put, List.setIfInBounds_toArray, List.set_cons_zero, List.set_cons_succ]
  refine quiet_val (v := .bool true) (by rfl) (fun W' hC => by simp [execOp, Act.eval, Act.put, go_sem]) ?_
  simp only [Act.put, List.setIfInBounds_toArray, List.set_cons_zero, List.set_cons_succ]
  refine quiet_val (v := .pointer (some ⟨w.heap.size + 1, 2, none⟩)) (by rfl) (fun W' hC => by simp [execOp, Act.eval, Act.put, go_sem]) ?_
  simp only [Act.put, List.setIfInBounds_toArray, List.set_cons_zero, List.set_cons_succ]
  refine quiet_val (v := .int .i64 u) (by rfl) (fun W' hC => by have := (HBL.out.below hC hll).four.1; simp [execOp, Act.eval, Act.put, go_sem, this.2.2.1]) ?_
  simp only [Act.put, List.setIfInBounds_toArray, List.set_cons_zero, List.set_cons_succ]
  refine quiet_val (v := (.agg #[.slice A n c, .slice A' n' c', .int .i64 d.fuse, .bool d.down])) (by rfl) (fun W' hC => by have := (HBD.out.below hC hld).four.1; simp [execOp, Act.eval, Act.put, go_sem, this.1, this.2.1, this.2.2.1, this.2.2.2]) ?_
  simp only [Act.put, List.setIfInBounds_toArray, List.set_cons_zero, List.set_cons_succ]
  refine quiet_val (v := .pointer (some ⟨w.heap.size + 1, 0, none⟩)) (by rfl) (fun W' hC => by simp [execOp, Act.eval, Act.put, go_sem]) ?_
  simp only [Act.put, List.setIfInBounds_toArray, List.set_cons_zero, List.set_cons_succ]
  refine quiet_val (v := .int .i64 0) (by rfl) (fun W' hC => by have := (HBL.out.below hC hll).four.1; simp [execOp, Act.eval, Act.put, go_sem, this.1]) ?_
  simp only [Act.put, List.setIfInBounds_toArray, List.set_cons_zero, List.set_cons_succ]
  refine quiet_call (v := (halfV (0 * (d.secs.length / 2)) (d.secs.length / 2))) (f := 15) (args := #[(.agg #[.slice A n c, .slice A' n' c', .int .i64 d.fuse, .bool d.down]), .int .i64 0]) (by rfl) (fun W' hC => exec_fn rfl rfl (by simp [Act.eval]) (e37 _ _)) (fun W' hC => (halfOf_any _ d 0 W' (HD.out.later (HB0.out.trans (hC.mono HB0.out.size))) (by omega) hsl).mono (fun _ _ hh => ⟨hh.1, hC.trans (hh.2.mono hC.size)⟩)) ?_
  simp only [Act.put, List.setIfInBounds_toArray, List.set_cons_zero, List.set_cons_succ]
  refine quiet_val (v := .int .i64 ((d.secs.length / 2 : Nat) : Int)) (by rfl) (fun W' hC => exec_size rfl rfl _) ?_
  simp only [Act.put, List.setIfInBounds_toArray, List.set_cons_zero, List.set_cons_succ]
  refine quiet_val (v := .bool true) (by rfl) (fun W' hC => by simp [execOp, Act.eval, Act.put, go_sem]; omega) ?_
  simp only [Act.put, List.setIfInBounds_toArray, List.set_cons_zero, List.set_cons_succ]
  refine quiet_val (v := .bool true) (by rfl) (fun W' hC => by simp [execOp, Act.eval, Act.put, go_sem]) ?_
  simp only [Act.put, List.setIfInBounds_toArray, List.set_cons_zero, List.set_cons_succ]
  refine quiet_val (v := .bool true) (by rfl) (fun W' hC => by simp [execOp, Act.eval, Act.put, go_sem]) ?_
  simp only [Act.put, List.setIfInBounds_toArray, List.set_cons_zero, List.set_cons_succ]
  refine quiet_val (v := .pointer (some ⟨w.heap.size + 1, 3, none⟩)) (by rfl) (fun W' hC => by simp [execOp, Act.eval, Act.put, go_sem]) ?_
  simp only [Act.put, List.setIfInBounds_toArray, List.set_cons_zero, List.set_cons_succ]
  refine quiet_val (v := .int .i64 k) (by rfl) (fun W' hC => by have := (HBL.out.below hC hll).four.1; simp [execOp, Act.eval, Act.put, go_sem, this.2.2.2]) ?_
  simp only [Act.put, List.setIfInBounds_toArray, List.set_cons_zero, List.set_cons_succ]
  refine quiet_val (v := .bool true) (by rfl) (fun W' hC => by simp [execOp, Act.eval, Act.put, go_sem, hk1]) ?_
  simp only [Act.put, List.setIfInBounds_toArray, List.set_cons_zero, List.set_cons_succ]
  refine quiet_val (v := .bool true) (by rfl) (fun W' hC => by simp [execOp, Act.eval, Act.put, go_sem]) ?_
  simp only [Act.put, List.setIfInBounds_toArray, List.set_cons_zero, List.set_cons_succ]
  refine quiet_val (v := .bool true) (by rfl) (fun W' hC => by simp [execOp, Act.eval, Act.put, go_sem]) ?_
  simp only [Act.put, List.setIfInBounds_toArray, List.set_cons_zero, List.set_cons_succ]
  refine quiet_val (v := .pointer (some ⟨w.heap.size + 1, 3, none⟩)) (by rfl) (fun W' hC => by simp [execOp, Act.eval, Act.put, go_sem]) ?_
  simp only [Act.put, List.setIfInBounds_toArray, List.set_cons_zero, List.set_cons_succ]
  refine quiet_val (v := .int .i64 k) (by rfl) (fun W' hC => by have := (HBL.out.below hC hll).four.1; simp [execOp, Act.eval, Act.put, go_sem, this.2.2.2]) ?_
  simp only [Act.put, List.setIfInBounds_toArray, List.set_cons_zero, List.set_cons_succ]
  refine quiet_val (v := .pointer (some ⟨w.heap.size + 1, 2, none⟩)) (by rfl) (fun W' hC => by simp [execOp, Act.eval, Act.put, go_sem]) ?_
  simp only [Act.put, List.setIfInBounds_toArray, List.set_cons_zero, List.set_cons_succ]
  refine quiet_val (v := .int .i64 u) (by rfl) (fun W' hC => by have := (HBL.out.below hC hll).four.1; simp [execOp, Act.eval, Act.put, go_sem, this.2.2.1]) ?_
  simp only [Act.put, List.setIfInBounds_toArray, List.set_cons_zero, List.set_cons_succ]
  refine quiet_val (v := .bool true) (by rfl) (fun W' hC => by simp [execOp, Act.eval, Act.put, go_sem, hku]) ?_
  simp only [Act.put, List.setIfInBounds_toArray, List.set_cons_zero, List.set_cons_succ]
  refine quiet_val (v := .bool true) (by rfl) (fun W' hC => by simp [execOp, Act.eval, Act.put, go_sem]) ?_
  simp only [Act.put, List.setIfInBounds_toArray, List.set_cons_zero, List.set_cons_succ]
  refine quiet_val (v := .bool true) (by rfl) (fun W' hC => by simp [execOp, Act.eval, Act.put, go_sem]) ?_
  simp only [Act.put, List.setIfInBounds_toArray, List.set_cons_zero, List.set_cons_succ]
  refine wpQuiet_nil ?_
  intro W' hC
  have HF := Lib.hid (HB0.out.trans (hC.mono HB0.out.size))
  clear hC
  go_wp2
  go_ret
  exact ⟨rfl, HF.out⟩

set_option maxRecDepth 20000 in
set_option maxHeartbeats 4000000 in
theorem right_1 (v : Value) (d : Dk) (g u k : Int) (w : World) (hd : DkAt w w.heap.size v d) (hr : rightB d = true) (hg1 : 1 ≤ g) (hg2 : g ≤ 1099511627776) (hu2 : 2 ≤ u) (hus : u ≤ ((d.secs.length / 2 : Nat) : Int)) (hk1 : 1 ≤ k) (hku : k ≤ u) :
    Calls Tryd.prog 21 #[v, .agg #[.int .i64 1, .int .i64 g, .int .i64 u, .int .i64 k]] w fun e w' => e = .returned (.bool true) ∧ Below w.heap.size w w' := by
  obtain ⟨A, n, c, A', n', c', rfl, hx⟩ := hd
  have HD := Lib.hid (show DkAt w w.heap.size (.agg #[.slice A n c, .slice A' n' c', .int .i64 d.fuse, .bool d.down]) d from ⟨A, n, c, A', n', c', rfl, hx⟩)
  have hsl : d.secs.length ≤ 4096 := (rightB_of.1 hr).1
  have HR := Lib.hid hr
  have HG : Hid ((decide (1 ≤ g) && decide (g ≤ 1099511627776)) = true) := Lib.hid (by simp [hg1, hg2])
  clear hx hr hg1 hg2
  go_enter Tryd.func21, Tryd.ntmps21
  go_wp2_with fail
  have hm : Tryd.prog.follows .mixedOrders = true := by kernel_rfl
  have e31 : ∀ args w, (callFunc 14 args).run Tryd.prog w = .ok (.enter 14 args) w := enters_of Tryd.func14 (by kernel_rfl) rfl
  have e38 : ∀ args w, (callFunc 39 args).run Tryd.prog w = .ok (.enter 39 args) w := enters_of Tryd.func39 (by kernel_rfl) rfl
  have e37 : ∀ args w, (callFunc 15 args).run Tryd.prog w = .ok (.enter 15 args) w := enters_of Tryd.func15 (by kernel_rfl) rfl
  have b0 : Bk ((w.alloc (.cells #[.slice A n c, .slice A' n' c', .int .i64 d.fuse, .bool d.down] 28)).alloc (.cells #[.int .i64 1, .int .i64 g, .int .i64 u, .int .i64 k] 35)) w.heap.size 28 _ := (Bk.new w _ _).alloc _
  have b1 : Bk ((w.alloc (.cells #[.slice A n c, .slice A' n' c', .int .i64 d.fuse, .bool d.down] 28)).alloc (.cells #[.int .i64 1, .int .i64 g, .int .i64 u, .int .i64 k] 35)) (w.heap.size + 1) 35 _ := Bk.new2 w _ _ _
  have HB0 : Hid (Below w.heap.size w ((w.alloc (.cells #[.slice A n c, .slice A' n' c', .int .i64 d.fuse, .bool d.down] 28)).alloc (.cells #[.int .i64 1, .int .i64 g, .int .i64 u, .int .i64 k] 35))) := Lib.hid (((Below.refl _ _).alloc (Nat.le_refl _) _).alloc (by simp) _)
  generalize (w.alloc (.cells #[.slice A n c, .slice A' n' c', .int .i64 d.fuse, .bool d.down] 28)).alloc (.cells #[.int .i64 1, .int .i64 g, .int .i64 u, .int .i64 k] 35) = W at *
  have HBD := Lib.hid b0; have HBL := Lib.hid b1
  have hld := b0.lt; have hll := b1.lt
  clear b0 b1
  refine wp_region_quiet (C := fun W' => Below W.heap.size W W') hm (by kernel_rfl) (show Below W.heap.size W W.drew from (Below.refl _ _).drew) ?_
  refine quiet_val (v := (.agg #[.slice A n c, .slice A' n' c', .int .i64 d.fuse, .bool d.down])) (by rfl) (fun W' hC => by have := (HBD.out.below hC hld).four.1; simp [execOp, Act.eval, Act.put, go_sem, this.1, this.2.1, this.2.2.1, this.2.2.2]) ?_
  simp only [Act.put, List.setIfInBounds_toArray, List.set_cons_zero, List.set_cons_succ]
  refine quiet_call (v := .bool true) (f := 14) (args := #[(.agg #[.slice A n c, .slice A' n' c', .int .i64 d.fuse, .bool d.down])]) (by rfl) (fun W' hC => exec_fn rfl rfl (by simp [Act.eval]) (e31 _ _)) (fun W' hC => (right_any _ d W' (HD.out.later (HB0.out.trans (hC.mono HB0.out.size)))).mono (fun _ _ hh => ⟨by rw [hh.1, HR.out], hC.trans (hh.2.mono hC.size)⟩)) ?_
  simp only [Act.put, List.setIfInBounds_toArray, List.set_cons_zero, List.set_cons_succ]
  refine quiet_val (v := .bool true) (by rfl) (fun W' hC => by simp [execOp, Act.eval, Act.put, go_sem]) ?_
  simp only [Act.put, List.setIfInBounds_toArray, List.set_cons_zero, List.set_cons_succ]
  refine quiet_val (v := .pointer (some ⟨w.heap.size + 1, 0, none⟩)) (by rfl) (fun W' hC => by simp [execOp, Act.eval, Act.put, go_sem]) ?_
  simp only [Act.put, List.setIfInBounds_toArray, List.set_cons_zero, List.set_cons_succ]
  refine quiet_val (v := .int .i64 1) (by rfl) (fun W' hC => by have := (HBL.out.below hC hll).four.1; simp [execOp, Act.eval, Act.put, go_sem, this.1]) ?_
  simp only [Act.put, List.setIfInBounds_toArray, List.set_cons_zero, List.set_cons_succ]
  refine quiet_val (v := .bool false) (by rfl) (fun W' hC => by simp [execOp, Act.eval, Act.put, go_sem]) ?_
  simp only [Act.put, List.setIfInBounds_toArray, List.set_cons_zero, List.set_cons_succ]
  refine quiet_val (v := .bool false) (by rfl) (fun W' hC => by simp [execOp, Act.eval, Act.put, go_sem]) ?_
  simp only [Act.put, List.setIfInBounds_toArray, List.set_cons_zero, List.set_cons_succ]
  refine quiet_val (v := .pointer (some ⟨w.heap.size + 1, 0, none⟩)) (by rfl) (fun W' hC => by simp [execOp, Act.eval, Act.put, go_sem]) ?_
  simp only [Act.put, List.setIfInBounds_toArray, List.set_cons_zero, List.set_cons_succ]
  refine quiet_val (v := .int .i64 1) (by rfl) (fun W' hC => by have := (HBL.out.below hC hll).four.1; simp [execOp, Act.eval, Act.put, go_sem, this.1]) ?_
  simp only [Act.put, List.setIfInBounds_toArray, List.set_cons_zero, List.set_cons_succ]
  refine quiet_val (v := .bool true) (by rfl) (fun W' hC => by simp [execOp, Act.eval, Act.put, go_sem]) ?_
  simp only [Act.put, List.setIfInBounds_toArray, List.set_cons_zero, List.set_cons_succ]
  refine quiet_val (v := .bool true) (by rfl) (fun W' hC => by simp [execOp, Act.eval, Act.put, go_sem]) ?_
  simp only [Act.put, List.setIfInBounds_toArray, List.set_cons_zero, List.set_cons_succ]
  refine quiet_val (v := .bool true) (by rfl) (fun W' hC => by simp [execOp, Act.eval, Act.put, go_sem]) ?_
  simp only [Act.put, List.setIfInBounds_toArray, List.set_cons_zero, List.set_cons_succ]
  refine quiet_val (v := .bool true) (by rfl) (fun W' hC => by simp [execOp, Act.eval, Act.put, go_sem]) ?_
  simp only [Act.put, List.setIfInBounds_toArray, List.set_cons_zero, List.set_cons_succ]
  refine quiet_val (v := .pointer (some ⟨w.heap.size + 1, 1, none⟩)) (by rfl) (fun W' hC => by simp [execOp, Act.eval, Act.put, go_sem]) ?_
  simp only [Act.put, List.setIfInBounds_toArray, List.set_cons_zero, List.set_cons_succ]
  refine quiet_val (v := .int .i64 g) (by rfl) (fun W' hC => by have := (HBL.out.below hC hll).four.1; simp [execOp, Act.eval, Act.put, go_sem, this.2.1]) ?_
  simp only [Act.put, List.setIfInBounds_toArray, List.set_cons_zero, List.set_cons_succ]
  refine quiet_call (v := .bool true) (f := 39) (args := #[.int .i64 g]) (by rfl) (fun W' hC => exec_fn rfl rfl (by simp [Act.eval]) (e38 _ _)) (fun W' hC => (genMay_any g W').mono (fun _ _ hh => ⟨by rw [hh.1, HG.out], hh.2 ▸ hC⟩)) ?_
  simp only [Act.put, List.setIfInBounds_toArray, List.set_cons_zero, List.set_cons_succ]
  refine quiet_val (v := .bool true) (by rfl) (fun W' hC => by simp [execOp, Act.eval, Act.put, go_sem]) ?_
  simp only [Act.put, List.setIfInBounds_toArray, List.set_cons_zero, List.set_cons_succ]
  refine quiet_val (v := .bool true) (by rfl) (fun W' hC => by simp [execOp, Act.eval, Act.put, go_sem]) ?_
  simp only [Act.put, List.setIfInBounds_toArray, List.set_cons_zero, List.set_cons_succ]
  refine quiet_val (v := .pointer (some ⟨w.heap.size + 1, 2, none⟩)) (by rfl) (fun W' hC => by simp [execOp, Act.eval, Act.put, go_sem]) ?_
  simp only [Act.put, List.setIfInBounds_toArray, List.set_cons_zero, List.set_cons_succ]
  refine quiet_val (v := .int .i64 u) (by rfl) (fun W' hC => by have := (HBL.out.below hC hll).four.1; simp [execOp, Act.eval, Act.put, go_sem, this.2.2.1]) ?_
  simp only [Act.put, List.setIfInBounds_toArray, List.set_cons_zero, List.set_cons_succ]
  refine quiet_val (v := .bool true) (by rfl) (fun W' hC => by simp [execOp, Act.eval, Act.put, go_sem, hu2]) ?_
  simp only [Act.put, List.setIfInBounds_toArray, List.set_cons_zero, List.set_cons_succ]
  refine quiet_val (v := .bool true) (by rfl) (fun W' hC => by simp [execOp, Act.eval, Act.put, go_sem]) ?_
  simp only [Act.put, List.setIfInBounds_toArray, List.set_cons_zero, List.set_cons_succ]
  refine quiet_val (v := .bool true) (by rfl) (fun W' hC => by simp [execOp, Act.eval, Act.put, go_sem]) ?_
  simp only [Act.put, List.setIfInBounds_toArray, List.set_cons_zero, List.set_cons_succ]
  refine quiet_val (v := .pointer (some ⟨w.heap.size + 1, 2, none⟩)) (by rfl) (fun W' hC => by simp [execOp, Act.eval, Act.put, go_sem]) ?_
  simp only [Act.put, List.setIfInBounds_toArray, List.set_cons_zero, List.set_cons_succ]
  refine quiet_val (v := .int .i64 u) (by rfl) (fun W' hC => by have := (HBL.out.below hC hll).four.1; simp [execOp, Act.eval, Act.put, go_sem, this.2.2.1]) ?_
  simp only [Act.put, List.setIfInBounds_toArray, List.set_cons_zero, List.set_cons_succ]
  refine quiet_val (v := (.agg #[.slice A n c, .slice A' n' c', .int .i64 d.fuse, .bool d.down])) (by rfl) (fun W' hC => by have := (HBD.out.below hC hld).four.1; simp [execOp, Act.eval, Act.put, go_sem, this.1, this.2.1, this.2.2.1, this.2.2.2]) ?_
  simp only [Act.put, List.setIfInBounds_toArray, List.set_cons_zero, List.set_cons_succ]
  refine quiet_val (v := .pointer (some ⟨w.heap.size + 1, 0, none⟩)) (by rfl) (fun W' hC => by simp [execOp, Act.eval, Act.put, go_sem]) ?_
  simp only [Act.put, List.setIfInBounds_toArray, List.set_cons_zero, List.set_cons_succ]
  refine quiet_val (v := .int .i64 1) (by rfl) (fun W' hC => by have := (HBL.out.below hC hll).four.1; simp [execOp, Act.eval, Act.put, go_sem, this.1]) ?_
  simp only [Act.put, List.setIfInBounds_toArray, List.set_cons_zero, List.set_cons_succ]
  refine quiet_call (v := (halfV (1 * (d.secs.length / 2)) (d.secs.length / 2))) (f := 15) (args := #[(.agg #[.slice A n c, .slice A' n' c', .int .i64 d.fuse, .bool d.down]), .int .i64 1]) (by rfl) (fun W' hC => exec_fn rfl rfl (by simp [Act.eval]) (e37 _ _)) (fun W' hC => (halfOf_any _ d 1 W' (HD.out.later (HB0.out.trans (hC.mono HB0.out.size))) (by omega) hsl).mono (fun _ _ hh => ⟨hh.1, hC.trans (hh.2.mono hC.size)⟩)) ?_
  simp only [Act.put, List.setIfInBounds_toArray, List.set_cons_zero, List.set_cons_succ]
  refine quiet_val (v := .int .i64 ((d.secs.length / 2 : Nat) : Int)) (by rfl) (fun W' hC => exec_size rfl rfl _) ?_
  simp only [Act.put, List.setIfInBounds_toArray, List.set_cons_zero, List.set_cons_succ]
  refine quiet_val (v := .bool true) (by rfl) (fun W' hC => by simp [execOp, Act.eval, Act.put, go_sem]; omega) ?_
  simp only [Act.put, List.setIfInBounds_toArray, List.set_cons_zero, List.set_cons_succ]
  refine quiet_val (v := .bool true) (by rfl) (fun W' hC => by simp [execOp, Act.eval, Act.put, go_sem]) ?_
  simp only [Act.put, List.setIfInBounds_toArray, List.set_cons_zero, List.set_cons_succ]
  refine quiet_val (v := .bool true) (by rfl) (fun W' hC => by simp [execOp, Act.eval, Act.put, go_sem]) ?_
  simp only [Act.put, List.setIfInBounds_toArray, List.set_cons_zero, List.set_cons_succ]
  refine quiet_val (v := .pointer (some ⟨w.heap.size + 1, 3, none⟩)) (by rfl) (fun W' hC => by simp [execOp, Act.eval, Act.put, go_sem]) ?_
  simp only [Act.put, List.setIfInBounds_toArray, List.set_cons_zero, List.set_cons_succ]
  refine quiet_val (v := .int .i64 k) (by rfl) (fun W' hC => by have := (HBL.out.below hC hll).four.1; simp [execOp, Act.eval, Act.put, go_sem, this.2.2.2]) ?_
  simp only [Act.put, List.setIfInBounds_toArray, List.set_cons_zero, List.set_cons_succ]
  refine quiet_val (v := .bool true) (by rfl) (fun W' hC => by simp [execOp, Act.eval, Act.put, go_sem, hk1]) ?_
  simp only [Act.put, List.setIfInBounds_toArray, List.set_cons_zero, List.set_cons_succ]
  refine quiet_val (v := .bool true) (by rfl) (fun W' hC => by simp [execOp, Act.eval, Act.put, go_sem]) ?_
  simp only [Act.put, List.setIfInBounds_toArray, List.set_cons_zero, List.set_cons_succ]
  refine quiet_val (v := .bool true) (by rfl) (fun W' hC => by simp [execOp, Act.eval, Act.put, go_sem]) ?_
  simp only [Act.put, List.setIfInBounds_toArray, List.set_cons_zero, List.set_cons_succ]
  refine quiet_val (v := .pointer (some ⟨w.heap.size + 1, 3, none⟩)) (by rfl) (fun W' hC => by simp [execOp, Act.eval, Act.put, go_sem]) ?_
  simp only [Act.put, List.setIfInBounds_toArray, List.set_cons_zero, List.set_cons_succ]
  refine quiet_val (v := .int .i64 k) (by rfl) (fun W' hC => by have := (HBL.out.below hC hll).four.1; simp [execOp, Act.eval, Act.put, go_sem, this.2.2.2]) ?_
  simp only [Act.put, List.setIfInBounds_toArray, List.set_cons_zero, List.set_cons_succ]
  refine quiet_val (v := .pointer (some ⟨w.heap.size + 1, 2, none⟩)) (by rfl) (fun W' hC => by simp [execOp, Act.eval, Act.put, go_sem]) ?_
  simp only [Act.put, List.setIfInBounds_toArray, List.set_cons_zero, List.set_cons_succ]
  refine quiet_val (v := .int .i64 u) (by rfl) (fun W' hC => by have := (HBL.out.below hC hll).four.1; simp [execOp, Act.eval, Act.put, go_sem, this.2.2.1]) ?_
  simp only [Act.put, List.setIfInBounds_toArray, List.set_cons_zero, List.set_cons_succ]
  refine quiet_val (v := .bool true) (by rfl) (fun W' hC => by simp [execOp, Act.eval, Act.put, go_sem, hku]) ?_
  simp only [Act.put, List.setIfInBounds_toArray, List.set_cons_zero, List.set_cons_succ]
  refine quiet_val (v := .bool true) (by rfl) (fun W' hC => by simp [execOp, Act.eval, Act.put, go_sem]) ?_
  simp only [Act.put, List.setIfInBounds_toArray, List.set_cons_zero, List.set_cons_succ]
  refine quiet_val (v := .bool true) (by rfl) (fun W' hC => by simp [execOp, Act.eval, Act.put, go_sem]) ?_
  simp only [Act.put, List.setIfInBounds_toArray, List.set_cons_zero, List.set_cons_succ]
  refine wpQuiet_nil ?_
  intro W' hC
  have HF := Lib.hid (HB0.out.trans (hC.mono HB0.out.size))
  clear hC
  go_wp2
  go_ret
  exact ⟨rfl, HF.out⟩
end Go.Proofs.YtofbpkaebngnlaaDoor
