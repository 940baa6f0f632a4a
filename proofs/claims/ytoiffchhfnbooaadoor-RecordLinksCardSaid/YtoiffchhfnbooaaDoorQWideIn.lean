/-
  Values of many cells as steps of a walk within a fence (a range over a function is walked there). They speak of any program.
-/
import Derived.Test.YtoiffchhfnbooaaDoorQBytes
import Derived.RangeFuncNested
import Derived.RangeFuncBound
import Derived.RangeFuncCalls
import Derived.RangeFuncLeaves
import Derived.Shelf.Abstract
import Derived.Shelf.RegionOpen
import Derived.OwnWalkIn
import Derived.TacticsInMore
import Derived.LoopNIn
import Derived.LoopIn
import Derived.Test.YtoiffchhfnbooaaDoorQShaPad
import Derived.BigRegionIn
import Derived.StillTailTactics
import Derived.Deep.RegionHeld3
import Derived.Deep.QuietTactic
import Derived.BigQuiet
import Derived.Deep.AppendLies
import Derived.Test.YtoiffchhfnbooaaDoorQShaWalksB
namespace Go.Proofs.YtoiffchhfnbooaaDoor
set_option linter.unusedVariables false
set_option linter.unusedSimpArgs false
set_option linter.unusedVariables false
set_option linter.unusedSimpArgs false
open Go.RowKit Go.Shelf

/-- the blocks of S lie as they lay; the streams are as they were; no block has gone -/
structure Keeps (S : Nat → Prop) (w w' : World) : Prop where
  os : w'.os = w.os
  tape : w'.tape = w.tape
  output : w'.output = w.output
  size : w.heap.size ≤ w'.heap.size
  block : ∀ k, S k → w'.heap[k]? = w.heap[k]?
theorem Keeps.refl (S : Nat → Prop) (w : World) : Keeps S w w := ⟨rfl, rfl, rfl, Nat.le_refl _, fun _ _ => rfl⟩
theorem Keeps.trans {S : Nat → Prop} {a b c : World} (h : Keeps S a b) (k : Keeps S b c) : Keeps S a c :=
  ⟨k.os.trans h.os, k.tape.trans h.tape, k.output.trans h.output, Nat.le_trans h.size k.size, fun i hi => (k.block i hi).trans (h.block i hi)⟩
theorem Keeps.cell {S : Nat → Prop} {w w' : World} (h : Keeps S w w') {p : Addr} (hp : S p.block) : w'.cell? p = w.cell? p := World.cell?_of_block (w := w) (h.block p.block hp)
theorem Keeps.frozen {S : Nat → Prop} {w w' : World} (h : Keeps S w w') {p : Addr} (hp : S p.block) : w'.frozen? p = w.frozen? p := World.frozen?_of_block (w := w) (h.block p.block hp)
theorem Keeps.of_below {S : Nat → Prop} {B : Nat} {w w' : World} (h : Below B w w') (hS : ∀ b, S b → b < B) : Keeps S w w' := ⟨h.os, h.tape, h.output, h.size, fun k hk => h.block k (hS k hk)⟩
theorem Keeps.below {S : Nat → Prop} {B : Nat} {w w' : World} (h : Keeps S w w') (hS : ∀ b, b < B → S b) : Below B w w' := ⟨h.os, h.tape, h.output, h.size, fun k hk => h.block k (hS k hk)⟩
theorem Keeps.alloc {S : Nat → Prop} {a w : World} (h : Keeps S a w) (hS : ∀ b, S b → b < w.heap.size) (o : Obj) : Keeps S a (w.alloc o) :=
  h.trans ⟨rfl, rfl, rfl, by simp, fun k hk => Below.heap_alloc _ _ _ (hS k hk)⟩
theorem Keeps.setCell {S : Nat → Prop} {a w : World} (h : Keeps S a w) {p : Addr} (hp : ¬ S p.block) (u : Value) : Keeps S a (w.setCell p u) :=
  h.trans ⟨rfl, rfl, rfl, by simp [World.setCell], fun k hk => Below.heap_setCell _ _ _ _ (fun e => hp (e ▸ hk))⟩
theorem Keeps.setRow {S : Nat → Prop} {a w : World} (h : Keeps S a w) {g : Nat} (hp : ¬ S g) (cs : Array Value) : Keeps S a (w.setRow g cs) :=
  h.trans ⟨rfl, rfl, rfl, by simp, fun k hk => Go.setRow_other w g k cs (fun e => hp (e ▸ hk))⟩

theorem Bk.keptW {w w' : World} {row : Option Nat} {b : Nat} {t : TypeId} {cs : Array Value} (h : Bk w b t cs) (hg : w.grownBy w' row) (hr : ∀ r, row = some r → ∃ o : Obj, w.heap[r]? = some o ∧ o.isCells = false) : Bk w' b t cs :=
  (hg.block b h.lt (fun e => by obtain ⟨o, ho, hc⟩ := hr b e.symm; rw [show w.heap[b]? = _ from h] at ho; cases ho; cases hc)).trans h
theorem bk_own {β : Type} (b : Nat) (t : TypeId) (f : β → Array Value) : Own (fun s W => Bk W b t (f s)) := fun _ _ _ _ hs hg hr => hs.keptW hg hr
theorem keeps_from {β : Type} {S : Nat → Prop} {B : Nat} {w0 : World} (hS : ∀ b, S b → b < B) (h0 : B ≤ w0.heap.size) : OwnFrom B (fun (_ : β) W => Keeps S w0 W) :=
  fun _ A C row hs hg hr => hs.trans ⟨hg.os, hg.tape, hg.output, hg.size, fun k hk => hg.block k (by have := hS k hk; have := hs.size; omega) (fun e => by have := (hr k e.symm).1; have := hS k hk; omega)⟩
theorem keepsOthers_setRow (W : World) (g : Nat) (t : TypeId) (cs cs' : Array Value) (h : Bk W g t cs) : KeepsOthers W (W.setRow g cs') :=
  ⟨by simp, fun k o hk ho => by
    by_cases e : k = g
    · subst e
      rw [show W.heap[k]? = _ from h] at hk
      cases hk
      cases ho
    · exact (Go.setRow_other W g k cs' e).trans hk⟩
theorem keeps_putObj {S : Nat → Prop} {B : Nat} (hS : ∀ b, S b → b < B) (W : World) (l : Nat) (o o' : Obj) (hl : B ≤ l) (_ : W.heap[l]? = some o) (_ : o.isCells = false) (_ : o.isWalk = false) : Keeps S W (W.putObj l o') := by
  have hg := grownBy_putObj' W l o'
  refine ⟨hg.os, hg.tape, hg.output, hg.size, fun k hk => ?_⟩
  have hkB := hS k hk
  by_cases hkl : k < W.heap.size
  · exact hg.block k hkl (fun e => by cases e; omega)
  · have h1 : W.heap[k]? = none := Array.getElem?_eq_none (by omega)
    have h2 : (W.putObj l o').heap.size = W.heap.size := by simp [World.putObj]
    rw [h1, Array.getElem?_eq_none (by omega)]

section
variable {P : Program} {F : Fence} {n : Nat}

theorem wpListIn_over {ops : Array Oper} {l : List Oper} {a : Act} {W : World} {Q : Exit → Act → World → Prop} (G : World → Prop) (hF : G W) (h : ∀ W', G W' → wpListIn F n P ops Q l a W') : Hid (wpListIn F n P ops Q l a W) := h W hF

theorem wpIn_over {c : Code} {a : Act} {W : World} {Q : Exit → Act → World → Prop} (G : World → Prop) (hF : G W) (h : ∀ W', G W' → c.wpIn F n P Q a W') : c.wpIn F n P Q a W := h W hF

theorem wpListIn_wanted {ops : Array Oper} {rest : List Oper} {o : Oper} {a : Act} {w : World} {Q : Exit → Act → World → Prop} (hw : Region.wanted o (yielded ops a.tmps) = true)
    (h : ∀ K : Act → World → Prop, (∀ a w, wpListIn F n P ops Q rest a w → K a w) → o.wpIn F n P a w K Q) : wpListIn F n P ops Q (o :: rest) a w :=
  wpListIn_step fun K hK => by rw [if_pos hw]; exact h K hK

theorem wpIn_value {o : Oper} {a : Act} {w w' : World} {K : Act → World → Prop} {Q : Exit → Act → World → Prop} {v : Value}
    (hab : o.about P w a.eval = none) (hd : ∀ c, o.op ≠ .defer c) (h : (execOp a.eval o).run P w = .ok (.value v) w') (hK : K (a.put o.dst v) w') : o.wpIn F n P a w K Q := by
  refine ⟨fun f hf => (by rw [hab] at hf; cases hf), ?_⟩
  rw [Oper.semAt_plain F _ _ hd, h]
  exact hK
theorem wpIn_skip {o : Oper} {a : Act} {w w' : World} {K : Act → World → Prop} {Q : Exit → Act → World → Prop}
    (hab : o.about P w a.eval = none) (hd : ∀ c, o.op ≠ .defer c) (h : (execOp a.eval o).run P w = .ok .skip w') (hK : K (a.put o.dst undef) w') : o.wpIn F n P a w K Q := by
  refine ⟨fun f hf => (by rw [hab] at hf; cases hf), ?_⟩
  rw [Oper.semAt_plain F _ _ hd, h]
  exact hK

theorem wpListIn_load_mid {ops : Array Oper} {rest : List Oper} {op : Oper} {a : Act} {w : World} {Q : Exit → Act → World → Prop} (hgd : Region.wanted op (yielded ops a.tmps) = true) (ty : TypeId) (x : Operand) (ho : op.op = .load ty x)
    (b o : Nat) (hx : a.eval x = .pointer (some ⟨b, o, none⟩)) (cs : List Value) (d : TypeDesc) (hc : w.rangeAt b o cs)
    (hu : P.underlying ty = some d) (hd : d.isRow = true) (hi : (P.info? ty).map (·.size) = some cs.length)
    (h : wpListIn F n P ops Q rest (a.put op.dst (.agg cs.toArray)) w) : wpListIn F n P ops Q (op :: rest) a w :=
  wpListIn_wanted hgd fun _ hK => by
    refine wpIn_value (v := .agg cs.toArray) (w' := w) (by simp [Oper.about, ho]) (by rw [ho]; intro c hc'; cases hc') ?_ (hK _ _ h)
    unfold execOp
    simp only [ho, hx, Instr.loadAt, Instr.sureAddr, Sem.run_bind, Sem.run_pure, Result.andThen_ok, run_loadVar_mid w b o ty cs d hc hu hd hi]

theorem wpListIn_alloc_to {ops : Array Oper} {rest : List Oper} {o : Oper} {a : Act} {w : World} {Q : Exit → Act → World → Prop} (hgd : Region.wanted o (yielded ops a.tmps) = true) (ty : TypeId) (ho : o.op = .alloc ty) (z : Array Value)
    (hz : (P.info? ty).map (·.zero) = some (some (.agg z))) (h : wpListIn F n P ops Q rest (a.put o.dst (.pointer (some ⟨w.heap.size, 0, none⟩))) (w.alloc (.cells z ty))) : wpListIn F n P ops Q (o :: rest) a w :=
  wpListIn_wanted hgd fun _ hK => by
    cases hq : P.info? ty with
    | none => simp [hq] at hz
    | some i =>
      have hz' : i.zero = some (.agg z) := by simpa [hq] using hz
      refine wpIn_value (v := .pointer (some ⟨w.heap.size, 0, none⟩)) (w' := w.alloc (.cells z ty)) (by simp [Oper.about, ho]) (by rw [ho]; intro c hc'; cases hc') ?_ (hK _ _ h)
      unfold execOp
      simp only [ho]
      simp [Instr.alloc, zeroValue, typeInfo, hq, hz', newVar, Value.cells, newRow]

theorem wpListIn_build_to {ops : Array Oper} {rest : List Oper} {o : Oper} {a : Act} {w : World} {Q : Exit → Act → World → Prop} (hgd : Region.wanted o (yielded ops a.tmps) = true) (t : TypeId) (parts : Array (Nat × Operand)) (ho : o.op = .build t parts)
    (vals : List (Nat × Value)) (hv : (parts.toList.map fun p => (p.1, a.eval p.2)) = vals) (cells : Array Value) (hb : P.built t vals = some cells)
    (h : wpListIn F n P ops Q rest (a.put o.dst (.agg cells)) w) : wpListIn F n P ops Q (o :: rest) a w :=
  wpListIn_wanted hgd fun _ hK => by
    refine wpIn_value (v := .agg cells) (w' := w) (by simp [Oper.about, ho]) (by rw [ho]; intro c hc'; cases hc') ?_ (hK _ _ h)
    unfold execOp
    simp only [ho, Sem.run_bind, run_build w t _ cells (by rw [Array.toList_map]; exact hv ▸ hb), Result.andThen_ok]
    rfl

theorem wpListIn_store_wide {ops : Array Oper} {rest : List Oper} {o : Oper} {a : Act} {w : World} {Q : Exit → Act → World → Prop} (hgd : Region.wanted o (yielded ops a.tmps) = true) (ty : TypeId) (x y : Operand) (ho : o.op = .store ty x y)
    (g off : Nat) (cells : Array Value) (hx : a.eval x = .pointer (some ⟨g, off, none⟩)) (hy : a.eval y = .agg cells)
    (t : TypeId) (cur : Array Value) (hg : Bk w g t cur) (hfit : off + cells.size ≤ cur.size) (hi : (P.info? ty).map (·.size) = some cells.size) (h1 : ∀ v ∈ cells.toList, v.oneCell' = true)
    (h : ∀ w', Hid (w' = w.setRow g (splice cur.toList off cells.toList).toArray) → wpListIn F n P ops Q rest (a.put o.dst undef) w') : wpListIn F n P ops Q (o :: rest) a w :=
  wpListIn_wanted hgd fun _ hK => by
    refine wpIn_skip (w' := w.setRow g (splice cur.toList off cells.toList).toArray) (by simp [Oper.about, ho]) (by rw [ho]; intro c hc'; cases hc') ?_ (hK _ _ (h _ rfl))
    have := run_storeCells_at P g off t cells.toList 0 cur w hg (by simpa using hfit) h1
    simp only [Nat.add_zero, List.append_assoc] at this
    cases hq : P.info? ty with
    | none => simp [hq] at hi
    | some i =>
      have hs : cells.size = i.size := by simp [hq] at hi; omega
      unfold execOp
      simp only [ho, hx, hy, Instr.storeAt, Instr.sureAddr, Sem.run_bind, Sem.run_pure, Result.andThen_ok]
      simp [storeVar, sizeOf, typeInfo, hq, Value.cells, hs, this, splice]
end
end Go.Proofs.YtoiffchhfnbooaaDoor

/-
  Walks over slices.Chunk at bytes: the iterator over the blocks of 64 bytes of padded bytes.
-/
namespace Go.Proofs.YtoiffchhfnbooaaDoor
set_option linter.unusedVariables false
set_option linter.unusedSimpArgs false
set_option linter.unusedVariables false
set_option linter.unusedSimpArgs false
open Go.RowKit Go.Shelf

attribute [local go_sem] Oper.semAt_some

set_option maxRecDepth 20000 in
theorem run_from (w : World) (g np cp j : Nat) (h1 : j < np) (h2 : np ≤ cp) : (Instr.slice 32 (.slice (some ⟨g, 0, none⟩) np cp) (some (.int .i64 (j : Int))) none none).run Tryd.prog w = .ok (.slice (some ⟨g, j, none⟩) (np - j) (cp - j)) w := by
  have hne : ¬ cp = j := by omega
  rw [run_slice_l (P := Tryd.prog) (w := w) (t := 32) (a := some ⟨g, 0, none⟩) (len := np) (cap := cp) (ht := Tryd.underlying32) (kl := .i64) (l := (j : Int)) (h0 := by omega) (h1 := by omega)]
  simp [go_sem, sliced, hne]
set_option maxRecDepth 20000 in
theorem run_full (w : World) (g np cp j : Nat) (h1 : j + 64 ≤ np) (h2 : np ≤ cp) : (Instr.slice 32 (.slice (some ⟨g, 0, none⟩) np cp) (some (.int .i64 (j : Int))) (some (.int .i64 ((j : Int) + 64))) (some (.int .i64 ((j : Int) + 64)))).run Tryd.prog w = .ok (.slice (some ⟨g, j, none⟩) 64 64) w := by
  have e2 : ((j : Int) + 64).toNat = j + 64 := by omega
  have b0 : (0 : Int) ≤ (j : Int) + 64 := by omega
  have b1 : (j : Int) + 64 ≤ (cp : Int) := by omega
  simp [Instr.slice, run_underlying Tryd.underlying32, Instr.sliceBounds, Instr.sliceBound, asIntOf, b0, b1, e2, go_sem]

set_option maxHeartbeats 400000 in
set_option maxRecDepth 20000 in
theorem chunk_in (n : Nat) (A : Option Addr) (len cp : Nat) (w : World) :
    CallsIn Fence.wide n Tryd.prog 34 #[.slice A len cp, .int .i64 64] w fun e w' => e = .returned (.func (.func 49) #[] #[.pointer (some ⟨w.heap.size, 0, none⟩), .pointer (some ⟨w.heap.size + 1, 0, none⟩)]) ∧
      w' = (w.alloc (.cells #[.slice A len cp] 32)).alloc (.cells #[.int .i64 64] 3) := by
  refine callsIn_of_wp Tryd.func34 rfl trivial ?_ rfl
  simp only [Tryd.ntmps34, List.size_toArray, List.length_cons, List.length_nil, Nat.reduceAdd, Nat.reduceSub, Array.replicate_succ, Array.replicate_zero, List.push_toArray, List.append_toArray, List.nil_append, List.cons_append]
  gi_wp2
  go_ret
  exact ⟨rfl, rfl⟩

theorem abides_drew {β : Type} {B : Nat} {J : β → World → Prop} (h : AbidesFrom B J) {s : β} {W : World} (hs : J s W) : J s W.drew :=
  h s W W.drew none hs ⟨rfl, rfl, rfl, Nat.le_refl _, fun _ _ _ => rfl⟩ (fun r e => by cases e)

set_option maxRecDepth 100000 in
set_option maxHeartbeats 2000000 in
/-- the closure of Chunk: for every loop body that keeps what S names -/
theorem chunk1_in {α : Type} (val : α → Nat) (xs : List α) (l Bs Bf g np cp nb : Nat) (hxs : ∀ k (h : k < nb), ∃ h' : k < xs.length, val (xs[k]) = k) (hxl : xs.length = nb) (S : Nat → Prop) (hnb : np = 64 * nb) (hnp : np ≤ 2000000) (hcp : np ≤ cp) (J Jx : List α → World → Prop) (B : Nat) (hJ : AbidesFrom B J)
    (hY : ∀ pre x W, J pre W → pre.length < nb → YieldAt Fence.wide 1 Tryd.prog l #[.slice (some ⟨g, 64 * val x, none⟩) 64 64] W fun e W' =>
      (e = .returned (.bool true) ∧ J (pre ++ [x]) W' ∧ Keeps S W W') ∨ (e = .returned (.bool false) ∧ Jx (pre ++ [x]) W'))
    (W : World) (hBs : W.cell? ⟨Bs, 0, none⟩ = some (.slice (some ⟨g, 0, none⟩) np cp)) (hBf : W.cell? ⟨Bf, 0, none⟩ = some (.int .i64 64)) (hs0 : S Bs) (hf0 : S Bf) (h0 : J [] W) :
    CallsIn Fence.wide 2 Tryd.prog 49 #[.func (.yield l) #[] #[], .pointer (some ⟨Bs, 0, none⟩), .pointer (some ⟨Bf, 0, none⟩)] W fun e W' => (∃ v, e = .returned v) ∧
      ((∃ ys, ys = xs ∧ J ys W') ∨ (∃ pre : List α, True ∧ Jx pre W')) := by
  refine callsIn_of_wp Tryd.func49 rfl trivial ?_ rfl
  simp only [Tryd.ntmps49, List.size_toArray, List.length_cons, List.length_nil, Nat.reduceAdd, Nat.reduceSub, Array.replicate_succ, Array.replicate_zero, List.push_toArray, List.append_toArray, List.nil_append, List.cons_append]
  gi_wp2
  gi_loopw [4] (fun i wr => ∃ k : Nat, k ≤ nb ∧ i = .int .i64 ((64 * k : Nat) : Int) ∧ J (xs.take k) wr ∧ Keeps S W wr)
    (fun i _ => (np - (intOf i).toNat))
  case atStart => exact ⟨0, Nat.zero_le _, rfl, h0, Keeps.refl _ _⟩
  case round =>
    obtain ⟨k, hk, rfl, hJs, hnx⟩ := hrel
    have hBs' := (hnx.cell (p := ⟨Bs, 0, none⟩) hs0).trans hBs
    have hBf' := (hnx.cell (p := ⟨Bf, 0, none⟩) hf0).trans hBf
    have HNB := hide hnb
    clear hnb
    by_cases hlt : k < nb
    · obtain ⟨j, hj⟩ : ∃ j, j = 64 * k := ⟨_, rfl⟩
      have hj64 : j + 64 ≤ np := by rw [HNB.out]; omega
      obtain ⟨hkx, hval⟩ := hxs k hlt
      have HY := hide (hY (xs.take k) xs[k] wr.drew (abides_drew hJ hJs) (by rw [List.length_take]; omega))
      rw [hval] at HY
      have HRG := hide (List.take_succ_eq_append_getElem hkx)
      rw [← hj] at HY ⊢
      clear hval
      have HJ := hide hj
      have HJS := hide hJs; have HNX := hide hnx
      clear hj hY hJs hnx
      have hr1 := fun W => run_from W g np cp j (by omega) hcp
      have hr2 := fun W => run_full W g np cp j hj64 hcp
      have q1 : (j : Int) < (np : Int) := by omega
      have q2 : ((np - j : Nat) : Int) = (np : Int) - (j : Int) := by omega
      have q3 : (64 : Int) ≤ (np : Int) - (j : Int) := by omega
      gi_wp2_with fail
      gi_region
      have hBsD : wr.drew.cell? ⟨Bs, 0, none⟩ = some (.slice (some ⟨g, 0, none⟩) np cp) := hBs'
      have hBfD : wr.drew.cell? ⟨Bf, 0, none⟩ = some (.int .i64 64) := hBf'
      have HNX2 := hide (HNX.out.trans ⟨rfl, rfl, rfl, Nat.le_refl _, fun _ _ => rfl⟩ : Keeps S W wr.drew)
      clear HNX HJS hBs' hBf' hr1
      generalize wr.drew = W2 at *
      obtain ⟨fn, tmps, assign, body, hy, hR⟩ := HY.out
      have HR := hide hR
      clear hR HY
      gi_wp2
      refine HR.out.mono ?_
      rintro e W3 (⟨rfl, hJ3, hk3⟩ | ⟨rfl, hJx3⟩)
      · have HNX3 := hide (HNX2.out.trans hk3)
        have hBf3 := (HNX3.out.cell (p := ⟨Bf, 0, none⟩) hf0).trans hBf
        have HJ3 := hide hJ3
        clear hJ3 hk3 hBsD hBfD HNX2 hr2 hy
        gi_wp2
        go_roundw
        case rel => exact ⟨k + 1, by omega, by have := HJ.out; go_num, by rw [HRG.out]; exact HJ3.out, HNX3.out⟩
        case measure => simp [intOf]; omega
      · gi_wp2
        refine bodyPost_ret (results_none rfl _ _ _) rfl ?_
        refine ⟨⟨_, rfl⟩, ?_⟩
        first | exact .inr ⟨_, trivial, hJx3⟩ | exact .inr ⟨_, hJx3⟩
    · have hkn : k = nb := by omega
      have hlk : ¬ ((64 * k : Nat) : Int) < (np : Int) := by rw [HNB.out]; omega
      obtain ⟨j, hj⟩ : ∃ j, j = 64 * k := ⟨_, rfl⟩
      rw [← hj] at hlk ⊢
      have HKN := hide hkn
      clear hkn hlt hk hj
      gi_wp2
      go_end0
      rw [HKN.out, List.take_of_length_le (by rw [hxl]; exact Nat.le_refl _)] at hJs
      refine ⟨⟨_, rfl⟩, ?_⟩
      first | exact .inl ⟨_, rfl, hJs⟩ | exact .inl hJs
/-- Chunk hands back an iterator over all blocks -/
theorem chunk_stops {α : Type} (val : α → Nat) (xs : List α) (Bs Bf g np cp nb : Nat) (hxs : ∀ k (h : k < nb), ∃ h' : k < xs.length, val (xs[k]) = k) (hxl : xs.length = nb) (S : Nat → Prop) (hnb : np = 64 * nb) (hnp : np ≤ 2000000) (hcp : np ≤ cp) (w : World) (hBs : w.cell? ⟨Bs, 0, none⟩ = some (.slice (some ⟨g, 0, none⟩) np cp)) (hBf : w.cell? ⟨Bf, 0, none⟩ = some (.int .i64 64)) (hs0 : S Bs) (hf0 : S Bf) (hSw : ∀ b, S b → b < w.heap.size) :
    SeqStopsK Fence.wide 2 Tryd.prog 49 #[.pointer (some ⟨Bs, 0, none⟩), .pointer (some ⟨Bf, 0, none⟩)] (fun x : α => #[.slice (some ⟨g, 64 * val x, none⟩) 64 64]) (Keeps S) (fun ys => ys = xs) (fun _ => True) nb w :=
  fun l J Jx W hW hJ _ hY h0 => by
    have hK : Keeps S w W := Keeps.of_below hW hSw
    exact chunk1_in val xs l Bs Bf g np cp nb hxs hxl S hnb hnp hcp J Jx _ hJ hY W ((hK.cell (p := ⟨Bs, 0, none⟩) hs0).trans hBs) ((hK.cell (p := ⟨Bf, 0, none⟩) hf0).trans hBf) hs0 hf0 h0
end Go.Proofs.YtoiffchhfnbooaaDoor

/-
  Contracts over package sha: a sum's digits; and of the document's own answer.
-/
namespace Go.Proofs.YtoiffchhfnbooaaDoor
set_option linter.unusedVariables false
set_option linter.unusedSimpArgs false
set_option linter.unusedVariables false
set_option linter.unusedSimpArgs false
open Go.RowKit

theorem any_over {Q : Exit → Act → World → Prop} {e : Exit} {a : Act} {W : World} (G : World → Prop) (hG : G W) (h : ∀ W', G W' → Q e a W') : Q e a W := h W hG

def digS : ByteArray := ⟨#[48, 49, 50, 51, 52, 53, 54, 55, 56, 57, 97, 98, 99, 100, 101, 102]⟩
def hexN (d : Nat) : Nat := byteAt [48, 49, 50, 51, 52, 53, 54, 55, 56, 57, 97, 98, 99, 100, 101, 102] d
theorem hexN_lt (d : Nat) : hexN d < 256 := byte_lt256 (by decide) d
def textN (l : List Nat) : List Nat := l.flatMap fun x => [hexN (x / 16), hexN (x % 16)]
theorem textN_snoc (l : List Nat) (x : Nat) : textN (l ++ [x]) = textN l ++ [hexN (x / 16), hexN (x % 16)] := by simp [textN]
theorem textN_length : ∀ l : List Nat, (textN l).length = 2 * l.length
  | [] => rfl
  | x :: r => by
    have := textN_length r
    unfold textN at this ⊢
    rw [List.flatMap_cons, List.length_append, this]
    simp; omega
theorem textN_lt (l : List Nat) : ∀ x ∈ textN l, x < 256 := by
  intro x hx
  unfold textN at hx
  obtain ⟨y, _, hy⟩ := List.mem_flatMap.1 hx
  simp at hy
  rcases hy with rfl | rfl <;> exact hexN_lt _
theorem strOf_appendS (a b : List Nat) : strOf a ++ strOf b = strOf (a ++ b) := by
  apply data_inj
  rw [strOf_data, List.map_append, ← strOf_data, ← strOf_data]
  simp
theorem dig_cut : ∀ d : Fin 16, (digS.extract d.1 (d.1 + 1)).data.toList = (strOf [hexN d.1]).data.toList := by decide +kernel
theorem dig_cut' {d : Nat} (h : d < 16) : digS.extract d (d + 1) = strOf [hexN d] := data_inj (dig_cut ⟨d, h⟩)
theorem dig_at : ∀ d : Fin 16, digS[d.1]? = some (UInt8.ofNat (hexN d.1)) := by decide +kernel
theorem run_dig {d : Nat} (h : d < 16) (w : World) : (Instr.index 9 (.string { data := #[48, 49, 50, 51, 52, 53, 54, 55, 56, 57, 97, 98, 99, 100, 101, 102] }) (.int .u8 (d : Int))).run Tryd.prog w = .ok (.int .u8 ((hexN d : Nat) : Int)) w := by
  have e := dig_at ⟨d, h⟩
  simp only [digS] at e
  have h2 : (UInt8.ofNat (hexN d)).toNat = hexN d := by
    have := hexN_lt d
    simp; omega
  simp [Instr.index, asIntOf, run_underlying Tryd.underlying9, e, h2]
theorem run_digs {d : Nat} (h : d < 16) (w : World) : (Instr.slice 9 (.string { data := #[48, 49, 50, 51, 52, 53, 54, 55, 56, 57, 97, 98, 99, 100, 101, 102] }) (some (.int .u8 (d : Int))) (some (.int .u8 ((d : Int) + 1))) none).run Tryd.prog w = .ok (.string (strOf [hexN d])) w := by
  rw [run_slice_string w 9 _ .u8 .u8 (d : Int) ((d : Int) + 1) Tryd.underlying9 (by omega) (by omega) (by show (d : Int) + 1 ≤ 16; omega)]
  rw [← dig_cut' h, show ((d : Int) + 1).toNat = d + 1 by omega]
  rfl
theorem Bytes.two (w : World) {a b : Nat} (ha : a < 256) (hb : b < 256) (t : TypeId) : Bytes (w.alloc (.cells #[.int .u8 (a : Int), .int .u8 (b : Int)] t)) (w.heap.size + 1) (some ⟨w.heap.size, 0, none⟩) 2 [a, b] := by
  refine ⟨rfl, by simp; omega, fun _ => ⟨w.heap.size, 0, rfl, by omega, fun i hi => ?_⟩⟩
  rw [cell_of_row _ _ _ _ _ _ (heap_alloc_new w _)]
  match i, hi with
  | 0, _ | 1, _ => rfl

end Go.Proofs.YtoiffchhfnbooaaDoor

/-
  Contracts over the document's own answer for layer 4: a block's step on its own.
-/
namespace Go.Proofs.YtoiffchhfnbooaaDoor
set_option linter.unusedVariables false
set_option linter.unusedSimpArgs false
set_option linter.unusedVariables false
set_option linter.unusedSimpArgs false
open Go.RowKit

theorem Bk.bytes {w : World} {g : Nat} {t : TypeId} {l : List Nat} (h : Bk w g t (cb l)) (hb : ∀ x ∈ l, x < 256) {n : Nat} (hn : l.length = n) {B : Nat} (hB : g < B) : Bytes w B (some ⟨g, 0, none⟩) n l :=
  ⟨hn, hb, fun _ => ⟨g, 0, rfl, hB, fun i hi => by rw [Nat.zero_add]; exact h.byte (by omega)⟩⟩
theorem bel_call {W w5 : World} (h : Below W.drew.heap.size W.drew w5) : Below W.heap.size W w5 := ((Below.refl _ _).drew).trans h

theorem store_all {P : Program} {W : World} {g : Nat} {t : TypeId} {cur ds : Array Value} (h : Bk W g t cur) (hs : ds.size = cur.size) (h1 : ∀ v ∈ ds.toList, v.oneCell' = true) : (storeCells ⟨g, 0, none⟩ ds.toList).run P W = .ok () (W.setRow g ds) := by
  have := run_storeCells_at P g 0 t ds.toList 0 cur W h (by simp [hs]) h1
  rw [this]
  congr 2
  have e : cur.toList.take (0 + 0) ++ ds.toList ++ cur.toList.drop (0 + 0 + ds.toList.length) = ds.toList := by
    rw [Nat.add_zero, List.take_zero, List.nil_append, Nat.zero_add, List.drop_eq_nil_of_le (by simp [hs]), List.append_nil]
  rw [e, Array.toArray_toList]

end Go.Proofs.YtoiffchhfnbooaaDoor

/-
  Contracts over package sha: the words' bytes.
-/
namespace Go.Proofs.YtoiffchhfnbooaaDoor
set_option linter.unusedVariables false
set_option linter.unusedSimpArgs false
set_option linter.unusedVariables false
set_option linter.unusedSimpArgs false
open Go.RowKit

set_option maxRecDepth 20000 in
set_option maxHeartbeats 1000000 in
theorem flat_any (ws : List Nat) (w : World) (hl : ws.length = 8) (hw : W32 ws) : Calls Tryd.prog 37 #[.agg (cw ws)] w fun e w' => e = .returned (.agg (cb (flN ws 32))) ∧ Below w.heap.size w w' := by
  have HL := hide hl
  clear hl
  go_enter Tryd.func37, Tryd.ntmps37
  go_wp2_with ((with_reducible show wpList _ _ _ (⟨some 2, _, _, _, _, _⟩ :: _) _ _); refine holdB ?_)
  refine heldB (wpList_alloc_to rfl 24 rfl _ zero32 ?_)
  go_wp2_with ((with_reducible show wpList _ _ _ (⟨some 3, _, _, _, _, _⟩ :: _) _ _); refine holdB ?_)
  refine heldB (wpList_alloc_to rfl 24 rfl _ zero32 ?_)
  have hb0 : Below w.heap.size w (((w.alloc (.cells (cw ws) 75)).alloc (.cells (cb (List.replicate 32 0)) 24)).alloc (.cells (cb (List.replicate 32 0)) 24)) := (((Below.refl _ _).alloc (Nat.le_refl _) _).alloc (by simp) _).alloc (by simp; omega) _
  refine wpList_over (fun W => Bk W w.heap.size 75 (cw ws) ∧ Bk W (w.heap.size + 1) 24 (cb (List.replicate 32 0)) ∧ Bk W (w.heap.size + 1 + 1) 24 (cb (List.replicate 32 0)) ∧ Below w.heap.size w W) ⟨((Bk.new w _ _).alloc _).alloc _, (Bk.new2 w _ _ _).alloc _, Bk.new3 w _ _ _ _, hb0⟩ ?_
  clear hb0
  rintro W ⟨b0, b1, b2, hb0⟩
  have B0 := hide b0; have B1 := hide b1; have B2 := hide b2; have HB0 := hide hb0
  clear b0 b1 b2 hb0
  go_wp2
  go_loopw [5] (fun i wr => ∃ k : Nat, k ≤ 32 ∧ i = .int .i64 k ∧ Bk wr w.heap.size 75 (cw ws) ∧ Bk wr (w.heap.size + 1) 24 (cb (List.replicate 32 0)) ∧ Bk wr (w.heap.size + 1 + 1) 24 (cb (flN ws k)) ∧ Below w.heap.size w wr) (fun i _ => 32 - (intOf i).toNat)
  case atStart => exact ⟨0, Nat.zero_le _, rfl, B0.out, B1.out, by rw [flN_zero]; exact B2.out, HB0.out⟩
  case round =>
    obtain ⟨k, hk, rfl, b0, b1, b2, hb⟩ := hrel
    by_cases hlt : k < 32
    · have hq : k / 4 < 8 := by omega
      have hc := b0.word (i := k / 4) (by rw [HL.out]; exact hq)
      have hx := hw.lt (k / 4)
      have hc2 := b2.byte (i := k) (by rw [flN_length]; exact hlt)
      have hf := b2.frozen k
      have HF := hide (flN_succ ws k)
      have HN : Hid (flatN ws k = byteAt ws (k / 4) / 2 ^ (24 - 8 * (k % 4)) % 256) := hide rfl
      obtain ⟨sh, hsh⟩ : ∃ sh : Nat, sh = 24 - 8 * (k % 4) := ⟨_, rfl⟩
      have e1 : (24 : Int) - (k : Int) % 4 * 8 = (sh : Int) := by omega
      have hsh2 : sh ≤ 24 := by omega
      rw [← hsh] at HN
      have H0 := hide b0; have H1 := hide b1; have H2 := hide b2; have H3 := hide hb
      clear b0 b1 b2 hb hsh
      generalize byteAt ws (k / 4) = x at *
      generalize byteAt (flN ws k) k = y at *
      go_wp2
      go_roundw
      case rel =>
        refine ⟨k + 1, by omega, by go_num, H0.out.far (by show w.heap.size ≠ w.heap.size + 1 + 1; omega) _, H1.out.far (by simp) _, ?_, H3.out.setCell (by simp; omega) _⟩
        rw [HF.out, HN.out]
        refine H2.out.putb _ _ ?_
        rw [Int.natCast_emod, Int.natCast_ediv, Int.natCast_pow]
        rfl
      case measure => simp [intOf]; omega
    · have hk32 : k = 32 := by omega
      rw [hk32] at b2
      have hlk : ¬ (k : Int) < 32 := by omega
      clear hk32 hlt hk
      have hsz := flN_length ws 32
      obtain ⟨fs, hfs⟩ : ∃ fs, fs = flN ws 32 := ⟨_, rfl⟩
      rw [← hfs] at hsz b2
      have HFS := hide hfs; have HLEN := hide hsz
      clear hfs hsz
      have H1 := hide b1; have H2 := hide b2; have H3 := hide hb
      clear b0 b1 b2 hb
      go_wp2_with ((with_reducible show wpList _ _ _ (⟨some 21, _, _, _, _, _⟩ :: _) _ _); refine holdB ?_)
      refine heldB (wpList_load_mid rfl 24 (.tmp 3) rfl (w.heap.size + 1 + 1) 0 rfl _ _ H2.out.range Tryd.underlying24 rfl (by rw [Array.length_toList, cb_size, HLEN.out]; exact size32) ?_)
      rw [Array.toArray_toList]
      refine wpList_store_wide rfl 24 (.tmp 2) (.tmp 21) rfl (w.heap.size + 1) 0 (cb fs) rfl rfl 24 _ H1.out (by rw [cb_size, cb_size, HLEN.out]; simp) (by rw [cb_size, HLEN.out]; exact size32) (cb_one _) ?_
      intro w' hw'
      rw [setRow_all (by rw [cb_size, cb_size, HLEN.out]; simp)] at hw'
      have B1 := hide (hw'.out ▸ H1.out.setRow_same (cb fs) : Bk w' _ _ _)
      have hb2 := hw'.out ▸ below_setRow H3.out (g := w.heap.size + 1) (by omega) (cb fs)
      clear hw' H1 H2 H3
      go_wp2
      refine bodyPost_ret (v := .agg (cb fs)) ?_ rfl ⟨by rw [HFS.out], hb2⟩
      exact results_cell (a := ⟨w.heap.size + 1, 0, none⟩) rfl rfl (B1.out.load Tryd.underlying24 rfl (by rw [cb_size, HLEN.out]; exact size32))
end Go.Proofs.YtoiffchhfnbooaaDoor
