/-
  Walks over slices.Chunk at bytes: the iterator over the blocks of 64 bytes of padded bytes.
-/
import Derived.Test.YtihpfkkbnbjboaaDoorShaPad
import Derived.Test.YtihpfkkbnbjboaaDoorWideIn
import Derived.BigRegionIn
namespace Go.Proofs.YtihpfkkbnbjboaaDoor
set_option linter.unusedVariables false
set_option linter.unusedSimpArgs false
open Go.RowKit Go.Shelf

attribute [local go_sem] Oper.semAt_some

theorem run_from (w : World) (g np cp j : Nat) (h1 : j < np) (h2 : np ≤ cp) : (Instr.slice 22 (.slice (some ⟨g, 0, none⟩) np cp) (some (.int .i64 (j : Int))) none none).run Tryd.prog w = .ok (.slice (some ⟨g, j, none⟩) (np - j) (cp - j)) w := by
  have hne : ¬ cp = j := by omega
  rw [run_slice_l (P := Tryd.prog) (w := w) (t := 22) (a := some ⟨g, 0, none⟩) (len := np) (cap := cp) (ht := Tryd.underlying22) (kl := .i64) (l := (j : Int)) (h0 := by omega) (h1 := by omega)]
  simp [go_sem, sliced, hne]
theorem run_full (w : World) (g np cp j : Nat) (h1 : j + 64 ≤ np) (h2 : np ≤ cp) : (Instr.slice 22 (.slice (some ⟨g, 0, none⟩) np cp) (some (.int .i64 (j : Int))) (some (.int .i64 ((j : Int) + 64))) (some (.int .i64 ((j : Int) + 64)))).run Tryd.prog w = .ok (.slice (some ⟨g, j, none⟩) 64 64) w := by
  have e2 : ((j : Int) + 64).toNat = j + 64 := by omega
  have b0 : (0 : Int) ≤ (j : Int) + 64 := by omega
  have b1 : (j : Int) + 64 ≤ (cp : Int) := by omega
  simp [Instr.slice, run_underlying Tryd.underlying22, Instr.sliceBounds, Instr.sliceBound, asIntOf, b0, b1, e2, go_sem]

set_option maxHeartbeats 400000 in
theorem chunk_in (n : Nat) (A : Option Addr) (len cp : Nat) (w : World) :
    CallsIn Fence.wide n Tryd.prog 20 #[.slice A len cp, .int .i64 64] w fun e w' => e = .returned (.func (.func 30) #[] #[.pointer (some ⟨w.heap.size, 0, none⟩), .pointer (some ⟨w.heap.size + 1, 0, none⟩)]) ∧
      w' = (w.alloc (.cells #[.slice A len cp] 22)).alloc (.cells #[.int .i64 64] 3) := by
  refine callsIn_of_wp Tryd.func20 rfl trivial ?_ rfl
  simp only [Tryd.ntmps20, List.size_toArray, List.length_cons, List.length_nil, Nat.reduceAdd, Nat.reduceSub, Array.replicate_succ, Array.replicate_zero, List.push_toArray, List.append_toArray, List.nil_append, List.cons_append]
  gi_wp2
  go_ret
  exact ⟨rfl, rfl⟩

theorem abides_drew {β : Type} {B : Nat} {J : β → World → Prop} (h : AbidesFrom B J) {s : β} {W : World} (hs : J s W) : J s W.drew :=
  h s W W.drew none hs ⟨rfl, rfl, rfl, Nat.le_refl _, fun _ _ _ => rfl⟩ (fun r e => by cases e)

set_option maxRecDepth 100000 in
set_option maxHeartbeats 2000000 in
/-- the closure of Chunk: for every loop body that keeps what S names -/
theorem chunk1_in {α : Type} (val : α → Nat) (xs : List α) (l Bs Bf g np cp nb : Nat) (hxs : ∀ k (h : k < nb), ∃ h' : k < xs.length, val (xs[k]) = k) (hxl : xs.length = nb) (S : Nat → Prop) (hnb : np = 64 * nb) (hnp : np ≤ 2000000) (hcp : np ≤ cp) (J Jx : List α → World → Prop) (B : Nat) (hJ : AbidesFrom B J)
    (hY : ∀ pre x W, J pre W → pre.length < nb → YieldAt Fence.wide 1 Tryd.prog l #[.slice (some ⟨g, 64 * val x, none⟩) 64 64] W fun e W' =>
      (e = .returned (.bool true) ∧ J (pre ++ [x]) W' ∧ Keeps S W W') ∨ (e = .returned (.bool false) ∧ Jx (pre ++ [x]) W'))
    (W : World) (hBs : W.cell? ⟨Bs, 0, none⟩ = some (.slice (some ⟨g, 0, none⟩) np cp)) (hBf : W.cell? ⟨Bf, 0, none⟩ = some (.int .i64 64)) (hs0 : S Bs) (hf0 : S Bf) (h0 : J [] W) :
    CallsIn Fence.wide 2 Tryd.prog 30 #[.func (.yield l) #[] #[], .pointer (some ⟨Bs, 0, none⟩), .pointer (some ⟨Bf, 0, none⟩)] W fun e W' => (∃ v, e = .returned v) ∧
      ((∃ ys, ys = xs ∧ J ys W') ∨ (∃ pre : List α, True ∧ Jx pre W')) := by
  refine callsIn_of_wp Tryd.func30 rfl trivial ?_ rfl
  simp only [Tryd.ntmps30, List.size_toArray, List.length_cons, List.length_nil, Nat.reduceAdd, Nat.reduceSub, Array.replicate_succ, Array.replicate_zero, List.push_toArray, List.append_toArray, List.nil_append, List.cons_append]
  gi_wp2
  gi_loopw [4] (fun i wr => ∃ k : Nat, k ≤ nb ∧ i = .int .i64 ((64 * k : Nat) : Int) ∧ J (xs.take k) wr ∧ Keeps S W wr)
    (fun i _ => (np - (intOf i).toNat))
  case atStart => exact ⟨0, Nat.zero_le _, rfl, h0, Keeps.refl _ _⟩
  case round =>
    obtain ⟨k, hk, rfl, hJs, hnx⟩ := hrel
    have hBs' := (hnx.cell (p := ⟨Bs, 0, none⟩) hs0).trans hBs
    have hBf' := (hnx.cell (p := ⟨Bf, 0, none⟩) hf0).trans hBf
    have HNB := hide hnb
    clear hnb
    by_cases hlt : k < nb
    · obtain ⟨j, hj⟩ : ∃ j, j = 64 * k := ⟨_, rfl⟩
      have hj64 : j + 64 ≤ np := by rw [HNB.out]; omega
      obtain ⟨hkx, hval⟩ := hxs k hlt
      have HY := hide (hY (xs.take k) xs[k] wr.drew (abides_drew hJ hJs) (by rw [List.length_take]; omega))
      rw [hval] at HY
      have HRG := hide (List.take_succ_eq_append_getElem hkx)
      rw [← hj] at HY ⊢
      clear hval
      have HJ := hide hj
      have HJS := hide hJs; have HNX := hide hnx
      clear hj hY hJs hnx
      have hr1 := fun W => run_from W g np cp j (by omega) hcp
      have hr2 := fun W => run_full W g np cp j hj64 hcp
      have q1 : (j : Int) < (np : Int) := by omega
      have q2 : ((np - j : Nat) : Int) = (np : Int) - (j : Int) := by omega
      have q3 : (64 : Int) ≤ (np : Int) - (j : Int) := by omega
      gi_wp2_with fail
      gi_region
      have hBsD : wr.drew.cell? ⟨Bs, 0, none⟩ = some (.slice (some ⟨g, 0, none⟩) np cp) := hBs'
      have hBfD : wr.drew.cell? ⟨Bf, 0, none⟩ = some (.int .i64 64) := hBf'
      have HNX2 := hide (HNX.out.trans ⟨rfl, rfl, rfl, Nat.le_refl _, fun _ _ => rfl⟩ : Keeps S W wr.drew)
      clear HNX HJS hBs' hBf' hr1
      generalize wr.drew = W2 at *
      obtain ⟨fn, tmps, assign, body, hy, hR⟩ := HY.out
      have HR := hide hR
      clear hR HY
      gi_wp2
      refine HR.out.mono ?_
      rintro e W3 (⟨rfl, hJ3, hk3⟩ | ⟨rfl, hJx3⟩)
      · have HNX3 := hide (HNX2.out.trans hk3)
        have hBf3 := (HNX3.out.cell (p := ⟨Bf, 0, none⟩) hf0).trans hBf
        have HJ3 := hide hJ3
        clear hJ3 hk3 hBsD hBfD HNX2 hr2 hy
        gi_wp2
        go_roundw
        case rel => exact ⟨k + 1, by omega, by have := HJ.out; go_num, by rw [HRG.out]; exact HJ3.out, HNX3.out⟩
        case measure => simp [intOf]; omega
      · gi_wp2
        refine bodyPost_ret (results_none rfl _ _ _) rfl ?_
        refine ⟨⟨_, rfl⟩, ?_⟩
        first | exact .inr ⟨_, trivial, hJx3⟩ | exact .inr ⟨_, hJx3⟩
    · have hkn : k = nb := by omega
      have hlk : ¬ ((64 * k : Nat) : Int) < (np : Int) := by rw [HNB.out]; omega
      obtain ⟨j, hj⟩ : ∃ j, j = 64 * k := ⟨_, rfl⟩
      rw [← hj] at hlk ⊢
      have HKN := hide hkn
      clear hkn hlt hk hj
      gi_wp2
      go_end0
      rw [HKN.out, List.take_of_length_le (by rw [hxl]; exact Nat.le_refl _)] at hJs
      refine ⟨⟨_, rfl⟩, ?_⟩
      first | exact .inl ⟨_, rfl, hJs⟩ | exact .inl hJs
/-- Chunk hands back an iterator over all blocks -/
theorem chunk_stops {α : Type} (val : α → Nat) (xs : List α) (Bs Bf g np cp nb : Nat) (hxs : ∀ k (h : k < nb), ∃ h' : k < xs.length, val (xs[k]) = k) (hxl : xs.length = nb) (S : Nat → Prop) (hnb : np = 64 * nb) (hnp : np ≤ 2000000) (hcp : np ≤ cp) (w : World) (hBs : w.cell? ⟨Bs, 0, none⟩ = some (.slice (some ⟨g, 0, none⟩) np cp)) (hBf : w.cell? ⟨Bf, 0, none⟩ = some (.int .i64 64)) (hs0 : S Bs) (hf0 : S Bf) (hSw : ∀ b, S b → b < w.heap.size) :
    SeqStopsK Fence.wide 2 Tryd.prog 30 #[.pointer (some ⟨Bs, 0, none⟩), .pointer (some ⟨Bf, 0, none⟩)] (fun x : α => #[.slice (some ⟨g, 64 * val x, none⟩) 64 64]) (Keeps S) (fun ys => ys = xs) (fun _ => True) nb w :=
  fun l J Jx W hW hJ _ hY h0 => by
    have hK : Keeps S w W := Keeps.of_below hW hSw
    exact chunk1_in val xs l Bs Bf g np cp nb hxs hxl S hnb hnp hcp J Jx _ hJ hY W ((hK.cell (p := ⟨Bs, 0, none⟩) hs0).trans hBs) ((hK.cell (p := ⟨Bf, 0, none⟩) hf0).trans hBf) hs0 hf0 h0
end Go.Proofs.YtihpfkkbnbjboaaDoor
