/-
  A region that leaves its order open and only reads, with whole sectors and writes among what it reads: laws for such walks; and what slices.Equal answers of two lists of sectors, and of writes.
-/
import Derived.Test.YtfejnfohbagnkaaSecAlive
import Derived.Test.YtfejnfohbagnkaaSecEq
import Derived.StillTailTactics
namespace Go.Proofs.Ytfejnfohbagnkaa
open Go.RowKit

section
variable {P : Program} {ops : Array Oper} {w : World}
theorem wpStill_value {Q : Act → Prop} {a : Act} {o : Oper} {rest : List Oper} {v : Value} (hw : Region.wanted o (yielded ops a.tmps) = true) (hv : (execOp a.eval o).run P w = .ok (.value v) w)
    (h : wpStill P ops w Q rest (a.put o.dst v)) : wpStill P ops w Q (o :: rest) a := by
  unfold wpStill
  rw [if_pos hw]
  unfold Oper.still
  rw [hv]
  exact ⟨rfl, h⟩
theorem wpStill_load_mid {Q : Act → Prop} {a : Act} {op : Oper} {rest : List Oper} (hw : Region.wanted op (yielded ops a.tmps) = true) (ty : TypeId) (x : Operand) (ho : op.op = .load ty x)
    (b o : Nat) (hx : a.eval x = .pointer (some ⟨b, o, none⟩)) (cs : List Value) (d : TypeDesc) (hc : w.rangeAt b o cs)
    (hu : P.underlying ty = some d) (hd : d.isRow = true) (hi : (P.info? ty).map (·.size) = some cs.length)
    (h : wpStill P ops w Q rest (a.put op.dst (.agg cs.toArray))) : wpStill P ops w Q (op :: rest) a := by
  refine wpStill_value hw ?_ h
  unfold execOp
  simp only [ho, hx, Instr.loadAt, Instr.sureAddr, Sem.run_bind, Sem.run_pure, Result.andThen_ok, run_loadVar_mid w b o ty cs d hc hu hd hi]
end

theorem Arr.rows_at {w : World} {B n : Nat} {A : Option Addr} {α : Type} {f : α → List Value} {k : Nat} {l : List α} (h : Arr w B k A n (l.map f)) {i : Nat} (hi : i < l.length) : ∃ b o, A = some ⟨b, o, none⟩ ∧ b < B ∧ w.rangeAt b (o + i * k) (f l[i]) := by
  have hn : l.length = n := by simpa using h.1
  obtain ⟨b, o, e, hb, hr⟩ := h.at_ (i := i) (by omega)
  refine ⟨b, o, e, hb, ?_⟩
  have : (l.map f).getD i [] = f l[i] := by simp [hi]
  rwa [this] at hr

theorem rows_eq_step {α : Type} [DecidableEq α] (l m : List α) (i : Nat) (h : l.take i = m.take i) (hl : l.length = m.length) (hi : i < l.length) :
    (l[i] = m[i]'(by omega) → l.take (i + 1) = m.take (i + 1)) ∧ (¬ l[i] = m[i]'(by omega) → decide (l = m) = false) := by
  constructor
  · intro e
    rw [List.take_succ_eq_append_getElem hi, List.take_succ_eq_append_getElem (by omega : i < m.length), h, e]
  · intro e
    rw [decide_eq_false_iff_not]
    rintro rfl
    exact e rfl

set_option maxHeartbeats 1000000 in
/-- slices.Equal of sectors -/
theorem equalS_any (A A2 : Option Addr) (n c n2 c2 : Nat) (l m : List (List Int)) (w : World) (hn : n ≤ maxLen) (hn2 : n2 ≤ maxLen) (h1 : Arr w w.heap.size 64 A n (l.map secv)) (h2 : Arr w w.heap.size 64 A2 n2 (m.map secv)) :
    Calls Try.prog 32 #[.slice A n c, .slice A2 n2 c2] w fun e w' => e = .returned (.bool (decide (l = m))) ∧ Below w.heap.size w w' := by
  unfold maxLen at hn hn2
  have e1 : l.length = n := by simpa using h1.1
  have e2 : m.length = n2 := by simpa using h2.1
  have hl64 : ∀ s ∈ l, s.length = 64 := fun s hs => by simpa [secv_length] using h1.2.1 _ (List.mem_map.2 ⟨s, hs, rfl⟩)
  have hm64 : ∀ s ∈ m, s.length = 64 := fun s hs => by simpa [secv_length] using h2.2.1 _ (List.mem_map.2 ⟨s, hs, rfl⟩)
  obtain ⟨i28, hi28⟩ : ∃ i, Try.prog.info? 5 = some i := Option.isSome_iff_exists.1 (by kernel_rfl)
  by_cases hlen : n = n2
  · subst hlen
    have hneq : ((n : Int) == (n : Int)) = true := by simp
    have E1 := Lib.hid e1; have E2 := Lib.hid e2
    clear e1 e2
    go_enter Try.func32, Try.ntmps32
    go_wp2_with fail
    go_loopw [13] (fun k wr => ∃ j : Nat, j ≤ n ∧ k = .int .i64 j ∧ l.take j = m.take j ∧ Below w.heap.size w wr) (fun k _ => n - (intOf k).toNat)
    case atStart => exact ⟨0, Nat.zero_le _, rfl, rfl, Below.refl _ _⟩
    case round =>
      obtain ⟨j, hj, rfl, hpre, hb⟩ := hrel
      by_cases hlt : j < n
      · obtain ⟨b1, o1, rfl, hb1, hr1⟩ := Arr.rows_at h1 (i := j) (by rw [E1.out]; exact hlt)
        obtain ⟨b2, o2, rfl, hb2, hr2⟩ := Arr.rows_at h2 (i := j) (by rw [E2.out]; exact hlt)
        have hji : (j : Int) < (n : Int) := by omega
        have q1 := Lib.hid (rangeAt_keep hr1 (w' := wr.drew) (fun p hp => (hb.drew).cell (by omega)))
        have q2 := Lib.hid (rangeAt_keep hr2 (w' := wr.drew) (fun p hp => (hb.drew).cell (by omega)))
        have l64 := hl64 _ (List.getElem_mem (by rw [E1.out]; exact hlt : j < l.length))
        have m64 := hm64 _ (List.getElem_mem (by rw [E2.out]; exact hlt : j < m.length))
        obtain ⟨s, hs⟩ : ∃ s, l[j]'(by rw [E1.out]; exact hlt) = s := ⟨_, rfl⟩
        obtain ⟨t, ht⟩ : ∃ t, m[j]'(by rw [E2.out]; exact hlt) = t := ⟨_, rfl⟩
        rw [hs] at q1 l64
        rw [ht] at q2 m64
        have hstep := rows_eq_step l m j hpre (by rw [E1.out, E2.out]) (by rw [E1.out]; exact hlt)
        rw [hs, ht] at hstep
        have Hst := Lib.hid hstep
        have hB := Lib.hid hb
        clear hs ht hstep hr1 hr2 hpre hb
        have hneq2 : ∀ W, (binOp .neq 28 (.agg (secv s).toArray) (.agg (secv t).toArray)).run Try.prog W = .ok (.bool (!decide (s = t))) W := fun W => run_neq_sec W Try.underlying28 Try.underlying5 hi28 (by kernel_rfl) l64 m64
        by_cases hst : s = t
        · have hdst : decide (s = t) = true := by simpa using hst
          have HST := Lib.hid hst
          clear hst
          go_wp2
          refine wp_region_still_lit (by kernel_rfl) (by kernel_rfl) ?_
          iterate 3 still_step
          refine wpStill_load_mid (by simp [Region.wanted]) 28 (.tmp 18) rfl b1 (o1 + j * 64) rfl (secv s) (.array 64 5) q1.out Try.underlying28 rfl (by rw [secv_length, l64]; exact size_sec) ?_
          iterate 3 still_step
          refine wpStill_load_mid (by simp [Region.wanted]) 28 (.tmp 22) rfl b2 (o2 + j * 64) rfl (secv t) (.array 64 5) q2.out Try.underlying28 rfl (by rw [secv_length, m64]; exact size_sec) ?_
          still_step
          refine wpStill_nil ?_
          go_wp2
          go_roundw
          case rel => exact ⟨j + 1, by omega, by go_num, Hst.out.1 HST.out, hB.out.drew⟩
          case measure => simp [intOf]; omega
        · have hdst : decide (s = t) = false := by simpa using hst
          have HST := Lib.hid hst
          clear hst
          go_wp2
          refine wp_region_still_lit (by kernel_rfl) (by kernel_rfl) ?_
          iterate 3 still_step
          refine wpStill_load_mid (by simp [Region.wanted]) 28 (.tmp 18) rfl b1 (o1 + j * 64) rfl (secv s) (.array 64 5) q1.out Try.underlying28 rfl (by rw [secv_length, l64]; exact size_sec) ?_
          iterate 3 still_step
          refine wpStill_load_mid (by simp [Region.wanted]) 28 (.tmp 22) rfl b2 (o2 + j * 64) rfl (secv t) (.array 64 5) q2.out Try.underlying28 rfl (by rw [secv_length, m64]; exact size_sec) ?_
          still_step
          refine wpStill_nil ?_
          go_wp2
          go_ret
          exact ⟨ret_b (Hst.out.2 HST.out) rfl, hB.out.drew⟩
      · have hjn : j = n := by omega
        have Hjn := Lib.hid hjn
        have hB := Lib.hid hb
        have Hpre := Lib.hid hpre
        clear hjn hb hpre
        go_wp2
        go_ret
        refine ⟨ret_b ?_ rfl, hB.out⟩
        have := Hpre.out
        rw [Hjn.out, List.take_of_length_le (by rw [E1.out]; omega), List.take_of_length_le (by rw [E2.out]; omega)] at this
        simpa using this
  · have hneq : ((n : Int) == (n2 : Int)) = false := by simp; omega
    have hne : decide (l = m) = false := by
      rw [decide_eq_false_iff_not]
      rintro rfl
      omega
    have Hne := Lib.hid hne
    clear hne e1 e2
    go_enter Try.func32, Try.ntmps32
    go_wp2
    go_ret
    exact ⟨ret_b Hne.out rfl, Below.refl _ _⟩
end Go.Proofs.Ytfejnfohbagnkaa
