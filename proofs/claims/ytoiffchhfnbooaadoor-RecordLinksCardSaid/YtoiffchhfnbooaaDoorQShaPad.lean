/-
  Contracts over package sha: padded bytes; and of the document's own answer.
-/
import Derived.Test.YtoiffchhfnbooaaDoorQShaWalksB
import Derived.Test.YtoiffchhfnbooaaDoorQRowRel
namespace Go.Proofs.YtoiffchhfnbooaaDoor
set_option linter.unusedVariables false
set_option linter.unusedSimpArgs false
set_option linter.unusedVariables false
set_option linter.unusedSimpArgs false
open Go.RowKit

/-- how many of 0 padding wants -/
def zerosN (n : Nat) : Nat := (119 - n % 64) % 64
def padN (l : List Nat) : List Nat := l ++ 128 :: List.replicate (zerosN l.length) 0 ++ encB 8 (8 * l.length)
theorem padN_length (l : List Nat) : (padN l).length = l.length + 9 + zerosN l.length := by
  unfold padN
  rw [List.length_append, List.length_append, List.length_cons, List.length_replicate, encB_length]
  omega
theorem padN_64 (l : List Nat) : (padN l).length % 64 = 0 := by rw [padN_length]; unfold zerosN; omega
theorem zerosN_lt (n : Nat) : zerosN n < 64 := Nat.mod_lt _ (by omega)
theorem padN_lt {l : List Nat} (h : ∀ x ∈ l, x < 256) : ∀ x ∈ padN l, x < 256 := by
  intro x hx
  unfold padN at hx
  rcases List.mem_append.1 hx with hx | hx
  · rcases List.mem_append.1 hx with hx | hx
    · exact h x hx
    · rcases List.mem_cons.1 hx with rfl | hx
      · omega
      · rw [(List.mem_replicate.1 hx).2]; omega
  · exact encB_lt _ _ x hx
theorem rep_snoc (l : List Nat) (j : Nat) : l ++ 128 :: List.replicate j 0 ++ [0] = l ++ 128 :: List.replicate (j + 1) 0 := by
  rw [List.append_assoc, List.cons_append, ← List.replicate_succ']

theorem run_make_0 (W : World) (k : Nat) (hk : k ≤ 1000000000) : (Instr.makeSlice 32 (.int .i64 0) (.int .i64 (k : Int))).run Tryd.prog W = .ok (.slice (some ⟨W.heap.size, 0, none⟩) 0 k) (W.alloc (.cells (madeCells #[.int .u8 0] k) 5)) := by
  obtain ⟨i, hi, hz, hs, hby⟩ := info_parts info_u8
  have := run_make (P := Tryd.prog) W 32 5 i (.int .u8 0) Tryd.underlying32 hi hz .i64 .i64 0 (k : Int) (by omega) (by omega) (by rw [hby]; omega) (by omega)
  rw [hs, show (Value.int .u8 0).cells = #[.int .u8 0] from rfl] at this
  simpa using this
theorem OwnB.made0 (w : World) (k : Nat) (hk : k ≤ 1000000000) (e : TypeId) : OwnB (w.alloc (.cells (madeCells #[.int .u8 0] k) e)) w.heap.size e (some ⟨w.heap.size, 0, none⟩) 0 k [] := by
  refine ⟨⟨by simp, .inr ⟨w.heap.size, k, madeCells #[.int .u8 0] k, rfl, Nat.le_refl _, heap_alloc_new w _, Nat.zero_le _, by unfold maxLen; omega, ?_, ?_⟩⟩, by simp⟩
  · simp [size_madeCells]
  · simp

theorem byte_of {v j : Nat} : (v : Int) / 2 ^ (8 * j) % 256 = ((v / 256 ^ j % 256 : Nat) : Int) := by
  rw [show (2 : Int) ^ (8 * j) = ((256 ^ j : Nat) : Int) by rw [Int.pow_mul]; simp]
  omega

set_option maxRecDepth 20000 in
set_option maxHeartbeats 1000000 in
theorem pad_any (A : Option Addr) (n c B : Nat) (l : List Nat) (w : World) (hl : Bytes w B A n l) (hB : B ≤ w.heap.size) (hn : n ≤ 1000000) :
    Calls Tryd.prog 35 #[.slice A n c] w (Made w.heap.size w (n + 9 + zerosN n) (padN l)) := by
  have hlen := hl.1
  have HLEN := hide hlen
  clear hlen
  have hmk := fun W => run_make_0 W (n + 72) (by omega)
  have hmi : ((n + 72 : Nat) : Int) = (n : Int) + 72 := by omega
  simp only [hmi] at hmk
  clear hmi
  go_enter Tryd.func35, Tryd.ntmps35
  go_wp2_with ((with_reducible show wpList _ _ _ (⟨some 11, _, _, _, _, _⟩ :: _) _ _); refine holdB ?_)
  clear hmk
  refine heldB (wpList_append_bytes rfl (.tmp 9) (.tmp 10) 32 rfl Tryd.underlying32 info_u8 w.heap.size (some ⟨w.heap.size, 0, none⟩) 0 (n + 72) [] rfl (OwnB.made0 w (n + 72) (by omega) 5) B A n c l rfl
    (hl.below ((Below.refl B w).alloc hB _) (Nat.le_refl _)) (by omega) (by simp) ?_)
  intro A1 c1 w1 ho1 hb1 hg1
  clear hg1
  rw [Nat.zero_add, List.nil_append] at ho1
  rw [Nat.zero_add]
  have hb1' : Below w.heap.size w w1 := ((Below.refl _ _).alloc (Nat.le_refl _) _).trans hb1
  clear hb1
  go_wp2_with ((with_reducible show wpList _ _ _ (⟨some 14, _, _, _, _, _⟩ :: _) _ _); refine holdB ?_)
  refine heldB (wpList_append_bytes rfl (.tmp 12) (.tmp 13) 32 rfl Tryd.underlying32 info_u8 w.heap.size A1 n c1 l rfl (ho1.alloc _) _ _ 1 1 _ rfl (Bytes.one w1 (show 128 < 256 by omega) _) (by omega) (by have := hb1'.size; simp; omega) ?_)
  intro A2 c2 w2 ho2 hb2 hg2
  clear hg2
  have hb2' : Below w.heap.size w w2 := (hb1'.alloc hb1'.size _).trans hb2
  clear hb2 ho1
  go_wp2
  go_loopw [3] (fun s wr => ∃ j A' c', j ≤ zerosN n ∧ s = .slice A' (n + 1 + j) c' ∧ OwnB wr w.heap.size 5 A' (n + 1 + j) c' (l ++ 128 :: List.replicate j 0) ∧ Below w.heap.size w wr) (fun s _ => match s with | .slice _ k _ => n + 100 - k | _ => 0)
  case atStart => exact ⟨0, A2, c2, Nat.zero_le _, rfl, ho2, hb2'⟩
  case round =>
    obtain ⟨j, A', c', hj, rfl, ho, hb⟩ := hrel
    have hz : zerosN n = (119 - n % 64) % 64 := rfl
    have hz64 := zerosN_lt n
    by_cases hlt : j < zerosN n
    · have hne : (((n : Int) + 1 + (j : Int)) % 64 == 56) = false := by simp; omega
      have hne2 : (((n : Int) + 1 + (j : Int)) % 64 != 56) = true := by simp; omega
      have HZ := hide hz
      clear hz
      go_wp2_with ((with_reducible show wpList _ _ _ (⟨some 21, _, _, _, _, _⟩ :: _) _ _); refine holdB ?_)
      refine heldB (wpList_append_bytes rfl (.tmp 19) (.tmp 20) 32 rfl Tryd.underlying32 info_u8 w.heap.size A' (n + 1 + j) c' _ rfl (ho.alloc _) _ _ 1 1 _ rfl (Bytes.one wr (show 0 < 256 by omega) _) (by omega) (by have := hb.size; simp; omega) ?_)
      intro A3 c3 w3 ho3 hb3 hg3
      clear hg3
      have hb3' : Below w.heap.size w w3 := (hb.alloc hb.size _).trans hb3
      rw [rep_snoc] at ho3
      go_wp2
      go_roundw
      case rel => exact ⟨j + 1, A3, c3, by omega, rfl, ho3, hb3'⟩
      case measure => simp; omega
    · have hjz : j = zerosN n := by omega
      have hne : (((n : Int) + 1 + (j : Int)) % 64 != 56) = false := by simp; omega
      have HJZ := hide hjz
      have hj64 : j < 64 := by omega
      clear hz hz64 hlt hj hjz
      obtain ⟨v, hv⟩ : ∃ v, v = 8 * n := ⟨_, rfl⟩
      have hvi : 8 * (n : Int) = (v : Int) := by omega
      have hvl : v ≤ 8000000 := by omega
      obtain ⟨N, hN⟩ : ∃ N, N = n + 1 + j := ⟨_, rfl⟩
      obtain ⟨L, hL⟩ : ∃ L, L = l ++ 128 :: List.replicate j 0 := ⟨_, rfl⟩
      rw [← hN, ← hL] at ho
      have hNI : (n : Int) + 1 + (j : Int) = (N : Int) := by omega
      rw [hNI] at hne
      rw [← hN]
      have HV := hide hv; have HN := hide hN; have HL := hide hL
      have hNl : N ≤ 2000000 := by omega
      clear hv hN hL hNI
      go_wp2
      clear hvi
      go_loopw [3, 5] (fun s t wr => ∃ m A' c', m ≤ 8 ∧ s = .slice A' (N + (8 - m)) c' ∧ OwnB wr w.heap.size 5 A' (N + (8 - m)) c' (L ++ encB (8 - m) (v / 256 ^ m)) ∧ t = .int .i64 (8 * (m : Int) - 8) ∧ Below w.heap.size w wr) (fun _ t _ => (intOf t + 8).toNat)
      case atStart => exact ⟨8, A', c', Nat.le_refl _, rfl, by rw [Nat.sub_self]; simpa [encB] using ho, by go_num, hb⟩
      case round =>
        obtain ⟨m, A', c', hm, rfl, ho, rfl, hb⟩ := hrel
        by_cases h0 : m = 0
        · subst h0
          have HW := hide (show N + (8 - 0) = n + 9 + zerosN n by rw [HN.out, HJZ.out]; omega)
          have HP := hide (show L ++ encB (8 - 0) (v / 256 ^ 0) = padN l by rw [HL.out, HJZ.out, HV.out, Nat.pow_zero, Nat.div_one]; unfold padN; rw [HLEN.out])
          rw [HP.out, HW.out] at ho
          rw [HW.out]
          go_wp2
          go_ret
          exact ⟨A', c', rfl, ho, hb⟩
        · obtain ⟨q, rfl⟩ : ∃ q, m = q + 1 := ⟨m - 1, by omega⟩
          have e1 : (8 * ((q + 1 : Nat) : Int) - 8) = 8 * (q : Int) := by omega
          rw [e1]
          have HB := hide (byte_of (v := v) (j := q))
          have HE := hide (show encB (8 - q) (v / 256 ^ q) = encB (8 - (q + 1)) (v / 256 ^ (q + 1)) ++ [v / 256 ^ q % 256] by
            rw [show 8 - q = (8 - (q + 1)) + 1 by omega, encB, Nat.div_div_eq_div_mul, ← Nat.pow_succ])
          have hqi : (q : Int) < 8 := by omega
          go_wp2_with ((with_reducible show wpList _ _ _ (⟨some 36, _, _, _, _, _⟩ :: _) _ _); refine holdB ?_)
          rw [HB.out]
          refine heldB (wpList_append_bytes rfl (.tmp 30) (.tmp 35) 32 rfl Tryd.underlying32 info_u8 w.heap.size A' (N + (8 - (q + 1))) c' _ rfl (ho.alloc _) _ _ 1 1 _ rfl (Bytes.one wr (Nat.mod_lt _ (by omega)) _) (by omega) (by have := hb.size; simp; omega) ?_)
          intro A3 c3 w3 ho3 hb3 hg3
          clear hg3
          have hb3' : Below w.heap.size w w3 := (hb.alloc hb.size _).trans hb3
          have HL8 := hide (show N + (8 - q) = N + (8 - (q + 1)) + 1 by omega)
          go_wp2
          go_roundw
          case rel => exact ⟨q, A3, c3, by omega, congrArg (fun z => Value.slice A3 z c3) (by omega), by rw [HL8.out, HE.out, ← List.append_assoc]; exact ho3, by go_num, hb3'⟩
          case measure => first | (simp [intOf]; done) | (simp [intOf]; omega)
end Go.Proofs.YtoiffchhfnbooaaDoor

/-
  Contracts over the document's own answer for layer 4: the sum of bytes; a block's step on its own.
-/
namespace Go.Proofs.YtoiffchhfnbooaaDoor
set_option linter.unusedVariables false
set_option linter.unusedSimpArgs false
set_option linter.unusedVariables false
set_option linter.unusedSimpArgs false
open Go.RowKit

section
variable {P : Program} {ops : Array Oper} {w : World}
theorem wpStill_value {Q : Act → Prop} {a : Act} {o : Oper} {rest : List Oper} {v : Value} (hw : Region.wanted o (yielded ops a.tmps) = true) (hv : (execOp a.eval o).run P w = .ok (.value v) w)
    (h : wpStill P ops w Q rest (a.put o.dst v)) : wpStill P ops w Q (o :: rest) a := by
  unfold wpStill
  rw [if_pos hw]
  unfold Oper.still
  rw [hv]
  exact ⟨rfl, h⟩
theorem wpStill_load_mid {Q : Act → Prop} {a : Act} {op : Oper} {rest : List Oper} (hw : Region.wanted op (yielded ops a.tmps) = true) (ty : TypeId) (x : Operand) (ho : op.op = .load ty x)
    (b o : Nat) (hx : a.eval x = .pointer (some ⟨b, o, none⟩)) (cs : List Value) (d : TypeDesc) (hc : w.rangeAt b o cs)
    (hu : P.underlying ty = some d) (hd : d.isRow = true) (hi : (P.info? ty).map (·.size) = some cs.length)
    (h : wpStill P ops w Q rest (a.put op.dst (.agg cs.toArray))) : wpStill P ops w Q (op :: rest) a := by
  refine wpStill_value hw ?_ h
  unfold execOp
  simp only [ho, hx, Instr.loadAt, Instr.sureAddr, Sem.run_bind, Sem.run_pure, Result.andThen_ok, run_loadVar_mid w b o ty cs d hc hu hd hi]
end
/-- block i of padded bytes -/
def blockN (p : List Nat) (i : Nat) : List Nat := (p.drop (64 * i)).take 64
theorem blockN_length {p : List Nat} {i : Nat} (h : 64 * (i + 1) ≤ p.length) : (blockN p i).length = 64 := by
  unfold blockN
  rw [List.length_take, List.length_drop]
  omega
theorem blockN_lt {p : List Nat} (h : ∀ x ∈ p, x < 256) (i : Nat) : ∀ x ∈ blockN p i, x < 256 := fun x hx => h x (List.mem_of_mem_drop (List.mem_of_mem_take hx))
theorem blockN_at {p : List Nat} {i k : Nat} (hk : k < 64) : byteAt (blockN p i) k = byteAt p (64 * i + k) := by
  unfold blockN byteAt
  rw [List.getD_eq_getElem?_getD, List.getD_eq_getElem?_getD, List.getElem?_take, if_pos hk, List.getElem?_drop]
/-- the words behind k blocks -/
def blocksN (p : List Nat) : Nat → Wd
  | 0 => first0
  | k + 1 => stepN kL (blocksN p k) (blockN p k)
theorem blocksN_zero (p : List Nat) : blocksN p 0 = first0 := rfl
theorem blocksN_succ (p : List Nat) (k : Nat) : blocksN p (k + 1) = stepN kL (blocksN p k) (blockN p k) := rfl
theorem blocksN_ok (p : List Nat) : ∀ k, (blocksN p k).Ok
  | 0 => first0_ok
  | k + 1 => stepN_ok _ _ _
/-- the sum -/
def sumB (l : List Nat) : List Nat := flN (blocksN (padN l) ((padN l).length / 64)).list 32
theorem sumB_length (l : List Nat) : (sumB l).length = 32 := flN_length _ _
theorem sumB_lt (l : List Nat) : ∀ x ∈ sumB l, x < 256 := flN_lt _ _
attribute [irreducible] blocksN
theorem wd_w32 {s : Wd} (h : s.Ok) : W32 s.list := by
  intro x hx
  simp only [Wd.list, List.mem_cons, List.not_mem_nil, or_false] at hx
  rcases hx with rfl | rfl | rfl | rfl | rfl | rfl | rfl | rfl
  · exact h.a
  · exact h.b
  · exact h.c
  · exact h.d
  · exact h.e
  · exact h.f
  · exact h.g
  · exact h.h
/-- a block's bytes within own bytes -/
theorem OwnB.block {w : World} {base n c : Nat} {e : TypeId} {A : Option Addr} {p : List Nat} (h : OwnB w base e A n c p) {i : Nat} (hi : 64 * (i + 1) ≤ n) :
    ∃ g, A = some ⟨g, 0, none⟩ ∧ base ≤ g ∧ Bytes w w.heap.size (some ⟨g, 64 * i, none⟩) 64 (blockN p i) := by
  have hl := h.len
  obtain ⟨g, rfl, hg, hgl, _, hc⟩ := h.cells (by omega)
  refine ⟨g, rfl, hg, blockN_length (by omega), blockN_lt h.2 i, fun _ => ⟨g, 64 * i, rfl, hgl, fun k hk => ?_⟩⟩
  rw [hc _ (by omega), blockN_at hk]

theorem own_row {w : World} {base n c : Nat} {e : TypeId} {A : Option Addr} {l : List Nat} (h : OwnB w base e A n c l) {g : Nat} (hg : g < base) (cs : Array Value) : OwnB (w.setRow g cs) base e A n c l := by
  refine ⟨⟨h.1.1, ?_⟩, h.2⟩
  rcases h.1.2 with h0 | ⟨g', cap, cur, hv, hg', hh, r⟩
  · exact .inl h0
  · exact .inr ⟨g', cap, cur, hv, hg', (YtoiffchhfnbooaaDoor.setRow_other' w g g' cs (by omega)).trans hh, r⟩
set_option maxRecDepth 20000 in
theorem run_block (w : World) (g np cp j : Nat) (h1 : j + 64 ≤ np) (h2 : np ≤ cp) : (Instr.slice 32 (.slice (some ⟨g, 0, none⟩) np cp) (some (.int .i64 (j : Int))) (some (.int .i64 ((j : Int) + 64))) none).run Tryd.prog w = .ok (.slice (some ⟨g, j, none⟩) 64 (cp - j)) w := by
  have e2 : ((j : Int) + 64).toNat = j + 64 := by omega
  rw [run_slice_lh (P := Tryd.prog) (w := w) (t := 32) (a := some ⟨g, 0, none⟩) (len := np) (cap := cp) (ht := Tryd.underlying32) (kl := .i64) (kh := .i64) (l := (j : Int)) (h := (j : Int) + 64) (h0 := by omega) (h1 := by omega) (h2 := by omega)]
  have hne : ¬ cp = j := by omega
  simp [go_sem, e2, sliced, hne, show j + 64 - j = 64 by omega]
end Go.Proofs.YtoiffchhfnbooaaDoor

/-
  Plain mathematics of package date: the calendar; digits; months' names; what texts are dates, clocks, zones. Nothing here speaks of a program.
-/
namespace Go.Proofs.YtoiffchhfnbooaaDoor
set_option linter.unusedVariables false
set_option linter.unusedSimpArgs false
set_option linter.unusedVariables false
set_option linter.unusedSimpArgs false

/-! ### The calendar -/
def isLeap (y : Nat) : Bool := decide (y % 4 = 0 ∧ (y % 100 ≠ 0 ∨ y % 400 = 0))
def mDays (y m : Nat) : Nat := if m = 2 then (if isLeap y then 29 else 28) else if m = 4 ∨ m = 6 ∨ m = 9 ∨ m = 11 then 30 else 31
def yDays (y : Nat) : Nat := if isLeap y then 366 else 365
def ahead (y : Nat) : Nat := y * 365 + (y + 3) / 4 + (y + 399) / 400 - (y + 99) / 100
def mSum (y : Nat) : Nat → Nat
  | 0 => 0
  | k + 1 => mSum y k + mDays y (k + 1)
def dayN (y m d : Nat) : Int := (ahead y : Int) + mSum y (m - 1) + d - 1 - 719528
def thereB (y m d : Nat) : Bool := decide (1 ≤ m ∧ m ≤ 12 ∧ 1 ≤ d ∧ d ≤ mDays y m)

theorem there_iff {y m d : Nat} : thereB y m d = true ↔ (1 ≤ m ∧ m ≤ 12 ∧ 1 ≤ d ∧ d ≤ mDays y m) := by unfold thereB; exact decide_eq_true_iff
theorem mDays_bd (y m : Nat) : 28 ≤ mDays y m ∧ mDays y m ≤ 31 := by
  unfold mDays
  by_cases h : m = 2
  · rw [if_pos h]; split <;> omega
  · rw [if_neg h]; split <;> omega
theorem yDays_bd (y : Nat) : 365 ≤ yDays y ∧ yDays y ≤ 366 := by unfold yDays; split <;> omega
theorem ahead_succ (y : Nat) : ahead (y + 1) = ahead y + yDays y := by
  unfold ahead yDays isLeap
  split
  · rename_i h
    have := of_decide_eq_true h
    omega
  · rename_i h
    have : ¬ (y % 4 = 0 ∧ (y % 100 ≠ 0 ∨ y % 400 = 0)) := by simpa using h
    omega
theorem ahead_mono {a b : Nat} (h : a ≤ b) : ahead a ≤ ahead b := by
  induction b with
  | zero => obtain rfl : a = 0 := by omega
            exact Nat.le_refl _
  | succ b ih =>
    by_cases e : a = b + 1
    · rw [e]; exact Nat.le_refl _
    · have := ih (by omega)
      rw [ahead_succ]; omega
theorem ahead_1970 : ahead 1970 = 719528 := by decide
theorem ahead_10000 : ahead 10000 = 3652425 := by decide
theorem ahead_le {y : Nat} (h : y ≤ 10000) : ahead y ≤ 3652425 := by rw [← ahead_10000]; exact ahead_mono h
theorem mSum_12 (y : Nat) : mSum y 12 = yDays y := by
  cases h : isLeap y <;> simp [mSum, mDays, yDays, h]
theorem mSum_mono (y : Nat) {a b : Nat} (h : a ≤ b) : mSum y a ≤ mSum y b := by
  induction b with
  | zero => obtain rfl : a = 0 := by omega
            exact Nat.le_refl _
  | succ b ih =>
    by_cases e : a = b + 1
    · rw [e]; exact Nat.le_refl _
    · have := ih (by omega)
      show _ ≤ mSum y b + _; omega
theorem mSum_le (y : Nat) {k : Nat} (h : k ≤ 12) : mSum y k ≤ yDays y := by rw [← mSum_12]; exact mSum_mono y h
theorem mSum_prev (y : Nat) {m : Nat} (h : 1 ≤ m) : mSum y m = mSum y (m - 1) + mDays y m := by
  obtain ⟨k, rfl⟩ : ∃ k, m = k + 1 := ⟨m - 1, by omega⟩
  rfl
theorem dayN_in {y m d : Nat} (h : thereB y m d = true) : (ahead y : Int) - 719528 ≤ dayN y m d ∧ dayN y m d < (ahead (y + 1) : Int) - 719528 := by
  obtain ⟨h1, h2, h3, h4⟩ := there_iff.1 h
  have a := mSum_prev y h1
  have b := mSum_le y h2
  rw [ahead_succ]
  unfold dayN
  omega
theorem dayN_bd {y m d : Nat} (h : thereB y m d = true) (hy : y ≤ 9999) : -719528 ≤ dayN y m d ∧ dayN y m d ≤ 2932896 := by
  have a := dayN_in h
  have b := ahead_le (y := y + 1) (by omega)
  omega
theorem dayN_from {y m d : Nat} (h : thereB y m d = true) (hy : 1970 ≤ y) : 0 ≤ dayN y m d := by
  have a := dayN_in h
  have b := ahead_mono hy
  rw [ahead_1970] at b
  omega
theorem dayN_below {y m d : Nat} (h : thereB y m d = true) (hy : y < 1970) : dayN y m d < 0 := by
  have a := dayN_in h
  have b := ahead_mono (a := y + 1) (b := 1970) (by omega)
  rw [ahead_1970] at b
  omega
/-- one date is ahead of another one -/
def earlier (y m d y' m' d' : Nat) : Prop := y < y' ∨ (y = y' ∧ (m < m' ∨ (m = m' ∧ d < d')))
theorem dayN_lt {y m d y' m' d' : Nat} (h : thereB y m d = true) (h' : thereB y' m' d' = true) (e : earlier y m d y' m' d') : dayN y m d < dayN y' m' d' := by
  rcases e with e | ⟨rfl, e | ⟨rfl, e⟩⟩
  · have a := dayN_in h
    have b := dayN_in h'
    have c := ahead_mono (a := y + 1) (b := y') e
    omega
  · obtain ⟨h1, h2, h3, h4⟩ := there_iff.1 h
    obtain ⟨h1', h2', h3', h4'⟩ := there_iff.1 h'
    have a := mSum_prev y h1
    have b := mSum_mono y (a := m) (b := m' - 1) (by omega)
    unfold dayN
    omega
  · unfold dayN; omega
theorem earlier_iff {y m d y' m' d' : Nat} (h : thereB y m d = true) (h' : thereB y' m' d' = true) : earlier y m d y' m' d' ↔ dayN y m d < dayN y' m' d' := by
  refine ⟨dayN_lt h h', fun e => ?_⟩
  have g := fun x => dayN_lt h' h (x : earlier y' m' d' y m d)
  unfold earlier at g ⊢
  rcases Nat.lt_trichotomy y y' with a | a | a
  · exact .inl a
  · refine .inr ⟨a, ?_⟩
    rcases Nat.lt_trichotomy m m' with b | b | b
    · exact .inl b
    · refine .inr ⟨b, ?_⟩
      rcases Nat.lt_trichotomy d d' with c | c | c
      · exact c
      · subst a b c; omega
      · have := g (.inr ⟨a.symm, .inr ⟨b.symm, c⟩⟩); omega
    · have := g (.inr ⟨a.symm, .inl b⟩); omega
  · have := g (.inl a); omega
theorem dayN_inj {y m d y' m' d' : Nat} (h : thereB y m d = true) (h' : thereB y' m' d' = true) (e : dayN y m d = dayN y' m' d') : y = y' ∧ m = m' ∧ d = d' := by
  have a := fun x => dayN_lt h h' (x : earlier y m d y' m' d')
  have b := fun x => dayN_lt h' h (x : earlier y' m' d' y m d)
  unfold earlier at a b
  rcases Nat.lt_trichotomy y y' with c | c | c
  · have := a (.inl c); omega
  · rcases Nat.lt_trichotomy m m' with c' | c' | c'
    · have := a (.inr ⟨c, .inl c'⟩); omega
    · rcases Nat.lt_trichotomy d d' with c'' | c'' | c''
      · have := a (.inr ⟨c, .inr ⟨c', c''⟩⟩); omega
      · exact ⟨c, c', c''⟩
      · have := b (.inr ⟨c.symm, .inr ⟨c'.symm, c''⟩⟩); omega
    · have := b (.inr ⟨c.symm, .inl c'⟩); omega
  · have := b (.inl c); omega
theorem civil_ex : ∀ n : Nat, n ≤ 2932896 → ∃ y m d, 1970 ≤ y ∧ y ≤ 9999 ∧ thereB y m d = true ∧ dayN y m d = n
  | 0, _ => ⟨1970, 1, 1, by omega, by omega, by decide, by decide⟩
  | n + 1, hn => by
    obtain ⟨y, m, d, h1, h2, h3, h4⟩ := civil_ex n (by omega)
    obtain ⟨g1, g2, g3, g4⟩ := there_iff.1 h3
    have hp := mSum_prev y g1
    by_cases hd : d + 1 ≤ mDays y m
    · refine ⟨y, m, d + 1, h1, h2, there_iff.2 ⟨g1, g2, by omega, hd⟩, ?_⟩
      unfold dayN at h4 ⊢; omega
    · by_cases hm : m < 12
      · refine ⟨y, m + 1, 1, h1, h2, there_iff.2 ⟨by omega, by omega, by omega, by have := mDays_bd y (m + 1); omega⟩, ?_⟩
        unfold dayN at h4 ⊢
        rw [Nat.add_sub_cancel]
        omega
      · obtain rfl : m = 12 := by omega
        have hs := mSum_12 y
        have ha := ahead_succ y
        have hy : y < 9999 := by
          by_cases e : y = 9999
          · subst e
            have : ahead (9999 + 1) = 3652425 := ahead_10000
            unfold dayN at h4
            omega
          · omega
        refine ⟨y + 1, 1, 1, by omega, by omega, there_iff.2 ⟨by omega, by omega, by omega, by have := mDays_bd (y + 1) 1; omega⟩, ?_⟩
        unfold dayN at h4 ⊢
        simp only [Nat.sub_self, mSum]
        omega

/-- Number, of any three numbers -/
def thereZ (y : Nat) (m d : Int) : Bool := decide (1 ≤ m ∧ m ≤ 12 ∧ 1 ≤ d ∧ d ≤ (mDays y m.toNat : Int))
theorem thereZ_nat {y m d : Nat} : thereZ y (m : Int) (d : Int) = thereB y m d := by
  unfold thereZ thereB
  rw [Bool.eq_iff_iff, decide_eq_true_iff, decide_eq_true_iff, Int.toNat_natCast]
  omega

/-! ### Numbers -/
def digB (x : Nat) : Bool := decide (48 ≤ x) && decide (x ≤ 57)
theorem digB_iff {x : Nat} : digB x = true ↔ 48 ≤ x ∧ x ≤ 57 := by unfold digB; simp
def valN (l : List Nat) : Nat := l.foldl (fun n x => n * 10 + (x - 48)) 0
theorem valN_nil : valN [] = 0 := rfl
theorem valN_snoc (l : List Nat) (x : Nat) : valN (l ++ [x]) = valN l * 10 + (x - 48) := by unfold valN; rw [List.foldl_append]; rfl
theorem valN_lt (l : List Nat) : l.all digB = true → valN l < 10 ^ l.length := by
  induction l using snoc_ind with
  | h0 => intro _; simp [valN]
  | h1 l x ih =>
    intro h
    rw [List.all_append] at h
    simp only [Bool.and_eq_true, List.all_cons, List.all_nil, Bool.and_true] at h
    have a := ih h.1
    have b := digB_iff.1 h.2
    rw [valN_snoc, List.length_append, List.length_singleton, Nat.pow_succ]
    omega
def numOk (l : List Nat) (a b : Nat) : Bool := decide (a ≤ l.length) && decide (l.length ≤ b) && l.all digB
theorem numOk_iff {l : List Nat} {a b : Nat} : numOk l a b = true ↔ a ≤ l.length ∧ l.length ≤ b ∧ l.all digB = true := by
  unfold numOk; simp only [Bool.and_eq_true, decide_eq_true_iff]; exact ⟨fun ⟨⟨x, y⟩, z⟩ => ⟨x, y, z⟩, fun ⟨x, y, z⟩ => ⟨⟨x, y⟩, z⟩⟩
theorem numOk_lt {l : List Nat} {a b : Nat} (h : numOk l a b = true) : valN l < 10 ^ b := by
  obtain ⟨_, h2, h3⟩ := numOk_iff.1 h
  exact Nat.lt_of_lt_of_le (valN_lt l h3) (Nat.pow_le_pow_right (by omega) h2)
def twoOk (l : List Nat) (b : Nat) : Bool := numOk l 2 2 && decide (valN l < b)
theorem twoOk_iff {l : List Nat} {b : Nat} : twoOk l b = true ↔ numOk l 2 2 = true ∧ valN l < b := by unfold twoOk; simp

/-! ### Months -/
def monS : Nat → List Nat
  | 1 => [74, 97, 110] | 2 => [70, 101, 98] | 3 => [77, 97, 114] | 4 => [65, 112, 114] | 5 => [77, 97, 121] | 6 => [74, 117, 110]
  | 7 => [74, 117, 108] | 8 => [65, 117, 103] | 9 => [83, 101, 112] | 10 => [79, 99, 116] | 11 => [78, 111, 118] | 12 => [68, 101, 99]
  | _ => []
def smallN (x : Nat) : Nat := if 65 ≤ x ∧ x ≤ 90 then x + 32 else x
def sameB (a b : List Nat) : Bool := decide (a.map smallN = b.map smallN)
def monUp (l : List Nat) : Nat → Nat
  | 0 => 0
  | k + 1 => if monUp l k ≠ 0 then monUp l k else if sameB l (monS (k + 1)) then k + 1 else 0
def monN (l : List Nat) : Nat := monUp l 12
theorem monUp_le (l : List Nat) : ∀ k, monUp l k ≤ k
  | 0 => Nat.le_refl _
  | k + 1 => by
    have := monUp_le l k
    unfold monUp
    by_cases h : monUp l k ≠ 0
    · rw [if_pos h]; omega
    · rw [if_neg h]; split <;> omega
theorem monN_le (l : List Nat) : monN l ≤ 12 := monUp_le l 12
theorem monUp_stay {l : List Nat} {k : Nat} (h : monUp l k ≠ 0) : ∀ j, k ≤ j → monUp l j = monUp l k
  | 0, hj => by obtain rfl : k = 0 := by omega
                rfl
  | j + 1, hj => by
    by_cases e : k = j + 1
    · rw [e]
    · have := monUp_stay h j (by omega)
      show (if monUp l j ≠ 0 then _ else _) = _
      rw [if_pos (by rw [this]; exact h), this]
theorem monUp_hit {l : List Nat} {k : Nat} (h : monUp l k = 0) (hs : sameB l (monS (k + 1)) = true) : monUp l (k + 1) = k + 1 := by
  unfold monUp; rw [if_neg (by omega), if_pos hs]
theorem monUp_miss {l : List Nat} {k : Nat} (h : monUp l k = 0) (hs : sameB l (monS (k + 1)) = false) : monUp l (k + 1) = 0 := by
  unfold monUp; rw [if_neg (by omega), if_neg (by rw [hs]; exact Bool.false_ne_true)]
theorem monN_hit {l : List Nat} {k : Nat} (hk : k < 12) (h : monUp l k = 0) (hs : sameB l (monS (k + 1)) = true) : monN l = k + 1 := by
  have := monUp_hit h hs
  unfold monN
  rw [monUp_stay (k := k + 1) (by omega) 12 (by omega), this]
theorem monS_len {m : Nat} (h1 : 1 ≤ m) (h2 : m ≤ 12) : (monS m).length = 3 := by
  rcases (by omega : m = 1 ∨ m = 2 ∨ m = 3 ∨ m = 4 ∨ m = 5 ∨ m = 6 ∨ m = 7 ∨ m = 8 ∨ m = 9 ∨ m = 10 ∨ m = 11 ∨ m = 12) with rfl | rfl | rfl | rfl | rfl | rfl | rfl | rfl | rfl | rfl | rfl | rfl <;> rfl
theorem monN_some {l : List Nat} (h : monN l ≠ 0) : ∃ m, 1 ≤ m ∧ m ≤ 12 ∧ monN l = m ∧ sameB l (monS m) = true := by
  have : ∀ k, monUp l k ≠ 0 → 1 ≤ monUp l k ∧ monUp l k ≤ k ∧ sameB l (monS (monUp l k)) = true := by
    intro k
    induction k with
    | zero => intro h; exact absurd rfl h
    | succ k ih =>
      intro h
      by_cases hk : monUp l k = 0
      · cases hs : sameB l (monS (k + 1)) with
        | true => rw [monUp_hit hk hs]; exact ⟨by omega, Nat.le_refl _, hs⟩
        | false => exact absurd (monUp_miss hk hs) h
      · have := ih hk
        rw [monUp_stay hk (k + 1) (by omega)]
        exact ⟨this.1, by omega, this.2.2⟩
  exact ⟨monN l, (this 12 h).1, (this 12 h).2.1, rfl, (this 12 h).2.2⟩
theorem sameB_len {a b : List Nat} (h : sameB a b = true) : a.length = b.length := by
  have := congrArg List.length (of_decide_eq_true h)
  simpa using this
theorem monN_len {l : List Nat} (h : monN l ≠ 0) : l.length = 3 := by
  obtain ⟨m, h1, h2, _, h3⟩ := monN_some h
  rw [sameB_len h3, monS_len h1 h2]

/-! ### The parts of a date -/
def ymdOk (d m y : List Nat) : Bool := numOk d 1 2 && decide (monN m ≠ 0) && numOk y 4 4 && thereB (valN y) (monN m) (valN d)
def ymdV (d m y : List Nat) : Int := dayN (valN y) (monN m) (valN d)
theorem ymdOk_iff {d m y : List Nat} : ymdOk d m y = true ↔ numOk d 1 2 = true ∧ monN m ≠ 0 ∧ numOk y 4 4 = true ∧ thereB (valN y) (monN m) (valN d) = true := by
  unfold ymdOk; simp only [Bool.and_eq_true, decide_eq_true_iff]
  exact ⟨fun ⟨⟨⟨a, b⟩, c⟩, d⟩ => ⟨a, b, c, d⟩, fun ⟨a, b, c, d⟩ => ⟨⟨⟨a, b⟩, c⟩, d⟩⟩
theorem ymdV_bd {d m y : List Nat} (h : ymdOk d m y = true) : -719528 ≤ ymdV d m y ∧ ymdV d m y ≤ 2932896 := by
  obtain ⟨_, _, h3, h4⟩ := ymdOk_iff.1 h
  have := numOk_lt h3
  exact dayN_bd h4 (by omega)
/-- the parts of a clock: hours, minutes, and seconds or, where that is let, not -/
def clkOk (short : Bool) : List (List Nat) → Bool
  | [h, m] => short && (twoOk h 24 && twoOk m 60)
  | [h, m, s] => twoOk h 24 && twoOk m 60 && twoOk s 60
  | _ => false
def clkV : List (List Nat) → Nat
  | [h, m] => valN h * 3600 + valN m * 60
  | [h, m, s] => valN h * 3600 + valN m * 60 + valN s
  | _ => 0
theorem clkV_bd {b : Bool} {l : List (List Nat)} (h : clkOk b l = true) : clkV l < 86400 := by
  match l, h with
  | [], h => exact absurd h Bool.false_ne_true
  | [_], h => exact absurd h Bool.false_ne_true
  | [a, c], h =>
    simp only [clkOk, Bool.and_eq_true] at h
    have h1 := twoOk_iff.1 h.2.1
    have h2 := twoOk_iff.1 h.2.2
    show valN a * 3600 + valN c * 60 < 86400
    omega
  | [a, c, d], h =>
    simp only [clkOk, Bool.and_eq_true] at h
    have h1 := twoOk_iff.1 h.1.1
    have h2 := twoOk_iff.1 h.1.2
    have h3 := twoOk_iff.1 h.2
    show valN a * 3600 + valN c * 60 + valN d < 86400
    omega
  | _ :: _ :: _ :: _ :: _, h => exact absurd h Bool.false_ne_true
/-- a zone -/
def zoneOk (l : List Nat) : Bool := decide (l.length = 5) && (decide (l.getD 0 0 = 43) || decide (l.getD 0 0 = 45)) && numOk ((l.take 3).drop 1) 2 2 && twoOk (l.drop 3) 60
def zoneA (l : List Nat) : Nat := valN ((l.take 3).drop 1) * 3600 + valN (l.drop 3) * 60
def zoneV (l : List Nat) : Int := if l.getD 0 0 = 45 then -(zoneA l : Int) else zoneA l
theorem zoneOk_iff {l : List Nat} : zoneOk l = true ↔ l.length = 5 ∧ (l.getD 0 0 = 43 ∨ l.getD 0 0 = 45) ∧ numOk ((l.take 3).drop 1) 2 2 = true ∧ twoOk (l.drop 3) 60 = true := by
  unfold zoneOk; simp only [Bool.and_eq_true, Bool.or_eq_true, decide_eq_true_iff]
  exact ⟨fun ⟨⟨⟨a, b⟩, c⟩, d⟩ => ⟨a, b, c, d⟩, fun ⟨a, b, c, d⟩ => ⟨⟨⟨a, b⟩, c⟩, d⟩⟩
theorem zoneV_bd {l : List Nat} (h : zoneOk l = true) : -360000 < zoneV l ∧ zoneV l < 360000 := by
  obtain ⟨_, _, h3, h4⟩ := zoneOk_iff.1 h
  have a := numOk_lt h3
  have b := (twoOk_iff.1 h4).2
  unfold zoneV zoneA
  split <;> omega

/-! ### Cutting -/
def splitGo (c : Nat) : List Nat → List Nat → List (List Nat)
  | cur, [] => [cur]
  | cur, x :: l => if x = c then cur :: splitGo c [] l else splitGo c (cur ++ [x]) l
def splitL (c : Nat) (l : List Nat) : List (List Nat) := splitGo c [] l
theorem splitGo_none {c : Nat} : ∀ (p cur : List Nat), (∀ x ∈ p, x ≠ c) → splitGo c cur p = [cur ++ p]
  | [], cur, _ => by simp [splitGo]
  | x :: p, cur, h => by
    unfold splitGo
    rw [if_neg (h x (List.mem_cons_self ..)), splitGo_none p _ fun y hy => h y (List.mem_cons_of_mem _ hy), List.append_assoc]
    rfl
theorem splitGo_hit {c : Nat} : ∀ (p cur r : List Nat), (∀ x ∈ p, x ≠ c) → splitGo c cur (p ++ c :: r) = (cur ++ p) :: splitGo c [] r
  | [], cur, r, _ => by rw [List.nil_append, List.append_nil]; conv => lhs; unfold splitGo
                        rw [if_pos rfl]
  | x :: p, cur, r, h => by
    rw [List.cons_append]
    conv => lhs; unfold splitGo
    rw [if_neg (h x (List.mem_cons_self ..)), splitGo_hit p _ r fun y hy => h y (List.mem_cons_of_mem _ hy), List.append_assoc]
    rfl
theorem splitL_none {c : Nat} {p : List Nat} (h : ∀ x ∈ p, x ≠ c) : splitL c p = [p] := splitGo_none p [] h
theorem splitL_hit {c : Nat} {p : List Nat} (r : List Nat) (h : ∀ x ∈ p, x ≠ c) : splitL c (p ++ c :: r) = p :: splitL c r := splitGo_hit p [] r h
theorem splitGo_snoc {c : Nat} (l : List Nat) : ∀ (cur : List Nat) (x : Nat), splitGo c cur (l ++ [x]) = if x = c then splitGo c cur l ++ [[]] else (splitGo c cur l).dropLast ++ [(splitGo c cur l).getLastD [] ++ [x]] := by
  induction l with
  | nil => intro cur x; simp only [List.nil_append, splitGo]; split <;> simp
  | cons a l ih =>
    intro cur x
    rw [List.cons_append]
    conv => lhs; unfold splitGo
    conv => rhs; unfold splitGo
    have ne : ∀ (k : List Nat) (m : List Nat), splitGo c k m ≠ [] := by
      intro k m
      induction m generalizing k with
      | nil => simp [splitGo]
      | cons b m ih2 => unfold splitGo; split <;> simp [ih2]
    by_cases h : a = c
    · simp only [if_pos h]
      rw [ih]
      split
      · rfl
      · obtain ⟨z, zs, hz⟩ : ∃ z zs, splitGo c [] l = z :: zs := List.exists_cons_of_ne_nil (ne _ _)
        rw [hz]; simp
    · simp only [if_neg h]
      rw [ih]
theorem splitGo_ne (c : Nat) (cur l : List Nat) : splitGo c cur l ≠ [] := by
  induction l generalizing cur with
  | nil => simp [splitGo]
  | cons b m ih2 => unfold splitGo; split <;> simp [ih2]
/-- the lengths of the parts -/
theorem splitGo_sum (c : Nat) : ∀ (l cur : List Nat), ((splitGo c cur l).map List.length).sum + (splitGo c cur l).length = cur.length + l.length + 1
  | [], cur => by simp [splitGo]
  | x :: l, cur => by
    unfold splitGo
    split
    · have := splitGo_sum c l []
      simp only [List.map_cons, List.sum_cons, List.length_cons, List.length_nil] at this ⊢
      omega
    · have := splitGo_sum c l (cur ++ [x])
      simp only [List.length_append, List.length_cons, List.length_nil] at this ⊢
      omega
theorem splitL_sum (c : Nat) (l : List Nat) : ((splitL c l).map List.length).sum + (splitL c l).length = l.length + 1 := by
  have := splitGo_sum c l []
  simpa [splitL] using this

def blankB (x : Nat) : Bool := decide (x = 32) || decide (x = 9)
def wordsGo : List Nat → List Nat → List (List Nat)
  | cur, [] => if cur = [] then [] else [cur]
  | cur, x :: l => if blankB x then (if cur = [] then wordsGo [] l else cur :: wordsGo [] l) else wordsGo (cur ++ [x]) l
def wordsL (l : List Nat) : List (List Nat) := wordsGo [] l
end Go.Proofs.YtoiffchhfnbooaaDoor
