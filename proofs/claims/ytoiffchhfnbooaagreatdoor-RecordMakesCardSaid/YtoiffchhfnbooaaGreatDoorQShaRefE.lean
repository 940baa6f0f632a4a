/-
  Contracts over the document's own answer for layer 4: a block's step.
-/
import Derived.Test.YtoiffchhfnbooaaGreatDoorQShaRefD
namespace Go.Proofs.YtoiffchhfnbooaaGreatDoor
set_option linter.unusedVariables false
set_option linter.unusedSimpArgs false
set_option linter.unusedVariables false
set_option linter.unusedSimpArgs false
open Go.RowKit

set_option maxHeartbeats 400000 in
theorem rot_any (x n : Nat) (w : World) (hx : x < 4294967296) (hn : 0 < n) (hn2 : n < 32) : Calls Tryz.prog 75 #[.int .u32 (x : Int), .int .u64 (n : Int)] w fun e w' => e = .returned (.int .u32 ((rotN x n : Nat) : Int)) ∧ w = w' := by
  have HR := hide (rotN_sum hx (show n ≤ 32 by omega))
  obtain ⟨m, hm⟩ : ∃ m, m = 32 - n := ⟨_, rfl⟩
  rw [← hm] at HR
  have hm1 : (32 : Int) - (n : Int) = (m : Int) := by omega
  have hm2 : m < 32 := by omega
  clear hm
  go_enter Tryz.func75, Tryz.ntmps75
  go_wp2
  go_ret
  refine ⟨ret_int ?_, rfl⟩
  rw [← HR.out, Int.natCast_emod, Int.natCast_add, Int.natCast_emod, Int.natCast_ediv, Int.natCast_mul, Int.natCast_pow, Int.natCast_pow]
  rfl

theorem mul_byte {x c : Nat} : IntKind.u32.wrap (IntKind.u32.wrap ((x : Int) * 256) + (c : Int)) = (((x * 256 + c) % 4294967296 : Nat) : Int) := by
  rw [IntKind.wrap_u32', IntKind.wrap_u32']; omega

/-- words added to words, place by place -/
def addNS (vs hs : List Nat) : Nat → List Nat
  | 0 => vs
  | k + 1 => (addNS vs hs k).set k ((byteAt (addNS vs hs k) k + byteAt hs k) % 4294967296)
theorem addN_zero (vs hs : List Nat) : addNS vs hs 0 = vs := rfl
theorem addN_succ (vs hs : List Nat) (k : Nat) : addNS vs hs (k + 1) = (addNS vs hs k).set k ((byteAt (addNS vs hs k) k + byteAt hs k) % 4294967296) := rfl
theorem addN_length (vs hs : List Nat) : ∀ k, (addNS vs hs k).length = vs.length
  | 0 => rfl
  | k + 1 => by rw [addNS, List.length_set, addN_length vs hs k]
theorem addN_all (v s : Wd) : addNS v.list s.list 8 = (sumN s v).list := by
  unfold sumN
  simp only [Nat.add_comm s.a, Nat.add_comm s.b, Nat.add_comm s.c, Nat.add_comm s.d, Nat.add_comm s.e, Nat.add_comm s.f, Nat.add_comm s.g, Nat.add_comm s.h]
  rfl
attribute [irreducible] addNS
/-- what the document's step holds in memory: the box of the words, the constants, the result, the block's words -/
structure RSt (w : World) (s : Wd) (ws : List Nat) (wr : World) : Prop where
  h : Bk wr w.heap.size 73 (cw s.list)
  k : Bk wr (w.heap.size + 1) 75 (cw kL)
  r : Bk wr (w.heap.size + 1 + 1) 73 (cw (List.replicate 8 0))
  ws : Bk wr (w.heap.size + 1 + 1 + 1) 75 (cw ws)
  b : Below w.heap.size w wr
theorem RSt.put {w wr : World} {s : Wd} {ws : List Nat} (h : RSt w s ws wr) (i x : Nat) {z : Int} (hz : z = (x : Int)) : RSt w s (ws.set i x) (wr.setCell ⟨w.heap.size + 1 + 1 + 1, i, none⟩ (.int .u32 z)) :=
  ⟨h.h.far (by show w.heap.size ≠ w.heap.size + 1 + 1 + 1; omega) _, h.k.far (by show w.heap.size + 1 ≠ w.heap.size + 1 + 1 + 1; omega) _, h.r.far (by show w.heap.size + 1 + 1 ≠ w.heap.size + 1 + 1 + 1; omega) _, h.ws.putw i x hz, h.b.setCell (by show w.heap.size ≤ w.heap.size + 1 + 1 + 1; omega) _⟩
theorem RSt.drew {w wr : World} {s : Wd} {ws : List Nat} (h : RSt w s ws wr) : RSt w s ws wr.drew := ⟨h.h.drew, h.k.drew, h.r.drew, h.ws.drew, h.b.drew⟩
theorem RSt.drewN {w wr : World} {s : Wd} {ws : List Nat} (h : RSt w s ws wr) (n : Nat) : RSt w s ws (wr.drewN n) := ⟨h.h, h.k, h.r, h.ws, below_drewNS h.b n⟩

theorem RSt.alloc {w wr : World} {s : Wd} {ws : List Nat} (h : RSt w s ws wr) (o : Obj) : RSt w s ws (wr.alloc o) := ⟨h.h.alloc o, h.k.alloc o, h.r.alloc o, h.ws.alloc o, h.b.alloc h.b.size o⟩
theorem RSt.row {w wr : World} {s : Wd} {ws : List Nat} (h : RSt w s ws wr) {g : Nat} (hg : w.heap.size + 1 + 1 + 1 < g) (cs : Array Value) : RSt w s ws (wr.setRow g cs) :=
  ⟨h.h.setRow_other (by omega) cs, h.k.setRow_other (by omega) cs, h.r.setRow_other (by omega) cs, h.ws.setRow_other (by omega) cs, below_setRow h.b (by omega) cs⟩
theorem RSt.far {w wr : World} {s : Wd} {ws : List Nat} (h : RSt w s ws wr) {g i : Nat} (hg : w.heap.size + 1 + 1 + 1 < g) (u : Value) : RSt w s ws (wr.setCell ⟨g, i, none⟩ u) :=
  ⟨h.h.far (by show w.heap.size ≠ g; omega) _, h.k.far (by show w.heap.size + 1 ≠ g; omega) _, h.r.far (by show w.heap.size + 1 + 1 ≠ g; omega) _, h.ws.far (by show w.heap.size + 1 + 1 + 1 ≠ g; omega) _, h.b.setCell (by show w.heap.size ≤ g; omega) _⟩
theorem wd_at {W : World} {g : Nat} {t : TypeId} {v : Wd} (h : Bk W g t (cw v.list)) :
    W.cell? ⟨g, 0, none⟩ = some (.int .u32 (v.a : Int)) ∧ W.cell? ⟨g, 1, none⟩ = some (.int .u32 (v.b : Int)) ∧ W.cell? ⟨g, 2, none⟩ = some (.int .u32 (v.c : Int)) ∧ W.cell? ⟨g, 3, none⟩ = some (.int .u32 (v.d : Int)) ∧
    W.cell? ⟨g, 4, none⟩ = some (.int .u32 (v.e : Int)) ∧ W.cell? ⟨g, 5, none⟩ = some (.int .u32 (v.f : Int)) ∧ W.cell? ⟨g, 6, none⟩ = some (.int .u32 (v.g : Int)) ∧ W.cell? ⟨g, 7, none⟩ = some (.int .u32 (v.h : Int)) :=
  ⟨h.cell 0, h.cell 1, h.cell 2, h.cell 3, h.cell 4, h.cell 5, h.cell 6, h.cell 7⟩

set_option maxRecDepth 100000 in
set_option maxHeartbeats 8000000 in
theorem rstep_any (s : Wd) (A : Option Addr) (c : Nat) (l : List Nat) (w : World) (hs : s.Ok) (hl : Bytes w w.heap.size A 64 l) :
    Calls Tryz.prog 48 #[.agg (cw s.list), .slice A 64 c, .agg (cw kL)] w fun e w' => e = .returned (.agg (cw (stepN kL s l).list)) ∧ Below w.heap.size w w' := by
  have hby := hl.2.1
  obtain ⟨bA, oA, rfl, hbA, hcA⟩ := hl.2.2 (by omega)
  have HCA := hide hcA
  clear hl hcA
  go_enter Tryz.func48, Tryz.ntmps48
  go_wp2_with ((with_reducible show wpList _ _ _ (⟨some 6, _, _, _, _, _⟩ :: _) _ _); refine holdB ?_)
  refine heldB (wpList_alloc_to rfl 73 rfl _ zero8 ?_)
  go_wp2_with ((with_reducible show wpList _ _ _ (⟨some 7, _, _, _, _, _⟩ :: _) _ _); refine holdB ?_)
  refine heldB (wpList_alloc_to rfl 75 rfl _ zero64 ?_)
  refine wpList_over (fun W => RSt w s (List.replicate 64 0) W) ⟨(((Bk.new w _ _).alloc _).alloc _).alloc _, ((Bk.new2 w _ _ _).alloc _).alloc _, (Bk.new3 w _ _ _ _).alloc _, Bk.new4 w _ _ _ _ _, ((((Below.refl _ _).alloc (Nat.le_refl _) _).alloc (by simp) _).alloc (by simp; omega) _).alloc (by simp; omega) _⟩ ?_
  intro W st
  have ST := hide st
  clear st
  go_wp2
  go_loopw [8] (fun t wr => ∃ k : Nat, k ≤ 16 ∧ t = .int .i64 (k : Int) ∧ RSt w s (fillN l (4 * k)) wr) (fun t _ => 16 - (intOf t).toNat)
  case atStart => exact ⟨0, Nat.zero_le _, rfl, by rw [show 4 * 0 = 0 from rfl, fillN_zero]; exact ST.out⟩
  case round =>
    obtain ⟨k, hk, rfl, st⟩ := hrel
    by_cases hlt : k < 16
    · have ST := hide st
      clear st
      have q3 : (k : Int) < 16 := by omega
      go_wp2
      go_loopw [9] (fun t wr => ∃ i : Nat, i ≤ 4 ∧ t = .int .i64 (i : Int) ∧ RSt w s (fillN l (4 * k + i)) wr) (fun t _ => 4 - (intOf t).toNat)
      case atStart => exact ⟨0, Nat.zero_le _, rfl, ST.out⟩
      case round =>
        obtain ⟨i, hi, rfl, st⟩ := hrel
        by_cases hlt4 : i < 4
        · have hq : (4 * k + i) / 4 = k := by omega
          have hn : 4 * k + i < 64 := by omega
          have c1 := st.ws.word (i := k) (by rw [fillN_length]; omega)
          have hf := st.ws.frozen k
          have hx := (fillN_lt l (4 * k + i)).lt k
          have hcb := HCA.out (4 * k + i) hn
          have hcb2 : wr.cell? ⟨bA, oA + (4 * k + i), none⟩ = some (.int .u8 ((byteAt l (4 * k + i) : Nat) : Int)) := (st.b.cell (p := ⟨bA, oA + (4 * k + i), none⟩) hbA).trans hcb
          have hyk := byte_lt256 hby (4 * k + i)
          have HF := hide (fillN_succ l (4 * k + i))
          rw [hq] at HF
          generalize byteAt (fillN l (4 * k + i)) k = x at *
          generalize byteAt l (4 * k + i) = y at *
          have e1 := mul_byte (x := x) (c := y)
          have e2 : IntKind.i64.wrap (4 * (k : Int)) = 4 * (k : Int) := IntWalk.i64_in _ (by omega)
          have e3 : IntKind.i64.wrap (4 * (k : Int) + (i : Int)) = ((4 * k + i : Nat) : Int) := by rw [IntWalk.i64_in _ (by omega)]; omega
          obtain ⟨ni, hni⟩ : ∃ ni, ni = 4 * k + i := ⟨_, rfl⟩
          rw [← hni] at e3 hcb2 hn
          have q1 : (ni : Int) < 64 := by omega
          have q2 : (k : Int) < 64 := by omega
          have q4 : (i : Int) < 4 := by omega
          have HNI := hide hni
          have ST2 := hide st
          clear st hcb hq hni hn
          go_wp2_with fail
          refine wp_region_still_tail 15 (by kernel_rfl) (by kernel_rfl) ?_
          simp only [List.take_succ_cons, List.take_zero, List.drop_succ_cons, List.drop_zero]
          repeat still_step
          refine wpStill_nil ?_
          change wpList _ _ _ _ _ wr.drew
          have hf2 : wr.drew.frozen? ⟨w.heap.size + 1 + 1 + 1, k, none⟩ = false := hf
          have cc : wr.drew.cell? ⟨w.heap.size + 1 + 1 + 1, k, none⟩ = some (.int .u32 (x : Int)) := c1
          have ST3 := hide ST2.out.drew
          clear ST2 hf c1 hcb2 e1 e2 e3
          generalize wr.drew = W3 at *
          go_wp2
          go_roundw
          case rel =>
            refine ⟨i + 1, by omega, by go_num, ?_⟩
            rw [show 4 * k + (i + 1) = 4 * k + i + 1 by omega, HF.out]
            exact ST3.out.put _ _ (by omega)
          case measure => simp [intOf]; omega
        · have hi4 : i = 4 := by omega
          rw [hi4, show 4 * k + 4 = 4 * (k + 1) by omega] at st
          have hli : ¬ (i : Int) < 4 := by omega
          clear hi4 hlt4 hi
          have ST := hide st
          clear st
          go_wp2
          go_roundw
          case rel => exact ⟨k + 1, by omega, by go_num, ST.out⟩
          case measure => simp [intOf]; omega
    · have hk16 : k = 16 := by omega
      rw [hk16, show 4 * 16 = 64 from rfl, ← extN_zero (fillN l 64)] at st
      have hlk : ¬ (k : Int) < 16 := by omega
      clear hk16 hlt hk
      have ST := hide st
      clear st
      go_wp2
      go_loopw [10] (fun t wr => ∃ m : Nat, m ≤ 48 ∧ t = .int .i64 ((16 + m : Nat) : Int) ∧ RSt w s (extN (fillN l 64) m) wr) (fun t _ => 64 - (intOf t).toNat)
      case atStart => exact ⟨0, Nat.zero_le _, rfl, ST.out⟩
      case round =>
        obtain ⟨m, hm, rfl, st⟩ := hrel
        by_cases hlt : m < 48
        · have hlen : (extN (fillN l 64) m).length = 64 := by rw [extN_length, fillN_length]
          have hw := extN_lt (fillN_lt l 64) m
          have c2 := st.ws.word (i := m + 14) (by omega)
          have c7 := st.ws.word (i := m + 9) (by omega)
          have c15 := st.ws.word (i := m + 1) (by omega)
          have c16 := st.ws.word (i := m) (by omega)
          have c0 := st.ws.word (i := 16 + m) (by omega)
          have hf := st.ws.frozen (16 + m)
          have x2 := hw.lt (m + 14)
          have x15 := hw.lt (m + 1)
          have HF := hide (extN_succ (fillN l 64) m)
          have HN : Hid (nextN (extN (fillN l 64) m) (16 + m) = (((s1N (byteAt (extN (fillN l 64) m) (m + 14)) + byteAt (extN (fillN l 64) m) (m + 9)) % 4294967296 + s0N (byteAt (extN (fillN l 64) m) (m + 1))) % 4294967296 + byteAt (extN (fillN l 64) m) m) % 4294967296) := by
            unfold nextN
            rw [show 16 + m - 2 = m + 14 by omega, show 16 + m - 7 = m + 9 by omega, show 16 + m - 15 = m + 1 by omega, show 16 + m - 16 = m by omega]
            exact hide rfl
          have ST := hide st
          clear st hw hlen
          generalize byteAt (extN (fillN l 64) m) (m + 14) = y2 at *
          generalize byteAt (extN (fillN l 64) m) (m + 9) = y7 at *
          generalize byteAt (extN (fillN l 64) m) (m + 1) = y15 at *
          generalize byteAt (extN (fillN l 64) m) m = y16 at *
          generalize byteAt (extN (fillN l 64) m) (16 + m) = y0 at *
          have e2 : IntKind.i64.wrap (16 + (m : Int) - 2) = ((m + 14 : Nat) : Int) := by rw [IntWalk.i64_in _ (by omega)]; omega
          have e7 : IntKind.i64.wrap (16 + (m : Int) - 7) = ((m + 9 : Nat) : Int) := by rw [IntWalk.i64_in _ (by omega)]; omega
          have e15 : IntKind.i64.wrap (16 + (m : Int) - 15) = ((m + 1 : Nat) : Int) := by rw [IntWalk.i64_in _ (by omega)]; omega
          have e16 : IntKind.i64.wrap (16 + (m : Int) - 16) = (m : Int) := by rw [IntWalk.i64_in _ (by omega)]; omega
          have et : ((16 : Int) + (m : Int)).toNat = 16 + m := by omega
          generalize h14 : m + 14 = m14 at *
          generalize h9 : m + 9 = m9 at *
          generalize h1 : m + 1 = m1 at *
          have q2 : (m14 : Int) < 64 := by omega
          have q7 : (m9 : Int) < 64 := by omega
          have q15 : (m1 : Int) < 64 := by omega
          have q16 : (m : Int) < 64 := by omega
          have q0 : (0 : Int) ≤ 16 + (m : Int) := by omega
          have H1 := hide h1
          clear h14 h9 h1
          have HC7 := hide c7; have HC16 := hide c16; have HC0 := hide c0; have HFZ := hide hf
          clear c7 c16 c0 hf
          go_wp2_with fail
          go_quiet (fail)
          refine post_overS (fun W => W.cell? ⟨w.heap.size + 1 + 1 + 1, m9, none⟩ = some (.int .u32 (y7 : Int)) ∧ W.cell? ⟨w.heap.size + 1 + 1 + 1, m, none⟩ = some (.int .u32 (y16 : Int)) ∧ W.cell? ⟨w.heap.size + 1 + 1 + 1, 16 + m, none⟩ = some (.int .u32 (y0 : Int)) ∧ W.frozen? ⟨w.heap.size + 1 + 1 + 1, 16 + m, none⟩ = false ∧ RSt w s (extN (fillN l 64) m) W) ⟨HC7.out, HC16.out, HC0.out, HFZ.out, ST.out.drewN nq⟩ ?_
          clear HC7 HC16 HC0 HFZ ST nq c2 c15 e2 e15
          rintro W2 ⟨c7, c16, c0, hf, st⟩
          have ST := hide st
          clear st
          have r17 := rotN_lt (n := 17) x2 (by omega)
          have r19 := rotN_lt (n := 19) x2 (by omega)
          have r7 := rotN_lt (n := 7) x15 (by omega)
          have r18 := rotN_lt (n := 18) x15 (by omega)
          have d1 := u32_xor_nat _ _ r17 r19
          have d2 : bits .xor .u32 ((rotN y2 17 ^^^ rotN y2 19 : Nat) : Int) ((y2 : Int) / 1024) = ((s1N y2 : Nat) : Int) := u32_xor_nat (rotN y2 17 ^^^ rotN y2 19) (y2 / 1024) (xor_lt r17 r19) (by omega)
          have d3 := u32_xor_nat _ _ r7 r18
          have d4 : bits .xor .u32 ((rotN y15 7 ^^^ rotN y15 18 : Nat) : Int) ((y15 : Int) / 8) = ((s0N y15 : Nat) : Int) := u32_xor_nat (rotN y15 7 ^^^ rotN y15 18) (y15 / 8) (xor_lt r7 r18) (by omega)
          go_wp2_with fail
          refine wp_region_still_tail 29 (by kernel_rfl) (by kernel_rfl) ?_
          simp only [List.take_succ_cons, List.take_zero, List.drop_succ_cons, List.drop_zero]
          repeat still_step
          still_call ((rot_any y2 17 _ x2 (by omega) (by omega)).mono (fun _ _ h => ⟨h.1, h.2.symm⟩))
          repeat still_step
          still_call ((rot_any y2 19 _ x2 (by omega) (by omega)).mono (fun _ _ h => ⟨h.1, h.2.symm⟩))
          repeat still_step
          still_call ((rot_any y15 7 _ x15 (by omega) (by omega)).mono (fun _ _ h => ⟨h.1, h.2.symm⟩))
          repeat still_step
          still_call ((rot_any y15 18 _ x15 (by omega) (by omega)).mono (fun _ _ h => ⟨h.1, h.2.symm⟩))
          repeat still_step
          refine wpStill_nil ?_
          change wpList _ _ _ _ _ W2.drew
          have hf2 : W2.drew.frozen? ⟨w.heap.size + 1 + 1 + 1, 16 + m, none⟩ = false := hf
          have cc : W2.drew.cell? ⟨w.heap.size + 1 + 1 + 1, 16 + m, none⟩ = some (.int .u32 (y0 : Int)) := c0
          have ST2 := hide ST.out.drew
          clear ST hf c0 c7 c16 e7 e16 d1 d2 d3 d4
          generalize W2.drew = W3 at *
          go_wp2
          go_roundw
          case rel =>
            refine ⟨m1, by have := H1.out; omega, by have := H1.out; go_num, ?_⟩
            rw [HF.out]
            exact ST2.out.put _ _ (by rw [HN.out]; omega)
          case measure => simp [intOf]; omega
        · have hm48 : m = 48 := by omega
          rw [hm48, schedN_eq] at st
          have hlm : ¬ (16 : Int) + (m : Int) < 64 := by omega
          clear hm48 hlt hm
          have hlen := schedN_length l
          have hwl := schedN_lt l
          obtain ⟨ws, hws⟩ : ∃ ws, ws = schedN l := ⟨_, rfl⟩
          rw [← hws] at st hlen hwl
          have HWS := hide hws; have HLEN := hide hlen
          have ST := hide st
          clear hws hlen st
          go_wp2_with ((with_reducible show wpList _ _ _ (⟨some 88, _, _, _, _, _⟩ :: _) _ _); refine holdB ?_)
          refine heldB (wpList_load_mid rfl 73 (.tmp 3) rfl w.heap.size 0 rfl _ _ ST.out.h.range Tryz.underlying73 rfl (by rw [Array.length_toList, cw_size]; exact size8) ?_)
          rw [Array.toArray_toList]
          refine wpList_alloc_to rfl 73 rfl _ zero8 ?_
          have hgl : w.heap.size + 1 + 1 + 1 < wr.heap.size := ST.out.ws.lt
          refine wpList_store_wide rfl 73 (.tmp 13) (.tmp 88) rfl wr.heap.size 0 (cw s.list) rfl rfl 73 _ (Bk.new wr _ _) (by simp [cw_size, Wd.list]) (by rw [cw_size]; exact size8) (cw_one _) ?_
          intro w' hw'
          rw [setRow_all (by simp [cw_size, Wd.list])] at hw'
          have ST2 := hide (hw'.out ▸ (ST.out.alloc (.cells (cw (List.replicate 8 0)) 73)).row hgl (cw s.list) : RSt w s ws w')
          have BV := hide (hw'.out ▸ (Bk.new wr 73 (cw (List.replicate 8 0))).setRow_same (cw s.list) : Bk w' wr.heap.size 73 (cw s.list))
          clear hw' ST
          obtain ⟨g, hg⟩ : ∃ g, g = wr.heap.size := ⟨_, rfl⟩
          rw [← hg] at hgl BV ⊢
          clear hg
          go_wp2
          go_loopw [14] (fun t wr => ∃ k : Nat, k ≤ 64 ∧ t = .int .i64 (k : Int) ∧ RSt w s ws wr ∧ Bk wr g 73 (cw (roundsN kL ws s k).list)) (fun t _ => 64 - (intOf t).toNat)
          case atStart => exact ⟨0, Nat.zero_le _, rfl, ST2.out, by rw [roundsN_zero]; exact BV.out⟩
          case round =>
            obtain ⟨j, hj, rfl, st, bv⟩ := hrel
            have hok := roundsN_ok kL ws hs j
            by_cases hlt64 : j < 64
            · have HS := hide (roundsN_succ kL ws s j)
              have hwk := hwl.lt j
              have hkk := kL_lt.lt j
              have ck := st.k.word (i := j) (by rw [kL_length]; exact hlt64)
              have cws := st.ws.word (i := j) (by rw [HLEN.out]; exact hlt64)
              generalize roundsN kL ws s j = v at *
              obtain ⟨a, b, c, d, e, f, g', h⟩ := v
              obtain ⟨oa, ob, oc, od, oe, of, og, oh⟩ := hok
              simp only at oa ob oc od oe of og oh
              obtain ⟨c0, c1, c2, c3, c4, c5, c6, c7⟩ := wd_at bv
              simp only at c0 c1 c2 c3 c4 c5 c6 c7
              have HT1 : Hid (t1N ⟨a, b, c, d, e, f, g', h⟩ (byteAt kL j) (byteAt ws j) = ((((h + g1N e) % 4294967296 + chN e f g') % 4294967296 + byteAt kL j) % 4294967296 + byteAt ws j) % 4294967296) := hide rfl
              have HT2 : Hid (t2N ⟨a, b, c, d, e, f, g', h⟩ = (g0N a + majN a b c) % 4294967296) := hide rfl
              generalize byteAt kL j = kk at *
              generalize byteAt ws j = wk at *
              have ST3 := hide st; have BV3 := hide bv; have C7 := hide c7; have CK := hide ck; have CWS := hide cws
              clear st bv c3 c7 ck cws
              have hji : (j : Int) < 64 := by omega
              go_wp2_with fail
              go_quiet (fail)
              refine post_overS (fun W => W.cell? ⟨g, 7, none⟩ = some (.int .u32 (h : Int)) ∧ W.cell? ⟨w.heap.size + 1, j, none⟩ = some (.int .u32 (kk : Int)) ∧ W.cell? ⟨w.heap.size + 1 + 1 + 1, j, none⟩ = some (.int .u32 (wk : Int)) ∧ RSt w s ws W ∧ Bk W g 73 (cw (Wd.mk a b c d e f g' h).list)) ⟨C7.out, CK.out, CWS.out, ST3.out.drewN nq, BV3.out⟩ ?_
              clear ST3 BV3 C7 CK CWS c0 c1 c2 c4 c5 c6 nq
              rintro W2 ⟨c7, ck, cws, st, bv⟩
              have ST3 := hide st; have BV3 := hide bv
              clear st bv
              have r6 := rotN_lt (n := 6) oe (by omega)
              have r11 := rotN_lt (n := 11) oe (by omega)
              have r25 := rotN_lt (n := 25) oe (by omega)
              have d1 := u32_xor_nat _ _ r6 r11
              have d2 : bits .xor .u32 ((rotN e 6 ^^^ rotN e 11 : Nat) : Int) ((rotN e 25 : Nat) : Int) = ((g1N e : Nat) : Int) := u32_xor_nat _ _ (xor_lt r6 r11) r25
              have h1 := u32_and_nat e f oe of
              have h2 : bits .xor .u32 (if IntKind.u32.signed = true then -1 else IntKind.u32.max) (e : Int) = ((e ^^^ 4294967295 : Nat) : Int) := u32_not oe
              have h3 := u32_and_nat (e ^^^ 4294967295) g' (xor_lt oe (by omega)) og
              have h4 := u32_xor_nat (e &&& f) ((e ^^^ 4294967295) &&& g') (and_lt _ oe) (and_lt _ (xor_lt oe (by omega)))
              have s1 := u32_sum h (g1N e)
              have s2 := u32_sum ((h + g1N e) % 4294967296) ((e &&& f) ^^^ ((e ^^^ 4294967295) &&& g'))
              have s3 := u32_sum (((h + g1N e) % 4294967296 + ((e &&& f) ^^^ ((e ^^^ 4294967295) &&& g'))) % 4294967296) kk
              have s4 := u32_sum ((((h + g1N e) % 4294967296 + ((e &&& f) ^^^ ((e ^^^ 4294967295) &&& g'))) % 4294967296 + kk) % 4294967296) wk
              generalize hx1 : (h + g1N e) % 4294967296 = x1 at *
              generalize hx2 : (x1 + ((e &&& f) ^^^ ((e ^^^ 4294967295) &&& g'))) % 4294967296 = x2 at *
              generalize hx3 : (x2 + kk) % 4294967296 = x3 at *
              generalize hx4 : (x3 + wk) % 4294967296 = x4 at *
              have HX := hide (And.intro hx1 (And.intro hx2 (And.intro hx3 hx4)))
              clear hx1 hx2 hx3 hx4
              go_wp2_with fail
              have R := fun (n : Nat) (hn : 0 < n) (hn2 : n < 32) (W : World) => (rot_any e n W oe hn hn2).mono (fun _ _ h => And.intro h.1 h.2.symm)
              have R6 : ∀ W, Calls Tryz.prog 75 #[.int .u32 (e : Int), .int .u64 6] W (fun x w' => x = .returned (.int .u32 ((rotN e 6 : Nat) : Int)) ∧ w' = W) := R 6 (by omega) (by omega)
              have R11 : ∀ W, Calls Tryz.prog 75 #[.int .u32 (e : Int), .int .u64 11] W (fun x w' => x = .returned (.int .u32 ((rotN e 11 : Nat) : Int)) ∧ w' = W) := R 11 (by omega) (by omega)
              have R25 : ∀ W, Calls Tryz.prog 75 #[.int .u32 (e : Int), .int .u64 25] W (fun x w' => x = .returned (.int .u32 ((rotN e 25 : Nat) : Int)) ∧ w' = W) := R 25 (by omega) (by omega)
              clear R
              go_quiet ((go_at_call 75; first | with_reducible exact Calls.quiet_of_same (R6 _) | with_reducible exact Calls.quiet_of_same (R11 _) | with_reducible exact Calls.quiet_of_same (R25 _)))
              refine post_overS (fun W => RSt w s ws W ∧ Bk W g 73 (cw (Wd.mk a b c d e f g' h).list)) ⟨ST3.out.drewN nq, BV3.out⟩ ?_
              clear ST3 BV3 nq c7 ck cws h1 h2 h3 h4 s1 s2 s3 s4 R6 R11 R25 d1 d2 r6 r11 r25
              rintro W3 ⟨st, bv⟩
              have ST4 := hide st; have BV4 := hide bv
              have c3 : W3.cell? ⟨g, 3, none⟩ = some (.int .u32 (d : Int)) := (wd_at bv).2.2.2.1
              clear st bv
              have r2 := rotN_lt (n := 2) oa (by omega)
              have r13 := rotN_lt (n := 13) oa (by omega)
              have r22 := rotN_lt (n := 22) oa (by omega)
              have d1 := u32_xor_nat _ _ r2 r13
              have d2 : bits .xor .u32 ((rotN a 2 ^^^ rotN a 13 : Nat) : Int) ((rotN a 22 : Nat) : Int) = ((g0N a : Nat) : Int) := u32_xor_nat _ _ (xor_lt r2 r13) r22
              have m1 := u32_and_nat a b oa ob
              have m2 := u32_and_nat a c oa oc
              have m3 := u32_and_nat b c ob oc
              have m4 := u32_xor_nat (a &&& b) (a &&& c) (and_lt _ oa) (and_lt _ oa)
              have m5 := u32_xor_nat ((a &&& b) ^^^ (a &&& c)) (b &&& c) (xor_lt (and_lt _ oa) (and_lt _ oa)) (and_lt _ ob)
              have m6 := u32_mod (g0N a) ((a &&& b) ^^^ (a &&& c) ^^^ (b &&& c))
              generalize hy : (g0N a + ((a &&& b) ^^^ (a &&& c) ^^^ (b &&& c))) % 4294967296 = y at *
              have m7 := u32_mod x4 y
              have m8 := u32_mod d x4
              generalize hx5 : (x4 + y) % 4294967296 = x5 at *
              generalize hx6 : (d + x4) % 4294967296 = x6 at *
              have HY := hide (And.intro hy (And.intro hx5 hx6))
              clear hy hx5 hx6
              go_wp2_with fail
              refine (rot_any a 2 _ oa (by omega) (by omega)).mono ?_
              rintro e9 w' ⟨rfl, rfl⟩
              go_wp2_with fail
              refine (rot_any a 13 _ oa (by omega) (by omega)).mono ?_
              rintro e9 w' ⟨rfl, rfl⟩
              go_wp2_with fail
              refine (rot_any a 22 _ oa (by omega) (by omega)).mono ?_
              rintro e9 w' ⟨rfl, rfl⟩
              go_wp2_with ((with_reducible show wpList _ _ _ (⟨none, .store _ _ _, _, _, _, _⟩ :: _) _ _); refine holdB ?_)
              refine heldB (wpList_store_wide rfl 73 (.tmp 13) (.tmp 166) rfl g 0 (cw [x5, a, b, c, x6, e, f, g']) rfl rfl 73 _ BV4.out (by simp [cw_size, Wd.list]) size8 (cw_one _) ?_)
              intro w' hw'
              rw [setRow_all (by simp [cw_size, Wd.list])] at hw'
              have ST5 := hide (hw'.out ▸ ST4.out.row hgl (cw [x5, a, b, c, x6, e, f, g']) : RSt w s ws w')
              have BV5 := hide (hw'.out ▸ BV4.out.setRow_same (cw [x5, a, b, c, x6, e, f, g']) : Bk w' g 73 _)
              clear hw' ST4 BV4 c3 d1 d2 m1 m2 m3 m4 m5 m6
              go_wp2
              go_roundw
              case rel =>
                refine ⟨j + 1, by omega, by go_num, ST5.out, ?_⟩
                have e4 : t1N ⟨a, b, c, d, e, f, g', h⟩ kk wk = x4 := by
                  obtain ⟨h1, h2, h3, h4⟩ := HX.out
                  rw [HT1.out, ← h4, ← h3, ← h2]; rfl
                have e5 : t2N ⟨a, b, c, d, e, f, g', h⟩ = y := by rw [HT2.out]; exact HY.out.1
                have e6 : roundN ⟨a, b, c, d, e, f, g', h⟩ kk wk = ⟨x5, a, b, c, x6, e, f, g'⟩ := by
                  unfold roundN
                  rw [e4, e5, HY.out.2.1, HY.out.2.2]
                rw [HS.out, e6]
                exact BV5.out
              case measure => simp [intOf]; omega
            · have hj64 : j = 64 := by omega
              rw [hj64] at bv
              have HSt : Hid (stepN kL s l = sumN s (roundsN kL ws s 64)) := hide (by rw [HWS.out]; rfl)
              have hlj : ¬ (j : Int) < 64 := by omega
              clear hj64 hlt64 hj hok
              generalize roundsN kL ws s 64 = v at *
              have ST3 := hide st; have BV3 := hide bv
              clear st bv
              go_wp2
              go_loopw [23] (fun t wr => ∃ k : Nat, k ≤ 8 ∧ t = .int .i64 (k : Int) ∧ RSt w s ws wr ∧ Bk wr g 73 (cw (addNS v.list s.list k))) (fun t _ => 8 - (intOf t).toNat)
              case atStart => exact ⟨0, Nat.zero_le _, rfl, ST3.out, by rw [addN_zero]; exact BV3.out⟩
              case round =>
                obtain ⟨k2, hk2, rfl, st, bv⟩ := hrel
                by_cases hlt8 : k2 < 8
                · have hlen : (addNS v.list s.list k2).length = 8 := by rw [addN_length]; rfl
                  have HA := hide (addN_succ v.list s.list k2)
                  have cv := bv.word (i := k2) (by rw [hlen]; exact hlt8)
                  have ch := st.h.word (i := k2) hlt8
                  have hf := bv.frozen k2
                  have ST4 := hide st; have BV4 := hide bv
                  clear st bv hlen
                  generalize byteAt (addNS v.list s.list k2) k2 = x at *
                  generalize byteAt s.list k2 = z at *
                  have hki : (k2 : Int) < 8 := by omega
                  have q := u32_sum x z
                  generalize hxz : (x + z) % 4294967296 = xz at *
                  go_wp2_with fail
                  refine wp_region_still_tail 9 (by kernel_rfl) (by kernel_rfl) ?_
                  simp only [List.take_succ_cons, List.take_zero, List.drop_succ_cons, List.drop_zero]
                  repeat still_step
                  refine wpStill_nil ?_
                  change wpList _ _ _ _ _ wr.drew
                  have hf2 : wr.drew.frozen? ⟨g, k2, none⟩ = false := hf
                  have cc : wr.drew.cell? ⟨g, k2, none⟩ = some (.int .u32 (x : Int)) := cv
                  have ST5 := hide ST4.out.drew; have BV5 := hide BV4.out.drew
                  have HXZ := hide hxz
                  clear ST4 BV4 hf cv ch q hxz
                  generalize wr.drew = W3 at *
                  go_wp2
                  go_roundw
                  case rel =>
                    refine ⟨k2 + 1, by omega, by go_num, ST5.out.far hgl _, ?_⟩
                    rw [HA.out]
                    exact BV5.out.putw _ _ (by have := HXZ.out; omega)
                  case measure => simp [intOf]; omega
                · have hk8 : k2 = 8 := by omega
                  rw [hk8, addN_all] at bv
                  have hlk2 : ¬ (k2 : Int) < 8 := by omega
                  clear hk8 hlt8 hk2
                  rw [← HSt.out] at bv
                  have ST4 := hide st; have BV4 := hide bv
                  clear st bv
                  generalize hfin : stepN kL s l = fin at *
                  have HFIN := hide hfin
                  clear hfin
                  go_wp2_with ((with_reducible show wpList _ _ _ (⟨some 180, _, _, _, _, _⟩ :: _) _ _); refine holdB ?_)
                  refine heldB (wpList_load_mid rfl 73 (.tmp 13) rfl g 0 rfl _ _ BV4.out.range Tryz.underlying73 rfl (by rw [Array.length_toList, cw_size]; exact size8) ?_)
                  rw [Array.toArray_toList]
                  refine wpList_store_wide rfl 73 (.tmp 6) (.tmp 180) rfl (w.heap.size + 1 + 1) 0 (cw fin.list) rfl rfl 73 _ ST4.out.r (by simp [cw_size, Wd.list]) (by rw [cw_size]; exact size8) (cw_one _) ?_
                  intro w' hw'
                  rw [setRow_all (by simp [cw_size, Wd.list])] at hw'
                  have B1 := hide (hw'.out ▸ ST4.out.r.setRow_same (cw fin.list) : Bk w' _ _ _)
                  have hb2 := hw'.out ▸ below_setRow ST4.out.b (g := w.heap.size + 1 + 1) (by omega) (cw fin.list)
                  clear hw' ST4 BV4
                  go_wp2
                  refine bodyPost_ret (v := .agg (cw fin.list)) ?_ rfl ⟨by rw [HFIN.out], hb2⟩
                  exact results_cell (a := ⟨w.heap.size + 1 + 1, 0, none⟩) rfl rfl (B1.out.load Tryz.underlying73 rfl (by rw [cw_size]; exact size8))
end Go.Proofs.YtoiffchhfnbooaaGreatDoor
