/-
  Contracts over package sha: a block's words W0 to W63.
-/
import Derived.Test.YtoiffchhfnbooaaDoorQBytes
import Derived.BigRegion
import Derived.StillTailTactics
import Derived.IntWalk
import Derived.Deep.QuietTactic
import Derived.BigQuiet
namespace Go.Proofs.YtoiffchhfnbooaaDoor
set_option linter.unusedVariables false
set_option linter.unusedSimpArgs false
set_option linter.unusedVariables false
set_option linter.unusedSimpArgs false
open Go.RowKit

/-- words and bytes as cells -/
def uv (x : Nat) : Value := .int .u32 (x : Int)
def cw (l : List Nat) : Array Value := (l.map uv).toArray
def cb (l : List Nat) : Array Value := (l.map bv).toArray
theorem cw_size (l : List Nat) : (cw l).size = l.length := by simp [cw]
theorem cb_size (l : List Nat) : (cb l).size = l.length := by simp [cb]
theorem cw_at {l : List Nat} {i : Nat} (h : i < l.length) : (cw l)[i]? = some (.int .u32 ((byteAt l i : Nat) : Int)) := by
  unfold cw byteAt uv
  simp [h]
theorem cb_at {l : List Nat} {i : Nat} (h : i < l.length) : (cb l)[i]? = some (.int .u8 ((byteAt l i : Nat) : Int)) := by
  unfold cb byteAt bv
  simp [h]
theorem cw_set (l : List Nat) (i x : Nat) : (cw l).setIfInBounds i (.int .u32 (x : Int)) = cw (l.set i x) := by
  unfold cw
  rw [List.map_set, ← List.setIfInBounds_toArray]
  rfl
theorem cb_set (l : List Nat) (i x : Nat) : (cb l).setIfInBounds i (.int .u8 (x : Int)) = cb (l.set i x) := by
  unfold cb
  rw [List.map_set, ← List.setIfInBounds_toArray]
  rfl
theorem cw_one (l : List Nat) : ∀ v ∈ (cw l).toList, v.oneCell' = true := by
  intro v hv
  simp only [cw, List.mem_map] at hv
  obtain ⟨x, _, rfl⟩ := hv
  rfl
theorem cb_one (l : List Nat) : ∀ v ∈ (cb l).toList, v.oneCell' = true := by
  intro v hv
  simp only [cb] at hv
  exact bv_one l v hv
theorem Bk.word {w : World} {g : Nat} {t : TypeId} {l : List Nat} (h : Bk w g t (cw l)) {i : Nat} (hi : i < l.length) : w.cell? ⟨g, i, none⟩ = some (.int .u32 ((byteAt l i : Nat) : Int)) := (h.cell i).trans (cw_at hi)
theorem Bk.byte {w : World} {g : Nat} {t : TypeId} {l : List Nat} (h : Bk w g t (cb l)) {i : Nat} (hi : i < l.length) : w.cell? ⟨g, i, none⟩ = some (.int .u8 ((byteAt l i : Nat) : Int)) := (h.cell i).trans (cb_at hi)
theorem Bk.putw {w : World} {g : Nat} {t : TypeId} {l : List Nat} (h : Bk w g t (cw l)) (i x : Nat) {z : Int} (hz : z = (x : Int)) : Bk (w.setCell ⟨g, i, none⟩ (.int .u32 z)) g t (cw (l.set i x)) := by
  subst hz; rw [← cw_set]; exact h.put i _
theorem Bk.putb {w : World} {g : Nat} {t : TypeId} {l : List Nat} (h : Bk w g t (cb l)) (i x : Nat) {z : Int} (hz : z = (x : Int)) : Bk (w.setCell ⟨g, i, none⟩ (.int .u8 z)) g t (cb (l.set i x)) := by
  subst hz; rw [← cb_set]; exact h.put i _
theorem zero64 : (Tryd.prog.info? 92).map (·.zero) = some (some (.agg (cw (List.replicate 64 0)))) := by kernel_rfl
theorem zero32 : (Tryd.prog.info? 24).map (·.zero) = some (some (.agg (cb (List.replicate 32 0)))) := by kernel_rfl
theorem zero8 : (Tryd.prog.info? 75).map (·.zero) = some (some (.agg (cw (List.replicate 8 0)))) := by kernel_rfl
theorem zeroSec : (Tryd.prog.info? 80).map (·.zero) = some (some (.agg (cb (List.replicate 64 0)))) := by kernel_rfl
theorem size64 : (Tryd.prog.info? 92).map (·.size) = some 64 := by kernel_rfl
theorem size32 : (Tryd.prog.info? 24).map (·.size) = some 32 := by kernel_rfl
theorem size8 : (Tryd.prog.info? 75).map (·.size) = some 8 := by kernel_rfl
theorem sizeSec : (Tryd.prog.info? 80).map (·.size) = some 64 := by kernel_rfl

theorem byte_lt256 {l : List Nat} (h : ∀ x ∈ l, x < 256) (i : Nat) : byteAt l i < 256 := by
  unfold byteAt
  rw [List.getD_eq_getElem?_getD]
  cases hx : l[i]? with
  | none => simp
  | some x => exact h x (List.mem_of_getElem? hx)
section
variable {P : Program}
theorem run_index_row {w : World} {t e : TypeId} {n : Nat} {cs : Array Value} {v : Value} {k : IntKind} (ht : P.underlying t = some (.array n e)) (he : P.underlying e = some (.int k)) (hs : (P.info? e).map (·.size) = some 1) {i : Nat} (hi : i < n) (hc : cs[i]? = some v) :
    (Instr.index t (.agg cs) (.int .i64 (i : Int))).run P w = .ok v w := by
  cases hq : P.info? e with
  | none => simp [hq] at hs
  | some d =>
    have hd : d.size = 1 := by simpa [hq] using hs
    simp [Instr.index, asIntOf, run_underlying ht, hi, sizeOf, typeInfo, hq, hd, part, isAgg, run_underlying he, hc]
theorem wpList_over {ops : Array Oper} {l : List Oper} {a : Act} {W : World} {Q : Exit → Act → World → Prop} (F : World → Prop) (hF : F W) (h : ∀ W', F W' → wpList P ops Q l a W') : wpList P ops Q l a W := h W hF
theorem post_overS {K : Act → World → Prop} {Q : Exit → Act → World → Prop} {e : Exit} {a : Act} {W : World} (F : World → Prop) (hF : F W) (h : ∀ W', F W' → Exit.then K Q e a W') : Exit.then K Q e a W := h W hF
theorem code_overS {c : Code} {a : Act} {W : World} {Q : Exit → Act → World → Prop} (F : World → Prop) (hF : F W) (h : ∀ W', F W' → c.wp P Q a W') : c.wp P Q a W := h W hF
end
theorem shl_byte {x c : Nat} (hx : x < 4294967296) (hc : c < 256) : bits .or .u32 ((x : Int) * 256 % 4294967296) (c : Int) = (((x * 256 + c) % 4294967296 : Nat) : Int) := by
  have h := u32_or_nat (x * 256 % 4294967296) c (by omega) (by omega)
  rw [nat_join 8 _ _ (by omega) (by omega)] at h
  rw [show (x : Int) * 256 % 4294967296 = ((x * 256 % 4294967296 : Nat) : Int) by omega, h]
  omega

set_option maxRecDepth 20000 in
set_option maxHeartbeats 1000000 in
theorem spread_any (l : List Nat) (w : World) (hl : l.length = 64) (hby : ∀ x ∈ l, x < 256) : Calls Tryd.prog 50 #[.agg (cb l)] w fun e w' => e = .returned (.agg (cw (schedN l))) ∧ Below w.heap.size w w' := by
  have HL := hide hl
  clear hl
  go_enter Tryd.func50, Tryd.ntmps50
  go_wp2_with ((with_reducible show wpList _ _ _ (⟨some 2, _, _, _, _, _⟩ :: _) _ _); refine holdB ?_)
  refine heldB (wpList_alloc_to rfl 92 rfl _ zero64 ?_)
  go_wp2_with ((with_reducible show wpList _ _ _ (⟨some 3, _, _, _, _, _⟩ :: _) _ _); refine holdB ?_)
  refine heldB (wpList_alloc_to rfl 92 rfl _ zero64 ?_)
  have b0 : Bk (((w.alloc (.cells (cb l) 80)).alloc (.cells (cw (List.replicate 64 0)) 92)).alloc (.cells (cw (List.replicate 64 0)) 92)) w.heap.size 80 (cb l) := ((Bk.new w _ _).alloc _).alloc _
  have b1 : Bk (((w.alloc (.cells (cb l) 80)).alloc (.cells (cw (List.replicate 64 0)) 92)).alloc (.cells (cw (List.replicate 64 0)) 92)) (w.heap.size + 1) 92 (cw (List.replicate 64 0)) := (Bk.new2 w _ _ _).alloc _
  have b2 : Bk (((w.alloc (.cells (cb l) 80)).alloc (.cells (cw (List.replicate 64 0)) 92)).alloc (.cells (cw (List.replicate 64 0)) 92)) (w.heap.size + 1 + 1) 92 (cw (List.replicate 64 0)) := Bk.new3 w _ _ _ _
  have hb0 : Below w.heap.size w (((w.alloc (.cells (cb l) 80)).alloc (.cells (cw (List.replicate 64 0)) 92)).alloc (.cells (cw (List.replicate 64 0)) 92)) := (((Below.refl _ _).alloc (Nat.le_refl _) _).alloc (by simp) _).alloc (by simp; omega) _
  refine wpList_over (fun W => Bk W w.heap.size 80 (cb l) ∧ Bk W (w.heap.size + 1) 92 (cw (List.replicate 64 0)) ∧ Bk W (w.heap.size + 1 + 1) 92 (cw (List.replicate 64 0)) ∧ Below w.heap.size w W) ⟨b0, b1, b2, hb0⟩ ?_
  clear b0 b1 b2 hb0
  rintro W ⟨b0, b1, b2, hb0⟩
  have HB1 := hide b1
  clear b1
  go_wp2_with ((with_reducible show wpList _ _ _ (⟨some 7, _, _, _, _, _⟩ :: _) _ _); refine holdB ?_)
  refine heldB (wpList_load_mid rfl 80 (.tmp 1) rfl w.heap.size 0 rfl _ _ b0.range Tryd.underlying80 rfl (by rw [Array.length_toList, cb_size, HL.out]; exact sizeSec) ?_)
  go_wp2
  go_loopw [8] (fun i wr => ∃ k : Nat, k ≤ 64 ∧ i = .int .i64 k ∧ Bk wr (w.heap.size + 1) 92 (cw (List.replicate 64 0)) ∧ Bk wr (w.heap.size + 1 + 1) 92 (cw (fillN l k)) ∧ Below w.heap.size w wr) (fun i _ => 64 - (intOf i).toNat)
  case atStart => exact ⟨0, Nat.zero_le _, rfl, HB1.out, by rw [fillN_zero]; exact b2, hb0⟩
  case round =>
    obtain ⟨k, hk, rfl, b1, b2, hb⟩ := hrel
    by_cases hlt : k < 64
    · have hq : k / 4 < 64 := by omega
      have hc := b2.word (i := k / 4) (by rw [fillN_length]; exact hq)
      have hf := b2.frozen (k / 4)
      have hx := (fillN_lt l k).lt (k / 4)
      have hcb := cb_at (l := l) (i := k) (by rw [HL.out]; exact hlt)
      have hyk := byte_lt256 hby k
      have hs := shl_byte hx hyk
      have hix := fun W => run_index_row (P := Tryd.prog) (w := W) Tryd.underlying80 Tryd.underlying5 (by kernel_rfl) hlt hcb
      have HF : Hid (fillN l (k + 1) = (fillN l k).set (k / 4) ((byteAt (fillN l k) (k / 4) * 256 + byteAt l k) % 4294967296)) := hide (fillN_succ l k)
      have HB2 := hide b2
      clear b2
      generalize byteAt (fillN l k) (k / 4) = x at *
      generalize byteAt l k = y at *
      go_wp2
      go_roundw
      case rel => exact ⟨k + 1, by omega, by go_num, b1.far (by simp) _, by rw [HF.out]; exact HB2.out.putw _ _ (by omega), hb.setCell (by simp; omega) _⟩
      case measure => simp [intOf]; omega
    · have hk64 : k = 64 := by omega
      have e0 : fillN l 64 = extN (fillN l 64) 0 := (extN_zero _).symm
      rw [hk64, e0] at b2
      have hlk : ¬ (k : Int) < 64 := by omega
      clear e0 hk64 hlt hk
      go_wp2
      go_loopw [6] (fun i wr => ∃ m : Nat, m ≤ 48 ∧ i = .int .i64 ((16 + m : Nat) : Int) ∧ Bk wr (w.heap.size + 1) 92 (cw (List.replicate 64 0)) ∧ Bk wr (w.heap.size + 1 + 1) 92 (cw (extN (fillN l 64) m)) ∧ Below w.heap.size w wr) (fun i _ => 64 - (intOf i).toNat)
      case atStart => exact ⟨0, Nat.zero_le _, rfl, b1, b2, hb⟩
      case round =>
        obtain ⟨m, hm, rfl, b1, b2, hb⟩ := hrel
        by_cases hlt : m < 48
        · have hlen : (extN (fillN l 64) m).length = 64 := by rw [extN_length, fillN_length]
          have hw := extN_lt (fillN_lt l 64) m
          have c2 := b2.word (i := m + 14) (by omega)
          have c7 := b2.word (i := m + 9) (by omega)
          have c15 := b2.word (i := m + 1) (by omega)
          have c16 := b2.word (i := m) (by omega)
          have hf := b2.frozen (16 + m)
          have c0 := b2.word (i := 16 + m) (by omega)
          have x2 := hw.lt (m + 14)
          have x7 := hw.lt (m + 9)
          have x15 := hw.lt (m + 1)
          have x16 := hw.lt m
          have HF : Hid (extN (fillN l 64) (m + 1) = (extN (fillN l 64) m).set (16 + m) (nextN (extN (fillN l 64) m) (16 + m))) := hide (extN_succ _ m)
          have HN : Hid (nextN (extN (fillN l 64) m) (16 + m) = (((s1N (byteAt (extN (fillN l 64) m) (m + 14)) + byteAt (extN (fillN l 64) m) (m + 9)) % 4294967296 + s0N (byteAt (extN (fillN l 64) m) (m + 1))) % 4294967296 + byteAt (extN (fillN l 64) m) m) % 4294967296) := by
            unfold nextN
            rw [show 16 + m - 2 = m + 14 by omega, show 16 + m - 7 = m + 9 by omega, show 16 + m - 15 = m + 1 by omega, show 16 + m - 16 = m by omega]
            exact hide rfl
          have HB2 := hide b2
          clear b2 hw hlen
          generalize byteAt (extN (fillN l 64) m) (m + 14) = y2 at *
          generalize byteAt (extN (fillN l 64) m) (m + 9) = y7 at *
          generalize byteAt (extN (fillN l 64) m) (m + 1) = y15 at *
          generalize byteAt (extN (fillN l 64) m) m = y16 at *
          generalize byteAt (extN (fillN l 64) m) (16 + m) = y0 at *
          have hz7 := s1N_lt x2
          have hz15 := s0N_lt x15
          have e2 : IntKind.i64.wrap (16 + (m : Int) - 2) = ((m + 14 : Nat) : Int) := by rw [IntWalk.i64_in _ (by omega)]; omega
          have e7 : IntKind.i64.wrap (16 + (m : Int) - 7) = ((m + 9 : Nat) : Int) := by rw [IntWalk.i64_in _ (by omega)]; omega
          have e15 : IntKind.i64.wrap (16 + (m : Int) - 15) = ((m + 1 : Nat) : Int) := by rw [IntWalk.i64_in _ (by omega)]; omega
          have e16 : IntKind.i64.wrap (16 + (m : Int) - 16) = (m : Int) := by rw [IntWalk.i64_in _ (by omega)]; omega
          have et : ((16 : Int) + (m : Int)).toNat = 16 + m := by omega
          generalize h14 : m + 14 = m14 at *
          generalize h9 : m + 9 = m9 at *
          generalize h1 : m + 1 = m1 at *
          have q2 : (m14 : Int) < 64 := by omega
          have q7 : (m9 : Int) < 64 := by omega
          have q15 : (m1 : Int) < 64 := by omega
          have q16 : (m : Int) < 64 := by omega
          have q0 : (0 : Int) ≤ 16 + (m : Int) := by omega
          have H1 := hide h1
          clear h14 h9 h1
          go_wp2_with fail
          refine wp_region_still_tail 23 (by kernel_rfl) (by kernel_rfl) ?_
          simp only [List.take_succ_cons, List.take_zero, List.drop_succ_cons, List.drop_zero]
          repeat still_step
          still_call ((small1_any y2 _ x2).mono (fun _ _ h => ⟨h.1, h.2.symm⟩))
          repeat still_step
          still_call ((small0_any y15 _ x15).mono (fun _ _ h => ⟨h.1, h.2.symm⟩))
          repeat still_step
          refine wpStill_nil ?_
          change wpList _ _ _ _ _ wr.drew
          have hf2 : wr.drew.frozen? ⟨w.heap.size + 1 + 1, 16 + m, none⟩ = false := hf
          have cc : wr.drew.cell? ⟨w.heap.size + 1 + 1, 16 + m, none⟩ = some (.int .u32 (y0 : Int)) := c0
          have B1 := hide b1.drew
          have B2 := hide HB2.out.drew
          have B3 := hide hb.drew
          clear b1 HB2 hb hf c0 c2 c7 c15 c16 e2 e7 e15 e16
          generalize wr.drew = W3 at *
          clear q2 q7 q15 q16 x2 x7 x15 x16 hz7 hz15 
          go_wp2
          go_roundw
          case rel =>
            refine ⟨m1, by have := H1.out; omega, by have := H1.out; go_num, B1.out.far (by simp) _, ?_, B3.out.setCell (by simp; omega) _⟩
            rw [HF.out]
            exact B2.out.putw _ _ (by rw [HN.out]; omega)
          case measure => simp [intOf]; omega
        · have hm48 : m = 48 := by omega
          rw [hm48, schedN_eq] at b2
          have hlm : ¬ (16 : Int) + (m : Int) < 64 := by omega
          clear hm48 hlt hm
          have hlen := schedN_length l
          obtain ⟨ws, hws⟩ : ∃ ws, ws = schedN l := ⟨_, rfl⟩
          rw [← hws] at hlen b2
          have HWS := hide hws
          clear hws
          have hsz : (cw ws).size = 64 := by rw [cw_size, hlen]
          have HLEN := hide hlen
          clear hlen
          go_wp2_with ((with_reducible show wpList _ _ _ (⟨some 51, _, _, _, _, _⟩ :: _) _ _); refine holdB ?_)
          refine heldB (wpList_load_mid rfl 92 (.tmp 3) rfl (w.heap.size + 1 + 1) 0 rfl _ _ b2.range Tryd.underlying92 rfl (by rw [Array.length_toList, hsz]; exact size64) ?_)
          rw [Array.toArray_toList]
          refine wpList_store_wide rfl 92 (.tmp 2) (.tmp 51) rfl (w.heap.size + 1) 0 (cw ws) rfl rfl 92 _ b1 (by rw [cw_size, cw_size, HLEN.out]; simp) (by rw [hsz]; exact size64) (cw_one _) ?_
          intro w' hw'
          rw [setRow_all (by rw [hsz, cw_size]; simp)] at hw'
          have B1 := hide (hw'.out ▸ b1.setRow_same (cw ws) : Bk w' _ _ _)
          have hb2 := hw'.out ▸ below_setRow hb (g := w.heap.size + 1) (by omega) (cw ws)
          clear hw' b1 b2 hb
          go_wp2
          refine bodyPost_ret (v := .agg (cw ws)) ?_ rfl ⟨by rw [HWS.out], hb2⟩
          exact results_cell (a := ⟨w.heap.size + 1, 0, none⟩) rfl rfl (B1.out.load Tryd.underlying92 rfl (by rw [hsz]; exact size64))
end Go.Proofs.YtoiffchhfnbooaaDoor

/-
  Contracts over package sha: a block's step; the words' bytes.
-/
namespace Go.Proofs.YtoiffchhfnbooaaDoor
set_option linter.unusedVariables false
set_option linter.unusedSimpArgs false
set_option linter.unusedVariables false
set_option linter.unusedSimpArgs false
open Go.RowKit

/-- the package's tables lie as the text lays them -/
def Tabs (w : World) : Prop := (∀ r, r < 8 → w.cell? ⟨1, r, none⟩ = some (.int .u32 ((byteAt firstL r : Nat) : Int))) ∧ ∀ r, r < 64 → w.cell? ⟨2, r, none⟩ = some (.int .u32 ((byteAt kL r : Nat) : Int))
theorem Tabs.pos {w : World} (h : Tabs w) : 2 < w.heap.size := block_lt_of_cell (h.2 0 (by omega))
theorem Tabs.below {w w' : World} {B : Nat} (h : Tabs w) (hb : Below B w w') (hB : 2 < B) : Tabs w' := ⟨fun r hr => (hb.cell (p := ⟨1, r, none⟩) (by show 1 < B; omega)).trans (h.1 r hr), fun r hr => (hb.cell (p := ⟨2, r, none⟩) hB).trans (h.2 r hr)⟩

theorem u32_not {e : Nat} (he : e < 4294967296) : bits .xor .u32 IntKind.u32.max (e : Int) = ((e ^^^ 4294967295 : Nat) : Int) := by
  have := u32_xor_nat 4294967295 e (by omega) he
  rw [Nat.xor_comm] at this
  exact this
theorem wd_cells (s : Wd) : cw s.list = #[.int .u32 (s.a : Int), .int .u32 (s.b : Int), .int .u32 (s.c : Int), .int .u32 (s.d : Int), .int .u32 (s.e : Int), .int .u32 (s.f : Int), .int .u32 (s.g : Int), .int .u32 (s.h : Int)] := rfl

theorem below_drewNS {B : Nat} {w w' : World} (h : Below B w w') (k : Nat) : Below B w (w'.drewN k) := ⟨h.os, h.tape, h.output, h.size, h.block⟩
/-- what the rounds of a step holdB -/
def WdAt (v : Wd) (s5 s6 s7 s8 s9 s10 s11 s12 : Value) : Prop :=
  s5 = .int .u32 (v.a : Int) ∧ s6 = .int .u32 (v.b : Int) ∧ s7 = .int .u32 (v.c : Int) ∧ s8 = .int .u32 (v.d : Int) ∧ s9 = .int .u32 (v.e : Int) ∧ s10 = .int .u32 (v.f : Int) ∧ s11 = .int .u32 (v.g : Int) ∧ s12 = .int .u32 (v.h : Int)
theorem u32_sum (a b : Nat) : IntKind.u32.wrap ((a : Int) + (b : Int)) = (((a + b) % 4294967296 : Nat) : Int) := by rw [IntKind.wrap_u32']; omega
theorem u32_mod (a b : Nat) : ((a : Int) + (b : Int)) % 4294967296 = (((a + b) % 4294967296 : Nat) : Int) := by omega

set_option maxRecDepth 20000 in
set_option maxHeartbeats 2000000 in
theorem step_any (s : Wd) (l : List Nat) (w : World) (hs : s.Ok) (hl : l.length = 64) (hby : ∀ x ∈ l, x < 256) (ht : Tabs w) :
    Calls Tryd.prog 36 #[.agg (cw s.list), .agg (cb l)] w fun e w' => e = .returned (.agg (cw (stepN kL s l).list)) ∧ Below w.heap.size w w' := by
  have HL := hide hl
  have HT := hide ht.2
  have hp := ht.pos
  clear hl ht
  rw [wd_cells]
  go_enter Tryd.func36, Tryd.ntmps36
  go_wp2_with fail
  have hb0 : Below w.heap.size w (((w.alloc (.cells #[.int .u32 (s.a : Int), .int .u32 (s.b : Int), .int .u32 (s.c : Int), .int .u32 (s.d : Int), .int .u32 (s.e : Int), .int .u32 (s.f : Int), .int .u32 (s.g : Int), .int .u32 (s.h : Int)] 75)).alloc (.cells (cb l) 80)).alloc (.cells (cw (List.replicate 8 0)) 75)) := (((Below.refl _ _).alloc (Nat.le_refl _) _).alloc (by simp) _).alloc (by simp; omega) _
  refine code_overS (fun W => Bk W w.heap.size 75 (cw s.list) ∧ Bk W (w.heap.size + 1) 80 (cb l) ∧ Bk W (w.heap.size + 1 + 1) 75 (cw (List.replicate 8 0)) ∧ Below w.heap.size w W) ⟨((Bk.new w _ _).alloc _).alloc _, (Bk.new2 w _ _ _).alloc _, Bk.new3 w _ _ _ _, hb0⟩ ?_
  clear hb0
  rintro W ⟨b0, b1, b2, hb⟩
  have B0 := hide b0; have B1 := hide b1; have B2 := hide b2; have HB := hide hb
  have c0 := b0.cell 0; have c1 := b0.cell 1; have c2 := b0.cell 2; have c3 := b0.cell 3; have c4 := b0.cell 4; have c5 := b0.cell 5; have c6 := b0.cell 6; have c7 := b0.cell 7
  rw [wd_cells] at c0 c1 c2 c3 c4 c5 c6 c7
  simp only [List.getElem?_toArray, List.getElem?_cons_zero, List.getElem?_cons_succ] at c0 c1 c2 c3 c4 c5 c6 c7
  clear b0 b1 b2 hb
  go_quiet (fail)
  refine post_overS (fun W => Bk W w.heap.size 75 (cw s.list) ∧ Bk W (w.heap.size + 1) 80 (cb l) ∧ Bk W (w.heap.size + 1 + 1) 75 (cw (List.replicate 8 0)) ∧ Below w.heap.size w W) ⟨B0.out, B1.out, B2.out, below_drewNS HB.out nq⟩ ?_
  clear B0 B1 B2 HB c0 c1 c2 c3 c4 c5 c6 c7 nq
  clear W
  rintro W ⟨b0, b1, b2, hb⟩
  have B0 := hide b0; have B1 := hide b1; have B2 := hide b2; have HB := hide hb
  clear b0 b1 b2 hb
  go_wp2_with ((with_reducible show wpList _ _ _ (⟨some 33, _, _, _, _, _⟩ :: _) _ _); refine holdB ?_)
  refine heldB (wpList_load_mid rfl 80 (.tmp 3) rfl (w.heap.size + 1) 0 rfl _ _ B1.out.range Tryd.underlying80 rfl (by rw [Array.length_toList, cb_size, HL.out]; exact sizeSec) ?_)
  go_wp2_with fail
  refine (spread_any l _ HL.out hby).mono ?_
  rintro e W2 ⟨rfl, hb2⟩
  have hlen := schedN_length l
  have hlt := schedN_lt l
  obtain ⟨ws, hws⟩ : ∃ ws, ws = schedN l := ⟨_, rfl⟩
  rw [← hws] at hlen hlt ⊢
  have HWS := hide hws
  have HLEN := hide hlen
  have B0' := hide (B0.out.below hb2 B0.out.lt)
  have B2' := hide (B2.out.below hb2 B2.out.lt)
  have HB' := hide (HB.out.trans (hb2.mono HB.out.size))
  clear hws hlen B0 B1 B2 HB hb2
  go_wp2
  go_loopw [5, 6, 7, 8, 9, 10, 11, 12, 35] (fun s5 s6 s7 s8 s9 s10 s11 s12 i wr => ∃ k : Nat, k ≤ 64 ∧ i = .int .i64 k ∧ WdAt (roundsN kL ws s k) s5 s6 s7 s8 s9 s10 s11 s12 ∧ Bk wr w.heap.size 75 (cw s.list) ∧ Bk wr (w.heap.size + 1 + 1) 75 (cw (List.replicate 8 0)) ∧ Below w.heap.size w wr) (fun _ _ _ _ _ _ _ _ i _ => 64 - (intOf i).toNat)
  case atStart => exact ⟨0, Nat.zero_le _, rfl, by rw [roundsN_zero]; exact ⟨rfl, rfl, rfl, rfl, rfl, rfl, rfl, rfl⟩, B0'.out, B2'.out, HB'.out⟩
  case round =>
    obtain ⟨k, hk, rfl, hwd, b0, b2, hb⟩ := hrel
    have hok := roundsN_ok kL ws hs k
    by_cases hlt64 : k < 64
    · have HS := hide (roundsN_succ kL ws s k)
      generalize roundsN kL ws s k = v at *
      obtain ⟨rfl, rfl, rfl, rfl, rfl, rfl, rfl, rfl⟩ := hwd
      have hix := fun W => run_index_row (P := Tryd.prog) (w := W) Tryd.underlying92 Tryd.underlying74 (by kernel_rfl) hlt64 (cw_at (l := ws) (i := k) (by rw [HLEN.out]; exact hlt64))
      have hwk := hlt.lt k
      have hkk := kL_lt.lt k
      have hcK : wr.cell? ⟨2, k, none⟩ = some (.int .u32 ((byteAt kL k : Nat) : Int)) := (hb.cell (p := ⟨2, k, none⟩) hp).trans (HT.out k hlt64)
      obtain ⟨a, b, c, d, e, f, g, h⟩ := v
      obtain ⟨oa, ob, oc, od, oe, of, og, oh⟩ := hok
      simp only at oa ob oc od oe of og oh ⊢
      have HT1 : Hid (t1N ⟨a, b, c, d, e, f, g, h⟩ (byteAt kL k) (byteAt ws k) = ((((h + g1N e) % 4294967296 + chN e f g) % 4294967296 + byteAt kL k) % 4294967296 + byteAt ws k) % 4294967296) := hide rfl
      have HT2 : Hid (t2N ⟨a, b, c, d, e, f, g, h⟩ = (g0N a + majN a b c) % 4294967296) := hide rfl
      generalize byteAt kL k = kk at *
      generalize byteAt ws k = wk at *
      have h1 := u32_and_nat e f oe of
      have h2 : bits .xor .u32 (if IntKind.u32.signed = true then -1 else IntKind.u32.max) (e : Int) = ((e ^^^ 4294967295 : Nat) : Int) := u32_not oe
      have h3 := u32_and_nat (e ^^^ 4294967295) g (xor_lt oe (by omega)) og
      have h4 := u32_xor_nat (e &&& f) ((e ^^^ 4294967295) &&& g) (and_lt _ oe) (and_lt _ (xor_lt oe (by omega)))
      have hz := g1N_lt oe
      have s1 := u32_sum h (g1N e)
      have s2 := u32_sum ((h + g1N e) % 4294967296) ((e &&& f) ^^^ ((e ^^^ 4294967295) &&& g))
      have s3 := u32_sum (((h + g1N e) % 4294967296 + ((e &&& f) ^^^ ((e ^^^ 4294967295) &&& g))) % 4294967296) kk
      have s4 := u32_sum ((((h + g1N e) % 4294967296 + ((e &&& f) ^^^ ((e ^^^ 4294967295) &&& g))) % 4294967296 + kk) % 4294967296) wk
      generalize hx1 : (h + g1N e) % 4294967296 = x1 at *
      generalize hx2 : (x1 + ((e &&& f) ^^^ ((e ^^^ 4294967295) &&& g))) % 4294967296 = x2 at *
      generalize hx3 : (x2 + kk) % 4294967296 = x3 at *
      generalize hx4 : (x3 + wk) % 4294967296 = x4 at *
      have HX := hide (And.intro hx1 (And.intro hx2 (And.intro hx3 hx4)))
      clear hx1 hx2 hx3 hx4
      have H0 := hide b0; have H2 := hide b2; have H3 := hide hb
      clear b0 b2 hb
      go_wp2_with fail
      go_quiet ((go_at_call 51; exact Calls.quiet_of_same ((great1_any e _ oe).mono (fun _ _ h => ⟨h.1, h.2.symm⟩))))
      refine post_overS (fun W => Bk W w.heap.size 75 (cw s.list) ∧ Bk W (w.heap.size + 1 + 1) 75 (cw (List.replicate 8 0)) ∧ Below w.heap.size w W) ⟨H0.out, H2.out, below_drewNS H3.out nq⟩ ?_
      clear H0 H2 H3 nq hcK h1 h2 h3 h4 s1 s2 s3 s4 hix hz
      rintro W3 ⟨b0, b2, hb⟩
      have H0 := hide b0; have H2 := hide b2; have H3 := hide hb
      clear b0 b2 hb
      have m1 := u32_and_nat a b oa ob
      have m2 := u32_and_nat a c oa oc
      have m3 := u32_and_nat b c ob oc
      have m4 := u32_xor_nat (a &&& b) (a &&& c) (and_lt _ oa) (and_lt _ oa)
      have m5 := u32_xor_nat ((a &&& b) ^^^ (a &&& c)) (b &&& c) (xor_lt (and_lt _ oa) (and_lt _ oa)) (and_lt _ ob)
      have m6 := u32_mod (g0N a) ((a &&& b) ^^^ (a &&& c) ^^^ (b &&& c))
      generalize hy : (g0N a + ((a &&& b) ^^^ (a &&& c) ^^^ (b &&& c))) % 4294967296 = y at *
      have m7 := u32_mod x4 y
      have m8 := u32_mod d x4
      generalize hx5 : (x4 + y) % 4294967296 = x5 at *
      generalize hx6 : (d + x4) % 4294967296 = x6 at *
      have HY := hide (And.intro hy (And.intro hx5 hx6))
      clear hy hx5 hx6
      go_wp2_with fail
      refine (great0_any a _ oa).mono ?_
      rintro e w' ⟨rfl, rfl⟩
      go_wp2
      go_roundw
      case rel =>
        refine ⟨k + 1, by omega, by go_num, ?_, H0.out, H2.out, H3.out⟩
        have e4 : t1N ⟨a, b, c, d, e, f, g, h⟩ kk wk = x4 := by
          obtain ⟨h1, h2, h3, h4⟩ := HX.out
          rw [HT1.out, ← h4, ← h3, ← h2]; rfl
        have e5 : t2N ⟨a, b, c, d, e, f, g, h⟩ = y := by rw [HT2.out]; exact HY.out.1
        have e6 : roundN ⟨a, b, c, d, e, f, g, h⟩ kk wk = ⟨x5, a, b, c, x6, e, f, g⟩ := by
          unfold roundN
          rw [e4, e5, HY.out.2.1, HY.out.2.2]
        rw [HS.out, e6]
        exact ⟨by rw [m7], rfl, rfl, rfl, by rw [m8], rfl, rfl, rfl⟩
      case measure => simp [intOf]; omega
    · have hk64 : k = 64 := by omega
      rw [hk64] at hwd
      have HSt : Hid (stepN kL s l = sumN s (roundsN kL ws s 64)) := hide (by rw [HWS.out]; rfl)
      have hlk : ¬ (k : Int) < 64 := by omega
      clear hk64 hlt64 hk hok
      generalize roundsN kL ws s 64 = v at *
      obtain ⟨rfl, rfl, rfl, rfl, rfl, rfl, rfl, rfl⟩ := hwd
      have B0 := hide b0; have B2 := hide b2; have HB := hide hb
      have c0 := b0.cell 0; have c1 := b0.cell 1; have c2 := b0.cell 2; have c3 := b0.cell 3; have c4 := b0.cell 4; have c5 := b0.cell 5; have c6 := b0.cell 6; have c7 := b0.cell 7
      rw [wd_cells] at c0 c1 c2 c3 c4 c5 c6 c7
      simp only [List.getElem?_toArray, List.getElem?_cons_zero, List.getElem?_cons_succ] at c0 c1 c2 c3 c4 c5 c6 c7
      clear b0 b2 hb
      have m0 := u32_mod s.a v.a; have m1 := u32_mod s.b v.b; have m2 := u32_mod s.c v.c; have m3 := u32_mod s.d v.d
      have m4 := u32_mod s.e v.e; have m5 := u32_mod s.f v.f; have m6 := u32_mod s.g v.g; have m7 := u32_mod s.h v.h
      generalize hr0 : (s.a + v.a) % 4294967296 = r0 at *
      generalize hr1 : (s.b + v.b) % 4294967296 = r1 at *
      generalize hr2 : (s.c + v.c) % 4294967296 = r2 at *
      generalize hr3 : (s.d + v.d) % 4294967296 = r3 at *
      generalize hr4 : (s.e + v.e) % 4294967296 = r4 at *
      generalize hr5 : (s.f + v.f) % 4294967296 = r5 at *
      generalize hr6 : (s.g + v.g) % 4294967296 = r6 at *
      generalize hr7 : (s.h + v.h) % 4294967296 = r7 at *
      have HSU : Hid (sumN s v = ⟨r0, r1, r2, r3, r4, r5, r6, r7⟩) := hide (by unfold sumN; rw [hr0, hr1, hr2, hr3, hr4, hr5, hr6, hr7])
      clear hr0 hr1 hr2 hr3 hr4 hr5 hr6 hr7
      go_wp2_with ((with_reducible show wpList _ _ _ (⟨none, .store _ _ _, _, _, _, _⟩ :: _) _ _); refine holdB ?_)
      refine heldB (wpList_store_wide rfl 75 (.tmp 4) (.tmp 117) rfl (w.heap.size + 1 + 1) 0 (cw [r0, r1, r2, r3, r4, r5, r6, r7]) rfl rfl 75 _ B2.out (by simp [cw_size]) size8 (cw_one _) ?_)
      intro w' hw'
      rw [setRow_all (by simp [cw_size])] at hw'
      have B1 := hide (hw'.out ▸ B2.out.setRow_same (cw [r0, r1, r2, r3, r4, r5, r6, r7]) : Bk w' _ _ _)
      have hb2 := hw'.out ▸ below_setRow HB.out (g := w.heap.size + 1 + 1) (by omega) (cw [r0, r1, r2, r3, r4, r5, r6, r7])
      clear hw' B0 B2 HB c0 c1 c2 c3 c4 c5 c6 c7
      go_wp2
      refine bodyPost_ret (v := .agg (cw [r0, r1, r2, r3, r4, r5, r6, r7])) ?_ rfl ⟨by rw [HSt.out, HSU.out]; rfl, hb2⟩
      exact results_cell (a := ⟨w.heap.size + 1 + 1, 0, none⟩) rfl rfl (B1.out.load Tryd.underlying75 rfl size8)
end Go.Proofs.YtoiffchhfnbooaaDoor

/-
  Slices of one-cell values of a call's own: append of one value. They speak of any program.
-/
namespace Go.Proofs.YtoiffchhfnbooaaDoor
set_option linter.unusedVariables false
set_option linter.unusedSimpArgs false
set_option linter.unusedVariables false
set_option linter.unusedSimpArgs false
open Go.RowKit

/-- the slice (A, n, c) is of one's own, from block base on, and holds the values vs -/
def OwnV (w : World) (base : Nat) (e : TypeId) (A : Option Addr) (n c : Nat) (vs : List Value) : Prop :=
  w.ownsRow base e 1 (.slice A n c) n vs
section
variable {w w' : World} {base n c : Nat} {e : TypeId} {A : Option Addr} {vs : List Value}
theorem OwnV.nil : OwnV w base e none 0 0 [] := ⟨by simp, .inl ⟨rfl, rfl⟩⟩
theorem OwnV.len (h : OwnV w base e A n c vs) : vs.length = n := by simpa using h.1
theorem OwnV.below (h : OwnV w base e A n c vs) (hb : Below w.heap.size w w') : OwnV w' base e A n c vs := by
  refine ⟨h.1, ?_⟩
  rcases h.2 with h0 | ⟨g, cap, cur, hv, hg, hh, r⟩
  · exact .inl h0
  · exact .inr ⟨g, cap, cur, hv, hg, (hb.block g (Array.getElem?_eq_some_iff.1 hh).1).trans hh, r⟩
theorem OwnV.alloc (h : OwnV w base e A n c vs) (o : Obj) : OwnV (w.alloc o) base e A n c vs := h.below ((Below.refl _ _).alloc (Nat.le_refl _) _)
theorem OwnV.cells (h : OwnV w base e A n c vs) (hn : 0 < n) : ∃ g, A = some ⟨g, 0, none⟩ ∧ base ≤ g ∧ g < w.heap.size ∧ ∀ i v, vs[i]? = some v → w.cell? ⟨g, i, none⟩ = some v := by
  have hlen := h.len
  rcases h.2 with ⟨_, h0⟩ | ⟨g, cap, cur, hv, hg, hh, hnc, hcm, hcs, htk⟩
  · omega
  · injection hv with hA _ hc
    subst hA
    refine ⟨g, rfl, hg, (Array.getElem?_eq_some_iff.1 hh).1, fun i v hi => ?_⟩
    have hil : i < vs.length := (List.getElem?_eq_some_iff.1 hi).1
    rw [cell_of_row w g i cur e (0, 0) hh]
    rw [← htk, List.getElem?_take, if_pos (by omega)] at hi
    simpa only [Array.getElem?_toList] using hi
end
section
variable {P : Program}
/-- append(s, v): the one value lies in a new block -/
theorem wpList_append_one {ops : Array Oper} {rest : List Oper} {o : Oper} {a : Act} {w : World} {Q : Exit → Act → World → Prop} (hgd : o.guard = none) (s x : Operand) (t : TypeId)
    (ho : o.op = .call { callee := .builtin .append, args := #[s, x], argTypes := #[t, t] }) {e : TypeId} (ht : P.underlying t = some (.slice e)) {zv : Value} {by_ : Nat}
    (he : (P.info? e).map (fun i => (i.zero, i.size, i.bytes)) = some (some zv, 1, by_)) (hzc : zv.cells.size = 1) (hby : by_ ≤ 24)
    (base : Nat) (A : Option Addr) (n c : Nat) (vs : List Value) (hs : a.eval s = .slice A n c) (hown : OwnV w base e A n c vs)
    (b off : Nat) (v : Value) (hx : a.eval x = .slice (some ⟨b, off, none⟩) 1 1) (hc : w.cell? ⟨b, off, none⟩ = some v) (hv : v.oneCell' = true) (hn : n ≤ 1000000) (hbase : base ≤ w.heap.size)
    (h : ∀ A2 c2 w', OwnV w' base e A2 (n + 1) c2 (vs ++ [v]) → Below base w w' → wpList P ops Q rest (a.put o.dst (.slice A2 (n + 1) c2)) w') : wpList P ops Q (o :: rest) a w :=
  wpList_plain hgd fun _ hK => by
    obtain ⟨i, hi, hz, hs', hby'⟩ := info_parts he
    obtain ⟨v', w', hrun, h1, h2, _, _⟩ := run_append_own_at (P := P) w base t o.type e i zv 1 by_ ht hi hz hs' hby' hzc (by omega) (.slice A n c) n vs hown ⟨b, off, none⟩ 1 1 [v] rfl
      (fun j u hu => by
        cases j with
        | zero => simp at hu; subst hu; rw [Addr.add_mid, Nat.add_zero]; exact hc
        | succ j => simp at hu) (by simpa using hv) (by unfold maxLen; omega) (Nat.le_trans (Nat.mul_le_mul_left _ hby) (by omega)) hbase
    have hsh : ∃ A2 c2, v' = .slice A2 (n + 1) c2 := by
      rcases h1.2 with ⟨rfl, h0⟩ | ⟨g, cap, cur, rfl, _⟩
      · rw [h0]; exact ⟨_, _, rfl⟩
      · exact ⟨_, _, rfl⟩
    obtain ⟨A2, c2, rfl⟩ := hsh
    unfold Oper.wp execOp
    simp only [ho, resolve, invoke, builtin, Sem.run_bind, Sem.run_pure, Result.andThen_ok, List.map_toArray, List.map_cons, List.map_nil, hs, hx, hrun]
    exact hK _ _ (h A2 c2 w' h1 ((Below.refl _ _).grown h2 hbase (fun k hk => (hown.lt k hk).1)))
end
end Go.Proofs.YtoiffchhfnbooaaDoor

/-
  Contracts over the document's own answer for layer 4: the first prime numbers, the first eight words, the constants.
-/
namespace Go.Proofs.YtoiffchhfnbooaaDoor
set_option linter.unusedVariables false
set_option linter.unusedSimpArgs false
set_option linter.unusedVariables false
set_option linter.unusedSimpArgs false
open Go.RowKit

theorem info_u64 : (Tryd.prog.info? 55).map (fun i => (i.zero, i.size, i.bytes)) = some (some (.int .u64 0), 1, 8) := by kernel_rfl
/-- numbers of 64 bits as cells -/
def lv (x : Nat) : Value := .int .u64 (x : Int)
theorem primesL_succ (p : Nat) : primesL (p + 1) = primesL p ++ if primeB p then [p] else [] := by
  unfold primesL
  rw [List.range_succ, List.filter_append]
  congr 1
  cases h : primeB p <;> simp [h]
theorem primesL_pre {p q : Nat} (h : p ≤ q) : primesL p <+: primesL q := by
  induction q with
  | zero => obtain rfl : p = 0 := by omega
            exact List.prefix_refl _
  | succ q ih =>
    by_cases e : p = q + 1
    · subst e; exact List.prefix_refl _
    · exact (ih (by omega)).trans (by rw [primesL_succ]; exact List.prefix_append _ _)
theorem primes_len : (primesL 312).length = 64 := by decide +kernel
theorem primes_lt {p n : Nat} (hn : n ≤ 64) (hp : p ≤ 312) (h : (primesL p).length < n) : p < 312 := by
  rcases Nat.lt_or_ge p 312 with h' | h'
  · exact h'
  · obtain rfl : p = 312 := by omega
    rw [primes_len] at h
    omega
theorem primes_take {p : Nat} (hp : p ≤ 312) : primesL p = (primesL 312).take (primesL p).length := (List.prefix_iff_eq_take.1 (primesL_pre hp))

end Go.Proofs.YtoiffchhfnbooaaDoor

/-
  Contracts over the document's own answer for layer 4: the first eight words, the constants.
-/
namespace Go.Proofs.YtoiffchhfnbooaaDoor
set_option linter.unusedVariables false
set_option linter.unusedSimpArgs false
set_option linter.unusedVariables false
set_option linter.unusedSimpArgs false
open Go.RowKit

/-- the first k of vals, then zeros -/
def partL (vals : List Nat) (k : Nat) : List Nat := vals.take k ++ List.replicate (vals.length - k) 0
theorem partL_length {vals : List Nat} {k : Nat} (h : k ≤ vals.length) : (partL vals k).length = vals.length := by
  unfold partL
  rw [List.length_append, List.length_take, List.length_replicate]
  omega
theorem partL_zero (vals : List Nat) : partL vals 0 = List.replicate vals.length 0 := by simp [partL]
theorem partL_all (vals : List Nat) : partL vals vals.length = vals := by simp [partL]
theorem partL_set {vals : List Nat} {k : Nat} (h : k < vals.length) {x : Nat} (hx : x = byteAt vals k) : (partL vals k).set k x = partL vals (k + 1) := by
  unfold partL
  rw [List.set_append_right _ _ (by rw [List.length_take]; omega), List.length_take, Nat.min_eq_left (by omega), Nat.sub_self, take_snoc' vals k h,
    show vals.length - k = (vals.length - (k + 1)) + 1 by omega, List.replicate_succ, List.set_cons_zero, hx, List.append_assoc]
  rfl
theorem primes8 : (primesL 312).take 8 = [2, 3, 5, 7, 11, 13, 17, 19] := by decide +kernel
theorem map_at {f : Nat → Nat} {l : List Nat} {k : Nat} (h : k < l.length) : byteAt (l.map f) k = f (byteAt l k) := by
  unfold byteAt
  simp [h]
theorem lv_at {l : List Nat} {k : Nat} (h : k < l.length) : (l.map lv)[k]? = some (.int .u64 ((byteAt l k : Nat) : Int)) := by
  unfold byteAt lv
  simp [h]
theorem primes_small (n k : Nat) : byteAt ((primesL 312).take n) k ≤ 400 := by
  unfold byteAt
  rw [List.getD_eq_getElem?_getD]
  cases hx : ((primesL 312).take n)[k]? with
  | none => simp
  | some x =>
    have h1 := List.mem_of_mem_take (List.mem_of_getElem? hx)
    unfold primesL at h1
    have := List.mem_range.1 (List.mem_filter.1 h1).1
    simp; omega
theorem first_at {k : Nat} (h : k < 8) : sqN (byteAt ((primesL 312).take 8) k) 37 % 4294967296 = byteAt firstL k := by
  rw [← sqs, primes8]
  exact (map_at (f := fun p => sqN p 37 % 4294967296) (by simpa using h)).symm
theorem const_at {k : Nat} (h : k < 64) : cuN (byteAt ((primesL 312).take 64) k) 37 % 4294967296 = byteAt kL k := by
  rw [← cus, List.take_of_length_le (by rw [primes_len]; omega)]
  exact (map_at (f := fun p => cuN p 37 % 4294967296) (by rw [primes_len]; exact h)).symm

end Go.Proofs.YtoiffchhfnbooaaDoor

/-
  Contracts over the document's own answer for layer 4: a block's step.
-/
namespace Go.Proofs.YtoiffchhfnbooaaDoor
set_option linter.unusedVariables false
set_option linter.unusedSimpArgs false
set_option linter.unusedVariables false
set_option linter.unusedSimpArgs false
open Go.RowKit

theorem mul_byte {x c : Nat} : IntKind.u32.wrap (IntKind.u32.wrap ((x : Int) * 256) + (c : Int)) = (((x * 256 + c) % 4294967296 : Nat) : Int) := by
  rw [IntKind.wrap_u32', IntKind.wrap_u32']; omega

/-- words added to words, place by place -/
def addNS (vs hs : List Nat) : Nat → List Nat
  | 0 => vs
  | k + 1 => (addNS vs hs k).set k ((byteAt (addNS vs hs k) k + byteAt hs k) % 4294967296)
theorem addN_zero (vs hs : List Nat) : addNS vs hs 0 = vs := rfl
theorem addN_succ (vs hs : List Nat) (k : Nat) : addNS vs hs (k + 1) = (addNS vs hs k).set k ((byteAt (addNS vs hs k) k + byteAt hs k) % 4294967296) := rfl
theorem addN_length (vs hs : List Nat) : ∀ k, (addNS vs hs k).length = vs.length
  | 0 => rfl
  | k + 1 => by rw [addNS, List.length_set, addN_length vs hs k]
theorem addN_all (v s : Wd) : addNS v.list s.list 8 = (sumN s v).list := by
  unfold sumN
  simp only [Nat.add_comm s.a, Nat.add_comm s.b, Nat.add_comm s.c, Nat.add_comm s.d, Nat.add_comm s.e, Nat.add_comm s.f, Nat.add_comm s.g, Nat.add_comm s.h]
  rfl
attribute [irreducible] addNS
/-- what the document's step holds in memory: the box of the words, the constants, the result, the block's words -/
structure RSt (w : World) (s : Wd) (ws : List Nat) (wr : World) : Prop where
  h : Bk wr w.heap.size 75 (cw s.list)
  k : Bk wr (w.heap.size + 1) 92 (cw kL)
  r : Bk wr (w.heap.size + 1 + 1) 75 (cw (List.replicate 8 0))
  ws : Bk wr (w.heap.size + 1 + 1 + 1) 92 (cw ws)
  b : Below w.heap.size w wr
theorem RSt.put {w wr : World} {s : Wd} {ws : List Nat} (h : RSt w s ws wr) (i x : Nat) {z : Int} (hz : z = (x : Int)) : RSt w s (ws.set i x) (wr.setCell ⟨w.heap.size + 1 + 1 + 1, i, none⟩ (.int .u32 z)) :=
  ⟨h.h.far (by show w.heap.size ≠ w.heap.size + 1 + 1 + 1; omega) _, h.k.far (by show w.heap.size + 1 ≠ w.heap.size + 1 + 1 + 1; omega) _, h.r.far (by show w.heap.size + 1 + 1 ≠ w.heap.size + 1 + 1 + 1; omega) _, h.ws.putw i x hz, h.b.setCell (by show w.heap.size ≤ w.heap.size + 1 + 1 + 1; omega) _⟩
theorem RSt.drew {w wr : World} {s : Wd} {ws : List Nat} (h : RSt w s ws wr) : RSt w s ws wr.drew := ⟨h.h.drew, h.k.drew, h.r.drew, h.ws.drew, h.b.drew⟩
theorem RSt.drewN {w wr : World} {s : Wd} {ws : List Nat} (h : RSt w s ws wr) (n : Nat) : RSt w s ws (wr.drewN n) := ⟨h.h, h.k, h.r, h.ws, below_drewNS h.b n⟩

theorem RSt.alloc {w wr : World} {s : Wd} {ws : List Nat} (h : RSt w s ws wr) (o : Obj) : RSt w s ws (wr.alloc o) := ⟨h.h.alloc o, h.k.alloc o, h.r.alloc o, h.ws.alloc o, h.b.alloc h.b.size o⟩
theorem RSt.row {w wr : World} {s : Wd} {ws : List Nat} (h : RSt w s ws wr) {g : Nat} (hg : w.heap.size + 1 + 1 + 1 < g) (cs : Array Value) : RSt w s ws (wr.setRow g cs) :=
  ⟨h.h.setRow_other (by omega) cs, h.k.setRow_other (by omega) cs, h.r.setRow_other (by omega) cs, h.ws.setRow_other (by omega) cs, below_setRow h.b (by omega) cs⟩
theorem RSt.far {w wr : World} {s : Wd} {ws : List Nat} (h : RSt w s ws wr) {g i : Nat} (hg : w.heap.size + 1 + 1 + 1 < g) (u : Value) : RSt w s ws (wr.setCell ⟨g, i, none⟩ u) :=
  ⟨h.h.far (by show w.heap.size ≠ g; omega) _, h.k.far (by show w.heap.size + 1 ≠ g; omega) _, h.r.far (by show w.heap.size + 1 + 1 ≠ g; omega) _, h.ws.far (by show w.heap.size + 1 + 1 + 1 ≠ g; omega) _, h.b.setCell (by show w.heap.size ≤ g; omega) _⟩
theorem wd_at {W : World} {g : Nat} {t : TypeId} {v : Wd} (h : Bk W g t (cw v.list)) :
    W.cell? ⟨g, 0, none⟩ = some (.int .u32 (v.a : Int)) ∧ W.cell? ⟨g, 1, none⟩ = some (.int .u32 (v.b : Int)) ∧ W.cell? ⟨g, 2, none⟩ = some (.int .u32 (v.c : Int)) ∧ W.cell? ⟨g, 3, none⟩ = some (.int .u32 (v.d : Int)) ∧
    W.cell? ⟨g, 4, none⟩ = some (.int .u32 (v.e : Int)) ∧ W.cell? ⟨g, 5, none⟩ = some (.int .u32 (v.f : Int)) ∧ W.cell? ⟨g, 6, none⟩ = some (.int .u32 (v.g : Int)) ∧ W.cell? ⟨g, 7, none⟩ = some (.int .u32 (v.h : Int)) :=
  ⟨h.cell 0, h.cell 1, h.cell 2, h.cell 3, h.cell 4, h.cell 5, h.cell 6, h.cell 7⟩

end Go.Proofs.YtoiffchhfnbooaaDoor
