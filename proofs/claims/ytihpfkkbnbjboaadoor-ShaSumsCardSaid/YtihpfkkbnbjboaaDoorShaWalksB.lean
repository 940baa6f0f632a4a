/-
  Contracts over package sha: a block's words W0 to W63.
-/
import Derived.Test.YtihpfkkbnbjboaaDoorShaWalksA
import Derived.BigRegion
import Derived.StillTailTactics
import Derived.IntWalk
namespace Go.Proofs.YtihpfkkbnbjboaaDoor
set_option linter.unusedVariables false
set_option linter.unusedSimpArgs false
open Go.RowKit

/-- words and bytes as cells -/
def uv (x : Nat) : Value := .int .u32 (x : Int)
def cw (l : List Nat) : Array Value := (l.map uv).toArray
def cb (l : List Nat) : Array Value := (l.map bv).toArray
theorem cw_size (l : List Nat) : (cw l).size = l.length := by simp [cw]
theorem cb_size (l : List Nat) : (cb l).size = l.length := by simp [cb]
theorem cw_at {l : List Nat} {i : Nat} (h : i < l.length) : (cw l)[i]? = some (.int .u32 ((byteAt l i : Nat) : Int)) := by
  unfold cw byteAt uv
  simp [h]
theorem cb_at {l : List Nat} {i : Nat} (h : i < l.length) : (cb l)[i]? = some (.int .u8 ((byteAt l i : Nat) : Int)) := by
  unfold cb byteAt bv
  simp [h]
theorem cw_set (l : List Nat) (i x : Nat) : (cw l).setIfInBounds i (.int .u32 (x : Int)) = cw (l.set i x) := by
  unfold cw
  rw [List.map_set, ← List.setIfInBounds_toArray]
  rfl
theorem cb_set (l : List Nat) (i x : Nat) : (cb l).setIfInBounds i (.int .u8 (x : Int)) = cb (l.set i x) := by
  unfold cb
  rw [List.map_set, ← List.setIfInBounds_toArray]
  rfl
theorem cw_one (l : List Nat) : ∀ v ∈ (cw l).toList, v.oneCell' = true := by
  intro v hv
  simp only [cw, List.mem_map] at hv
  obtain ⟨x, _, rfl⟩ := hv
  rfl
theorem cb_one (l : List Nat) : ∀ v ∈ (cb l).toList, v.oneCell' = true := by
  intro v hv
  simp only [cb] at hv
  exact bv_one l v hv
theorem Bk.word {w : World} {g : Nat} {t : TypeId} {l : List Nat} (h : Bk w g t (cw l)) {i : Nat} (hi : i < l.length) : w.cell? ⟨g, i, none⟩ = some (.int .u32 ((byteAt l i : Nat) : Int)) := (h.cell i).trans (cw_at hi)
theorem Bk.byte {w : World} {g : Nat} {t : TypeId} {l : List Nat} (h : Bk w g t (cb l)) {i : Nat} (hi : i < l.length) : w.cell? ⟨g, i, none⟩ = some (.int .u8 ((byteAt l i : Nat) : Int)) := (h.cell i).trans (cb_at hi)
theorem Bk.putw {w : World} {g : Nat} {t : TypeId} {l : List Nat} (h : Bk w g t (cw l)) (i x : Nat) {z : Int} (hz : z = (x : Int)) : Bk (w.setCell ⟨g, i, none⟩ (.int .u32 z)) g t (cw (l.set i x)) := by
  subst hz; rw [← cw_set]; exact h.put i _
theorem Bk.putb {w : World} {g : Nat} {t : TypeId} {l : List Nat} (h : Bk w g t (cb l)) (i x : Nat) {z : Int} (hz : z = (x : Int)) : Bk (w.setCell ⟨g, i, none⟩ (.int .u8 z)) g t (cb (l.set i x)) := by
  subst hz; rw [← cb_set]; exact h.put i _
theorem zero64 : (Tryd.prog.info? 44).map (·.zero) = some (some (.agg (cw (List.replicate 64 0)))) := by kernel_rfl
theorem zero32 : (Tryd.prog.info? 24).map (·.zero) = some (some (.agg (cb (List.replicate 32 0)))) := by kernel_rfl
theorem zero8 : (Tryd.prog.info? 31).map (·.zero) = some (some (.agg (cw (List.replicate 8 0)))) := by kernel_rfl
theorem zeroSec : (Tryd.prog.info? 32).map (·.zero) = some (some (.agg (cb (List.replicate 64 0)))) := by kernel_rfl
theorem size64 : (Tryd.prog.info? 44).map (·.size) = some 64 := by kernel_rfl
theorem size32 : (Tryd.prog.info? 24).map (·.size) = some 32 := by kernel_rfl
theorem size8 : (Tryd.prog.info? 31).map (·.size) = some 8 := by kernel_rfl
theorem sizeSec : (Tryd.prog.info? 32).map (·.size) = some 64 := by kernel_rfl

theorem byte_lt256 {l : List Nat} (h : ∀ x ∈ l, x < 256) (i : Nat) : byteAt l i < 256 := by
  unfold byteAt
  rw [List.getD_eq_getElem?_getD]
  cases hx : l[i]? with
  | none => simp
  | some x => exact h x (List.mem_of_getElem? hx)
section
variable {P : Program}
theorem run_index_row {w : World} {t e : TypeId} {n : Nat} {cs : Array Value} {v : Value} {k : IntKind} (ht : P.underlying t = some (.array n e)) (he : P.underlying e = some (.int k)) (hs : (P.info? e).map (·.size) = some 1) {i : Nat} (hi : i < n) (hc : cs[i]? = some v) :
    (Instr.index t (.agg cs) (.int .i64 (i : Int))).run P w = .ok v w := by
  cases hq : P.info? e with
  | none => simp [hq] at hs
  | some d =>
    have hd : d.size = 1 := by simpa [hq] using hs
    simp [Instr.index, asIntOf, run_underlying ht, hi, sizeOf, typeInfo, hq, hd, part, isAgg, run_underlying he, hc]
theorem wpList_over {ops : Array Oper} {l : List Oper} {a : Act} {W : World} {Q : Exit → Act → World → Prop} (F : World → Prop) (hF : F W) (h : ∀ W', F W' → wpList P ops Q l a W') : wpList P ops Q l a W := h W hF
theorem post_over {K : Act → World → Prop} {Q : Exit → Act → World → Prop} {e : Exit} {a : Act} {W : World} (F : World → Prop) (hF : F W) (h : ∀ W', F W' → Exit.then K Q e a W') : Exit.then K Q e a W := h W hF
theorem code_over {c : Code} {a : Act} {W : World} {Q : Exit → Act → World → Prop} (F : World → Prop) (hF : F W) (h : ∀ W', F W' → c.wp P Q a W') : c.wp P Q a W := h W hF
end
theorem shl_byte {x c : Nat} (hx : x < 4294967296) (hc : c < 256) : bits .or .u32 ((x : Int) * 256 % 4294967296) (c : Int) = (((x * 256 + c) % 4294967296 : Nat) : Int) := by
  have h := u32_or_nat (x * 256 % 4294967296) c (by omega) (by omega)
  rw [nat_join 8 _ _ (by omega) (by omega)] at h
  rw [show (x : Int) * 256 % 4294967296 = ((x * 256 % 4294967296 : Nat) : Int) by omega, h]
  omega

set_option maxRecDepth 20000 in
set_option maxHeartbeats 1000000 in
theorem spread_any (l : List Nat) (w : World) (hl : l.length = 64) (hby : ∀ x ∈ l, x < 256) : Calls Tryd.prog 24 #[.agg (cb l)] w fun e w' => e = .returned (.agg (cw (schedN l))) ∧ Below w.heap.size w w' := by
  have HL := hide hl
  clear hl
  go_enter Tryd.func24, Tryd.ntmps24
  go_wp2_with ((with_reducible show wpList _ _ _ (⟨some 2, _, _, _, _, _⟩ :: _) _ _); refine hold ?_)
  refine held (wpList_alloc_to rfl 44 rfl _ zero64 ?_)
  go_wp2_with ((with_reducible show wpList _ _ _ (⟨some 3, _, _, _, _, _⟩ :: _) _ _); refine hold ?_)
  refine held (wpList_alloc_to rfl 44 rfl _ zero64 ?_)
  have b0 : Bk (((w.alloc (.cells (cb l) 32)).alloc (.cells (cw (List.replicate 64 0)) 44)).alloc (.cells (cw (List.replicate 64 0)) 44)) w.heap.size 32 (cb l) := ((Bk.new w _ _).alloc _).alloc _
  have b1 : Bk (((w.alloc (.cells (cb l) 32)).alloc (.cells (cw (List.replicate 64 0)) 44)).alloc (.cells (cw (List.replicate 64 0)) 44)) (w.heap.size + 1) 44 (cw (List.replicate 64 0)) := (Bk.new2 w _ _ _).alloc _
  have b2 : Bk (((w.alloc (.cells (cb l) 32)).alloc (.cells (cw (List.replicate 64 0)) 44)).alloc (.cells (cw (List.replicate 64 0)) 44)) (w.heap.size + 1 + 1) 44 (cw (List.replicate 64 0)) := Bk.new3 w _ _ _ _
  have hb0 : Below w.heap.size w (((w.alloc (.cells (cb l) 32)).alloc (.cells (cw (List.replicate 64 0)) 44)).alloc (.cells (cw (List.replicate 64 0)) 44)) := (((Below.refl _ _).alloc (Nat.le_refl _) _).alloc (by simp) _).alloc (by simp; omega) _
  refine wpList_over (fun W => Bk W w.heap.size 32 (cb l) ∧ Bk W (w.heap.size + 1) 44 (cw (List.replicate 64 0)) ∧ Bk W (w.heap.size + 1 + 1) 44 (cw (List.replicate 64 0)) ∧ Below w.heap.size w W) ⟨b0, b1, b2, hb0⟩ ?_
  clear b0 b1 b2 hb0
  rintro W ⟨b0, b1, b2, hb0⟩
  have HB1 := hide b1
  clear b1
  go_wp2_with ((with_reducible show wpList _ _ _ (⟨some 7, _, _, _, _, _⟩ :: _) _ _); refine hold ?_)
  refine held (wpList_load_mid rfl 32 (.tmp 1) rfl w.heap.size 0 rfl _ _ b0.range Tryd.underlying32 rfl (by rw [Array.length_toList, cb_size, HL.out]; exact sizeSec) ?_)
  go_wp2
  go_loopw [8] (fun i wr => ∃ k : Nat, k ≤ 64 ∧ i = .int .i64 k ∧ Bk wr (w.heap.size + 1) 44 (cw (List.replicate 64 0)) ∧ Bk wr (w.heap.size + 1 + 1) 44 (cw (fillN l k)) ∧ Below w.heap.size w wr) (fun i _ => 64 - (intOf i).toNat)
  case atStart => exact ⟨0, Nat.zero_le _, rfl, HB1.out, by rw [fillN_zero]; exact b2, hb0⟩
  case round =>
    obtain ⟨k, hk, rfl, b1, b2, hb⟩ := hrel
    by_cases hlt : k < 64
    · have hq : k / 4 < 64 := by omega
      have hc := b2.word (i := k / 4) (by rw [fillN_length]; exact hq)
      have hf := b2.frozen (k / 4)
      have hx := (fillN_lt l k).lt (k / 4)
      have hcb := cb_at (l := l) (i := k) (by rw [HL.out]; exact hlt)
      have hyk := byte_lt256 hby k
      have hs := shl_byte hx hyk
      have hix := fun W => run_index_row (P := Tryd.prog) (w := W) Tryd.underlying32 Tryd.underlying5 (by kernel_rfl) hlt hcb
      have HF : Hid (fillN l (k + 1) = (fillN l k).set (k / 4) ((byteAt (fillN l k) (k / 4) * 256 + byteAt l k) % 4294967296)) := hide (fillN_succ l k)
      have HB2 := hide b2
      clear b2
      generalize byteAt (fillN l k) (k / 4) = x at *
      generalize byteAt l k = y at *
      go_wp2
      go_roundw
      case rel => exact ⟨k + 1, by omega, by go_num, b1.far (by simp) _, by rw [HF.out]; exact HB2.out.putw _ _ (by omega), hb.setCell (by simp; omega) _⟩
      case measure => simp [intOf]; omega
    · have hk64 : k = 64 := by omega
      have e0 : fillN l 64 = extN (fillN l 64) 0 := (extN_zero _).symm
      rw [hk64, e0] at b2
      have hlk : ¬ (k : Int) < 64 := by omega
      clear e0 hk64 hlt hk
      go_wp2
      go_loopw [6] (fun i wr => ∃ m : Nat, m ≤ 48 ∧ i = .int .i64 ((16 + m : Nat) : Int) ∧ Bk wr (w.heap.size + 1) 44 (cw (List.replicate 64 0)) ∧ Bk wr (w.heap.size + 1 + 1) 44 (cw (extN (fillN l 64) m)) ∧ Below w.heap.size w wr) (fun i _ => 64 - (intOf i).toNat)
      case atStart => exact ⟨0, Nat.zero_le _, rfl, b1, b2, hb⟩
      case round =>
        obtain ⟨m, hm, rfl, b1, b2, hb⟩ := hrel
        by_cases hlt : m < 48
        · have hlen : (extN (fillN l 64) m).length = 64 := by rw [extN_length, fillN_length]
          have hw := extN_lt (fillN_lt l 64) m
          have c2 := b2.word (i := m + 14) (by omega)
          have c7 := b2.word (i := m + 9) (by omega)
          have c15 := b2.word (i := m + 1) (by omega)
          have c16 := b2.word (i := m) (by omega)
          have hf := b2.frozen (16 + m)
          have c0 := b2.word (i := 16 + m) (by omega)
          have x2 := hw.lt (m + 14)
          have x7 := hw.lt (m + 9)
          have x15 := hw.lt (m + 1)
          have x16 := hw.lt m
          have HF : Hid (extN (fillN l 64) (m + 1) = (extN (fillN l 64) m).set (16 + m) (nextN (extN (fillN l 64) m) (16 + m))) := hide (extN_succ _ m)
          have HN : Hid (nextN (extN (fillN l 64) m) (16 + m) = (((s1N (byteAt (extN (fillN l 64) m) (m + 14)) + byteAt (extN (fillN l 64) m) (m + 9)) % 4294967296 + s0N (byteAt (extN (fillN l 64) m) (m + 1))) % 4294967296 + byteAt (extN (fillN l 64) m) m) % 4294967296) := by
            unfold nextN
            rw [show 16 + m - 2 = m + 14 by omega, show 16 + m - 7 = m + 9 by omega, show 16 + m - 15 = m + 1 by omega, show 16 + m - 16 = m by omega]
            exact hide rfl
          have HB2 := hide b2
          clear b2 hw hlen
          generalize byteAt (extN (fillN l 64) m) (m + 14) = y2 at *
          generalize byteAt (extN (fillN l 64) m) (m + 9) = y7 at *
          generalize byteAt (extN (fillN l 64) m) (m + 1) = y15 at *
          generalize byteAt (extN (fillN l 64) m) m = y16 at *
          generalize byteAt (extN (fillN l 64) m) (16 + m) = y0 at *
          have hz7 := s1N_lt x2
          have hz15 := s0N_lt x15
          have e2 : IntKind.i64.wrap (16 + (m : Int) - 2) = ((m + 14 : Nat) : Int) := by rw [IntWalk.i64_in _ (by omega)]; omega
          have e7 : IntKind.i64.wrap (16 + (m : Int) - 7) = ((m + 9 : Nat) : Int) := by rw [IntWalk.i64_in _ (by omega)]; omega
          have e15 : IntKind.i64.wrap (16 + (m : Int) - 15) = ((m + 1 : Nat) : Int) := by rw [IntWalk.i64_in _ (by omega)]; omega
          have e16 : IntKind.i64.wrap (16 + (m : Int) - 16) = (m : Int) := by rw [IntWalk.i64_in _ (by omega)]; omega
          have et : ((16 : Int) + (m : Int)).toNat = 16 + m := by omega
          generalize h14 : m + 14 = m14 at *
          generalize h9 : m + 9 = m9 at *
          generalize h1 : m + 1 = m1 at *
          have q2 : (m14 : Int) < 64 := by omega
          have q7 : (m9 : Int) < 64 := by omega
          have q15 : (m1 : Int) < 64 := by omega
          have q16 : (m : Int) < 64 := by omega
          have q0 : (0 : Int) ≤ 16 + (m : Int) := by omega
          have H1 := hide h1
          clear h14 h9 h1
          go_wp2_with fail
          refine wp_region_still_tail 23 (by kernel_rfl) (by kernel_rfl) ?_
          simp only [List.take_succ_cons, List.take_zero, List.drop_succ_cons, List.drop_zero]
          repeat still_step
          still_call ((small1_any y2 _ x2).mono (fun _ _ h => ⟨h.1, h.2.symm⟩))
          repeat still_step
          still_call ((small0_any y15 _ x15).mono (fun _ _ h => ⟨h.1, h.2.symm⟩))
          repeat still_step
          refine wpStill_nil ?_
          change wpList _ _ _ _ _ wr.drew
          have hf2 : wr.drew.frozen? ⟨w.heap.size + 1 + 1, 16 + m, none⟩ = false := hf
          have cc : wr.drew.cell? ⟨w.heap.size + 1 + 1, 16 + m, none⟩ = some (.int .u32 (y0 : Int)) := c0
          have B1 := hide b1.drew
          have B2 := hide HB2.out.drew
          have B3 := hide hb.drew
          clear b1 HB2 hb hf c0 c2 c7 c15 c16 e2 e7 e15 e16
          generalize wr.drew = W3 at *
          clear q2 q7 q15 q16 x2 x7 x15 x16 hz7 hz15 
          go_wp2
          go_roundw
          case rel =>
            refine ⟨m1, by have := H1.out; omega, by have := H1.out; go_num, B1.out.far (by simp) _, ?_, B3.out.setCell (by simp; omega) _⟩
            rw [HF.out]
            exact B2.out.putw _ _ (by rw [HN.out]; omega)
          case measure => simp [intOf]; omega
        · have hm48 : m = 48 := by omega
          rw [hm48, schedN_eq] at b2
          have hlm : ¬ (16 : Int) + (m : Int) < 64 := by omega
          clear hm48 hlt hm
          have hlen := schedN_length l
          obtain ⟨ws, hws⟩ : ∃ ws, ws = schedN l := ⟨_, rfl⟩
          rw [← hws] at hlen b2
          have HWS := hide hws
          clear hws
          have hsz : (cw ws).size = 64 := by rw [cw_size, hlen]
          have HLEN := hide hlen
          clear hlen
          go_wp2_with ((with_reducible show wpList _ _ _ (⟨some 51, _, _, _, _, _⟩ :: _) _ _); refine hold ?_)
          refine held (wpList_load_mid rfl 44 (.tmp 3) rfl (w.heap.size + 1 + 1) 0 rfl _ _ b2.range Tryd.underlying44 rfl (by rw [Array.length_toList, hsz]; exact size64) ?_)
          rw [Array.toArray_toList]
          refine wpList_store_wide rfl 44 (.tmp 2) (.tmp 51) rfl (w.heap.size + 1) 0 (cw ws) rfl rfl 44 _ b1 (by rw [cw_size, cw_size, HLEN.out]; simp) (by rw [hsz]; exact size64) (cw_one _) ?_
          intro w' hw'
          rw [setRow_all (by rw [hsz, cw_size]; simp)] at hw'
          have B1 := hide (hw'.out ▸ b1.setRow_same (cw ws) : Bk w' _ _ _)
          have hb2 := hw'.out ▸ below_setRow hb (g := w.heap.size + 1) (by omega) (cw ws)
          clear hw' b1 b2 hb
          go_wp2
          refine bodyPost_ret (v := .agg (cw ws)) ?_ rfl ⟨by rw [HWS.out], hb2⟩
          exact results_cell (a := ⟨w.heap.size + 1, 0, none⟩) rfl rfl (B1.out.load Tryd.underlying44 rfl (by rw [hsz]; exact size64))
end Go.Proofs.YtihpfkkbnbjboaaDoor
