/-
  Contracts over package name: how a pattern goes on over a name, byte by byte.
-/
import Derived.Test.YtbegklhbhafmeaaDoorQNameB
import Derived.Test.YtbegklhbhafmeaaDoorQWide
import Derived.Deep.RegionHeld
import Derived.StillTailTactics
namespace Go.Proofs.YtbegklhbhafmeaaDoor
set_option linter.unusedVariables false
set_option linter.unusedSimpArgs false
open Go.RowKit
set_option linter.unusedVariables false
set_option linter.unusedSimpArgs false

/-- the load of a whole value -/
theorem exec_load {P : Program} {o : Oper} {ρ : Operand → Value} {w : World} {ty : TypeId} {x : Operand} (ho : o.op = .load ty x) {b off : Nat} (hx : ρ x = .pointer (some ⟨b, off, none⟩)) {cs : Array Value} {d : TypeDesc} (hc : w.rangeAt b off cs.toList)
    (hu : P.underlying ty = some d) (hd : d.isRow = true) (hi : (P.info? ty).map (·.size) = some cs.size) : (execOp ρ o).run P w = .ok (.value (.agg cs)) w := by
  unfold execOp
  simp only [ho, hx, Instr.loadAt, Instr.sureAddr, Sem.run_bind, Sem.run_pure, Result.andThen_ok, run_loadVar_mid w b off ty cs.toList d hc hu hd (by rw [Array.length_toList]; exact hi), Array.toArray_toList]

section
variable {P : Program} {ops : Array Oper} {w : World}
theorem wpStill_value {Q : Act → Prop} {a : Act} {op : Oper} {rest : List Oper} {v : Value} (hw : Region.wanted op (yielded ops a.tmps) = true)
    (hv : (execOp a.eval op).run P w = .ok (.value v) w) (h : wpStill P ops w Q rest (a.put op.dst v)) : wpStill P ops w Q (op :: rest) a := wpStill_step fun K hK => by
  rw [if_pos hw]
  have h := hK _ h
  unfold Oper.still
  rw [hv]
  exact ⟨rfl, h⟩
theorem wpStill_load_mid {Q : Act → Prop} {a : Act} {op : Oper} {rest : List Oper} (hw : Region.wanted op (yielded ops a.tmps) = true) (ty : TypeId) (x : Operand) (ho : op.op = .load ty x)
    (b o : Nat) (hx : a.eval x = .pointer (some ⟨b, o, none⟩)) (cs : List Value) (d : TypeDesc) (hc : w.rangeAt b o cs)
    (hu : P.underlying ty = some d) (hd : d.isRow = true) (hi : (P.info? ty).map (·.size) = some cs.length)
    (h : wpStill P ops w Q rest (a.put op.dst (.agg cs.toArray))) : wpStill P ops w Q (op :: rest) a := by
  refine wpStill_value hw ?_ h
  unfold execOp
  simp only [ho, hx, Instr.loadAt, Instr.sureAddr, Sem.run_bind, Sem.run_pure, Result.andThen_ok, run_loadVar_mid w b o ty cs d hc hu hd hi]
end

/-- an array of bools -/
def ba (l : List Bool) : Array Value := (l.map Value.bool).toArray
theorem ba_size (l : List Bool) : (ba l).size = l.length := by simp [ba]
theorem ba_at {l : List Bool} {i : Nat} {b : Bool} (h : l[i]? = some b) : (ba l)[i]? = some (.bool b) := by simp [ba, h]
theorem ba_set (l : List Bool) (i : Nat) (b : Bool) : (ba l).setIfInBounds i (.bool b) = ba (l.set i b) := by simp [ba, List.map_set]
theorem ba_one (l : List Bool) : ∀ v ∈ (ba l).toList, v.oneCell' = true := fun v hv => by
  simp only [ba, List.mem_map] at hv
  obtain ⟨b, _, rfl⟩ := hv
  rfl
theorem fnV_length (m : Nat) (f : Nat → Bool) : (fnV m f).length = m := by simp [fnV]
theorem size41 : (Tryd.prog.info? 41).map (·.size) = some 41 := by kernel_rfl
theorem zero41 : (Tryd.prog.info? 41).map (·.zero) = some (some (.agg (ba (List.replicate 41 false)))) := by kernel_rfl
theorem Bk.bcell {w : World} {g : Nat} {t : TypeId} {l : List Bool} (h : Bk w g t (ba l)) {i : Nat} {b : Bool} (hb : l[i]? = some b) : w.cell? ⟨g, i, none⟩ = some (.bool b) := by rw [h.cell]; exact ba_at hb
theorem Bk.bput {w : World} {g : Nat} {t : TypeId} {l l' : List Bool} (h : Bk w g t (ba l)) (i : Nat) (b : Bool) (e : l.set i b = l') : Bk (w.setCell ⟨g, i, none⟩ (.bool b)) g t (ba l') := by
  rw [← e, ← ba_set]; exact h.put i _

set_option maxRecDepth 20000 in
set_option maxHeartbeats 2000000 in
theorem nmstep_any (p : List Nat) (s : ByteArray) (i c : Nat) (hc : p[i]? = some c) (hw : wildB c = false) (hs : s.size ≤ 40) (hc8 : c < 256) (w : World) :
    Calls Tryd.prog 38 #[.agg (ba (fnV 41 (arrF p (nats s) i))), .string s, .int .u8 (c : Int)] w fun e w' => e = .returned (.agg (ba (fnV 41 (arrF p (nats s) (i + 1))))) ∧ Below w.heap.size w w' := by
  have HN := Lib.hid (nats_length s)
  have HC := Lib.hid hc
  have HW := Lib.hid hw
  clear hc hw
  go_enter Tryd.func38, Tryd.ntmps38
  go_wp2_with ((with_reducible show wpList _ _ _ (⟨some 6, _, _, _, _, _⟩ :: _) _ _); refine hold ?_)
  refine held (wpList_alloc_to rfl 41 rfl _ zero41 ?_)
  go_wp2_with ((with_reducible show wpList _ _ _ (⟨some 7, _, _, _, _, _⟩ :: _) _ _); refine hold ?_)
  refine held (wpList_alloc_to rfl 41 rfl _ zero41 ?_)
  refine held (post_over (fun W => Bk W w.heap.size 41 (ba (fnV 41 (arrF p (nats s) i))) ∧ Bk W (w.heap.size + 1) 41 (ba (List.replicate 41 false)) ∧ Bk W (w.heap.size + 1 + 1) 41 (ba (List.replicate 41 false)) ∧ Below w.heap.size w W) ⟨((Bk.new w _ _).alloc _).alloc _, (Bk.new2 w _ _ _).alloc _, Bk.new3 w _ _ _ _, (((Below.refl _ _).alloc (Nat.le_refl _) _).alloc (by simp) _).alloc (by simp; omega) _⟩ ?_)
  rintro W ⟨b0, b1, b2, hb⟩
  have B0 := Lib.hid b0
  have B1 := Lib.hid b1
  have B2 : Hid (Bk W (w.heap.size + 1 + 1) 41 (ba (fnV 41 (newF p (nats s) i 0)))) := Lib.hid (by rw [← new_zero HC.out HW.out]; exact b2)
  have HB := Lib.hid hb
  clear b0 b1 b2 hb
  go_wp2_with fail
  go_loopw [8, 11] (fun v8 v11 wx => ∃ k : Nat, k ≤ s.size ∧ v11 = .int .i64 (k : Int) ∧ Bk wx w.heap.size 41 (ba (fnV 41 (arrF p (nats s) i))) ∧ Bk wx (w.heap.size + 1) 41 (ba (List.replicate 41 false)) ∧ Bk wx (w.heap.size + 1 + 1) 41 (ba (fnV 41 (newF p (nats s) i k))) ∧ Below w.heap.size w wx) (fun _ v11 _ => s.size - (intOf v11).toNat)
  case atStart => exact ⟨0, Nat.zero_le _, rfl, B0.out, B1.out, B2.out, HB.out⟩
  case round =>
    obtain ⟨k, hk, rfl, b0, b1, b2, hb⟩ := hrel
    have B0 := Lib.hid b0
    have B1 := Lib.hid b1
    have B2 := Lib.hid b2
    have HB := Lib.hid hb
    clear b0 b1 b2 hb
    by_cases hlt : k < s.size
    · have HX := Lib.hid (nats_byte s k hlt)
      have a0 : (0 : Int) ≤ (k : Int) := by omega
      have a1 : (k : Int) < (s.size : Int) := by omega
      have a2 : (k : Int) < 41 := by omega
      have a3 : (k : Int) + 1 < 41 := by omega
      have a4 : (0 : Int) ≤ (k : Int) + 1 := by omega
      have a5 : IntKind.i64.wrap ((k : Int) + 1) = (k : Int) + 1 := IntWalk.i64_in _ (by omega)
      have a6 : ((k : Int) + 1).toNat = k + 1 := by omega
      have hxb : s[k].toNat < 256 := s[k].toNat_lt
      have c0 := B0.out.bcell (fnV_get (arrF p (nats s) i) (by omega : k < 41))
      have c1 := B2.out.bcell (fnV_get (newF p (nats s) i k) (by omega : k + 1 < 41))
      have f0 := B0.out.frozen k
      have f1 := B2.out.frozen (k + 1)
      cases h0 : arrF p (nats s) i k
      · rw [h0] at c0
        have HE : Hid ((fnV 41 (newF p (nats s) i k)).set (k + 1) false = fnV 41 (newF p (nats s) i (k + 1))) := Lib.hid (by rw [← new_more HC.out HX.out HW.out (by omega), h0]; rfl)
        clear h0
        go_wp2_with fail
        go_roundw
        case rel => exact ⟨k + 1, by omega, by go_num, B0.out.far (by simp; omega) _, B1.out.far (by simp) _, B2.out.bput _ _ HE.out, HB.out.setCell (by simp; omega) _⟩
        case measure => simp [intOf]; omega
      · rw [h0] at c0
        by_cases hxc : s[k].toNat = c
        · have exc : ((s[k].toNat : Int) == (c : Int)) = true := by rw [hxc]; simp
          have HE : Hid ((fnV 41 (newF p (nats s) i k)).set (k + 1) true = fnV 41 (newF p (nats s) i (k + 1))) := Lib.hid (by rw [← new_more HC.out HX.out HW.out (by omega), h0, hxc]; simp)
          clear h0 hxc
          go_wp2_with fail
          go_roundw
          case rel => exact ⟨k + 1, by omega, by go_num, B0.out.far (by simp; omega) _, B1.out.far (by simp) _, B2.out.bput _ _ HE.out, HB.out.setCell (by simp; omega) _⟩
          case measure => simp [intOf]; omega
        · have exc : ((s[k].toNat : Int) == (c : Int)) = false := by rw [beq_eq_false_iff_ne]; omega
          have HE : Hid ((fnV 41 (newF p (nats s) i k)).set (k + 1) false = fnV 41 (newF p (nats s) i (k + 1))) := Lib.hid (by rw [← new_more HC.out HX.out HW.out (by omega), h0, decide_eq_false hxc]; rfl)
          clear h0 hxc
          go_wp2_with fail
          go_roundw
          case rel => exact ⟨k + 1, by omega, by go_num, B0.out.far (by simp; omega) _, B1.out.far (by simp) _, B2.out.bput _ _ HE.out, HB.out.setCell (by simp; omega) _⟩
          case measure => simp [intOf]; omega
    · have a1 : ¬ (k : Int) < (s.size : Int) := by omega
      have B3 : Hid (Bk wr (w.heap.size + 1 + 1) 41 (ba (fnV 41 (arrF p (nats s) (i + 1))))) := Lib.hid (by rw [← new_all, HN.out, ← show k = s.size by omega]; exact B2.out)
      clear B2
      go_wp2_with ((with_reducible show wpList _ _ _ (⟨some 28, _, _, _, _, _⟩ :: _) _ _); refine hold ?_)
      refine held (wpList_load_mid rfl 41 (.tmp 7) rfl (w.heap.size + 1 + 1) 0 rfl _ _ B3.out.range Tryd.underlying41 rfl (by rw [Array.length_toList, ba_size, fnV_length]; exact size41) ?_)
      rw [Array.toArray_toList]
      refine wpList_store_wide rfl 41 (.tmp 6) (.tmp 28) rfl (w.heap.size + 1) 0 (ba (fnV 41 (arrF p (nats s) (i + 1)))) rfl rfl 41 _ B1.out (by simp [ba_size, fnV_length]) (by rw [ba_size, fnV_length]; exact size41) (ba_one _) ?_
      intro w' hw'
      rw [setRow_all (by simp [ba_size, fnV_length])] at hw'
      have R1 := Lib.hid (hw'.out ▸ B1.out.setRow_same (ba (fnV 41 (arrF p (nats s) (i + 1)))) : Bk w' _ _ _)
      have hb2 := hw'.out ▸ below_setRow HB.out (g := w.heap.size + 1) (by omega) (ba (fnV 41 (arrF p (nats s) (i + 1))))
      clear hw' B0 B1 B3 HB
      go_wp2
      refine bodyPost_ret (v := .agg (ba (fnV 41 (arrF p (nats s) (i + 1))))) ?_ rfl ⟨rfl, hb2⟩
      exact results_cell (a := ⟨w.heap.size + 1, 0, none⟩) rfl rfl (R1.out.load Tryd.underlying41 rfl (by rw [ba_size, fnV_length]; exact size41))

set_option maxRecDepth 20000 in
set_option maxHeartbeats 2000000 in
theorem nmspread_any (p : List Nat) (s : ByteArray) (i c : Nat) (b : Bool) (hc : p[i]? = some c) (hw : wildB c = true) (hb : decide (c = 42) = b) (hs : s.size ≤ 40) (w : World) :
    Calls Tryd.prog 37 #[.agg (ba (fnV 41 (arrF p (nats s) i))), .string s, .bool b] w fun e w' => e = .returned (.agg (ba (fnV 41 (arrF p (nats s) (i + 1))))) ∧ Below w.heap.size w w' := by
  have HN := Lib.hid (nats_length s)
  have HC := Lib.hid hc
  have HW := Lib.hid hw
  have HBB := Lib.hid hb
  clear hc hw hb
  go_enter Tryd.func37, Tryd.ntmps37
  go_wp2_with ((with_reducible show wpList _ _ _ (⟨some 6, _, _, _, _, _⟩ :: _) _ _); refine hold ?_)
  refine held (wpList_alloc_to rfl 41 rfl _ zero41 ?_)
  go_wp2_with fail
  refine code_over (fun W => Bk W w.heap.size 41 (ba (fnV 41 (midF p (nats s) i 0))) ∧ Bk W (w.heap.size + 1) 41 (ba (List.replicate 41 false)) ∧ Below w.heap.size w W) ⟨by rw [← mid_zero HC.out HW.out]; exact (Bk.new w _ _).alloc _, Bk.new2 w _ _ _, ((Below.refl _ _).alloc (Nat.le_refl _) _).alloc (by simp) _⟩ ?_
  rintro W ⟨b0, b1, hb⟩
  have B0 := Lib.hid b0
  have B1 := Lib.hid b1
  have HB := Lib.hid hb
  clear b0 b1 hb
  go_loopw [7, 10] (fun v7 v10 wx => ∃ k : Nat, k ≤ s.size ∧ v10 = .int .i64 (k : Int) ∧ Bk wx w.heap.size 41 (ba (fnV 41 (midF p (nats s) i k))) ∧ Bk wx (w.heap.size + 1) 41 (ba (List.replicate 41 false)) ∧ Below w.heap.size w wx) (fun _ v10 _ => s.size - (intOf v10).toNat)
  case atStart => exact ⟨0, Nat.zero_le _, rfl, B0.out, B1.out, HB.out⟩
  case round =>
    obtain ⟨k, hk, rfl, b0, b1, hb⟩ := hrel
    have B0 := Lib.hid b0
    have B1 := Lib.hid b1
    have HB := Lib.hid hb
    clear b0 b1 hb
    by_cases hlt : k < s.size
    · have HX := Lib.hid (nats_byte s k hlt)
      have a0 : (0 : Int) ≤ (k : Int) := by omega
      have a1 : (k : Int) < (s.size : Int) := by omega
      have a2 : (k : Int) < 41 := by omega
      have a3 : (k : Int) + 1 < 41 := by omega
      have a4 : (0 : Int) ≤ (k : Int) + 1 := by omega
      have a5 : IntKind.i64.wrap ((k : Int) + 1) = (k : Int) + 1 := IntWalk.i64_in _ (by omega)
      have a6 : ((k : Int) + 1).toNat = k + 1 := by omega
      have hxb : s[k].toNat < 256 := s[k].toNat_lt
      have c0 := B0.out.bcell (fnV_get (midF p (nats s) i k) (by omega : k < 41))
      have c1 := B0.out.bcell (fnV_get (midF p (nats s) i k) (by omega : k + 1 < 41))
      have f0 := B0.out.frozen k
      have f1 := B0.out.frozen (k + 1)
      rw [mid_at (by rw [HN.out]; exact hk)] at c0
      cases h0 : rowF p (nats s) (i + 1) k
      · rw [h0] at c0
        have HE : Hid (fnV 41 (midF p (nats s) i k) = fnV 41 (midF p (nats s) i (k + 1))) := Lib.hid (mid_no HC.out HX.out HW.out (by rw [h0]; rfl))
        clear h0
        go_wp2_with fail
        go_roundw
        case rel => exact ⟨k + 1, by omega, by go_num, by rw [← HE.out]; exact B0.out, B1.out, HB.out⟩
        case measure => simp [intOf]; omega
      · rw [h0] at c0
        cases b
        · by_cases hxc : s[k].toNat = 47
          · have exc : ((s[k].toNat : Int) != 47) = false := by rw [hxc]; rfl
            have HE : Hid (fnV 41 (midF p (nats s) i k) = fnV 41 (midF p (nats s) i (k + 1))) := Lib.hid (mid_no HC.out HX.out HW.out (by rw [h0, HBB.out, hxc]; rfl))
            clear h0 hxc
            go_wp2_with fail
            go_roundw
            case rel => exact ⟨k + 1, by omega, by go_num, by rw [← HE.out]; exact B0.out, B1.out, HB.out⟩
            case measure => simp [intOf]; omega
          · have exc : ((s[k].toNat : Int) != 47) = true := by simp; omega
            have HE : Hid ((fnV 41 (midF p (nats s) i k)).set (k + 1) true = fnV 41 (midF p (nats s) i (k + 1))) := Lib.hid (mid_yes HC.out HX.out HW.out (by omega) (by rw [h0, HBB.out, decide_eq_true hxc]; rfl))
            clear h0 hxc
            go_wp2_with fail
            go_roundw
            case rel => exact ⟨k + 1, by omega, by go_num, B0.out.bput _ _ HE.out, B1.out.far (by simp) _, HB.out.setCell (by simp) _⟩
            case measure => simp [intOf]; omega
        · have HE : Hid ((fnV 41 (midF p (nats s) i k)).set (k + 1) true = fnV 41 (midF p (nats s) i (k + 1))) := Lib.hid (mid_yes HC.out HX.out HW.out (by omega) (by rw [h0, HBB.out]; rfl))
          clear h0
          go_wp2_with fail
          go_roundw
          case rel => exact ⟨k + 1, by omega, by go_num, B0.out.bput _ _ HE.out, B1.out.far (by simp) _, HB.out.setCell (by simp) _⟩
          case measure => simp [intOf]; omega
    · have a1 : ¬ (k : Int) < (s.size : Int) := by omega
      have B3 : Hid (Bk wr w.heap.size 41 (ba (fnV 41 (arrF p (nats s) (i + 1))))) := Lib.hid (by rw [← mid_all, HN.out, ← show k = s.size by omega]; exact B0.out)
      clear B0
      go_wp2_with ((with_reducible show wpList _ _ _ (⟨some 29, _, _, _, _, _⟩ :: _) _ _); refine hold ?_)
      refine held (wpList_load_mid rfl 41 (.tmp 3) rfl w.heap.size 0 rfl _ _ B3.out.range Tryd.underlying41 rfl (by rw [Array.length_toList, ba_size, fnV_length]; exact size41) ?_)
      rw [Array.toArray_toList]
      refine wpList_store_wide rfl 41 (.tmp 6) (.tmp 29) rfl (w.heap.size + 1) 0 (ba (fnV 41 (arrF p (nats s) (i + 1)))) rfl rfl 41 _ B1.out (by simp [ba_size, fnV_length]) (by rw [ba_size, fnV_length]; exact size41) (ba_one _) ?_
      intro w' hw'
      rw [setRow_all (by simp [ba_size, fnV_length])] at hw'
      have R1 := Lib.hid (hw'.out ▸ B1.out.setRow_same (ba (fnV 41 (arrF p (nats s) (i + 1)))) : Bk w' _ _ _)
      have hb2 := hw'.out ▸ below_setRow HB.out (g := w.heap.size + 1) (by omega) (ba (fnV 41 (arrF p (nats s) (i + 1))))
      clear hw' B1 B3 HB
      go_wp2
      refine bodyPost_ret (v := .agg (ba (fnV 41 (arrF p (nats s) (i + 1))))) ?_ rfl ⟨rfl, hb2⟩
      exact results_cell (a := ⟨w.heap.size + 1, 0, none⟩) rfl rfl (R1.out.load Tryd.underlying41 rfl (by rw [ba_size, fnV_length]; exact size41))

set_option maxRecDepth 20000 in
set_option maxHeartbeats 4000000 in
theorem nmmatches_any (p s : ByteArray) (hp : p.size ≤ 80) (hs : s.size ≤ 40) (w : World) :
    Calls Tryd.prog 28 #[.string p, .string s] w fun e w' => e = .returned (.bool (likeF (nats p) (nats s))) ∧ Below w.heap.size w w' := by
  have HNP := Lib.hid (nats_length p)
  have HNS := Lib.hid (nats_length s)
  go_enter Tryd.func28, Tryd.ntmps28
  go_wp2_with ((with_reducible show wpList _ _ _ (⟨some 5, _, _, _, _, _⟩ :: _) _ _); refine hold ?_)
  refine held (wpList_alloc_to rfl 41 rfl _ zero41 ?_)
  go_wp2_with ((with_reducible show wpList _ _ _ (⟨some 7, _, _, _, _, _⟩ :: _) _ _); refine hold ?_)
  refine held (list_over (fun W => Bk W w.heap.size 41 (ba (List.replicate 41 false)) ∧ Below w.heap.size w W) ⟨Bk.new w _ _, (Below.refl _ _).alloc (Nat.le_refl _) _⟩ ?_)
  rintro W ⟨bn, hb⟩
  have c0 := bn.bcell (i := 0) (b := false) (by simp)
  have f0 := bn.frozen 0
  have B0 := Lib.hid (bn.bput 0 true (arr_zero (p := nats p) (s := nats s) (by omega)))
  have HB := Lib.hid (hb.setCell (p := ⟨w.heap.size, 0, none⟩) (Nat.le_refl _) (.bool true))
  clear bn hb
  go_wp2_with fail
  refine code_over (fun W => Bk W w.heap.size 41 (ba (fnV 41 (arrF (nats p) (nats s) 0))) ∧ Below w.heap.size w W) ⟨B0.out, HB.out⟩ ?_
  clear B0 c0 f0 HB
  clear W
  rintro W ⟨b0, hb⟩
  have B0 := Lib.hid b0
  have HB := Lib.hid hb
  clear b0 hb
  go_loopw [6, 10] (fun v6 v10 wx => ∃ k : Nat, k ≤ p.size ∧ v10 = .int .i64 (k : Int) ∧ Bk wx w.heap.size 41 (ba (fnV 41 (arrF (nats p) (nats s) k))) ∧ Below w.heap.size w wx) (fun _ v10 _ => p.size - (intOf v10).toNat)
  case atStart => exact ⟨0, Nat.zero_le _, rfl, B0.out, HB.out⟩
  case round =>
    obtain ⟨k, hk, rfl, b0, hb⟩ := hrel
    have B0 := Lib.hid b0
    have HB := Lib.hid hb
    clear b0 hb
    by_cases hlt : k < p.size
    · have HC := Lib.hid (nats_byte p k hlt)
      have a0 : (0 : Int) ≤ (k : Int) := by omega
      have a1 : (k : Int) < (p.size : Int) := by omega
      have hcb : p[k].toNat < 256 := p[k].toNat_lt
      have CW := Lib.hid (nmwild_any p[k].toNat wr)
      have hm : Tryd.prog.follows .mixedOrders = true := by kernel_rfl
      cases hw : wildB p[k].toNat
      · have CS : Hid (∀ W, Calls Tryd.prog 38 #[.agg (ba (fnV 41 (arrF (nats p) (nats s) k))), .string s, .int .u8 (p[k].toNat : Int)] W fun e w' => e = .returned (.agg (ba (fnV 41 (arrF (nats p) (nats s) (k + 1))))) ∧ Below W.heap.size W w') := Lib.hid fun W => nmstep_any (nats p) s k p[k].toNat HC.out hw hs hcb W
        rw [hw] at CW
        clear hw
        go_wp2_with fail
        refine CW.out.mono ?_
        rintro e w' ⟨rfl, rfl⟩
        clear CW
        go_wp2_with fail
        refine wp_region_still_tail 5 (by kernel_rfl) (by kernel_rfl) ?_
        simp only [List.take_succ_cons, List.take_zero, List.drop_succ_cons, List.drop_zero]
        refine wpStill_load_mid (by simp [Region.wanted]) 41 (.tmp 5) rfl w.heap.size 0 rfl _ _ (B0.out.drew).range Tryd.underlying41 rfl (by rw [Array.length_toList, ba_size, fnV_length]; exact size41) ?_
        rw [Array.toArray_toList]
        repeat (with_reducible refine wpStill_step (fun K hK => ?_); go_simp; with_reducible refine hK _ ?_; clear hK K)
        with_reducible refine wpStill_nil ?_
        change wpList _ _ _ _ _ wr.drew
        have D0 := Lib.hid B0.out.drew
        have D1 := Lib.hid (show Below w.heap.size w wr.drew from HB.out.drew)
        clear B0 HB
        generalize wr.drew = W5 at *
        go_wp2_with fail
        refine (CS.out W5).mono ?_
        rintro e W6 ⟨rfl, hb6⟩
        have E0 := Lib.hid (D0.out.below hb6 D0.out.lt)
        have E1 := Lib.hid (D1.out.trans (hb6.mono D1.out.size))
        clear hb6 D0 D1 CS
        go_wp2_with ((with_reducible show wpList _ _ _ (⟨none, .store _ _ _, _, _, _, _⟩ :: _) _ _); refine hold ?_)
        refine held (wpList_store_wide rfl 41 (.tmp 5) (.tmp 29) rfl w.heap.size 0 (ba (fnV 41 (arrF (nats p) (nats s) (k + 1)))) rfl rfl 41 _ E0.out (by simp [ba_size, fnV_length]) (by rw [ba_size, fnV_length]; exact size41) (ba_one _) ?_)
        intro w' hw'
        rw [setRow_all (by simp [ba_size, fnV_length])] at hw'
        have R1 := Lib.hid (hw'.out ▸ E0.out.setRow_same (ba (fnV 41 (arrF (nats p) (nats s) (k + 1)))) : Bk w' _ _ _)
        have R2 := Lib.hid (hw'.out ▸ below_setRow E1.out (g := w.heap.size) (Nat.le_refl _) (ba (fnV 41 (arrF (nats p) (nats s) (k + 1)))))
        clear hw' E0 E1
        go_wp2_with fail
        go_roundw
        case rel => exact ⟨k + 1, by omega, by go_num, R1.out, R2.out⟩
        case measure => simp [intOf]; omega
      · by_cases h42 : p[k].toNat = 42
        · have exc : ((p[k].toNat : Int) == 42) = true := by rw [h42]; rfl
          have CS : Hid (∀ W, Calls Tryd.prog 37 #[.agg (ba (fnV 41 (arrF (nats p) (nats s) k))), .string s, .bool true] W fun e w' => e = .returned (.agg (ba (fnV 41 (arrF (nats p) (nats s) (k + 1))))) ∧ Below W.heap.size W w') := Lib.hid fun W => nmspread_any (nats p) s k p[k].toNat true HC.out hw (by exact decide_eq_true h42) hs W
          rw [hw] at CW
          clear hw h42
          go_wp2_with fail
          refine CW.out.mono ?_
          rintro e w' ⟨rfl, rfl⟩
          clear CW
          go_wp2_with fail
          refine wp_region_still_tail 6 (by kernel_rfl) (by kernel_rfl) ?_
          simp only [List.take_succ_cons, List.take_zero, List.drop_succ_cons, List.drop_zero]
          refine wpStill_load_mid (by simp [Region.wanted]) 41 (.tmp 5) rfl w.heap.size 0 rfl _ _ (B0.out.drew).range Tryd.underlying41 rfl (by rw [Array.length_toList, ba_size, fnV_length]; exact size41) ?_
          rw [Array.toArray_toList]
          repeat (with_reducible refine wpStill_step (fun K hK => ?_); go_simp; with_reducible refine hK _ ?_; clear hK K)
          with_reducible refine wpStill_nil ?_
          change wpList _ _ _ _ _ wr.drew
          have D0 := Lib.hid B0.out.drew
          have D1 := Lib.hid (show Below w.heap.size w wr.drew from HB.out.drew)
          clear B0 HB
          generalize wr.drew = W5 at *
          go_wp2_with fail
          refine (CS.out W5).mono ?_
          rintro e W6 ⟨rfl, hb6⟩
          have E0 := Lib.hid (D0.out.below hb6 D0.out.lt)
          have E1 := Lib.hid (D1.out.trans (hb6.mono D1.out.size))
          clear hb6 D0 D1 CS
          go_wp2_with ((with_reducible show wpList _ _ _ (⟨none, .store _ _ _, _, _, _, _⟩ :: _) _ _); refine hold ?_)
          refine held (wpList_store_wide rfl 41 (.tmp 5) (.tmp 23) rfl w.heap.size 0 (ba (fnV 41 (arrF (nats p) (nats s) (k + 1)))) rfl rfl 41 _ E0.out (by simp [ba_size, fnV_length]) (by rw [ba_size, fnV_length]; exact size41) (ba_one _) ?_)
          intro w' hw'
          rw [setRow_all (by simp [ba_size, fnV_length])] at hw'
          have R1 := Lib.hid (hw'.out ▸ E0.out.setRow_same (ba (fnV 41 (arrF (nats p) (nats s) (k + 1)))) : Bk w' _ _ _)
          have R2 := Lib.hid (hw'.out ▸ below_setRow E1.out (g := w.heap.size) (Nat.le_refl _) (ba (fnV 41 (arrF (nats p) (nats s) (k + 1)))))
          clear hw' E0 E1
          go_wp2_with fail
          go_roundw
          case rel => exact ⟨k + 1, by omega, by go_num, R1.out, R2.out⟩
          case measure => simp [intOf]; omega
        · have exc : ((p[k].toNat : Int) == 42) = false := by rw [beq_eq_false_iff_ne]; omega
          have CS : Hid (∀ W, Calls Tryd.prog 37 #[.agg (ba (fnV 41 (arrF (nats p) (nats s) k))), .string s, .bool false] W fun e w' => e = .returned (.agg (ba (fnV 41 (arrF (nats p) (nats s) (k + 1))))) ∧ Below W.heap.size W w') := Lib.hid fun W => nmspread_any (nats p) s k p[k].toNat false HC.out hw (by exact decide_eq_false h42) hs W
          rw [hw] at CW
          clear hw h42
          go_wp2_with fail
          refine CW.out.mono ?_
          rintro e w' ⟨rfl, rfl⟩
          clear CW
          go_wp2_with fail
          refine wp_region_still_tail 6 (by kernel_rfl) (by kernel_rfl) ?_
          simp only [List.take_succ_cons, List.take_zero, List.drop_succ_cons, List.drop_zero]
          refine wpStill_load_mid (by simp [Region.wanted]) 41 (.tmp 5) rfl w.heap.size 0 rfl _ _ (B0.out.drew).range Tryd.underlying41 rfl (by rw [Array.length_toList, ba_size, fnV_length]; exact size41) ?_
          rw [Array.toArray_toList]
          repeat (with_reducible refine wpStill_step (fun K hK => ?_); go_simp; with_reducible refine hK _ ?_; clear hK K)
          with_reducible refine wpStill_nil ?_
          change wpList _ _ _ _ _ wr.drew
          have D0 := Lib.hid B0.out.drew
          have D1 := Lib.hid (show Below w.heap.size w wr.drew from HB.out.drew)
          clear B0 HB
          generalize wr.drew = W5 at *
          go_wp2_with fail
          refine (CS.out W5).mono ?_
          rintro e W6 ⟨rfl, hb6⟩
          have E0 := Lib.hid (D0.out.below hb6 D0.out.lt)
          have E1 := Lib.hid (D1.out.trans (hb6.mono D1.out.size))
          clear hb6 D0 D1 CS
          go_wp2_with ((with_reducible show wpList _ _ _ (⟨none, .store _ _ _, _, _, _, _⟩ :: _) _ _); refine hold ?_)
          refine held (wpList_store_wide rfl 41 (.tmp 5) (.tmp 23) rfl w.heap.size 0 (ba (fnV 41 (arrF (nats p) (nats s) (k + 1)))) rfl rfl 41 _ E0.out (by simp [ba_size, fnV_length]) (by rw [ba_size, fnV_length]; exact size41) (ba_one _) ?_)
          intro w' hw'
          rw [setRow_all (by simp [ba_size, fnV_length])] at hw'
          have R1 := Lib.hid (hw'.out ▸ E0.out.setRow_same (ba (fnV 41 (arrF (nats p) (nats s) (k + 1)))) : Bk w' _ _ _)
          have R2 := Lib.hid (hw'.out ▸ below_setRow E1.out (g := w.heap.size) (Nat.le_refl _) (ba (fnV 41 (arrF (nats p) (nats s) (k + 1)))))
          clear hw' E0 E1
          go_wp2_with fail
          go_roundw
          case rel => exact ⟨k + 1, by omega, by go_num, R1.out, R2.out⟩
          case measure => simp [intOf]; omega
    · have a1 : ¬ (k : Int) < (p.size : Int) := by omega
      have HV : Hid (arrF (nats p) (nats s) k s.size = likeF (nats p) (nats s)) := Lib.hid (by rw [arr_in (by rw [HNS.out]; exact Nat.le_refl _)]; unfold rowF; rw [List.take_of_length_le (by rw [HNP.out]; omega), List.take_of_length_le (by rw [HNS.out]; omega)])
      have c0 := B0.out.bcell (fnV_get (arrF (nats p) (nats s) k) (by omega : s.size < 41))
      rw [HV.out] at c0
      have f0 := B0.out.frozen s.size
      have a2 : (s.size : Int) < 41 := by omega
      have a3 : (0 : Int) ≤ (s.size : Int) := by omega
      clear hk
      go_wp2_with fail
      go_ret
      exact ⟨rfl, HB.out⟩
end Go.Proofs.YtbegklhbhafmeaaDoor
