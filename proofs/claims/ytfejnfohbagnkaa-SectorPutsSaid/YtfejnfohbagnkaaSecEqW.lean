/-
  Comparing writes as the program does: the place first, then each byte in order; and what slices.Equal answers of two lists of writes.
-/
import Derived.Test.YtfejnfohbagnkaaSecStill
namespace Go.Proofs.Ytfejnfohbagnkaa
open Go.RowKit

theorem run_part_agg {P : Program} (w : World) {t : TypeId} {n : Nat} {e : TypeId} {i : TypeInfo} (ht : P.underlying t = some (.array n e)) (hi : P.info? t = some i) (cs : Array Value) (off : Nat) : (part t cs off).run P w = .ok (.agg (cs.extract off (off + i.size))) w := by
  have hagg : (isAgg t).run P w = .ok true w := by
    unfold isAgg
    rw [Sem.run_bind, run_underlying ht w]
    simp
  simp [part, hagg, sizeOf, typeInfo, hi]

theorem wr_fields : Try.prog.fieldsOf 37 = #[{ name := "At", type := 3, offset := 0, embedded := false, tag := "", pkgPath := "", byteOffset := 0 }, { name := "Data", type := 28, offset := 1, embedded := false, tag := "", pkgPath := "", byteOffset := 8 }] := by kernel_rfl
theorem wr_stood : Try.prog.stoodInHeld 37 = false := by kernel_rfl
theorem wr_under : Try.prog.underlying 37 = some (.struct (Try.prog.fieldsOf 37)) := by rw [wr_fields]; exact Try.underlying37
theorem u8_cells : Try.prog.cellsOf 5 = 1 := by kernel_rfl
theorem wr_extract (x : Int × List Int) (hx : x.2.length = 64) : (wrv x).toArray.extract 1 65 = (secv x.2).toArray := by
  apply Array.ext'
  simp only [wrv, secv, Array.toList_extract, List.extract_eq_take_drop, List.drop_succ_cons, List.drop_zero]
  rw [List.take_of_length_le (by simp [hx])]

theorem eqFields_cons {P : Program} (w : World) (d : Nat) (xs ys : Array Value) (f : Field) (fs : List Field) (x y : Value) (r : Bool) (hn : f.name ≠ "_") (ha : (part f.type xs f.offset).run P w = .ok x w) (hb : (part f.type ys f.offset).run P w = .ok y w)
    (hr : (Op.equalIn d f.type x y).run P w = .ok r w) : (Op.eqFields d xs ys (f :: fs)).run P w = if r = true then (Op.eqFields d xs ys fs).run P w else .ok false w := by
  simp only [Op.eqFields, hn, ne_eq, not_false_eq_true, if_true, Sem.run_bind, ha, hb, hr, Result.andThen_ok]
  cases r <;> simp

theorem wr_pair (x y : Int × List Int) : decide (x = y) = (decide (x.1 = y.1) && decide (x.2 = y.2)) := by
  rw [Bool.eq_iff_iff]
  simp [Prod.ext_iff]

def fAt : Field := { name := "At", type := 3, offset := 0, embedded := false, tag := "", pkgPath := "", byteOffset := 0 }
def fData : Field := { name := "Data", type := 28, offset := 1, embedded := false, tag := "", pkgPath := "", byteOffset := 8 }
theorem wr_list : (Try.prog.fieldsOf 37).toList = [fAt, fData] := by rw [wr_fields]; rfl
theorem fAt_name : fAt.name ≠ "_" := by decide
theorem fData_name : fData.name ≠ "_" := by decide

theorem run_equalIn_wr (w : World) (d : Nat) (x y : Int × List Int) (hx : x.2.length = 64) (hy : y.2.length = 64) :
    (Op.equalIn (d + 3) 37 (.agg (wrv x).toArray) (.agg (wrv y).toArray)).run Try.prog w = .ok (decide (x = y)) w := by
  obtain ⟨i8, hi8⟩ : ∃ i, Try.prog.info? 5 = some i := Option.isSome_iff_exists.1 (by kernel_rfl)
  obtain ⟨iS, hiS⟩ : ∃ i, Try.prog.info? 28 = some i := Option.isSome_iff_exists.1 (by kernel_rfl)
  have hS : iS.size = 64 := by
    have := size_sec
    rw [hiS] at this
    simpa using this
  have p1 : (part fAt.type (wrv x).toArray fAt.offset).run Try.prog w = .ok (.int .i64 x.1) w := run_part_int w Try.underlying3 (wrv x).toArray 0 (.int .i64 x.1) rfl
  have p2 : (part fAt.type (wrv y).toArray fAt.offset).run Try.prog w = .ok (.int .i64 y.1) w := run_part_int w Try.underlying3 (wrv y).toArray 0 (.int .i64 y.1) rfl
  have p3 : (part fData.type (wrv x).toArray fData.offset).run Try.prog w = .ok (.agg (secv x.2).toArray) w := by
    have := run_part_agg w Try.underlying28 hiS (wrv x).toArray 1
    rw [hS, wr_extract x hx] at this
    exact this
  have p4 : (part fData.type (wrv y).toArray fData.offset).run Try.prog w = .ok (.agg (secv y.2).toArray) w := by
    have := run_part_agg w Try.underlying28 hiS (wrv y).toArray 1
    rw [hS, wr_extract y hy] at this
    exact this
  have q1 : (Op.equalIn (d + 2) fAt.type (.int .i64 x.1) (.int .i64 y.1)).run Try.prog w = .ok (decide (x.1 = y.1)) w := by
    have := run_equalIn_int w (d + 1) 3 .i64 .i64 x.1 y.1 Try.underlying3
    rwa [show (x.1 == y.1) = decide (x.1 = y.1) from rfl] at this
  have q2 : (Op.equalIn (d + 2) fData.type (.agg (secv x.2).toArray) (.agg (secv y.2).toArray)).run Try.prog w = .ok (decide (x.2 = y.2)) w := run_equalIn_sec w d Try.underlying28 Try.underlying5 hi8 u8_cells hx hy
  rw [run_equalIn_struct w (d + 2) 37 _ _ wr_under wr_stood, wr_list, eqFields_cons w _ _ _ fAt _ _ _ _ fAt_name p1 p2 q1, eqFields_cons w _ _ _ fData _ _ _ _ fData_name p3 p4 q2, wr_pair]
  have hnil : (Op.eqFields (d + 2) (wrv x).toArray (wrv y).toArray []).run Try.prog w = .ok true w := by unfold Op.eqFields; rfl
  rw [hnil]
  by_cases h1 : x.1 = y.1 <;> by_cases h2 : x.2 = y.2 <;> simp [h1, h2]

theorem run_neq_wr (w : World) (x y : Int × List Int) (hx : x.2.length = 64) (hy : y.2.length = 64) : (binOp .neq 37 (.agg (wrv x).toArray) (.agg (wrv y).toArray)).run Try.prog w = .ok (.bool (!decide (x = y))) w := by
  simp only [binOp]
  simp [Op.equal, Op.maxDepth, run_equalIn_wr w 9997 x y hx hy]

set_option maxHeartbeats 1000000 in
/-- slices.Equal of writes -/
theorem equalW_any (A A2 : Option Addr) (n c n2 c2 : Nat) (l m : List (Int × List Int)) (w : World) (hn : n ≤ maxLen) (hn2 : n2 ≤ maxLen) (h1 : Arr w w.heap.size 65 A n (l.map wrv)) (h2 : Arr w w.heap.size 65 A2 n2 (m.map wrv)) :
    Calls Try.prog 33 #[.slice A n c, .slice A2 n2 c2] w fun e w' => e = .returned (.bool (decide (l = m))) ∧ Below w.heap.size w w' := by
  unfold maxLen at hn hn2
  have e1 : l.length = n := by simpa using h1.1
  have e2 : m.length = n2 := by simpa using h2.1
  have hl64 : ∀ s ∈ l, s.2.length = 64 := fun s hs => by simpa [wrv_length] using h1.2.1 _ (List.mem_map.2 ⟨s, hs, rfl⟩)
  have hm64 : ∀ s ∈ m, s.2.length = 64 := fun s hs => by simpa [wrv_length] using h2.2.1 _ (List.mem_map.2 ⟨s, hs, rfl⟩)
  by_cases hlen : n = n2
  · subst hlen
    have hneq : ((n : Int) == (n : Int)) = true := by simp
    have E1 := Lib.hid e1; have E2 := Lib.hid e2
    clear e1 e2
    go_enter Try.func33, Try.ntmps33
    go_wp2_with fail
    go_loopw [13] (fun k wr => ∃ j : Nat, j ≤ n ∧ k = .int .i64 j ∧ l.take j = m.take j ∧ Below w.heap.size w wr) (fun k _ => n - (intOf k).toNat)
    case atStart => exact ⟨0, Nat.zero_le _, rfl, rfl, Below.refl _ _⟩
    case round =>
      obtain ⟨j, hj, rfl, hpre, hb⟩ := hrel
      by_cases hlt : j < n
      · obtain ⟨b1, o1, rfl, hb1, hr1⟩ := Arr.rows_at h1 (i := j) (by rw [E1.out]; exact hlt)
        obtain ⟨b2, o2, rfl, hb2, hr2⟩ := Arr.rows_at h2 (i := j) (by rw [E2.out]; exact hlt)
        have hji : (j : Int) < (n : Int) := by omega
        have q1 := Lib.hid (rangeAt_keep hr1 (w' := wr.drew) (fun p hp => (hb.drew).cell (by omega)))
        have q2 := Lib.hid (rangeAt_keep hr2 (w' := wr.drew) (fun p hp => (hb.drew).cell (by omega)))
        have l64 := hl64 _ (List.getElem_mem (by rw [E1.out]; exact hlt : j < l.length))
        have m64 := hm64 _ (List.getElem_mem (by rw [E2.out]; exact hlt : j < m.length))
        obtain ⟨s, hs⟩ : ∃ s, l[j]'(by rw [E1.out]; exact hlt) = s := ⟨_, rfl⟩
        obtain ⟨t, ht⟩ : ∃ t, m[j]'(by rw [E2.out]; exact hlt) = t := ⟨_, rfl⟩
        rw [hs] at q1 l64
        rw [ht] at q2 m64
        have hstep := rows_eq_step l m j hpre (by rw [E1.out, E2.out]) (by rw [E1.out]; exact hlt)
        rw [hs, ht] at hstep
        have Hst := Lib.hid hstep
        have hB := Lib.hid hb
        clear hs ht hstep hr1 hr2 hpre hb
        have hneq2 : ∀ W, (binOp .neq 37 (.agg (wrv s).toArray) (.agg (wrv t).toArray)).run Try.prog W = .ok (.bool (!decide (s = t))) W := fun W => run_neq_wr W s t l64 m64
        by_cases hst : s = t
        · have hdst : decide (s = t) = true := by simpa using hst
          have HST := Lib.hid hst
          clear hst
          go_wp2
          refine wp_region_still_lit (by kernel_rfl) (by kernel_rfl) ?_
          iterate 3 still_step
          refine wpStill_load_mid (by simp [Region.wanted]) 37 (.tmp 18) rfl b1 (o1 + j * 65) rfl (wrv s) (.struct (Try.prog.fieldsOf 37)) q1.out Try.underlying37 rfl (by rw [wrv_length, l64]; exact size_wr) ?_
          iterate 3 still_step
          refine wpStill_load_mid (by simp [Region.wanted]) 37 (.tmp 22) rfl b2 (o2 + j * 65) rfl (wrv t) (.struct (Try.prog.fieldsOf 37)) q2.out Try.underlying37 rfl (by rw [wrv_length, m64]; exact size_wr) ?_
          still_step
          refine wpStill_nil ?_
          go_wp2
          go_roundw
          case rel => exact ⟨j + 1, by omega, by go_num, Hst.out.1 HST.out, hB.out.drew⟩
          case measure => simp [intOf]; omega
        · have hdst : decide (s = t) = false := by simpa using hst
          have HST := Lib.hid hst
          clear hst
          go_wp2
          refine wp_region_still_lit (by kernel_rfl) (by kernel_rfl) ?_
          iterate 3 still_step
          refine wpStill_load_mid (by simp [Region.wanted]) 37 (.tmp 18) rfl b1 (o1 + j * 65) rfl (wrv s) (.struct (Try.prog.fieldsOf 37)) q1.out Try.underlying37 rfl (by rw [wrv_length, l64]; exact size_wr) ?_
          iterate 3 still_step
          refine wpStill_load_mid (by simp [Region.wanted]) 37 (.tmp 22) rfl b2 (o2 + j * 65) rfl (wrv t) (.struct (Try.prog.fieldsOf 37)) q2.out Try.underlying37 rfl (by rw [wrv_length, m64]; exact size_wr) ?_
          still_step
          refine wpStill_nil ?_
          go_wp2
          go_ret
          exact ⟨ret_b (Hst.out.2 HST.out) rfl, hB.out.drew⟩
      · have hjn : j = n := by omega
        have Hjn := Lib.hid hjn
        have hB := Lib.hid hb
        have Hpre := Lib.hid hpre
        clear hjn hb hpre
        go_wp2
        go_ret
        refine ⟨ret_b ?_ rfl, hB.out⟩
        have := Hpre.out
        rw [Hjn.out, List.take_of_length_le (by rw [E1.out]; omega), List.take_of_length_le (by rw [E2.out]; omega)] at this
        simpa using this
  · have hneq : ((n : Int) == (n2 : Int)) = false := by simp; omega
    have hne : decide (l = m) = false := by
      rw [decide_eq_false_iff_not]
      rintro rfl
      omega
    have Hne := Lib.hid hne
    clear hne e1 e2
    go_enter Try.func33, Try.ntmps33
    go_wp2
    go_ret
    exact ⟨ret_b Hne.out rfl, Below.refl _ _⟩
end Go.Proofs.Ytfejnfohbagnkaa
