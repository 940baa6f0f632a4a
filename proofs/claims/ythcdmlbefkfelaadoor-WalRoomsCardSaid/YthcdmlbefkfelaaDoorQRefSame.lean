/-
  A walk over the document's own functions on disks: Same, of any two disks. It leaves all older memory as it was.
-/
import Derived.Test.YthcdmlbefkfelaaDoorQSecStill
namespace Go.Proofs.YthcdmlbefkfelaaDoor
set_option linter.unusedVariables false
set_option linter.unusedSimpArgs false
open Go.RowKit

theorem sameB_no {a b : Dk} (h : a.secs.length ≠ b.secs.length ∨ a.loose.length ≠ b.loose.length ∨ a.fuse ≠ b.fuse ∨ a.down ≠ b.down ∨ decide (a.secs = b.secs) = false ∨ decide (a.loose = b.loose) = false) : sameB a b = false := by
  rw [Bool.eq_false_iff]
  intro h2
  rw [sameB_iff] at h2
  subst h2
  simp at h

set_option maxRecDepth 100000 in
set_option maxHeartbeats 2000000 in
theorem rsame_any (u v : Value) (a b : Dk) (w : World) (ha : DkAt w w.heap.size u a) (hb : DkAt w w.heap.size v b) :
    Calls Tryd.prog 21 #[u, v] w fun e w' => e = .returned (.bool (sameB a b)) ∧ Below w.heap.size w w' := by
  obtain ⟨A, n, c, A', n', c', rfl, hnc, hnc', hc, hc', hS, hL⟩ := ha
  obtain ⟨B, m, e, B', m', e', rfl, hme, hme', he, he', hT, hM⟩ := hb
  have a1 : a.secs.length = n := by simpa using hS.1
  have a2 : a.loose.length = n' := by simpa using hL.1
  have b1 : b.secs.length = m := by simpa using hT.1
  have b2 : b.loose.length = m' := by simpa using hM.1
  have l64 : ∀ s ∈ a.secs, s.length = 64 := fun s hs => by simpa [secv_length] using hS.2.1 _ (List.mem_map.2 ⟨s, hs, rfl⟩)
  have m64 : ∀ s ∈ b.secs, s.length = 64 := fun s hs => by simpa [secv_length] using hT.2.1 _ (List.mem_map.2 ⟨s, hs, rfl⟩)
  have l65 : ∀ s ∈ a.loose, s.2.length = 64 := fun s hs => by simpa [wrv_length] using hL.2.1 _ (List.mem_map.2 ⟨s, hs, rfl⟩)
  have m65 : ∀ s ∈ b.loose, s.2.length = 64 := fun s hs => by simpa [wrv_length] using hM.2.1 _ (List.mem_map.2 ⟨s, hs, rfl⟩)
  unfold maxLen at hc hc' he he'
  have hn : n ≤ 9223372036854775807 := by omega
  have hn' : n' ≤ 9223372036854775807 := by omega
  obtain ⟨i28, hi28⟩ : ∃ i, Tryd.prog.info? 5 = some i := Option.isSome_iff_exists.1 (by kernel_rfl)
  have hbw : Below w.heap.size w ((w.alloc (.cells #[.slice A n c, .slice A' n' c', .int .i64 a.fuse, .bool a.down] 28)).alloc (.cells #[.slice B m e, .slice B' m' e', .int .i64 b.fuse, .bool b.down] 28)) := ((Below.refl _ _).alloc (Nat.le_refl _) _).alloc (by simp) _
  have HS := Lib.hid hS; have HL := Lib.hid hL; have HT := Lib.hid hT; have HM := Lib.hid hM
  have HBW := Lib.hid hbw
  clear hS hL hT hM hbw
  by_cases h1 : n = m
  · subst h1
    have g1 : ((n : Int) == (n : Int)) = true := by simp
    have g1' : ((n : Int) != (n : Int)) = false := by simp [bne]
    by_cases h2 : n' = m'
    · subst h2
      have g2 : ((n' : Int) == (n' : Int)) = true := by simp
      have g2' : ((n' : Int) != (n' : Int)) = false := by simp [bne]
      by_cases h3 : a.fuse = b.fuse
      · have g3 : (a.fuse == b.fuse) = true := by simpa using h3
        have g3' : (a.fuse != b.fuse) = false := by simp [bne, g3]
        by_cases h4 : a.down = b.down
        · have g4 : (a.down == b.down) = true := by simpa using h4
          have g4' : (a.down != b.down) = false := by simp [bne, g4]
          have hfin : sameB a b = (decide (a.secs = b.secs) && decide (a.loose = b.loose)) := by unfold sameB; simp [h3, h4]
          have Hfin := Lib.hid hfin; have E1 := Lib.hid a1; have E2 := Lib.hid a2; have F1 := Lib.hid b1; have F2 := Lib.hid b2
          have L1 := Lib.hid l64; have L2 := Lib.hid l65; have M1 := Lib.hid m64; have M2 := Lib.hid m65
          clear hfin a1 a2 b1 b2 l64 l65 m64 m65 h3 h4
          go_enter Tryd.func21, Tryd.ntmps21
          go_wp2_with fail
          go_loopw [5] (fun k wr => ∃ j : Nat, j ≤ n ∧ k = .int .i64 j ∧ a.secs.take j = b.secs.take j ∧ Below (w.heap.size + 1 + 1) ((w.alloc (.cells #[.slice A n c, .slice A' n' c', .int .i64 a.fuse, .bool a.down] 28)).alloc (.cells #[.slice B n e, .slice B' n' e', .int .i64 b.fuse, .bool b.down] 28)) wr) (fun k _ => n - (intOf k).toNat)
          case atStart => exact ⟨0, Nat.zero_le _, rfl, rfl, Below.refl _ _⟩
          case round =>
            obtain ⟨j, hj, rfl, hpre, hb⟩ := hrel
            have B0 : Bk wr w.heap.size 28 _ := Bk.below ((Bk.new w 28 _).alloc _) hb (by omega)
            have B1 : Bk wr (w.heap.size + 1) 28 _ := Bk.below (Bk.new2 _ _ 28 _) hb (by omega)
            obtain ⟨⟨p0, p1, p2, p3⟩, -⟩ := B0.four
            obtain ⟨⟨r0, r1, r2, r3⟩, -⟩ := B1.four
            clear B0 B1
            have hbw2 : Below w.heap.size w wr := HBW.out.trans (hb.mono (by omega))
            by_cases hlt : j < n
            · have hja : j < a.secs.length := by rw [E1.out]; exact hlt
              have hjb : j < b.secs.length := by rw [F1.out]; exact hlt
              obtain ⟨x1, o1, hA, hb1, hr1⟩ := Arr.rows_at (f := secv) (l := a.secs) HS.out (i := j) hja
              obtain ⟨x2, o2, hB, hb2, hr2⟩ := Arr.rows_at (f := secv) (l := b.secs) HT.out (i := j) hjb
              subst hA hB
              have hji : (j : Int) < (n : Int) := by omega
              have q1 := Lib.hid (rangeAt_keep hr1 (w' := wr.drew) (fun p hp => (hbw2.drew).cell (by omega)))
              have q2 := Lib.hid (rangeAt_keep hr2 (w' := wr.drew) (fun p hp => (hbw2.drew).cell (by omega)))
              have l64 := L1.out _ (List.getElem_mem hja)
              have m64 := M1.out _ (List.getElem_mem hjb)
              have hstep := rows_eq_step a.secs b.secs j hpre (by rw [E1.out, F1.out]) hja
              obtain ⟨s, hs⟩ : ∃ s, a.secs[j] = s := ⟨_, rfl⟩
              obtain ⟨t, ht⟩ : ∃ t, b.secs[j] = t := ⟨_, rfl⟩
              rw [hs] at q1 l64
              rw [ht] at q2 m64
              rw [hs, ht] at hstep
              have Hst := Lib.hid hstep
              have hB := Lib.hid hb; have hB2 := Lib.hid hbw2
              clear hs ht hstep hr1 hr2 hpre hb hbw2
              have hneq2 : ∀ W, (binOp .neq 69 (.agg (secv s).toArray) (.agg (secv t).toArray)).run Tryd.prog W = .ok (.bool (!decide (s = t))) W := fun W => run_neq_sec W Tryd.underlying69 Tryd.underlying5 hi28 (by kernel_rfl) l64 m64
              by_cases hst : s = t
              · have hdst : decide (s = t) = true := by simpa using hst
                have HST := Lib.hid hst
                clear hst
                go_wp2
                refine wp_region_still_lit (by kernel_rfl) (by kernel_rfl) ?_
                iterate 4 still_step
                refine wpStill_load_mid (by simp [Region.wanted]) 69 (.tmp 47) rfl x1 (o1 + j * 64) rfl (secv s) (.array 64 5) q1.out Tryd.underlying69 rfl (by rw [secv_length, l64]; exact size_sec) ?_
                iterate 4 still_step
                refine wpStill_load_mid (by simp [Region.wanted]) 69 (.tmp 52) rfl x2 (o2 + j * 64) rfl (secv t) (.array 64 5) q2.out Tryd.underlying69 rfl (by rw [secv_length, m64]; exact size_sec) ?_
                still_step
                refine wpStill_nil ?_
                go_wp2
                go_roundw
                case rel => exact ⟨j + 1, by omega, by go_num, Hst.out.1 HST.out, hB.out.drew⟩
                case measure => simp [intOf]; omega
              · have hdst : decide (s = t) = false := by simpa using hst
                have HST := Lib.hid hst
                clear hst
                go_wp2
                refine wp_region_still_lit (by kernel_rfl) (by kernel_rfl) ?_
                iterate 4 still_step
                refine wpStill_load_mid (by simp [Region.wanted]) 69 (.tmp 47) rfl x1 (o1 + j * 64) rfl (secv s) (.array 64 5) q1.out Tryd.underlying69 rfl (by rw [secv_length, l64]; exact size_sec) ?_
                iterate 4 still_step
                refine wpStill_load_mid (by simp [Region.wanted]) 69 (.tmp 52) rfl x2 (o2 + j * 64) rfl (secv t) (.array 64 5) q2.out Tryd.underlying69 rfl (by rw [secv_length, m64]; exact size_sec) ?_
                still_step
                refine wpStill_nil ?_
                go_wp2
                go_ret
                exact ⟨ret_b (by rw [Hfin.out, Hst.out.2 HST.out]; rfl) rfl, hB2.out.drew⟩
            · have hjn : j = n := by omega
              have heq : a.secs = b.secs := by
                rw [hjn, List.take_of_length_le (by rw [E1.out]; omega), List.take_of_length_le (by rw [F1.out]; omega)] at hpre
                exact hpre
              have hfin2 : sameB a b = decide (a.loose = b.loose) := by rw [Hfin.out]; simp [heq]
              have Hf2 := Lib.hid hfin2
              clear hjn heq hfin2 hpre
              have hB := Lib.hid hb; have hB2 := Lib.hid hbw2
              clear hb hbw2
              go_wp2_with fail
              go_loopw [6] (fun k wr => ∃ j : Nat, j ≤ n' ∧ k = .int .i64 j ∧ a.loose.take j = b.loose.take j ∧ Below (w.heap.size + 1 + 1) ((w.alloc (.cells #[.slice A n c, .slice A' n' c', .int .i64 a.fuse, .bool a.down] 28)).alloc (.cells #[.slice B n e, .slice B' n' e', .int .i64 b.fuse, .bool b.down] 28)) wr) (fun k _ => n' - (intOf k).toNat)
              case atStart => exact ⟨0, Nat.zero_le _, rfl, rfl, hB.out⟩
              case round =>
                clear hB hB2 p0 p1 p2 p3 r0 r1 r2 r3
                obtain ⟨j, hj, rfl, hpre, hb⟩ := hrel
                have B0 : Bk wr w.heap.size 28 _ := Bk.below ((Bk.new w 28 _).alloc _) hb (by omega)
                have B1 : Bk wr (w.heap.size + 1) 28 _ := Bk.below (Bk.new2 _ _ 28 _) hb (by omega)
                obtain ⟨⟨p0, p1, p2, p3⟩, -⟩ := B0.four
                obtain ⟨⟨r0, r1, r2, r3⟩, -⟩ := B1.four
                clear B0 B1
                have hbw2 : Below w.heap.size w wr := HBW.out.trans (hb.mono (by omega))
                by_cases hlt : j < n'
                · have hja : j < a.loose.length := by rw [E2.out]; exact hlt
                  have hjb : j < b.loose.length := by rw [F2.out]; exact hlt
                  obtain ⟨x1, o1, hA, hb1, hr1⟩ := Arr.rows_at (f := wrv) (l := a.loose) HL.out (i := j) hja
                  obtain ⟨x2, o2, hB, hb2, hr2⟩ := Arr.rows_at (f := wrv) (l := b.loose) HM.out (i := j) hjb
                  subst hA hB
                  have hji : (j : Int) < (n' : Int) := by omega
                  have q1 := Lib.hid (rangeAt_keep hr1 (w' := wr.drew) (fun p hp => (hbw2.drew).cell (by omega)))
                  have q2 := Lib.hid (rangeAt_keep hr2 (w' := wr.drew) (fun p hp => (hbw2.drew).cell (by omega)))
                  have l64 := L2.out _ (List.getElem_mem hja)
                  have m64 := M2.out _ (List.getElem_mem hjb)
                  have hstep := rows_eq_step a.loose b.loose j hpre (by rw [E2.out, F2.out]) hja
                  obtain ⟨s, hs⟩ : ∃ s, a.loose[j] = s := ⟨_, rfl⟩
                  obtain ⟨t, ht⟩ : ∃ t, b.loose[j] = t := ⟨_, rfl⟩
                  rw [hs] at q1 l64
                  rw [ht] at q2 m64
                  rw [hs, ht] at hstep
                  have Hst := Lib.hid hstep
                  have hB := Lib.hid hb; have hB2 := Lib.hid hbw2
                  clear hs ht hstep hr1 hr2 hpre hb hbw2
                  have hneq2 : ∀ W, (binOp .neq 83 (.agg (wrv s).toArray) (.agg (wrv t).toArray)).run Tryd.prog W = .ok (.bool (!decide (s = t))) W := fun W => run_neq_wr W s t l64 m64
                  by_cases hst : s = t
                  · have hdst : decide (s = t) = true := by simpa using hst
                    have HST := Lib.hid hst
                    clear hst
                    go_wp2
                    refine wp_region_still_lit (by kernel_rfl) (by kernel_rfl) ?_
                    iterate 4 still_step
                    refine wpStill_load_mid (by simp [Region.wanted]) 83 (.tmp 65) rfl x1 (o1 + j * 65) rfl (wrv s) (.struct (Tryd.prog.fieldsOf 83)) q1.out Tryd.underlying83 rfl (by rw [wrv_length, l64]; exact size_wr) ?_
                    iterate 4 still_step
                    refine wpStill_load_mid (by simp [Region.wanted]) 83 (.tmp 70) rfl x2 (o2 + j * 65) rfl (wrv t) (.struct (Tryd.prog.fieldsOf 83)) q2.out Tryd.underlying83 rfl (by rw [wrv_length, m64]; exact size_wr) ?_
                    still_step
                    refine wpStill_nil ?_
                    go_wp2
                    go_roundw
                    case rel => exact ⟨j + 1, by omega, by go_num, Hst.out.1 HST.out, hB.out.drew⟩
                    case measure => simp [intOf]; omega
                  · have hdst : decide (s = t) = false := by simpa using hst
                    have HST := Lib.hid hst
                    clear hst
                    go_wp2
                    refine wp_region_still_lit (by kernel_rfl) (by kernel_rfl) ?_
                    iterate 4 still_step
                    refine wpStill_load_mid (by simp [Region.wanted]) 83 (.tmp 65) rfl x1 (o1 + j * 65) rfl (wrv s) (.struct (Tryd.prog.fieldsOf 83)) q1.out Tryd.underlying83 rfl (by rw [wrv_length, l64]; exact size_wr) ?_
                    iterate 4 still_step
                    refine wpStill_load_mid (by simp [Region.wanted]) 83 (.tmp 70) rfl x2 (o2 + j * 65) rfl (wrv t) (.struct (Tryd.prog.fieldsOf 83)) q2.out Tryd.underlying83 rfl (by rw [wrv_length, m64]; exact size_wr) ?_
                    still_step
                    refine wpStill_nil ?_
                    go_wp2
                    go_ret
                    exact ⟨ret_b (by rw [Hf2.out, Hst.out.2 HST.out]) rfl, hB2.out.drew⟩
                · have hjn : j = n' := by omega
                  have heq : a.loose = b.loose := by
                    rw [hjn, List.take_of_length_le (by rw [E2.out]; omega), List.take_of_length_le (by rw [F2.out]; omega)] at hpre
                    exact hpre
                  have hfin3 : sameB a b = true := by rw [Hf2.out]; simp [heq]
                  have Hf3 := Lib.hid hfin3
                  have hB2 := Lib.hid hbw2
                  clear hjn heq hfin3 hpre hb hbw2
                  go_wp2
                  go_ret
                  exact ⟨ret_b Hf3.out rfl, hB2.out⟩
        · have g4 : (a.down == b.down) = false := by simpa using h4
          have g4' : (a.down != b.down) = true := by simp [bne, g4]
          have Hno := Lib.hid (sameB_no (.inr (.inr (.inr (.inl h4)))))
          clear h3 h4 a1 a2 b1 b2 l64 l65 m64 m65
          go_enter Tryd.func21, Tryd.ntmps21
          go_wp2
          go_ret
          exact ⟨ret_b Hno.out rfl, HBW.out⟩
      · have g3 : (a.fuse == b.fuse) = false := by simpa using h3
        have g3' : (a.fuse != b.fuse) = true := by simp [bne, g3]
        have Hno := Lib.hid (sameB_no (.inr (.inr (.inl h3))))
        clear h3 a1 a2 b1 b2 l64 l65 m64 m65
        go_enter Tryd.func21, Tryd.ntmps21
        go_wp2
        go_ret
        exact ⟨ret_b Hno.out rfl, HBW.out⟩
    · have g2 : ((n' : Int) == (m' : Int)) = false := by simp; omega
      have g2' : ((n' : Int) != (m' : Int)) = true := by simp [bne, g2]
      have Hno := Lib.hid (sameB_no (a := a) (b := b) (.inr (.inl (by rw [a2, b2]; exact h2))))
      clear a1 a2 b1 b2 l64 l65 m64 m65
      go_enter Tryd.func21, Tryd.ntmps21
      go_wp2
      go_ret
      exact ⟨ret_b Hno.out rfl, HBW.out⟩
  · have g1 : ((n : Int) == (m : Int)) = false := by simp; omega
    have g1' : ((n : Int) != (m : Int)) = true := by simp [bne, g1]
    have Hno := Lib.hid (sameB_no (a := a) (b := b) (.inl (by rw [a1, b1]; exact h1)))
    clear a1 a2 b1 b2 l64 l65 m64 m65
    go_enter Tryd.func21, Tryd.ntmps21
    go_wp2
    go_ret
    exact ⟨ret_b Hno.out rfl, HBW.out⟩
end Go.Proofs.YthcdmlbefkfelaaDoor
