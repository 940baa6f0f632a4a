/-
  Contracts over package box and the document's own: messages taken out.
-/
import Derived.Test.YthmlgbeonmpbjaaQBoxH
namespace Go.Proofs.Ythmlgbeonmpbjaa
set_option linter.unusedVariables false
set_option linter.unusedSimpArgs false
open Go.RowKit
set_option linter.unusedVariables false
set_option linter.unusedSimpArgs false

theorem mem_was {ids : List Int} {j : Nat} {u z : Int} (ht : ids.take (j + 1) = ids.take j ++ [z]) (h : decide (u ∈ ids.take j) = true) : decide (u ∈ ids.take (j + 1)) = true := decide_eq_true (by rw [ht]; exact List.mem_append_left _ (of_decide_eq_true h))
theorem mem_is {ids : List Int} {j : Nat} {u z : Int} (ht : ids.take (j + 1) = ids.take j ++ [z]) (h : (z == u) = true) : decide (u ∈ ids.take (j + 1)) = true := decide_eq_true (by rw [ht, beq_iff_eq.1 h]; exact List.mem_append_right _ (List.mem_singleton_self u))
theorem mem_not {ids : List Int} {j : Nat} {u z : Int} (ht : ids.take (j + 1) = ids.take j ++ [z]) (h : decide (u ∈ ids.take j) = false) (hz : (z == u) = false) : decide (u ∈ ids.take (j + 1)) = false := decide_eq_false (fun e => by
  rw [ht] at e
  rcases List.mem_append.1 e with e | e
  · exact of_decide_eq_false h e
  · rw [List.mem_singleton.1 e] at hz; simp at hz)
set_option maxRecDepth 20000 in
set_option maxHeartbeats 8000000 in
theorem x11take_any (nm : ByteArray) (v nx : Int) (A : Option Addr) (n c : Nat) (l : List Mg) (B : Option Addr) (m d0 : Nat) (ids : List Int) (w : World) (hl : MsgsIn w w.heap.size A n l) (hn : n ≤ 1000000) (hsm : ∀ m ∈ l, m.body.length ≤ 1000000) (hi : Col ints w w.heap.size B m ids) (hm : m ≤ 140737488355328) :
    Calls Try.prog 20 #[.agg #[.string nm, .int .i64 v, .int .i64 nx, .slice A n c], .slice B m d0] w (TakeIs ⟨nm, v, nx, l⟩ ids w) := by
  have hB : Below w.heap.size w ((w.alloc (.cells #[.string nm, .int .i64 v, .int .i64 nx, .slice A n c] 24)).alloc (.cells #[.string ⟨#[]⟩, .int .i64 0, .int .i64 0, .slice none 0 0] 24)) := ((Below.refl _ _).alloc (Nat.le_refl _) _).alloc (by simp) _
  have hat : TwoAt w nm v nx A n c (w.heap.size + 2) ((w.alloc (.cells #[.string nm, .int .i64 v, .int .i64 nx, .slice A n c] 24)).alloc (.cells #[.string ⟨#[]⟩, .int .i64 0, .int .i64 0, .slice none 0 0] 24)) := ⟨(Bk.new _ _ _).alloc _, Bk.new2 _ _ _ _, hB, by simp, by simp⟩
  have HL := Lib.hid hl
  have HSM := Lib.hid hsm
  have HI := Lib.hid hi
  have HZ : Hid (((w.alloc (.cells #[.string nm, .int .i64 v, .int .i64 nx, .slice A n c] 24)).alloc (.cells #[.string ⟨#[]⟩, .int .i64 0, .int .i64 0, .slice none 0 0] 24)).heap.size = w.heap.size + 2) := Lib.hid (by simp)
  have HAT := Lib.hid hat
  obtain ⟨⟨c0, c1, c2, c3⟩, -, -, -, -⟩ := hat.1.four
  have hR := x11right_any nm v nx A n c l _ (hl.later hB) (by omega)
  clear hat hB hl hsm hi
  cases hok : okBx ⟨nm, v, nx, l⟩
  · have HE : Hid (tkE ⟨nm, v, nx, l⟩ ids = 1) := Lib.hid (tkE_arg (fun h => by rw [okBx_yes h] at hok; cases hok))
    have HOK := Lib.hid hok
    clear hok
    rw [HOK.out] at hR
    have HRR := Lib.hid hR
    clear hR
    go_enter Try.func20, Try.ntmps20
    go_wp2_with fail
    generalize (w.alloc (.cells #[.string nm, .int .i64 v, .int .i64 nx, .slice A n c] 24)).alloc (.cells #[.string ⟨#[]⟩, .int .i64 0, .int .i64 0, .slice none 0 0] 24) = W2 at *
    refine HRR.out.mono ?_
    rintro e w3 ⟨rfl, hb3⟩
    have HAT3 := Lib.hid (HAT.out.below hb3)
    clear hb3 HAT HRR HZ c0 c1 c2 c3
    obtain ⟨⟨b0, b1, b2, b3⟩, -, -, -, -⟩ := HAT3.out.1.four
    obtain ⟨⟨r0, r1, r2, r3⟩, s0, s1, s2, s3⟩ := HAT3.out.2.1.four
    go_wp2_with fail
    refine bodyPost_ret (results_cell3 rfl _ _ ⟨w.heap.size + 1, 0, none⟩ _ _ _ rfl rfl rfl (Bk.box_ (Bk.put4 HAT3.out.2.1 _ _ _ _))) rfl (TakeIs.no (z := 1) HE.out (by omega) ?_ ?_)
    · exact HL.out.later (below_put4 HAT3.out.2.2.1 (by omega) _ _ _ _)
    · exact below_put4 HAT3.out.2.2.1 (by omega) _ _ _ _
  have HOKB := Lib.hid (okBx_iff.1 hok)
  have HOK := Lib.hid hok
  clear hok
  cases hth : thereU l ids
  · have HE : Hid (tkE ⟨nm, v, nx, l⟩ ids = 6) := Lib.hid (tkE_none HOKB.out hth)
    have HTH := Lib.hid hth
    clear hth
    rw [HOK.out] at hR
    have HRR := Lib.hid hR
    clear hR
    go_enter Try.func20, Try.ntmps20
    go_wp2_with fail
    generalize (w.alloc (.cells #[.string nm, .int .i64 v, .int .i64 nx, .slice A n c] 24)).alloc (.cells #[.string ⟨#[]⟩, .int .i64 0, .int .i64 0, .slice none 0 0] 24) = W2 at *
    refine HRR.out.mono ?_
    rintro e w3 ⟨rfl, hb3⟩
    have HAT3 := Lib.hid (HAT.out.below hb3)
    clear hb3 HAT HRR HZ c0 c1 c2 c3
    obtain ⟨⟨b0, b1, b2, b3⟩, -, -, -, -⟩ := HAT3.out.1.four
    go_wp2_with fail
    clear b0 b1 b2 b3
    have hM := x11there_any nm v nx A n c l B m d0 ids w3 (HL.out.later HAT3.out.2.2.1) hn ((HI.out.below HAT3.out.2.2.1 (Nat.le_refl _)).more HAT3.out.2.2.1.size) hm
    rw [HTH.out] at hM
    refine hM.mono ?_
    rintro e w4 ⟨rfl, hb4⟩
    have HAT4 := Lib.hid (HAT3.out.below hb4)
    clear hb4 hM HAT3
    obtain ⟨⟨b0, b1, b2, b3⟩, -, -, -, -⟩ := HAT4.out.1.four
    obtain ⟨⟨r0, r1, r2, r3⟩, s0, s1, s2, s3⟩ := HAT4.out.2.1.four
    go_wp2_with fail
    refine bodyPost_ret (results_cell3 rfl _ _ ⟨w.heap.size + 1, 0, none⟩ _ _ _ rfl rfl rfl (Bk.box_ (Bk.put4 HAT4.out.2.1 _ _ _ _))) rfl (TakeIs.no (z := 6) HE.out (by omega) ?_ ?_)
    · exact HL.out.later (below_put4 HAT4.out.2.2.1 (by omega) _ _ _ _)
    · exact below_put4 HAT4.out.2.2.1 (by omega) _ _ _ _
  have HE : Hid (tkE ⟨nm, v, nx, l⟩ ids = 0) := Lib.hid (tkE_ok HOKB.out hth)
  have HTH := Lib.hid hth
  clear hth
  rw [HOK.out] at hR
  have HRR := Lib.hid hR
  clear hR
  go_enter Try.func20, Try.ntmps20
  go_wp2_with fail
  generalize (w.alloc (.cells #[.string nm, .int .i64 v, .int .i64 nx, .slice A n c] 24)).alloc (.cells #[.string ⟨#[]⟩, .int .i64 0, .int .i64 0, .slice none 0 0] 24) = W2 at *
  refine HRR.out.mono ?_
  rintro e w3 ⟨rfl, hb3⟩
  have HAT3 := Lib.hid (HAT.out.below hb3)
  clear hb3 HAT HRR HZ c0 c1 c2 c3
  obtain ⟨⟨b0, b1, b2, b3⟩, -, -, -, -⟩ := HAT3.out.1.four
  go_wp2_with fail
  clear b0 b1 b2 b3
  have hM := x11there_any nm v nx A n c l B m d0 ids w3 (HL.out.later HAT3.out.2.2.1) hn ((HI.out.below HAT3.out.2.2.1 (Nat.le_refl _)).more HAT3.out.2.2.1.size) hm
  rw [HTH.out] at hM
  refine hM.mono ?_
  rintro e w4 ⟨rfl, hb4⟩
  have HAT4 := Lib.hid (HAT3.out.below hb4)
  clear hb4 hM HAT3
  obtain ⟨⟨b0, b1, b2, b3⟩, -, -, -, -⟩ := HAT4.out.1.four
  go_wp2_with fail
  clear b0 b1 b2 b3
  refine (x11copy_any nm v nx A n c l w4 (HL.out.later HAT4.out.2.2.1) hn HSM.out).mono ?_
  rintro e w5 ⟨A', c', rfl, ho, hb⟩
  have hba : Below w5.heap.size w5 (w5.alloc (.cells #[.string nm, .int .i64 v, .int .i64 nx, .slice A' n c'] 24)) := (Below.refl _ _).alloc (Nat.le_refl _) _
  have HAT5 := Lib.hid ((HAT4.out.below hb).below hba)
  have hm5 := (ho.below hba).msgs (fun m hm => Nat.le_trans (HSM.out m hm) (by omega))
  obtain ⟨bo, hbo⟩ : ∃ bo, w5.heap.size = bo := ⟨_, rfl⟩
  have hbl : w.heap.size + 2 ≤ bo := by have := hb.size; have := HAT4.out.2.2.2.1; omega
  have HK5 : Hid (Bk (w5.alloc (.cells #[.string nm, .int .i64 v, .int .i64 nx, .slice A' n c'] 24)) bo 24 #[.string nm, .int .i64 v, .int .i64 nx, .slice A' n c']) := Lib.hid (by rw [← hbo]; exact Bk.new _ _ _)
  have HM5 := Lib.hid hm5
  clear ho hb hba hm5 HAT4
  go_wp2_with fail
  try rw [hbo]
  clear hbo
  generalize w5.alloc (.cells #[.string nm, .int .i64 v, .int .i64 nx, .slice A' n c'] 24) = w4 at *
  have HBO := Lib.hid (show bo < w4.heap.size from HK5.out.lt)
  have HS4 := Lib.hid (show w.heap.size + 2 ≤ w4.heap.size from HAT5.out.2.2.2.1)
  have HI4 := Lib.hid ((HI.out.below HAT5.out.2.2.1 (Nat.le_refl _)).more HAT5.out.2.2.1.size)
  go_loopw [8, 9, 10] (fun t10 t11 i wx => ∃ (k n1 c1 n2 c2 : Nat) (A1 A2 : Option Addr), k ≤ n ∧ i = .int .i64 (k : Int) ∧ t10 = .slice A1 n1 c1 ∧ t11 = .slice A2 n2 c2 ∧ n1 ≤ k ∧ n2 ≤ k ∧ OwnR wx w4.heap.size A1 n1 c1 (leftL (l.take k) ids) ∧ OwnR wx w4.heap.size A2 n2 c2 (goneL (l.take k) ids) ∧ ApartM (.slice A1 n1 c1) (.slice A2 n2 c2) ∧ Below w4.heap.size w4 wx) (fun _ _ i _ => n - (intOf i).toNat)
  case atStart => exact ⟨0, 0, 0, 0, 0, none, none, Nat.zero_le _, rfl, rfl, rfl, Nat.le_refl _, Nat.le_refl _, OwnR.nil, OwnR.nil, fun g h => (by cases h), Below.refl _ _⟩
  case round =>
    obtain ⟨k, n1, c1, n2, c2, A1, A2, hk, rfl, rfl, rfl, hn1, hn2, ho1, ho2, hap, hb⟩ := hrel
    obtain ⟨wo, rfl⟩ : ∃ wo, wo = wr := ⟨_, rfl⟩
    have HO1 := Lib.hid ho1
    have HO2 := Lib.hid ho2
    have HAPR := Lib.hid hap
    have HBR := Lib.hid hb
    have x3 := (HK5.out.below hb HBO.out).cell 3
    clear ho1 ho2 hap hb
    by_cases hlt : k < n
    · obtain ⟨b, o, x, rfl, hbb, hla, htk, hrow, hin⟩ := (HM5.out.below HBR.out (Nat.le_refl _)).at_ hlt
      have HTK := Lib.hid htk
      have HROW := Lib.hid hrow
      have HIN := Lib.hid hin
      have hk0 : (0 : Int) ≤ (k : Int) := by omega
      have hkn : (k : Int) < (n : Int) := by omega
      obtain ⟨⟨u, f, d, bl⟩, xA, xn, xc⟩ := x
      have r0 : wo.cell? ⟨b, o + k * 4, none⟩ = some (.int .i64 u) := (row4 hrow).1
      clear hla htk hrow hin
      go_wp2_with fail
      go_loopw [11, 12] (fun t i wx => ∃ (j : Nat) (is : Bool), j ≤ m ∧ i = .int .i64 (j : Int) ∧ t = .bool is ∧ is = decide (u ∈ ids.take j) ∧ ∃ q, wx = wo.drewN q) (fun _ i _ => m - (intOf i).toNat)
      case atStart => exact ⟨0, false, Nat.zero_le _, rfl, rfl, by simp, 0, rfl⟩
      case round =>
        obtain ⟨j, is, hj, rfl, rfl, his, q, rfl⟩ := hrel
        have HIS := Lib.hid his.symm
        clear his
        by_cases hjm : j < m
        · obtain ⟨bi, oi, z, rfl, hbi, hlz, htz, hcz⟩ := ((HI4.out.below HBR.out (Nat.le_refl _))).at_ hjm
          have HTZ := Lib.hid htz
          replace hcz : wo.cell? ⟨bi, oi + j, none⟩ = some (.int .i64 z) := hcz
          have j0 : (0 : Int) ≤ (j : Int) := by omega
          have j1 : (j : Int) < (m : Int) := by omega
          clear hlz htz
          cases is
          · cases hzu : (z == u)
            · have HS := Lib.hid (mem_not HTZ.out HIS.out hzu)
              go_wp2_with fail
              go_quiet (fail)
              go_wp2_with fail
              go_roundw
              case rel => exact ⟨j + 1, false, by omega, by go_num, rfl, by rw [HS.out], _, rfl⟩
              case measure => simp [intOf]; omega
            · have HS := Lib.hid (mem_is HTZ.out hzu)
              go_wp2_with fail
              go_quiet (fail)
              go_wp2_with fail
              go_roundw
              case rel => exact ⟨j + 1, true, by omega, by go_num, rfl, by rw [HS.out], _, rfl⟩
              case measure => simp [intOf]; omega
          · have HS := Lib.hid (mem_was HTZ.out HIS.out)
            go_wp2_with fail
            go_quiet (fail)
            go_wp2_with fail
            go_roundw
            case rel => exact ⟨j + 1, true, by omega, by go_num, rfl, by rw [HS.out], _, rfl⟩
            case measure => simp [intOf]; omega
        · have hjn : ¬ (j : Int) < (m : Int) := by omega
          obtain rfl : m = j := by omega
          have HMEM : Hid (decide (u ∈ ids) = is) := Lib.hid (by have := HIS.out; rwa [List.take_of_length_le (by rw [HI4.out.1]; exact Nat.le_refl _)] at this)
          have hbz : Below wo.heap.size wo (wo.drewN q) := below_drewN (Below.refl _ _) q
          have HZ5 := Lib.hid hbz
          have HROWZ := Lib.hid (rangeAtK_keep HROW.out (fun i => hbz.cell (p := ⟨b, i, none⟩) (by have := HBR.out.size; show b < wo.heap.size; omega)))
          clear hbz r0 HROW
          have hws := HBR.out.size
          have hw3 : Below wo.heap.size wo ((wo.drewN q).alloc (.cells #[.int .i64 u, .int .i64 f, .int .i64 d, .slice xA xn xc] 27)) := HZ5.out.alloc HZ5.out.size _
          have HO13 := Lib.hid (HO1.out.below hw3 hws)
          have HO23 := Lib.hid (HO2.out.below hw3 hws)
          have HB3 := Lib.hid (HBR.out.trans (hw3.mono hws))
          have HN3 : Hid (((wo.drewN q).alloc (.cells #[.int .i64 u, .int .i64 f, .int .i64 d, .slice xA xn xc] 27)).rangeAt wo.heap.size 0 (hdC ⟨⟨u, f, d, bl⟩, xA, xn, xc⟩)) := Lib.hid (Bk.new (wo.drewN q) 27 #[.int .i64 u, .int .i64 f, .int .i64 d, .slice xA xn xc]).range
          have HIN3 : Hid (HdIn ((wo.drewN q).alloc (.cells #[.int .i64 u, .int .i64 f, .int .i64 d, .slice xA xn xc] 27)) w4.heap.size ⟨⟨u, f, d, bl⟩, xA, xn, xc⟩) := Lib.hid (HIN.out.below (hw3.mono hws) (Nat.le_refl _))
          have HS3 := Lib.hid (show w4.heap.size ≤ ((wo.drewN q).alloc (.cells #[.int .i64 u, .int .i64 f, .int .i64 d, .slice xA xn xc] 27)).heap.size by have := hw3.size; omega)
          clear hw3 hws
          cases is
          · have HGS := Lib.hid (left_snoc HTK.out (of_decide_eq_false HMEM.out))
            go_wp2_with ((with_reducible show wpList _ _ _ (⟨some 67, _, _, _, _, _⟩ :: _) _ _); refine hold ?_)
            refine held (wpList_load_mid rfl 27 (.tmp 66) rfl b (o + k * 4) rfl _ _ HROWZ.out Try.underlying27 rfl (by kernel_rfl) ?_)
            unfold hdC
            go_wp2_with ((with_reducible show wpList _ _ _ (⟨some 69, _, _, _, _, _⟩ :: _) _ _); refine hold ?_)
            refine held (wpList_append_r rfl (.tmp 62) (.tmp 68) rfl w4.heap.size A1 n1 c1 _ rfl HO13.out wo.heap.size 0 ⟨⟨u, f, d, bl⟩, xA, xn, xc⟩ rfl HN3.out HIN3.out (by omega) HS3.out ?_)
            intro A7 c7 w7 ho7 hb7 hg7 hat7
            have HO7 : Hid (OwnR w7 w4.heap.size A7 (n1 + 1) c7 (leftL (l.take (k + 1)) ids)) := Lib.hid (by rw [HGS.out.2]; exact ho7)
            have HO8 : Hid (OwnR w7 w4.heap.size A2 n2 c2 (goneL (l.take (k + 1)) ids)) := Lib.hid (by rw [HGS.out.1]; exact HO23.out.other hg7 HAPR.out hb7)
            obtain ⟨us, q1, _, _⟩ := HO23.out
            have HAP7 := Lib.hid (HAPR.out.next q1.1 hat7)
            have HB7 := Lib.hid (HB3.out.trans hb7)
            clear ho7 hb7 hg7 hat7 q1 HO13 HO23 HB3 HN3 HIN3 HS3 x3
            go_wp2_with fail
            go_roundw
            case rel => exact ⟨k + 1, n1 + 1, c7, n2, c2, A7, A2, by omega, by go_num, rfl, rfl, by omega, by omega, HO7.out, HO8.out, HAP7.out, HB7.out⟩
            case measure => simp [intOf]; omega
          · have HGS := Lib.hid (gone_snoc HTK.out (of_decide_eq_true HMEM.out))
            go_wp2_with ((with_reducible show wpList _ _ _ (⟨some 59, _, _, _, _, _⟩ :: _) _ _); refine hold ?_)
            refine held (wpList_load_mid rfl 27 (.tmp 58) rfl b (o + k * 4) rfl _ _ HROWZ.out Try.underlying27 rfl (by kernel_rfl) ?_)
            unfold hdC
            go_wp2_with ((with_reducible show wpList _ _ _ (⟨some 61, _, _, _, _, _⟩ :: _) _ _); refine hold ?_)
            refine held (wpList_append_r rfl (.tmp 54) (.tmp 60) rfl w4.heap.size A2 n2 c2 _ rfl HO23.out wo.heap.size 0 ⟨⟨u, f, d, bl⟩, xA, xn, xc⟩ rfl HN3.out HIN3.out (by omega) HS3.out ?_)
            intro A7 c7 w7 ho7 hb7 hg7 hat7
            have HO7 : Hid (OwnR w7 w4.heap.size A7 (n2 + 1) c7 (goneL (l.take (k + 1)) ids)) := Lib.hid (by rw [HGS.out.1]; exact ho7)
            have HO8 : Hid (OwnR w7 w4.heap.size A1 n1 c1 (leftL (l.take (k + 1)) ids)) := Lib.hid (by rw [HGS.out.2]; exact HO13.out.other hg7 HAPR.out.symm hb7)
            obtain ⟨us, q1, _, _⟩ := HO13.out
            have HAP7 := Lib.hid (ApartM.symm (HAPR.out.symm.next q1.1 hat7))
            have HB7 := Lib.hid (HB3.out.trans hb7)
            clear ho7 hb7 hg7 hat7 q1 HO13 HO23 HB3 HN3 HIN3 HS3 x3
            go_wp2_with fail
            go_roundw
            case rel => exact ⟨k + 1, n1, c1, n2 + 1, c7, A1, A7, by omega, by go_num, rfl, rfl, by omega, by omega, HO8.out, HO7.out, HAP7.out, HB7.out⟩
            case measure => simp [intOf]; omega
    · have hkn : ¬ (k : Int) < (n : Int) := by omega
      obtain rfl : n = k := by omega
      have htk : l.take n = l := List.take_of_length_le (by rw [HL.out.len]; exact Nat.le_refl _)
      have HO1E : Hid (OwnR wo w4.heap.size A1 n1 c1 (leftL l ids)) := Lib.hid (by have := HO1.out; rwa [htk] at this)
      have HO2E : Hid (OwnR wo w4.heap.size A2 n2 c2 (goneL l ids)) := Lib.hid (by have := HO2.out; rwa [htk] at this)
      have hk5 := HK5.out.below HBR.out HBO.out
      have hat5 := HAT5.out.below2 HS4.out HBR.out
      clear htk HO1 HO2 x3
      have hk6 : Bk (wo.setCell ⟨bo, 3, none⟩ (.slice A1 n1 c1)) bo 24 #[.string nm, .int .i64 v, .int .i64 nx, .slice A1 n1 c1] := by simpa using hk5.put 3 (.slice A1 n1 c1)
      have hat6 := hat5.below2 (Nat.le_refl _) (below_cell hbl 3 (.slice A1 n1 c1))
      have e3 := hk5.cell 3
      have HO1F := Lib.hid (HO1E.out.far (hk5.cell 3) (by intro z h; cases h) (.slice A1 n1 c1) HBO.out)
      have HO2F := Lib.hid (HO2E.out.far (hk5.cell 3) (by intro z h; cases h) (.slice A1 n1 c1) HBO.out)
      have HSR := Lib.hid (show w4.heap.size ≤ (wo.setCell ⟨bo, 3, none⟩ (.slice A1 n1 c1)).heap.size by have := HBR.out.size; simp; omega)
      obtain ⟨⟨p0, p1, p2, p3⟩, t0, t1, t2, t3⟩ := hk5.four
      have HK6 := Lib.hid hk6
      have HAT6 := Lib.hid hat6
      clear hk5 hk6 hat5 hat6 HO1E HO2E e3
      obtain ⟨⟨k0, k1, k2, k3⟩, -, -, -, -⟩ := HK6.out.four
      obtain ⟨⟨r0, r1, r2, r3⟩, s0, s1, s2, s3⟩ := HAT6.out.2.1.four
      go_wp2_with fail
      refine bodyPost_ret (results_cell3 rfl _ _ ⟨w.heap.size + 1, 0, none⟩ _ _ _ rfl rfl rfl (Bk.box_ (Bk.put4 HAT6.out.2.1 _ _ _ _))) rfl (TakeIs.yes HE.out ?_ ?_ ?_)
      · refine ((((HO1F.out.far r0 (by intro z h; cases h) _ (by have := HS4.out; omega)).far (x := .int .i64 0) ?_ (by intro z h; cases h) _ (by have := HS4.out; omega)).far (x := .int .i64 0) ?_ (by intro z h; cases h) _ (by have := HS4.out; omega)).far (x := .slice none 0 0) ?_ (by intro z h; cases h) _ (by have := HS4.out; omega)).msgs (by have := HSR.out; simp at this ⊢; omega)
        · exact (cell_setCell_ne _ _ _ _ _ _ (by omega)).trans r1
        · exact (cell_setCell_ne _ _ _ _ _ _ (by omega)).trans ((cell_setCell_ne _ _ _ _ _ _ (by omega)).trans r2)
        · exact (cell_setCell_ne _ _ _ _ _ _ (by omega)).trans ((cell_setCell_ne _ _ _ _ _ _ (by omega)).trans ((cell_setCell_ne _ _ _ _ _ _ (by omega)).trans r3))
      · refine ((((HO2F.out.far r0 (by intro z h; cases h) _ (by have := HS4.out; omega)).far (x := .int .i64 0) ?_ (by intro z h; cases h) _ (by have := HS4.out; omega)).far (x := .int .i64 0) ?_ (by intro z h; cases h) _ (by have := HS4.out; omega)).far (x := .slice none 0 0) ?_ (by intro z h; cases h) _ (by have := HS4.out; omega)).msgs (by have := HSR.out; simp at this ⊢; omega)
        · exact (cell_setCell_ne _ _ _ _ _ _ (by omega)).trans r1
        · exact (cell_setCell_ne _ _ _ _ _ _ (by omega)).trans ((cell_setCell_ne _ _ _ _ _ _ (by omega)).trans r2)
        · exact (cell_setCell_ne _ _ _ _ _ _ (by omega)).trans ((cell_setCell_ne _ _ _ _ _ _ (by omega)).trans ((cell_setCell_ne _ _ _ _ _ _ (by omega)).trans r3))
      · exact below_put4 HAT6.out.2.2.1 (by omega) _ _ _ _
end Go.Proofs.Ythmlgbeonmpbjaa
