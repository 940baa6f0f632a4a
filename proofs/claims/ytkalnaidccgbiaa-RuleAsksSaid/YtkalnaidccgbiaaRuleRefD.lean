/-
  Contracts over the document's own package rule: rising names; a mailbox' seconds, set.
-/
import Derived.Test.YtkalnaidccgbiaaRuleRefC
import Derived.Test.YtkalnaidccgbiaaRuleA
import Derived.Deep.QuietTactic
import Derived.BigQuiet
namespace Go.Proofs.Ytkalnaidccgbiaa
open Go.RowKit
set_option linter.unusedVariables false
set_option linter.unusedSimpArgs false

theorem rulC_oneR (r : Rul) : ∀ u ∈ rulC r, u.oneCell' = true := rulC_one r
theorem info_rul : (Try.prog.info? 54).map (fun i => (i.zero, i.size, i.bytes)) = some (some (.agg #[.string ByteArray.empty, .int .i64 0]), 2, 24) := by kernel_rfl
theorem geq13 (a b : ByteArray) (W : World) : (binOp .geq 9 (.string a) (.string b)).run Try.prog W = .ok (.bool (!decide (ltS a b))) W := by
  show (Op.stringOp .geq a b).run Try.prog W = _
  unfold Op.stringOp
  rw [less13]
  rfl
theorem geq_no {a b : ByteArray} (h : ltS a b) (W : World) : (binOp .geq 9 (.string a) (.string b)).run Try.prog W = .ok (.bool false) W := by rw [geq13, decide_eq_true h]; rfl
theorem geq_yes {a b : ByteArray} (h : ¬ ltS a b) (W : World) : (binOp .geq 9 (.string a) (.string b)).run Try.prog W = .ok (.bool true) W := by rw [geq13, decide_eq_false h]; rfl
set_option maxRecDepth 20000 in
set_option maxHeartbeats 4000000 in
theorem xdRising_any (A : Option Addr) (n c : Nat) (l : List Rul) (w : World) (hl : ColK 2 rulC w w.heap.size A n l) (hn : n ≤ 140737488355328) :
    Calls Try.prog 20 #[.slice A n c] w fun e w' => e = .returned (.bool (risB l)) ∧ ∃ q, w' = w.drewN q := by
  have HL := Lib.hid hl
  clear hl
  go_enter Try.func20, Try.ntmps20
  go_wp2_with fail
  go_loopw [3] (fun i wx => ∃ j q : Nat, (j + 1 ≤ n ∨ j = 0) ∧ i = .int .i64 ((j : Int) + 1) ∧ riseR (l.take (j + 1)) ∧ wx = w.drewN q) (fun i _ => n + 1 - (intOf i).toNat)
  case atStart => exact ⟨0, 0, .inr rfl, rfl, by
    cases l with
    | nil => exact List.Pairwise.nil
    | cons a l => exact List.pairwise_singleton _ _, rfl⟩
  case round =>
    obtain ⟨j, q, hj, rfl, hu, hw⟩ := hrel
    have HU := Lib.hid hu
    have HW := Lib.hid hw
    clear hu hw
    by_cases hlt : j + 1 < n
    · obtain ⟨b, o, x, rfl, hbb, hla, htk, hrow⟩ := HL.out.at_ (show j < n by omega)
      obtain ⟨b2, o2, y, e2, hbb2, hla2, htk2, hrow2⟩ := HL.out.at_ hlt
      injection e2 with e2
      injection e2 with e21 e22
      subst e21 e22
      rw [show w.rangeAt b (o + j * 2) (rulC x) = wr.rangeAt b (o + j * 2) (rulC x) by rw [HW.out]; rfl] at hrow
      rw [show w.rangeAt b (o + (j + 1) * 2) (rulC y) = wr.rangeAt b (o + (j + 1) * 2) (rulC y) by rw [HW.out]; rfl] at hrow2
      obtain ⟨x1, x2⟩ := x
      obtain ⟨y1, y2⟩ := y
      have r0 := hrow 0 _ rfl
      have s0 := hrow2 0 _ rfl
      rw [Nat.add_zero] at r0 s0
      have hj0 : (0 : Int) ≤ (j : Int) := by omega
      have hj1 : (0 : Int) ≤ (j : Int) + 1 := by omega
      have hjn : (j : Int) + 1 < (n : Int) := by omega
      have hjn2 : (j : Int) < (n : Int) := by omega
      have HLA := Lib.hid hla
      have HLA2 := Lib.hid hla2
      have hw1 : IntKind.i64.wrap ((j : Int) + 1 - 1) = (j : Int) := by rw [Int.add_sub_cancel]; exact IntWalk.i64_in _ (by omega)
      have ht1 : ((j : Int) + 1).toNat = j + 1 := by omega
      clear hla hla2 htk htk2 hrow hrow2 hj
      by_cases hs : ltS x1 y1
      · have hle := fun W => geq_no hs W
        have HN := Lib.hid (rise_next HU.out HLA.out HLA2.out hs)
        clear hs
        go_wp2_with fail
        go_quiet (fail)
        go_wp2_with fail
        go_roundw
        case rel => exact ⟨j + 1, _, .inl (by omega), by go_num, HN.out, by rw [HW.out]; exact drewN_twice _ _ _⟩
        case measure => simp [intOf]; omega
      · have hle := fun W => geq_yes hs W
        have HN : Hid (risB l = false) := Lib.hid (decide_eq_false (rise_not HLA.out HLA2.out hs))
        clear hs
        go_wp2_with fail
        go_quiet (fail)
        go_wp2_with fail
        go_ret
        exact ⟨by rw [HN.out] <;> rfl, _, by rw [HW.out]; exact drewN_twice _ _ _⟩
    · have hjn : ¬ (j : Int) + 1 < (n : Int) := by omega
      have HN : Hid (risB l = true) := Lib.hid (decide_eq_true (by have := HU.out; rwa [List.take_of_length_le (by rw [HL.out.1]; omega)] at this))
      clear hj
      go_wp2_with fail
      go_ret
      exact ⟨by rw [HN.out] <;> rfl, _, HW.out⟩

/-- new memory that holds these rules is handed back -/
def GiveR (w : World) (l : List Rul) (e : Ending) (w' : World) : Prop := ∃ A n c, e = .returned (.slice A n c) ∧ OwnK 2 rulC w' w.heap.size 54 A n c l ∧ Below w.heap.size w w'
theorem foldR_take {box : ByteArray} {keep : Int} {l : List Rul} {k : Nat} {r : Rul} (e : l.take (k + 1) = l.take k ++ [r]) : foldR box keep (l.take (k + 1)) = stepR box keep (foldR box keep (l.take k)) r := by rw [e, foldR_snoc]
theorem docR_yes {box : ByteArray} {keep : Int} {l : List Rul} {o : List Rul} (h : foldR box keep l = (o, true)) : docR box keep l = o := by unfold docR; rw [h]; rfl
theorem docR_no {box : ByteArray} {keep : Int} {l : List Rul} {o : List Rul} (h : foldR box keep l = (o, false)) : docR box keep l = o ++ [(box, keep)] := by unfold docR; rw [h]; rfl
set_option maxRecDepth 20000 in
set_option maxHeartbeats 8000000 in
theorem xdSet_any (A : Option Addr) (n c : Nat) (l : List Rul) (box : ByteArray) (keep : Int) (w : World) (hl : ColK 2 rulC w w.heap.size A n l) (hn : n ≤ 1000) :
    Calls Try.prog 23 #[.slice A n c, .string box, .int .i64 keep] w (GiveR w (docR box keep l)) := by
  have HL := Lib.hid hl
  clear hl
  go_enter Try.func23, Try.ntmps23
  go_wp2_with fail
  go_loopw [7, 8, 9] (fun s p i wx => ∃ (k n2 c2 : Nat) (A2 : Option Addr) (o : List Rul) (u : Bool), k ≤ n ∧ i = .int .i64 (k : Int) ∧ p = .bool u ∧ s = .slice A2 n2 c2 ∧ n2 ≤ 2 * k ∧ foldR box keep (l.take k) = (o, u) ∧ OwnK 2 rulC wx w.heap.size 54 A2 n2 c2 o ∧ Below w.heap.size w wx) (fun _ _ i _ => n - (intOf i).toNat)
  case atStart => exact ⟨0, _, _, _, [], decide (keep ≤ 0), Nat.zero_le _, rfl, rfl, rfl, Nat.zero_le _, rfl, OwnK.nil rulC_len, Below.refl _ _⟩
  case round =>
    obtain ⟨k, n2, c2, A2, o, u, hk, rfl, rfl, rfl, hn2, hf, ho, hb⟩ := hrel
    have HF := Lib.hid hf
    have HO := Lib.hid ho
    have HB := Lib.hid hb
    clear hf ho hb
    by_cases hlt : k < n
    · obtain ⟨b, of_, x, rfl, hbb, hla, htk, hrow⟩ := (HL.out.below HB.out (Nat.le_refl _)).at_ hlt
      obtain ⟨x1, x2⟩ := x
      have HROW := Lib.hid hrow
      have r0 := hrow 0 _ rfl
      have r1 := hrow 1 _ rfl
      rw [Nat.add_zero] at r0
      have hbw : b < wr.heap.size := by have := HB.out.size; omega
      have HS := Lib.hid ((foldR_take (box := box) (keep := keep) htk).trans (by rw [HF.out]))
      have hk0 : (0 : Int) ≤ (k : Int) := by omega
      have hkn : (k : Int) < (n : Int) := by omega
      have heq := str_eq13 x1 box
      have hws := HB.out.size
      clear hla htk hrow
      by_cases he : x1 = box
      · rw [decide_eq_true he] at heq
        have hle := fun W => geq_yes (a := x1) (b := box) (show ¬ ltS x1 box by rw [he]; exact ltS_irrefl _) W
        cases u
        case true =>
          have HE := Lib.hid (HS.out.trans (step_same (o := o) (keep := keep) he))
          clear he
          go_wp2_with fail
          go_roundw
          case rel => exact ⟨k + 1, n2, c2, A2, _, true, by omega, by go_num, rfl, rfl, by omega, HE.out, HO.out, HB.out⟩
          case measure => simp [intOf]; omega
        case false =>
          have HE := Lib.hid (HS.out.trans (step_newS (o := o) (keep := keep) (show ¬ ltS (x1, x2).1 box by rw [show (x1, x2).1 = box from he]; exact ltS_irrefl _) he))
          clear he
          go_wp2_with ((with_reducible show wpList _ _ _ (⟨some 34, _, _, _, _, _⟩ :: _) _ _); refine hold ?_)
          refine held (wpList_append_k rfl (.tmp 29) (.tmp 33) 22 rfl Try.underlying22 info_rul rfl (by omega) (by omega) w.heap.size A2 n2 c2 _ rfl (HO.out.alloc _) wr.heap.size 0 (box, keep) rfl (Bk.range (Bk.new wr 54 _)) (rulC_one _) (by omega) (by simp; have := HB.out.size; omega) ?_)
          intro A_w4 c_w4 w4 o_w4 b_w4 _
          have Ow4 := Lib.hid o_w4
          have Bw4 := Lib.hid ((HB.out.alloc HB.out.size _).trans b_w4)
          clear o_w4 b_w4
          have r0' : w4.cell? ⟨b, of_ + k * 2, none⟩ = some (.string x1) := (Bw4.out.cell (p := ⟨b, of_ + k * 2, none⟩) hbb).trans ((HB.out.cell (p := ⟨b, of_ + k * 2, none⟩) hbb).symm.trans r0)
          clear r0 r1
          go_wp2_with fail
          go_roundw
          case rel => exact ⟨k + 1, n2 + 1, c_w4, A_w4, _, true, by omega, by go_num, rfl, rfl, by omega, HE.out, Ow4.out, Bw4.out⟩
          case measure => simp [intOf]; omega
      · rw [decide_eq_false he] at heq
        cases u
        case true =>
          have HE := Lib.hid (HS.out.trans (step_other (o := o) (keep := keep) (r := (x1, x2)) he))
          clear he
          go_wp2_with ((with_reducible show wpList _ _ _ (⟨some 46, _, _, _, _, _⟩ :: _) _ _); refine hold ?_)
          refine held (wpList_load_mid rfl 54 (.tmp 45) rfl b (of_ + k * 2) rfl (rulC (x1, x2)) _ HROW.out Try.underlying54 rfl (by kernel_rfl) ?_)
          unfold rulC
          go_wp2_with ((with_reducible show wpList _ _ _ (⟨some 48, _, _, _, _, _⟩ :: _) _ _); refine hold ?_)
          refine held (wpList_append_k rfl (.tmp 42) (.tmp 47) 22 rfl Try.underlying22 info_rul rfl (by omega) (by omega) w.heap.size A2 n2 c2 _ rfl (HO.out.alloc _) wr.heap.size 0 (x1, x2) rfl (Bk.range (Bk.new wr 54 _)) (rulC_one _) (by omega) (by simp; have := HB.out.size; omega) ?_)
          intro A_w4 c_w4 w4 o_w4 b_w4 _
          have Ow4 := Lib.hid o_w4
          have Bw4 := Lib.hid ((HB.out.alloc HB.out.size _).trans b_w4)
          clear o_w4 b_w4
          go_wp2_with fail
          go_roundw
          case rel => exact ⟨k + 1, n2 + 1, c_w4, A_w4, _, true, by omega, by go_num, rfl, rfl, by omega, HE.out, Ow4.out, Bw4.out⟩
          case measure => simp [intOf]; omega
        case false =>
          by_cases hs : ltS x1 box
          · have hle := fun W => geq_no hs W
            have HE := Lib.hid (HS.out.trans (step_small (o := o) (keep := keep) (r := (x1, x2)) hs))
            clear he hs
            go_wp2_with ((with_reducible show wpList _ _ _ (⟨some 46, _, _, _, _, _⟩ :: _) _ _); refine hold ?_)
            refine held (wpList_load_mid rfl 54 (.tmp 45) rfl b (of_ + k * 2) rfl (rulC (x1, x2)) _ HROW.out Try.underlying54 rfl (by kernel_rfl) ?_)
            unfold rulC
            go_wp2_with ((with_reducible show wpList _ _ _ (⟨some 48, _, _, _, _, _⟩ :: _) _ _); refine hold ?_)
            refine held (wpList_append_k rfl (.tmp 42) (.tmp 47) 22 rfl Try.underlying22 info_rul rfl (by omega) (by omega) w.heap.size A2 n2 c2 _ rfl (HO.out.alloc _) wr.heap.size 0 (x1, x2) rfl (Bk.range (Bk.new wr 54 _)) (rulC_one _) (by omega) (by simp; have := HB.out.size; omega) ?_)
            intro A_w4 c_w4 w4 o_w4 b_w4 _
            have Ow4 := Lib.hid o_w4
            have Bw4 := Lib.hid ((HB.out.alloc HB.out.size _).trans b_w4)
            clear o_w4 b_w4
            go_wp2_with fail
            go_roundw
            case rel => exact ⟨k + 1, n2 + 1, c_w4, A_w4, _, false, by omega, by go_num, rfl, rfl, by omega, HE.out, Ow4.out, Bw4.out⟩
            case measure => simp [intOf]; omega
          · have hle := fun W => geq_yes hs W
            have HE := Lib.hid (HS.out.trans (step_newO (o := o) (keep := keep) (r := (x1, x2)) hs he))
            clear he hs
            go_wp2_with ((with_reducible show wpList _ _ _ (⟨some 34, _, _, _, _, _⟩ :: _) _ _); refine hold ?_)
            refine held (wpList_append_k rfl (.tmp 29) (.tmp 33) 22 rfl Try.underlying22 info_rul rfl (by omega) (by omega) w.heap.size A2 n2 c2 _ rfl (HO.out.alloc _) wr.heap.size 0 (box, keep) rfl (Bk.range (Bk.new wr 54 _)) (rulC_one _) (by omega) (by simp; have := HB.out.size; omega) ?_)
            intro A_w4 c_w4 w4 o_w4 b_w4 _
            have Ow4 := Lib.hid o_w4
            have Bw4 := Lib.hid ((HB.out.alloc HB.out.size _).trans b_w4)
            clear o_w4 b_w4
            have HROW4 := Lib.hid (rangeAtK_keep HROW.out (fun i => (Bw4.out.cell (p := ⟨b, i, none⟩) hbb).trans (HB.out.cell (p := ⟨b, i, none⟩) hbb).symm))
            have r0' : w4.cell? ⟨b, of_ + k * 2, none⟩ = some (.string x1) := (Bw4.out.cell (p := ⟨b, of_ + k * 2, none⟩) hbb).trans ((HB.out.cell (p := ⟨b, of_ + k * 2, none⟩) hbb).symm.trans r0)
            clear r0 r1
            go_wp2_with ((with_reducible show wpList _ _ _ (⟨some 46, _, _, _, _, _⟩ :: _) _ _); refine hold ?_)
            refine held (wpList_load_mid rfl 54 (.tmp 45) rfl b (of_ + k * 2) rfl (rulC (x1, x2)) _ HROW4.out Try.underlying54 rfl (by kernel_rfl) ?_)
            unfold rulC
            go_wp2_with ((with_reducible show wpList _ _ _ (⟨some 48, _, _, _, _, _⟩ :: _) _ _); refine hold ?_)
            refine held (wpList_append_k rfl (.tmp 42) (.tmp 47) 22 rfl Try.underlying22 info_rul rfl (by omega) (by omega) w.heap.size A_w4 (n2 + 1) c_w4 _ rfl (Ow4.out.alloc _) w4.heap.size 0 (x1, x2) rfl (Bk.range (Bk.new w4 54 _)) (rulC_one _) (by omega) (by simp; have := Bw4.out.size; omega) ?_)
            intro A_w5 c_w5 w5 o_w5 b_w5 _
            have Ow5 := Lib.hid o_w5
            have Bw5 := Lib.hid ((Bw4.out.alloc Bw4.out.size _).trans b_w5)
            clear o_w5 b_w5
            go_wp2_with fail
            go_roundw
            case rel => exact ⟨k + 1, n2 + 1 + 1, c_w5, A_w5, _, true, by omega, by go_num, rfl, rfl, by omega, HE.out, Ow5.out, Bw5.out⟩
            case measure => simp [intOf]; omega
    · have hkn : ¬ (k : Int) < (n : Int) := by omega
      have HALL : Hid (foldR box keep l = (o, u)) := Lib.hid (by have := HF.out; rwa [List.take_of_length_le (by rw [HL.out.1]; omega)] at this)
      have hws := HB.out.size
      cases u
      case true =>
        go_wp2_with fail
        go_ret
        exact ⟨A2, n2, c2, rfl, by rw [docR_yes HALL.out]; exact HO.out, HB.out⟩
      case false =>
        go_wp2_with ((with_reducible show wpList _ _ _ (⟨some 56, _, _, _, _, _⟩ :: _) _ _); refine hold ?_)
        refine held (wpList_append_k rfl (.tmp 51) (.tmp 55) 22 rfl Try.underlying22 info_rul rfl (by omega) (by omega) w.heap.size A2 n2 c2 _ rfl (HO.out.alloc _) wr.heap.size 0 (box, keep) rfl (Bk.range (Bk.new wr 54 _)) (rulC_one _) (by omega) (by simp; have := HB.out.size; omega) ?_)
        intro A_w4 c_w4 w4 o_w4 b_w4 _
        have Ow4 := Lib.hid o_w4
        have Bw4 := Lib.hid ((HB.out.alloc HB.out.size _).trans b_w4)
        clear o_w4 b_w4
        go_wp2_with fail
        go_ret
        exact ⟨A_w4, n2 + 1, c_w4, rfl, by rw [docR_no HALL.out]; exact Ow4.out, Bw4.out⟩
end Go.Proofs.Ytkalnaidccgbiaa
