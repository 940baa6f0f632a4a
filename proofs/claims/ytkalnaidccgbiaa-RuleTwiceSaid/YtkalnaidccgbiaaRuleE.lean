/-
  Contracts over package rule and the document's own: the tombs that may go.
-/
import Derived.Test.YtkalnaidccgbiaaRuleD
import Derived.Test.YtkalnaidccgbiaaAppV
namespace Go.Proofs.Ytkalnaidccgbiaa
open Go.RowKit
set_option linter.unusedVariables false
set_option linter.unusedSimpArgs false

theorem dueL_yes {rs : List Rul} {hs : List Hh} {now : Int} {l m : List Tm} {t : Tm} (e : m = l ++ [t]) (h : goesB rs hs now t = true) : (dueL rs hs now m).map ints = (dueL rs hs now l).map ints ++ [ints t.id] := by
  rw [e, dueL_snoc, if_pos h, List.map_append]; rfl
theorem dueL_no {rs : List Rul} {hs : List Hh} {now : Int} {l m : List Tm} {t : Tm} (e : m = l ++ [t]) (h : goesB rs hs now t = false) : (dueL rs hs now m).map ints = (dueL rs hs now l).map ints := by
  rw [e, dueL_snoc, if_neg (by rw [h]; simp), List.append_nil]
theorem w_setRow_all {w w' : World} {g : Nat} {cur cells : Array Value} (h : Hid (w' = w.setRow g (splice cur.toList 0 cells.toList).toArray)) (hs : cells.size = cur.size) : w' = w.setRow g cells := by
  rw [h.out, splice_all (by simpa using hs), Array.toArray_toList]
theorem tmA_one (t : Tm) : ∀ v ∈ (tmA t).toList, v.oneCell' = true := by
  intro v hv
  simp only [tmA, List.mem_cons, List.not_mem_nil, or_false] at hv
  rcases hv with rfl | rfl | rfl | rfl | rfl | rfl | rfl <;> rfl
theorem tmC_A (t : Tm) : (tmC t).toArray = tmA t := rfl

set_option maxRecDepth 20000 in
set_option maxHeartbeats 8000000 in
theorem rlDue_any (A B C : Option Addr) (n c m d q cq : Nat) (rs : List Rul) (hs : List Hh) (l : List Tm) (now : Int) (w : World) (hr : ColK 2 rulC w w.heap.size A n rs) (hn : n ≤ 140737488355328) (hh : HoldsIn w w.heap.size B m hs) (hm : m ≤ 140737488355328) (hsm : ∀ h ∈ hs, h.n ≤ 1000000)
    (ht : ColK 7 tmC w w.heap.size C q l) (hq : q ≤ 1000000) (hat : ∀ t ∈ l, t.at_ < 9223372036854775808) (hks : ∀ r ∈ rs, r.2 < 9223372036854775808) :
    Calls Try.prog 18 #[.slice C q cq, .slice A n c, .slice B m d, .int .i64 now] w (GiveI w (dueL rs hs now l)) := by
  have HR := Lib.hid hr
  have HH := Lib.hid hh
  have HSM := Lib.hid hsm
  have HKS := Lib.hid hks
  have HAT := Lib.hid hat
  have HT := Lib.hid ht
  clear hr hh hsm hks hat ht
  go_enter Try.func18, Try.ntmps18
  go_wp2_with fail
  go_loopw [9, 15] (fun p i wx => ∃ (k n2 c2 : Nat) (A2 : Option Addr), k ≤ q ∧ i = .int .i64 (k : Int) ∧ p = .slice A2 n2 c2 ∧ n2 ≤ k ∧ OwnV wx w.heap.size 3 A2 n2 c2 ((dueL rs hs now (l.take k)).map ints) ∧ Below w.heap.size w wx) (fun _ i _ => q - (intOf i).toNat)
  case atStart =>
    exact ⟨0, _, _, _, Nat.zero_le _, rfl, rfl, Nat.le_refl _, OwnV.empty w 3, (Below.refl _ _).alloc (Nat.le_refl _) _⟩
  case round =>
    obtain ⟨k, n2, c2, A2, hk, rfl, rfl, hn2, hown, hb⟩ := hrel
    have HB := Lib.hid hb
    have HO := Lib.hid hown
    clear hb hown
    by_cases hlt : k < q
    · obtain ⟨b, o, t, rfl, hbb, hla, htk, hrow⟩ := (HT.out.below HB.out (Nat.le_refl _)).at_ hlt
      have HLA := Lib.hid hla
      have HTK := Lib.hid htk
      have HROW := Lib.hid hrow
      have hk0 : (0 : Int) ≤ (k : Int) := by omega
      have hkn : (k : Int) < (q : Int) := by omega
      have CG := Lib.hid (fun V (hV : Below w.heap.size w V) => rlGoes_any A B n c m d rs hs t now V (HR.out.later hV) hn (HH.out.later hV) hm HSM.out (HAT.out t (List.mem_of_getElem? hla)) HKS.out)
      clear hla htk hrow
      go_wp2_with ((with_reducible show wpList _ _ _ (⟨some 18, _, _, _, _, _⟩ :: _) _ _); refine hold ?_)
      refine held (wpList_load_mid rfl 33 (.tmp 17) rfl b (o + k * 7) rfl (tmC t) _ HROW.out Try.underlying33 rfl (by kernel_rfl) ?_)
      rw [tmC_A]
      go_wp2_with ((with_reducible show wpList _ _ _ (⟨none, _, _, _, _, _⟩ :: _) _ _); refine hold ?_)
      obtain ⟨bt, hbt⟩ : ∃ bt, bt = wr.heap.size := ⟨_, rfl⟩
      refine held (wpList_store_wide rfl 33 (.tmp 11) (.tmp 18) rfl wr.heap.size 0 (tmA t) rfl rfl 33 _ (Bk.new wr 33 _) (by rw [tmA_size]; decide) (by rw [tmA_size]; kernel_rfl) (tmA_one _) ?_)
      intro w3 hw3
      have hw3' := w_setRow_all hw3 (by rw [tmA_size]; rfl)
      have hbw : Below wr.heap.size wr w3 := by rw [hw3']; exact below_setRow ((Below.refl _ _).alloc (Nat.le_refl _) _) (Nat.le_refl _) _
      have K3 : Hid (Bk w3 bt 33 (tmA t)) := Lib.hid (by rw [hw3', hbt]; exact (Bk.new wr _ _).setRow_same _)
      have B3 := Lib.hid (HB.out.trans (hbw.mono HB.out.size))
      have O3 := Lib.hid (HO.out.below hbw)
      rw [← hbt]
      clear hbt hw3 hw3' hbw
      go_wp2_with ((with_reducible show wpList _ _ _ (⟨some 19, _, _, _, _, _⟩ :: _) _ _); refine hold ?_)
      refine held (wpList_load_mid rfl 33 (.tmp 11) rfl bt 0 rfl _ _ K3.out.range Try.underlying33 rfl (by kernel_rfl) ?_)
      go_wp2_with fail
      refine (CG.out w3 B3.out).mono ?_
      rintro e w4 ⟨rfl, hb4⟩
      have K4 := Lib.hid (K3.out.below hb4 K3.out.lt)
      have B4 := Lib.hid (B3.out.trans (hb4.mono B3.out.size))
      have O4 := Lib.hid (O3.out.below hb4)
      clear hb4 CG K3 B3 O3
      have c0 := K4.out.tm.1
      cases hg : goesB rs hs now t
      · have HS := Lib.hid (dueL_no HTK.out hg)
        clear hg
        go_wp2_with fail
        go_roundw
        case rel => exact ⟨k + 1, n2, c2, A2, by omega, by go_num, rfl, by omega, by rw [HS.out]; exact O4.out, B4.out⟩
        case measure => simp [intOf]; omega
      · have HS := Lib.hid (dueL_yes HTK.out hg)
        clear hg
        go_wp2_with ((with_reducible show wpList _ _ _ (⟨some 28, _, _, _, _, _⟩ :: _) _ _); refine hold ?_)
        refine held (wpList_append_one rfl (.tmp 24) (.tmp 27) 39 rfl Try.underlying39 info_int rfl (by omega) w.heap.size A2 n2 c2 _ rfl (OwnV.alloc O4.out _) w4.heap.size 0 (.int .i64 t.id) rfl
            (by rw [cell_of_row _ w4.heap.size 0 _ _ (0, 0) (heap_alloc_new w4 _)]; rfl) rfl (by omega) (by have := B4.out.size; simp; omega) ?_)
        intro A4 c4 wx hown4 hb4
        have O5 := Lib.hid hown4
        have B5 := Lib.hid ((B4.out.alloc B4.out.size _).trans hb4)
        clear hown4 hb4 c0
        go_wp2_with fail
        go_roundw
        case rel => exact ⟨k + 1, n2 + 1, c4, A4, by omega, by go_num, rfl, by omega, by rw [HS.out]; exact O5.out, B5.out⟩
        case measure => simp [intOf]; omega
    · have hkn : ¬ (k : Int) < (q : Int) := by omega
      have HALL : Hid (dueL rs hs now (l.take k) = dueL rs hs now l) := Lib.hid (by rw [List.take_of_length_le (by rw [HT.out.1]; omega)])
      go_wp2_with fail
      go_ret
      exact ⟨A2, n2, c2, rfl, by rw [← HALL.out]; exact HO.out.colI, HB.out⟩
set_option maxRecDepth 20000 in
set_option maxHeartbeats 8000000 in
theorem xdDue_any (A B C : Option Addr) (n c m d q cq : Nat) (rs : List Rul) (hs : List Hh) (l : List Tm) (now : Int) (w : World) (hr : ColK 2 rulC w w.heap.size A n rs) (hn : n ≤ 140737488355328) (hh : HoldsIn w w.heap.size B m hs) (hm : m ≤ 140737488355328) (hsm : ∀ h ∈ hs, h.n ≤ 1000000)
    (ht : ColK 7 tmC w w.heap.size C q l) (hq : q ≤ 1000000) (hat : ∀ t ∈ l, t.at_ < 9223372036854775808) (hks : ∀ r ∈ rs, r.2 < 9223372036854775808) :
    Calls Try.prog 19 #[.slice C q cq, .slice A n c, .slice B m d, .int .i64 now] w (GiveI w (dueL rs hs now l)) := by
  have HR := Lib.hid hr
  have HH := Lib.hid hh
  have HSM := Lib.hid hsm
  have HKS := Lib.hid hks
  have HAT := Lib.hid hat
  have HT := Lib.hid ht
  clear hr hh hsm hks hat ht
  go_enter Try.func19, Try.ntmps19
  go_wp2_with fail
  go_loopw [9, 10] (fun p i wx => ∃ (k n2 c2 : Nat) (A2 : Option Addr), k ≤ q ∧ i = .int .i64 (k : Int) ∧ p = .slice A2 n2 c2 ∧ n2 ≤ k ∧ OwnV wx w.heap.size 3 A2 n2 c2 ((dueL rs hs now (l.take k)).map ints) ∧ Below w.heap.size w wx) (fun _ i _ => q - (intOf i).toNat)
  case atStart =>
    exact ⟨0, _, _, _, Nat.zero_le _, rfl, rfl, Nat.le_refl _, OwnV.nil, Below.refl _ _⟩
  case round =>
    obtain ⟨k, n2, c2, A2, hk, rfl, rfl, hn2, hown, hb⟩ := hrel
    have HB := Lib.hid hb
    have HO := Lib.hid hown
    clear hb hown
    by_cases hlt : k < q
    · obtain ⟨b, o, t, rfl, hbb, hla, htk, hrow⟩ := (HT.out.below HB.out (Nat.le_refl _)).at_ hlt
      have HLA := Lib.hid hla
      have HTK := Lib.hid htk
      have HROW := Lib.hid hrow
      have hk0 : (0 : Int) ≤ (k : Int) := by omega
      have hkn : (k : Int) < (q : Int) := by omega
      have CG := Lib.hid (fun V (hV : Below w.heap.size w V) => xdGoes_any A B n c m d rs hs t now V (HR.out.later hV) hn (HH.out.later hV) hm HSM.out (HAT.out t (List.mem_of_getElem? hla)) HKS.out)
      clear hla htk hrow
      go_wp2_with ((with_reducible show wpList _ _ _ (⟨some 20, _, _, _, _, _⟩ :: _) _ _); refine hold ?_)
      refine held (wpList_load_mid rfl 33 (.tmp 19) rfl b (o + k * 7) rfl (tmC t) _ HROW.out Try.underlying33 rfl (by kernel_rfl) ?_)
      rw [tmC_A]
      go_wp2_with fail
      refine (CG.out wr HB.out).mono ?_
      rintro e w4 ⟨rfl, hb4⟩
      have B4 := Lib.hid (HB.out.trans (hb4.mono HB.out.size))
      have O4 := Lib.hid (HO.out.below hb4)
      have c0 : w4.cell? ⟨b, o + k * 7, none⟩ = some (.int .i64 t.id) := by
        have := HROW.out 0 _ rfl
        rw [Nat.add_zero] at this
        exact (hb4.cell (p := ⟨b, o + k * 7, none⟩) (show b < wr.heap.size by have := HB.out.size; omega)).trans this
      clear hb4 CG
      cases hg : goesB rs hs now t
      · have HS := Lib.hid (dueL_no HTK.out hg)
        clear hg
        go_wp2_with fail
        go_roundw
        case rel => exact ⟨k + 1, n2, c2, A2, by omega, by go_num, rfl, by omega, by rw [HS.out]; exact O4.out, B4.out⟩
        case measure => simp [intOf]; omega
      · have HS := Lib.hid (dueL_yes HTK.out hg)
        clear hg
        go_wp2_with ((with_reducible show wpList _ _ _ (⟨some 32, _, _, _, _, _⟩ :: _) _ _); refine hold ?_)
        refine held (wpList_append_one rfl (.tmp 25) (.tmp 31) 39 rfl Try.underlying39 info_int rfl (by omega) w.heap.size A2 n2 c2 _ rfl (OwnV.alloc O4.out _) w4.heap.size 0 (.int .i64 t.id) rfl
            (by rw [cell_of_row _ w4.heap.size 0 _ _ (0, 0) (heap_alloc_new w4 _)]; rfl) rfl (by omega) (by have := B4.out.size; simp; omega) ?_)
        intro A4 c4 wx hown4 hb4
        have O5 := Lib.hid hown4
        have B5 := Lib.hid ((B4.out.alloc B4.out.size _).trans hb4)
        clear hown4 hb4 c0
        go_wp2_with fail
        go_roundw
        case rel => exact ⟨k + 1, n2 + 1, c4, A4, by omega, by go_num, rfl, by omega, by rw [HS.out]; exact O5.out, B5.out⟩
        case measure => simp [intOf]; omega
    · have hkn : ¬ (k : Int) < (q : Int) := by omega
      have HALL : Hid (dueL rs hs now (l.take k) = dueL rs hs now l) := Lib.hid (by rw [List.take_of_length_le (by rw [HT.out.1]; omega)])
      go_wp2_with fail
      go_ret
      exact ⟨A2, n2, c2, rfl, by rw [← HALL.out]; exact HO.out.colI, HB.out⟩
end Go.Proofs.Ytkalnaidccgbiaa
