/-
  Contracts over the document's own sets: a text's set.
-/
import Derived.Test.YtiophifilikajaaDoorQUidsG
import Derived.Test.YtiophifilikajaaDoorQUidsC
import Derived.Test.YtiophifilikajaaDoorQUidsF
namespace Go.Proofs.YtiophifilikajaaDoor
set_option linter.unusedVariables false
set_option linter.unusedSimpArgs false
open Go.RowKit
set_option linter.unusedVariables false
set_option linter.unusedSimpArgs false

theorem rangeO_1 {P p : List Nat} (h : splitL 58 P = [p]) : rangeO P = (numberN p).map fun v => (v, v) := by unfold rangeO; rw [h]
theorem rangeO_2 {P p q : List Nat} (h : splitL 58 P = [p, q]) : rangeO P = match numberN p, numberN q with
    | some a, some b => if a = b then none else some (a, b)
    | _, _ => none := by simp only [rangeO, h]; rfl
theorem rangeO_3 {P : List Nat} (h : 2 < (splitL 58 P).length) : rangeO P = none := by
  unfold rangeO
  match hs : splitL 58 P, h with
  | _ :: _ :: _ :: _, _ => rfl
theorem two_of {α : Type} {l : List α} (h : l.length = 1 + 1) : ∃ a b, l = [a, b] := by
  match l, h with
  | [a, b], _ => exact ⟨a, b, rfl⟩
theorem numZ_none {l : List Nat} (h : numberN l = none) : numZ l = -1 := by unfold numZ; rw [h]; rfl
theorem numZ_some {l : List Nat} {v : Int} (h : numberN l = some v) : numZ l = v := by unfold numZ; rw [h]; rfl
theorem rgs_step {L : List (List Nat)} {q : Nat} {P : List Nat} {r : Rg} (hP : L[q]? = some P) (h : rgsB (L.take q) = true) (hr : rangeO P = some r) : rgsB (L.take (q + 1)) = true ∧ rgsV (L.take (q + 1)) = rgsV (L.take q) ++ [r] := by
  rw [take_snoc_l L q P hP, rgsB_snoc, h, rgsV_snoc _ hr]
  exact ⟨by unfold rgB; rw [hr]; rfl, rfl⟩

set_option maxRecDepth 20000 in
set_option maxHeartbeats 8000000 in
theorem x9Parse_any (s : ByteArray) (hs : s.size ≤ 140737488355328) (w : World) : Calls Tryd.prog 10 #[.string s] w (ParseIs w (nats s)) := by
  by_cases h2 : 2000 < s.size
  · have h1 : (2000 : Int) < (s.size : Int) := by omega
    obtain ⟨he, hv⟩ := parsE_long (l := nats s) (by rw [nats_length]; exact h2)
    have HE := Lib.hid he
    have HV := Lib.hid hv
    clear he hv
    go_enter Tryd.func10, Tryd.ntmps10
    go_wp2_with fail
    go_ret2
    exact ⟨none, 0, 0, by rw [HE.out] <;> rfl, by rw [HV.out]; exact ColK.nil, Below.refl _ _⟩
  · have h1 : ¬ (2000 : Int) < (s.size : Int) := by omega
    have HN2 : Hid (¬ 2000 < (nats s).length) := Lib.hid (by rw [nats_length]; exact h2)
    have hsum := splitL_sum 44 (nats s)
    rw [nats_length] at hsum
    have HPB : Hid (∀ p ∈ splitL 44 (nats s), p.length ≤ 2000 ∧ ∀ x ∈ p, x < 256) := Lib.hid (fun p hp => ⟨by have := splitL_small p hp; rw [nats_length] at this; omega, splitL_lt (nats_lt s) p hp⟩)
    obtain ⟨L, hL⟩ : ∃ L, splitL 44 (nats s) = L := ⟨_, rfl⟩
    have CS := x9split_any s 44 (by omega) (by omega) w
    rw [show ((44 : Nat) : Int) = 44 from rfl] at CS
    rw [hL] at CS hsum HPB
    have HLL := Lib.hid hL
    have HCS := Lib.hid CS
    have hLn : L.length ≤ 2001 := by omega
    clear CS hL hsum h2
    go_enter Tryd.func10, Tryd.ntmps10
    go_wp2_with fail
    refine HCS.out.mono ?_
    rintro e w1 ⟨A1, n1, k1, rfl, hown1, hb1⟩
    have hln := hown1.len
    have hn1 : n1 ≤ 2001 := by omega
    have HOWN1 := Lib.hid hown1
    have HB1 := Lib.hid hb1
    have HLN := Lib.hid hln
    clear hown1 hb1 hln HCS
    go_wp2_with fail
    go_loopw [4, 6] (fun p i wx => ∃ (q c2 : Nat) (A2 : Option Addr), q ≤ n1 ∧ i = .int .i64 (q : Int) ∧ p = .slice A2 q c2 ∧ OwnK 2 rgC wx w1.heap.size 43 A2 q c2 (rgsV (L.take q)) ∧ rgsB (L.take q) = true ∧ Below w1.heap.size w1 wx) (fun _ i _ => n1 - (intOf i).toNat)
    case atStart => exact ⟨0, 0, none, Nat.zero_le _, rfl, rfl, OwnK.nil rgC_len, rfl, Below.refl _ _⟩
    case round =>
      obtain ⟨q, c2, A2, hq, rfl, rfl, hown, hgood, hb⟩ := hrel
      have HO := Lib.hid hown
      have HG := Lib.hid hgood
      have HB := Lib.hid hb
      clear hown hgood hb
      by_cases hlt : q < n1
      · obtain ⟨g, rfl, _, hgl, hst, _, _⟩ := HOWN1.out.at_ (by omega)
        obtain ⟨P, hP⟩ : ∃ P, L[q]? = some P := ⟨L[q]'(by rw [HLN.out]; exact hlt), List.getElem?_eq_getElem (by rw [HLN.out]; exact hlt)⟩
        have hcell : wr.cell? ⟨g, q, none⟩ = some (.string (strOf P)) := (HB.out.cell (p := ⟨g, q, none⟩) hgl).trans (by have := hst q P hP; rwa [Nat.zero_add] at this)
        obtain ⟨hPl, hPb⟩ := HPB.out P (List.mem_of_getElem? hP)
        have CS := x9split_any (strOf P) 58 (by omega) (by rw [strOf_size]; omega) wr
        rw [show ((58 : Nat) : Int) = 58 from rfl] at CS
        rw [nats_strOf P hPb] at CS
        have HCS := Lib.hid CS
        have HP := Lib.hid hP
        have hq0 : (0 : Int) ≤ (q : Int) := by omega
        have hqn : (q : Int) < (n1 : Int) := by omega
        have hp58 : ∀ p ∈ splitL 58 P, p.length ≤ 2000 ∧ ∀ x ∈ p, x < 256 := fun p hp => ⟨by have := splitL_small p hp; omega, splitL_lt hPb p hp⟩
        have HP58 := Lib.hid hp58
        clear CS hP hst hp58
        go_wp2_with fail
        refine HCS.out.mono ?_
        rintro e w3 ⟨A3, n3, k3, rfl, hown3, hb3⟩
        have hlen3 := hown3.len
        have hk3 := hown3.cap
        have HB3 := Lib.hid (HB.out.trans (hb3.mono HB.out.size))
        have HO3 := Lib.hid (HO.out.below hb3)
        have HW3 := Lib.hid hb3.size
        clear hb3 hcell HCS
        have hne := splitGo_ne 58 [] P
        have hn3 : 1 ≤ n3 := by rw [← hlen3]; exact List.length_pos_iff.2 hne
        clear hne
        by_cases h3 : 2 < n3
        · have h3' : (2 : Int) < (n3 : Int) := by omega
          obtain ⟨he, hv⟩ := parsE_bad HN2.out (by rw [HLL.out]; exact rgsB_stop HP.out (rangeO_3 (by rw [hlen3]; exact h3)))
          have HE := Lib.hid he
          have HV := Lib.hid hv
          clear he hv hown3 hlen3
          go_wp2_with fail
          go_ret2
          exact ⟨none, 0, 0, by rw [HE.out] <;> rfl, by rw [HV.out]; exact ColK.nil, HB1.out.trans (HB3.out.mono HB1.out.size)⟩
        · obtain ⟨g3, rfl, hg3, hgl3, hst3, _, _⟩ := hown3.at_ (by omega)
          have hcells : ∀ i p, (splitL 58 P)[i]? = some p → w3.cell? ⟨g3, i, none⟩ = some (.string (strOf p)) := fun i p hp => by have := hst3 i p hp; rwa [Nat.zero_add] at this
          have HCL := Lib.hid hcells
          have hn30 : (0 : Int) < (n3 : Int) := by omega
          have h3' : ¬ (2 : Int) < (n3 : Int) := by omega
          clear hown3 hst3 hcells
          obtain ⟨m, rfl⟩ : ∃ m, n3 = m + 1 := ⟨n3 - 1, by omega⟩
          obtain ⟨p0, hp0⟩ : ∃ p, (splitL 58 P)[0]? = some p := ⟨(splitL 58 P)[0]'(by omega), List.getElem?_eq_getElem (by omega)⟩
          obtain ⟨pl, hpl⟩ : ∃ p, (splitL 58 P)[m]? = some p := ⟨(splitL 58 P)[m]'(by omega), List.getElem?_eq_getElem (by omega)⟩
          have hc0 := HCL.out 0 p0 hp0
          have hcl := HCL.out m pl hpl
          have hb0 := HP58.out p0 (List.mem_of_getElem? hp0)
          have hbl := HP58.out pl (List.mem_of_getElem? hpl)
          have CN := x9number_any (strOf p0) (by rw [strOf_size]; omega)
          have CL := x9number_any (strOf pl) (by rw [strOf_size]; omega)
          rw [nats_strOf _ hb0.2] at CN
          rw [nats_strOf _ hbl.2] at CL
          obtain ⟨a, ha⟩ : ∃ a, numZ p0 = a := ⟨_, rfl⟩
          obtain ⟨b, hb⟩ : ∃ b, numZ pl = b := ⟨_, rfl⟩
          rw [ha] at CN
          rw [hb] at CL
          have HA := Lib.hid ha
          have HBB := Lib.hid hb
          have HP0 := Lib.hid hp0
          have HPL := Lib.hid hpl
          have HL3 := Lib.hid hlen3
          have hm1 : m ≤ 1 := by omega
          have hm0 : (0 : Int) ≤ (m : Int) := by omega
          have hmn : (m : Int) < (m : Int) + 1 := by omega
          have hmn0 : (0 : Int) < (m : Int) + 1 := by omega
          have hwm : IntKind.i64.wrap (m : Int) = (m : Int) := IntWalk.i64_in _ (by omega)
          have h3'' : ¬ (2 : Int) < (m : Int) + 1 := by omega
          clear hlen3 hp0 hpl ha hb hb0 hbl h3 h3' hn30
          have hnew := World.new_ne w3 ⟨g3, 0, none⟩ hc0
          go_wp2_with fail
          go_region_held3 (fun W' => W'.cell? ⟨g3, 0, none⟩ = some (.string (strOf p0)) ∧ W'.cell? ⟨g3, m, none⟩ = some (.string (strOf pl)))
            (go_keep)
            ((go_at_call 27; first | ((with_reducible refine (CN _).mono ?_); rintro e w5 ⟨rfl, rfl⟩) | ((with_reducible refine (CL _).mono ?_); rintro e w5 ⟨rfl, rfl⟩)))
          all_goals
            refine post_over (fun W => (W.cell? ⟨w3.heap.size, 0, none⟩ = some (.int .i64 a) ∧ W.cell? ⟨w3.heap.size, 1, none⟩ = some (.int .i64 b)) ∧ OwnK 2 rgC W w1.heap.size 43 A2 q c2 (rgsV (L.take q)) ∧ Below w1.heap.size w1 W)
              ⟨⟨(cell_of_row (w3.alloc (.cells #[.int .i64 a, .int .i64 b] 43)) w3.heap.size 0 _ _ (0, 0) (heap_alloc_new w3 _)).trans rfl, (cell_of_row (w3.alloc (.cells #[.int .i64 a, .int .i64 b] 43)) w3.heap.size 1 _ _ (0, 0) (heap_alloc_new w3 _)).trans rfl⟩, (HO3.out.alloc _).drewN 1, (HB3.out.alloc HB3.out.size _).drew⟩ ?_
            rintro W ⟨⟨k0, k1'⟩, hoW, hbW⟩
            obtain ⟨B3, hB3⟩ : ∃ B3, w3.heap.size = B3 := ⟨_, rfl⟩
            rw [hB3] at k0 k1' ⊢
            have HOW := Lib.hid hoW
            have HBW := Lib.hid hbW
            have HEND := Lib.hid (HB1.out.trans (HBW.out.mono HB1.out.size))
            clear hoW hbW hc0 hcl CN CL hnew hB3 hwm hm0 hmn hmn0 h3''
            have hm2 : m = 0 ∨ m = 1 := by omega
            rcases hm2 with rfl | rfl
            · have hpe : pl = p0 := by have := HPL.out; rw [HP0.out] at this; exact (Option.some.inj this).symm
              have hab : b = a := by rw [← HBB.out, ← HA.out, hpe]
              subst hab
              have hone : splitL 58 P = [p0] := by
                obtain ⟨z, hz⟩ := List.length_eq_one_iff.1 HL3.out
                have := HP0.out
                rw [hz] at this ⊢
                rw [← Option.some.inj this]
              have hrg := rangeO_1 hone
              have h2f : ((1 : Int) == 2) = false := by decide
              cases hnum : numberN p0 with
              | none =>
                have hbn : b = -1 := by rw [← HA.out, numZ_none hnum]
                have hlt0 : b < 0 := by omega
                rw [hnum] at hrg
                obtain ⟨he, hv⟩ := parsE_bad HN2.out (by rw [HLL.out]; exact rgsB_stop HP.out hrg)
                have HE := Lib.hid he
                have HV := Lib.hid hv
                clear he hv hrg
                go_wp2_with fail
                go_ret2
                exact ⟨none, 0, 0, by rw [HE.out] <;> rfl, by rw [HV.out]; exact ColK.nil, HEND.out⟩
              | some v =>
                have hbn : b = v := by rw [← HA.out, numZ_some hnum]
                have hv0 := (numberN_back hnum).2.1
                have hge : ¬ b < 0 := by omega
                rw [hnum] at hrg
                replace hrg : rangeO P = some (b, b) := by rw [hrg, hbn]; rfl
                have hge0 : (0 : Int) ≤ b := by omega
                clear hnum hbn hv0 hone hpe
                obtain ⟨hg1, hg2⟩ := rgs_step HP.out HG.out hrg
                have HG1 := Lib.hid hg1
                have HG2 := Lib.hid hg2
                clear hg1 hg2 hrg
                go_wp2_with ((with_reducible show wpList _ _ _ (⟨some 63, _, _, _, _, _⟩ :: _) _ _); refine hold ?_)
                refine held (wpList_append_k rfl (.tmp 60) (.tmp 62) 22 rfl Tryd.underlying22 info_rg rfl (by omega) (by omega) w1.heap.size A2 q c2 _ rfl (HOW.out.alloc _) W.heap.size 0 (b, b) rfl
                  (fun j v hv => by rw [Nat.zero_add, cell_of_row _ W.heap.size j _ _ (0, 0) (heap_alloc_new W _)]; unfold rgC at hv; simpa using hv) (rgC_one _) (by omega) (by have := HBW.out.size; simp; omega) ?_)
                intro A9 c9 wx hown9 hb9 _
                rw [← HG2.out] at hown9
                have HO9 := Lib.hid hown9
                have HB9 := Lib.hid ((HBW.out.alloc HBW.out.size _).trans hb9)
                clear hown9 hb9 k0 k1'
                go_wp2_with fail
                go_roundw
                case rel => exact ⟨q + 1, c9, A9, by omega, by go_num, rfl, HO9.out, HG1.out, HB9.out⟩
                case measure => simp [intOf]; omega
            · have htwo : splitL 58 P = [p0, pl] := by
                obtain ⟨z, y, hz⟩ := two_of HL3.out
                have h7 := HP0.out
                have h8 := HPL.out
                rw [hz] at h7 h8 ⊢
                rw [← Option.some.inj h7, ← Option.some.inj h8]
              have hrg := rangeO_2 htwo
              have h2t : ((1 : Int) + 1 == 2) = true := by decide
              cases hnum : numberN p0 with
              | none =>
                have hbn : a = -1 := by rw [← HA.out, numZ_none hnum]
                have hlt0 : a < 0 := by omega
                rw [hnum] at hrg
                obtain ⟨he, hv⟩ := parsE_bad HN2.out (by rw [HLL.out]; exact rgsB_stop HP.out hrg)
                have HE := Lib.hid he
                have HV := Lib.hid hv
                clear he hv hrg
                go_wp2_with fail
                go_ret2
                exact ⟨none, 0, 0, by rw [HE.out] <;> rfl, by rw [HV.out]; exact ColK.nil, HEND.out⟩
              | some u =>
                have hau : a = u := by rw [← HA.out, numZ_some hnum]
                have hu0 := (numberN_back hnum).2.1
                have hge : ¬ a < 0 := by omega
                have hge0 : (0 : Int) ≤ a := by omega
                cases hnum2 : numberN pl with
                | none =>
                  have hbn : b = -1 := by rw [← HBB.out, numZ_none hnum2]
                  have hlt0 : b < 0 := by omega
                  rw [hnum, hnum2] at hrg
                  obtain ⟨he, hv⟩ := parsE_bad HN2.out (by rw [HLL.out]; exact rgsB_stop HP.out hrg)
                  have HE := Lib.hid he
                  have HV := Lib.hid hv
                  clear he hv hrg
                  go_wp2_with fail
                  go_ret2
                  exact ⟨none, 0, 0, by rw [HE.out] <;> rfl, by rw [HV.out]; exact ColK.nil, HEND.out⟩
                | some v =>
                  have hbv : b = v := by rw [← HBB.out, numZ_some hnum2]
                  have hv0 := (numberN_back hnum2).2.1
                  have hgeb : ¬ b < 0 := by omega
                  have hgeb0 : (0 : Int) ≤ b := by omega
                  rw [hnum, hnum2] at hrg
                  replace hrg : rangeO P = if a = b then none else some (a, b) := by rw [hrg, hau, hbv]
                  clear hau hbv hu0 hv0
                  by_cases hab : a = b
                  · rw [if_pos hab] at hrg
                    have habt : (a == b) = true := by simp; exact hab
                    clear hab
                    obtain ⟨he, hv⟩ := parsE_bad HN2.out (by rw [HLL.out]; exact rgsB_stop HP.out hrg)
                    have HE := Lib.hid he
                    have HV := Lib.hid hv
                    clear he hv hrg
                    go_wp2_with fail
                    go_ret2
                    exact ⟨none, 0, 0, by rw [HE.out] <;> rfl, by rw [HV.out]; exact ColK.nil, HEND.out⟩
                  · rw [if_neg hab] at hrg
                    have habf : (a == b) = false := by simp; exact hab
                    clear hnum hnum2 hab htwo
                    obtain ⟨hg1, hg2⟩ := rgs_step HP.out HG.out hrg
                    have HG1 := Lib.hid hg1
                    have HG2 := Lib.hid hg2
                    clear hg1 hg2 hrg
                    go_wp2_with ((with_reducible show wpList _ _ _ (⟨some 63, _, _, _, _, _⟩ :: _) _ _); refine hold ?_)
                    refine held (wpList_append_k rfl (.tmp 60) (.tmp 62) 22 rfl Tryd.underlying22 info_rg rfl (by omega) (by omega) w1.heap.size A2 q c2 _ rfl (HOW.out.alloc _) W.heap.size 0 (a, b) rfl
                      (fun j v hv => by rw [Nat.zero_add, cell_of_row _ W.heap.size j _ _ (0, 0) (heap_alloc_new W _)]; unfold rgC at hv; simpa using hv) (rgC_one _) (by omega) (by have := HBW.out.size; simp; omega) ?_)
                    intro A9 c9 wx hown9 hb9 _
                    rw [← HG2.out] at hown9
                    have HO9 := Lib.hid hown9
                    have HB9 := Lib.hid ((HBW.out.alloc HBW.out.size _).trans hb9)
                    clear hown9 hb9 k0 k1'
                    go_wp2_with fail
                    go_roundw
                    case rel => exact ⟨q + 1, c9, A9, by omega, by go_num, rfl, HO9.out, HG1.out, HB9.out⟩
                    case measure => simp [intOf]; omega
      · obtain rfl : q = n1 := by omega
        have hall : L.take q = L := List.take_of_length_le (by rw [HLN.out]; exact Nat.le_refl _)
        have hg := HG.out
        have ho := HO.out
        rw [hall] at hg ho
        have hqq : ¬ (q : Int) < (q : Int) := by omega
        by_cases h60 : 60 < q
        · have h60' : (60 : Int) < (q : Int) := by omega
          obtain ⟨he, hv⟩ := parsE_many HN2.out (by rw [HLL.out]; exact hg) (by rw [HLL.out, HLN.out]; exact h60)
          have HE := Lib.hid he
          have HV := Lib.hid hv
          clear he hv hg ho hall
          go_wp2_with fail
          go_ret2
          exact ⟨none, 0, 0, by rw [HE.out] <;> rfl, by rw [HV.out]; exact ColK.nil, HB1.out.trans (HB.out.mono HB1.out.size)⟩
        · have h60' : ¬ (60 : Int) < (q : Int) := by omega
          obtain ⟨he, hv⟩ := parsE_good HN2.out (by rw [HLL.out]; exact hg) (by rw [HLL.out, HLN.out]; exact h60)
          rw [HLL.out] at hv
          have HE := Lib.hid he
          have HV := Lib.hid hv
          have HOO := Lib.hid ho
          clear he hv hg ho hall
          go_wp2_with fail
          go_ret2
          exact ⟨A2, q, c2, by rw [HE.out] <;> rfl, by rw [HV.out]; exact HOO.out.col, HB1.out.trans (HB.out.mono HB1.out.size)⟩
end Go.Proofs.YtiophifilikajaaDoor
