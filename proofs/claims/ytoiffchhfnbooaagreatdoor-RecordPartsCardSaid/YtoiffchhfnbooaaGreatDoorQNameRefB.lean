/-
  Contracts over the document's own names: what is clean, what is right, what is a pattern, joining.
-/
import Derived.Test.YtoiffchhfnbooaaGreatDoorQNameRefA
namespace Go.Proofs.YtoiffchhfnbooaaGreatDoor
set_option linter.unusedVariables false
set_option linter.unusedSimpArgs false
open Go.RowKit
set_option linter.unusedVariables false
set_option linter.unusedSimpArgs false

theorem inbox_stop {l : List Nat} {k x d : Nat} (hk : k < 5) (hx : l[k]? = some x) (hd : inboxL[k]? = some d) (h : upC x ≠ d) : inboxB l = false := by
  refine decide_eq_false fun e => h ?_
  have e1 := congrArg (·[k]?) e.1
  simp only [List.getElem?_map, List.getElem?_take_of_lt hk, hx, hd, Option.map_some] at e1
  exact Option.some.inj e1
theorem inbox_short {l : List Nat} (h : l.length < 5) : inboxB l = false := decide_eq_false fun e => by
  have := congrArg List.length e.1
  rw [List.length_map, List.length_take] at this
  have h5 : inboxL.length = 5 := rfl
  omega
theorem inbox_more {l : List Nat} {x : Nat} (hl : 5 < l.length) (hx : l[5]? = some x) (h : x ≠ 47) : inboxB l = false := decide_eq_false fun e => by
  rcases e.2 with e2 | e2
  · omega
  · rw [hx] at e2; exact h (Option.some.inj e2)
theorem up_snoc {l : List Nat} {k x d : Nat} (h : (l.take k).map upC = inboxL.take k) (hx : l[k]? = some x) (hd : inboxL[k]? = some d) (he : upC x = d) : (l.take (k + 1)).map upC = inboxL.take (k + 1) := by
  rw [take_snoc_n _ _ _ hx, take_snoc_n _ _ _ hd, List.map_append, h, List.map_singleton, he]
theorem cleanV_same {s : ByteArray} (hf : formB (nats s) = true) (h : inboxB (nats s) = false) : strOf (cleanV (nats s)) = s := by
  unfold cleanV cleanN
  rw [if_pos hf, h, if_neg Bool.false_ne_true, strOf_nats]
theorem inboxNm : (⟨#[73, 78, 66, 79, 88]⟩ : ByteArray) = strOf inboxL := rfl

set_option maxRecDepth 20000 in
set_option maxHeartbeats 8000000 in
theorem xaClean_any (s : ByteArray) (hs : s.size ≤ 140737488355328) (w : World) : Calls Tryz.prog 82 #[.string s] w fun e w' => e = .returned (.tuple #[.string (strOf (cleanV (nats s))), .int .i64 (cleanE (nats s))]) ∧ w = w' := by
  have HN := Lib.hid (nats_length s)
  have CF : Hid (∀ W, Calls Tryz.prog 99 #[.string s] W fun e w' => e = .returned (.bool (formB (nats s))) ∧ W = w') := Lib.hid fun W => xaformed_any s hs W
  cases hf : formB (nats s)
  · have HV : Hid (strOf (cleanV (nats s)) = ⟨#[]⟩) := Lib.hid (by unfold cleanV; rw [hf, if_neg Bool.false_ne_true]; rfl)
    have HE : Hid (cleanE (nats s) = 3) := Lib.hid (by unfold cleanE; rw [hf, if_neg Bool.false_ne_true])
    rw [hf] at CF
    clear hf
    go_enter Tryz.func82, Tryz.ntmps82
    go_wp2_with fail
    refine (CF.out _).mono ?_
    rintro e w' ⟨rfl, rfl⟩
    go_wp2_with fail
    go_ret2
    exact ⟨by rw [HV.out, HE.out] <;> rfl, rfl⟩
  · have HE : Hid (cleanE (nats s) = 0) := Lib.hid (by unfold cleanE; rw [hf, if_pos rfl])
    have HF := Lib.hid hf
    have hb1 : s.size ≤ 40 := by have := (of_decide_eq_true hf).2.1; rw [HN.out] at this; exact this
    rw [hf] at CF
    clear hf
    by_cases h5 : s.size < 5
    · have h5' : (s.size : Int) < 5 := by omega
      have HV : Hid (strOf (cleanV (nats s)) = s) := Lib.hid (cleanV_same HF.out (inbox_short (by rw [HN.out]; exact h5)))
      clear h5
      go_enter Tryz.func82, Tryz.ntmps82
      go_wp2_with fail
      refine (CF.out _).mono ?_
      rintro e w' ⟨rfl, rfl⟩
      go_wp2_with fail
      go_ret2
      exact ⟨by rw [HV.out, HE.out] <;> rfl, rfl⟩
    · have h5' : ¬ (s.size : Int) < 5 := by omega
      have HGO : Hid (s.size = 5 ∨ (5 < s.size ∧ ∃ h : 5 < s.size, s[5].toNat = 47) → Calls Tryz.prog 82 #[.string s] w fun e w' => e = .returned (.tuple #[.string (strOf (cleanV (nats s))), .int .i64 (cleanE (nats s))]) ∧ w = w') := by
        refine Lib.hid fun hor => ?_
        have HOR := Lib.hid hor
        have ka : ∀ W, (Op.stringOp .add ⟨#[73, 78, 66, 79, 88]⟩ (s.extract 5 s.size)).run Tryz.prog W = .ok (.string (strOf (inboxL ++ (nats s).drop 5))) W := fun W => add_str _ _ inboxL ((nats s).drop 5) inboxNm (by
          refine nats_inj ?_
          rw [nats_strOf _ (fun x hx => nats_lt s x (List.mem_of_mem_drop hx)), nats_extract]
          exact List.take_of_length_le (by rw [List.length_drop, HN.out]; omega)) (by rw [List.length_drop, HN.out]; show 5 + _ ≤ _; omega) W
        rcases hor with h5e | ⟨_, hgt, h47⟩
        · have g1 : ¬ (5 : Int) < (s.size : Int) := by omega
          go_enter Tryz.func82, Tryz.ntmps82
          go_wp2_with fail
          refine (CF.out _).mono ?_
          rintro e w' ⟨rfl, rfl⟩
          go_wp2_with fail
          go_loop [4] (fun i => ∃ k : Nat, k ≤ 5 ∧ i = .int .i64 (k : Int) ∧ ((nats s).take k).map upC = inboxL.take k) (fun i => 5 - (intOf i).toNat)
          case atStart => exact ⟨0, by decide, rfl, rfl⟩
          case round =>
            obtain ⟨k, hk5, rfl, hm⟩ := hrel
            have HM := Lib.hid hm
            clear hm
            have hcase : k = 0 ∨ k = 1 ∨ k = 2 ∨ k = 3 ∨ k = 4 ∨ k = 5 := by omega
            rcases hcase with rfl | rfl | rfl | rfl | rfl | rfl
            · have hk : 0 < s.size := by omega
              have HX := Lib.hid (nats_byte s 0 hk)
              have hxb : s[0].toNat < 256 := s[0].toNat_lt
              by_cases u1 : 97 ≤ s[0].toNat
              · have v1 : (97 : Int) ≤ (s[0].toNat : Int) := by omega
                by_cases u2 : s[0].toNat ≤ 122
                · have v2 : (s[0].toNat : Int) ≤ 122 := by omega
                  have HU : Hid (upC s[0].toNat = s[0].toNat - 32) := Lib.hid (if_pos ⟨u1, u2⟩)
                  have hw : IntKind.u8.wrap ((s[0].toNat : Int) - 32) = (s[0].toNat : Int) - 32 := IntWalk.u8_in _ (by omega)
                  by_cases he : s[0].toNat = 73 + 32
                  · have hc : ((s[0].toNat : Int) - 32 != (((⟨#[73, 78, 66, 79, 88]⟩ : ByteArray)[0]'(by decide)).toNat : Int)) = false := by show ((s[0].toNat : Int) - 32 != 73) = false; simp; omega
                    have HM2 : Hid (((nats s).take (0 + 1)).map upC = inboxL.take (0 + 1)) := Lib.hid (up_snoc HM.out HX.out (d := 73) rfl (by rw [HU.out]; omega))
                    clear he
                    go_wp2_with fail
                    go_round
                    case rel => exact ⟨0 + 1, by decide, by first | rfl | go_num, HM2.out⟩
                    case measure => simp [intOf]
                  · have hc : ((s[0].toNat : Int) - 32 != (((⟨#[73, 78, 66, 79, 88]⟩ : ByteArray)[0]'(by decide)).toNat : Int)) = true := by show ((s[0].toNat : Int) - 32 != 73) = true; simp; omega
                    have HV : Hid (strOf (cleanV (nats s)) = s) := Lib.hid (cleanV_same HF.out (inbox_stop (by decide) HX.out (d := 73) rfl (by rw [HU.out]; omega)))
                    clear he
                    go_wp2_with fail
                    go_ret2
                    exact ⟨by rw [HV.out, HE.out] <;> rfl, rfl⟩
                · have v2 : ¬ (s[0].toNat : Int) ≤ 122 := by omega
                  have HU : Hid (upC s[0].toNat = s[0].toNat) := Lib.hid (if_neg fun h => u2 h.2)
                  have he : True := trivial
                  have hc : ((s[0].toNat : Int) != (((⟨#[73, 78, 66, 79, 88]⟩ : ByteArray)[0]'(by decide)).toNat : Int)) = true := by show ((s[0].toNat : Int) != 73) = true; simp; omega
                  have HV : Hid (strOf (cleanV (nats s)) = s) := Lib.hid (cleanV_same HF.out (inbox_stop (by decide) HX.out (d := 73) rfl (by rw [HU.out]; omega)))
                  clear he
                  go_wp2_with fail
                  go_ret2
                  exact ⟨by rw [HV.out, HE.out] <;> rfl, rfl⟩
              · have v1 : ¬ (97 : Int) ≤ (s[0].toNat : Int) := by omega
                have HU : Hid (upC s[0].toNat = s[0].toNat) := Lib.hid (if_neg fun h => u1 h.1)
                by_cases he : s[0].toNat = 73
                · have hc : ((s[0].toNat : Int) != (((⟨#[73, 78, 66, 79, 88]⟩ : ByteArray)[0]'(by decide)).toNat : Int)) = false := by show ((s[0].toNat : Int) != 73) = false; simp; omega
                  have HM2 : Hid (((nats s).take (0 + 1)).map upC = inboxL.take (0 + 1)) := Lib.hid (up_snoc HM.out HX.out (d := 73) rfl (by rw [HU.out]; omega))
                  clear he
                  go_wp2_with fail
                  go_round
                  case rel => exact ⟨0 + 1, by decide, by first | rfl | go_num, HM2.out⟩
                  case measure => simp [intOf]
                · have hc : ((s[0].toNat : Int) != (((⟨#[73, 78, 66, 79, 88]⟩ : ByteArray)[0]'(by decide)).toNat : Int)) = true := by show ((s[0].toNat : Int) != 73) = true; simp; omega
                  have HV : Hid (strOf (cleanV (nats s)) = s) := Lib.hid (cleanV_same HF.out (inbox_stop (by decide) HX.out (d := 73) rfl (by rw [HU.out]; omega)))
                  clear he
                  go_wp2_with fail
                  go_ret2
                  exact ⟨by rw [HV.out, HE.out] <;> rfl, rfl⟩
            · have hk : 1 < s.size := by omega
              have HX := Lib.hid (nats_byte s 1 hk)
              have hxb : s[1].toNat < 256 := s[1].toNat_lt
              by_cases u1 : 97 ≤ s[1].toNat
              · have v1 : (97 : Int) ≤ (s[1].toNat : Int) := by omega
                by_cases u2 : s[1].toNat ≤ 122
                · have v2 : (s[1].toNat : Int) ≤ 122 := by omega
                  have HU : Hid (upC s[1].toNat = s[1].toNat - 32) := Lib.hid (if_pos ⟨u1, u2⟩)
                  have hw : IntKind.u8.wrap ((s[1].toNat : Int) - 32) = (s[1].toNat : Int) - 32 := IntWalk.u8_in _ (by omega)
                  by_cases he : s[1].toNat = 78 + 32
                  · have hc : ((s[1].toNat : Int) - 32 != (((⟨#[73, 78, 66, 79, 88]⟩ : ByteArray)[1]'(by decide)).toNat : Int)) = false := by show ((s[1].toNat : Int) - 32 != 78) = false; simp; omega
                    have HM2 : Hid (((nats s).take (1 + 1)).map upC = inboxL.take (1 + 1)) := Lib.hid (up_snoc HM.out HX.out (d := 78) rfl (by rw [HU.out]; omega))
                    clear he
                    go_wp2_with fail
                    go_round
                    case rel => exact ⟨1 + 1, by decide, by first | rfl | go_num, HM2.out⟩
                    case measure => simp [intOf]
                  · have hc : ((s[1].toNat : Int) - 32 != (((⟨#[73, 78, 66, 79, 88]⟩ : ByteArray)[1]'(by decide)).toNat : Int)) = true := by show ((s[1].toNat : Int) - 32 != 78) = true; simp; omega
                    have HV : Hid (strOf (cleanV (nats s)) = s) := Lib.hid (cleanV_same HF.out (inbox_stop (by decide) HX.out (d := 78) rfl (by rw [HU.out]; omega)))
                    clear he
                    go_wp2_with fail
                    go_ret2
                    exact ⟨by rw [HV.out, HE.out] <;> rfl, rfl⟩
                · have v2 : ¬ (s[1].toNat : Int) ≤ 122 := by omega
                  have HU : Hid (upC s[1].toNat = s[1].toNat) := Lib.hid (if_neg fun h => u2 h.2)
                  have he : True := trivial
                  have hc : ((s[1].toNat : Int) != (((⟨#[73, 78, 66, 79, 88]⟩ : ByteArray)[1]'(by decide)).toNat : Int)) = true := by show ((s[1].toNat : Int) != 78) = true; simp; omega
                  have HV : Hid (strOf (cleanV (nats s)) = s) := Lib.hid (cleanV_same HF.out (inbox_stop (by decide) HX.out (d := 78) rfl (by rw [HU.out]; omega)))
                  clear he
                  go_wp2_with fail
                  go_ret2
                  exact ⟨by rw [HV.out, HE.out] <;> rfl, rfl⟩
              · have v1 : ¬ (97 : Int) ≤ (s[1].toNat : Int) := by omega
                have HU : Hid (upC s[1].toNat = s[1].toNat) := Lib.hid (if_neg fun h => u1 h.1)
                by_cases he : s[1].toNat = 78
                · have hc : ((s[1].toNat : Int) != (((⟨#[73, 78, 66, 79, 88]⟩ : ByteArray)[1]'(by decide)).toNat : Int)) = false := by show ((s[1].toNat : Int) != 78) = false; simp; omega
                  have HM2 : Hid (((nats s).take (1 + 1)).map upC = inboxL.take (1 + 1)) := Lib.hid (up_snoc HM.out HX.out (d := 78) rfl (by rw [HU.out]; omega))
                  clear he
                  go_wp2_with fail
                  go_round
                  case rel => exact ⟨1 + 1, by decide, by first | rfl | go_num, HM2.out⟩
                  case measure => simp [intOf]
                · have hc : ((s[1].toNat : Int) != (((⟨#[73, 78, 66, 79, 88]⟩ : ByteArray)[1]'(by decide)).toNat : Int)) = true := by show ((s[1].toNat : Int) != 78) = true; simp; omega
                  have HV : Hid (strOf (cleanV (nats s)) = s) := Lib.hid (cleanV_same HF.out (inbox_stop (by decide) HX.out (d := 78) rfl (by rw [HU.out]; omega)))
                  clear he
                  go_wp2_with fail
                  go_ret2
                  exact ⟨by rw [HV.out, HE.out] <;> rfl, rfl⟩
            · have hk : 2 < s.size := by omega
              have HX := Lib.hid (nats_byte s 2 hk)
              have hxb : s[2].toNat < 256 := s[2].toNat_lt
              by_cases u1 : 97 ≤ s[2].toNat
              · have v1 : (97 : Int) ≤ (s[2].toNat : Int) := by omega
                by_cases u2 : s[2].toNat ≤ 122
                · have v2 : (s[2].toNat : Int) ≤ 122 := by omega
                  have HU : Hid (upC s[2].toNat = s[2].toNat - 32) := Lib.hid (if_pos ⟨u1, u2⟩)
                  have hw : IntKind.u8.wrap ((s[2].toNat : Int) - 32) = (s[2].toNat : Int) - 32 := IntWalk.u8_in _ (by omega)
                  by_cases he : s[2].toNat = 66 + 32
                  · have hc : ((s[2].toNat : Int) - 32 != (((⟨#[73, 78, 66, 79, 88]⟩ : ByteArray)[2]'(by decide)).toNat : Int)) = false := by show ((s[2].toNat : Int) - 32 != 66) = false; simp; omega
                    have HM2 : Hid (((nats s).take (2 + 1)).map upC = inboxL.take (2 + 1)) := Lib.hid (up_snoc HM.out HX.out (d := 66) rfl (by rw [HU.out]; omega))
                    clear he
                    go_wp2_with fail
                    go_round
                    case rel => exact ⟨2 + 1, by decide, by first | rfl | go_num, HM2.out⟩
                    case measure => simp [intOf]
                  · have hc : ((s[2].toNat : Int) - 32 != (((⟨#[73, 78, 66, 79, 88]⟩ : ByteArray)[2]'(by decide)).toNat : Int)) = true := by show ((s[2].toNat : Int) - 32 != 66) = true; simp; omega
                    have HV : Hid (strOf (cleanV (nats s)) = s) := Lib.hid (cleanV_same HF.out (inbox_stop (by decide) HX.out (d := 66) rfl (by rw [HU.out]; omega)))
                    clear he
                    go_wp2_with fail
                    go_ret2
                    exact ⟨by rw [HV.out, HE.out] <;> rfl, rfl⟩
                · have v2 : ¬ (s[2].toNat : Int) ≤ 122 := by omega
                  have HU : Hid (upC s[2].toNat = s[2].toNat) := Lib.hid (if_neg fun h => u2 h.2)
                  have he : True := trivial
                  have hc : ((s[2].toNat : Int) != (((⟨#[73, 78, 66, 79, 88]⟩ : ByteArray)[2]'(by decide)).toNat : Int)) = true := by show ((s[2].toNat : Int) != 66) = true; simp; omega
                  have HV : Hid (strOf (cleanV (nats s)) = s) := Lib.hid (cleanV_same HF.out (inbox_stop (by decide) HX.out (d := 66) rfl (by rw [HU.out]; omega)))
                  clear he
                  go_wp2_with fail
                  go_ret2
                  exact ⟨by rw [HV.out, HE.out] <;> rfl, rfl⟩
              · have v1 : ¬ (97 : Int) ≤ (s[2].toNat : Int) := by omega
                have HU : Hid (upC s[2].toNat = s[2].toNat) := Lib.hid (if_neg fun h => u1 h.1)
                by_cases he : s[2].toNat = 66
                · have hc : ((s[2].toNat : Int) != (((⟨#[73, 78, 66, 79, 88]⟩ : ByteArray)[2]'(by decide)).toNat : Int)) = false := by show ((s[2].toNat : Int) != 66) = false; simp; omega
                  have HM2 : Hid (((nats s).take (2 + 1)).map upC = inboxL.take (2 + 1)) := Lib.hid (up_snoc HM.out HX.out (d := 66) rfl (by rw [HU.out]; omega))
                  clear he
                  go_wp2_with fail
                  go_round
                  case rel => exact ⟨2 + 1, by decide, by first | rfl | go_num, HM2.out⟩
                  case measure => simp [intOf]
                · have hc : ((s[2].toNat : Int) != (((⟨#[73, 78, 66, 79, 88]⟩ : ByteArray)[2]'(by decide)).toNat : Int)) = true := by show ((s[2].toNat : Int) != 66) = true; simp; omega
                  have HV : Hid (strOf (cleanV (nats s)) = s) := Lib.hid (cleanV_same HF.out (inbox_stop (by decide) HX.out (d := 66) rfl (by rw [HU.out]; omega)))
                  clear he
                  go_wp2_with fail
                  go_ret2
                  exact ⟨by rw [HV.out, HE.out] <;> rfl, rfl⟩
            · have hk : 3 < s.size := by omega
              have HX := Lib.hid (nats_byte s 3 hk)
              have hxb : s[3].toNat < 256 := s[3].toNat_lt
              by_cases u1 : 97 ≤ s[3].toNat
              · have v1 : (97 : Int) ≤ (s[3].toNat : Int) := by omega
                by_cases u2 : s[3].toNat ≤ 122
                · have v2 : (s[3].toNat : Int) ≤ 122 := by omega
                  have HU : Hid (upC s[3].toNat = s[3].toNat - 32) := Lib.hid (if_pos ⟨u1, u2⟩)
                  have hw : IntKind.u8.wrap ((s[3].toNat : Int) - 32) = (s[3].toNat : Int) - 32 := IntWalk.u8_in _ (by omega)
                  by_cases he : s[3].toNat = 79 + 32
                  · have hc : ((s[3].toNat : Int) - 32 != (((⟨#[73, 78, 66, 79, 88]⟩ : ByteArray)[3]'(by decide)).toNat : Int)) = false := by show ((s[3].toNat : Int) - 32 != 79) = false; simp; omega
                    have HM2 : Hid (((nats s).take (3 + 1)).map upC = inboxL.take (3 + 1)) := Lib.hid (up_snoc HM.out HX.out (d := 79) rfl (by rw [HU.out]; omega))
                    clear he
                    go_wp2_with fail
                    go_round
                    case rel => exact ⟨3 + 1, by decide, by first | rfl | go_num, HM2.out⟩
                    case measure => simp [intOf]
                  · have hc : ((s[3].toNat : Int) - 32 != (((⟨#[73, 78, 66, 79, 88]⟩ : ByteArray)[3]'(by decide)).toNat : Int)) = true := by show ((s[3].toNat : Int) - 32 != 79) = true; simp; omega
                    have HV : Hid (strOf (cleanV (nats s)) = s) := Lib.hid (cleanV_same HF.out (inbox_stop (by decide) HX.out (d := 79) rfl (by rw [HU.out]; omega)))
                    clear he
                    go_wp2_with fail
                    go_ret2
                    exact ⟨by rw [HV.out, HE.out] <;> rfl, rfl⟩
                · have v2 : ¬ (s[3].toNat : Int) ≤ 122 := by omega
                  have HU : Hid (upC s[3].toNat = s[3].toNat) := Lib.hid (if_neg fun h => u2 h.2)
                  have he : True := trivial
                  have hc : ((s[3].toNat : Int) != (((⟨#[73, 78, 66, 79, 88]⟩ : ByteArray)[3]'(by decide)).toNat : Int)) = true := by show ((s[3].toNat : Int) != 79) = true; simp; omega
                  have HV : Hid (strOf (cleanV (nats s)) = s) := Lib.hid (cleanV_same HF.out (inbox_stop (by decide) HX.out (d := 79) rfl (by rw [HU.out]; omega)))
                  clear he
                  go_wp2_with fail
                  go_ret2
                  exact ⟨by rw [HV.out, HE.out] <;> rfl, rfl⟩
              · have v1 : ¬ (97 : Int) ≤ (s[3].toNat : Int) := by omega
                have HU : Hid (upC s[3].toNat = s[3].toNat) := Lib.hid (if_neg fun h => u1 h.1)
                by_cases he : s[3].toNat = 79
                · have hc : ((s[3].toNat : Int) != (((⟨#[73, 78, 66, 79, 88]⟩ : ByteArray)[3]'(by decide)).toNat : Int)) = false := by show ((s[3].toNat : Int) != 79) = false; simp; omega
                  have HM2 : Hid (((nats s).take (3 + 1)).map upC = inboxL.take (3 + 1)) := Lib.hid (up_snoc HM.out HX.out (d := 79) rfl (by rw [HU.out]; omega))
                  clear he
                  go_wp2_with fail
                  go_round
                  case rel => exact ⟨3 + 1, by decide, by first | rfl | go_num, HM2.out⟩
                  case measure => simp [intOf]
                · have hc : ((s[3].toNat : Int) != (((⟨#[73, 78, 66, 79, 88]⟩ : ByteArray)[3]'(by decide)).toNat : Int)) = true := by show ((s[3].toNat : Int) != 79) = true; simp; omega
                  have HV : Hid (strOf (cleanV (nats s)) = s) := Lib.hid (cleanV_same HF.out (inbox_stop (by decide) HX.out (d := 79) rfl (by rw [HU.out]; omega)))
                  clear he
                  go_wp2_with fail
                  go_ret2
                  exact ⟨by rw [HV.out, HE.out] <;> rfl, rfl⟩
            · have hk : 4 < s.size := by omega
              have HX := Lib.hid (nats_byte s 4 hk)
              have hxb : s[4].toNat < 256 := s[4].toNat_lt
              by_cases u1 : 97 ≤ s[4].toNat
              · have v1 : (97 : Int) ≤ (s[4].toNat : Int) := by omega
                by_cases u2 : s[4].toNat ≤ 122
                · have v2 : (s[4].toNat : Int) ≤ 122 := by omega
                  have HU : Hid (upC s[4].toNat = s[4].toNat - 32) := Lib.hid (if_pos ⟨u1, u2⟩)
                  have hw : IntKind.u8.wrap ((s[4].toNat : Int) - 32) = (s[4].toNat : Int) - 32 := IntWalk.u8_in _ (by omega)
                  by_cases he : s[4].toNat = 88 + 32
                  · have hc : ((s[4].toNat : Int) - 32 != (((⟨#[73, 78, 66, 79, 88]⟩ : ByteArray)[4]'(by decide)).toNat : Int)) = false := by show ((s[4].toNat : Int) - 32 != 88) = false; simp; omega
                    have HM2 : Hid (((nats s).take (4 + 1)).map upC = inboxL.take (4 + 1)) := Lib.hid (up_snoc HM.out HX.out (d := 88) rfl (by rw [HU.out]; omega))
                    clear he
                    go_wp2_with fail
                    go_round
                    case rel => exact ⟨4 + 1, by decide, by first | rfl | go_num, HM2.out⟩
                    case measure => simp [intOf]
                  · have hc : ((s[4].toNat : Int) - 32 != (((⟨#[73, 78, 66, 79, 88]⟩ : ByteArray)[4]'(by decide)).toNat : Int)) = true := by show ((s[4].toNat : Int) - 32 != 88) = true; simp; omega
                    have HV : Hid (strOf (cleanV (nats s)) = s) := Lib.hid (cleanV_same HF.out (inbox_stop (by decide) HX.out (d := 88) rfl (by rw [HU.out]; omega)))
                    clear he
                    go_wp2_with fail
                    go_ret2
                    exact ⟨by rw [HV.out, HE.out] <;> rfl, rfl⟩
                · have v2 : ¬ (s[4].toNat : Int) ≤ 122 := by omega
                  have HU : Hid (upC s[4].toNat = s[4].toNat) := Lib.hid (if_neg fun h => u2 h.2)
                  have he : True := trivial
                  have hc : ((s[4].toNat : Int) != (((⟨#[73, 78, 66, 79, 88]⟩ : ByteArray)[4]'(by decide)).toNat : Int)) = true := by show ((s[4].toNat : Int) != 88) = true; simp; omega
                  have HV : Hid (strOf (cleanV (nats s)) = s) := Lib.hid (cleanV_same HF.out (inbox_stop (by decide) HX.out (d := 88) rfl (by rw [HU.out]; omega)))
                  clear he
                  go_wp2_with fail
                  go_ret2
                  exact ⟨by rw [HV.out, HE.out] <;> rfl, rfl⟩
              · have v1 : ¬ (97 : Int) ≤ (s[4].toNat : Int) := by omega
                have HU : Hid (upC s[4].toNat = s[4].toNat) := Lib.hid (if_neg fun h => u1 h.1)
                by_cases he : s[4].toNat = 88
                · have hc : ((s[4].toNat : Int) != (((⟨#[73, 78, 66, 79, 88]⟩ : ByteArray)[4]'(by decide)).toNat : Int)) = false := by show ((s[4].toNat : Int) != 88) = false; simp; omega
                  have HM2 : Hid (((nats s).take (4 + 1)).map upC = inboxL.take (4 + 1)) := Lib.hid (up_snoc HM.out HX.out (d := 88) rfl (by rw [HU.out]; omega))
                  clear he
                  go_wp2_with fail
                  go_round
                  case rel => exact ⟨4 + 1, by decide, by first | rfl | go_num, HM2.out⟩
                  case measure => simp [intOf]
                · have hc : ((s[4].toNat : Int) != (((⟨#[73, 78, 66, 79, 88]⟩ : ByteArray)[4]'(by decide)).toNat : Int)) = true := by show ((s[4].toNat : Int) != 88) = true; simp; omega
                  have HV : Hid (strOf (cleanV (nats s)) = s) := Lib.hid (cleanV_same HF.out (inbox_stop (by decide) HX.out (d := 88) rfl (by rw [HU.out]; omega)))
                  clear he
                  go_wp2_with fail
                  go_ret2
                  exact ⟨by rw [HV.out, HE.out] <;> rfl, rfl⟩
            · have hi : inboxB (nats s) = true := decide_eq_true ⟨HM.out, by
                rcases HOR.out with h | ⟨_, h, h2⟩
                · exact .inl (by rw [HN.out]; exact h)
                · exact .inr (by rw [nats_byte s 5 h, h2])⟩
              have HV : Hid (strOf (cleanV (nats s)) = ⟨#[73, 78, 66, 79, 88]⟩) := Lib.hid (by
                unfold cleanV cleanN
                rw [if_pos HF.out, if_pos hi]
                rw [List.drop_eq_nil_of_le (by rw [HN.out]; omega)]; rfl)
              have h55 : (5 : Int) ≤ (s.size : Int) := by omega
              clear hi
              go_wp2_with fail
              go_ret2
              exact ⟨by rw [HV.out, HE.out] <;> rfl, rfl⟩
        · have g1 : (5 : Int) < (s.size : Int) := by omega
          have g2 : ((s[5].toNat : Int) != 47) = false := by simp [h47]
          go_enter Tryz.func82, Tryz.ntmps82
          go_wp2_with fail
          refine (CF.out _).mono ?_
          rintro e w' ⟨rfl, rfl⟩
          go_wp2_with fail
          go_loop [4] (fun i => ∃ k : Nat, k ≤ 5 ∧ i = .int .i64 (k : Int) ∧ ((nats s).take k).map upC = inboxL.take k) (fun i => 5 - (intOf i).toNat)
          case atStart => exact ⟨0, by decide, rfl, rfl⟩
          case round =>
            obtain ⟨k, hk5, rfl, hm⟩ := hrel
            have HM := Lib.hid hm
            clear hm
            have hcase : k = 0 ∨ k = 1 ∨ k = 2 ∨ k = 3 ∨ k = 4 ∨ k = 5 := by omega
            rcases hcase with rfl | rfl | rfl | rfl | rfl | rfl
            · have hk : 0 < s.size := by omega
              have HX := Lib.hid (nats_byte s 0 hk)
              have hxb : s[0].toNat < 256 := s[0].toNat_lt
              by_cases u1 : 97 ≤ s[0].toNat
              · have v1 : (97 : Int) ≤ (s[0].toNat : Int) := by omega
                by_cases u2 : s[0].toNat ≤ 122
                · have v2 : (s[0].toNat : Int) ≤ 122 := by omega
                  have HU : Hid (upC s[0].toNat = s[0].toNat - 32) := Lib.hid (if_pos ⟨u1, u2⟩)
                  have hw : IntKind.u8.wrap ((s[0].toNat : Int) - 32) = (s[0].toNat : Int) - 32 := IntWalk.u8_in _ (by omega)
                  by_cases he : s[0].toNat = 73 + 32
                  · have hc : ((s[0].toNat : Int) - 32 != (((⟨#[73, 78, 66, 79, 88]⟩ : ByteArray)[0]'(by decide)).toNat : Int)) = false := by show ((s[0].toNat : Int) - 32 != 73) = false; simp; omega
                    have HM2 : Hid (((nats s).take (0 + 1)).map upC = inboxL.take (0 + 1)) := Lib.hid (up_snoc HM.out HX.out (d := 73) rfl (by rw [HU.out]; omega))
                    clear he
                    go_wp2_with fail
                    go_round
                    case rel => exact ⟨0 + 1, by decide, by first | rfl | go_num, HM2.out⟩
                    case measure => simp [intOf]
                  · have hc : ((s[0].toNat : Int) - 32 != (((⟨#[73, 78, 66, 79, 88]⟩ : ByteArray)[0]'(by decide)).toNat : Int)) = true := by show ((s[0].toNat : Int) - 32 != 73) = true; simp; omega
                    have HV : Hid (strOf (cleanV (nats s)) = s) := Lib.hid (cleanV_same HF.out (inbox_stop (by decide) HX.out (d := 73) rfl (by rw [HU.out]; omega)))
                    clear he
                    go_wp2_with fail
                    go_ret2
                    exact ⟨by rw [HV.out, HE.out] <;> rfl, rfl⟩
                · have v2 : ¬ (s[0].toNat : Int) ≤ 122 := by omega
                  have HU : Hid (upC s[0].toNat = s[0].toNat) := Lib.hid (if_neg fun h => u2 h.2)
                  have he : True := trivial
                  have hc : ((s[0].toNat : Int) != (((⟨#[73, 78, 66, 79, 88]⟩ : ByteArray)[0]'(by decide)).toNat : Int)) = true := by show ((s[0].toNat : Int) != 73) = true; simp; omega
                  have HV : Hid (strOf (cleanV (nats s)) = s) := Lib.hid (cleanV_same HF.out (inbox_stop (by decide) HX.out (d := 73) rfl (by rw [HU.out]; omega)))
                  clear he
                  go_wp2_with fail
                  go_ret2
                  exact ⟨by rw [HV.out, HE.out] <;> rfl, rfl⟩
              · have v1 : ¬ (97 : Int) ≤ (s[0].toNat : Int) := by omega
                have HU : Hid (upC s[0].toNat = s[0].toNat) := Lib.hid (if_neg fun h => u1 h.1)
                by_cases he : s[0].toNat = 73
                · have hc : ((s[0].toNat : Int) != (((⟨#[73, 78, 66, 79, 88]⟩ : ByteArray)[0]'(by decide)).toNat : Int)) = false := by show ((s[0].toNat : Int) != 73) = false; simp; omega
                  have HM2 : Hid (((nats s).take (0 + 1)).map upC = inboxL.take (0 + 1)) := Lib.hid (up_snoc HM.out HX.out (d := 73) rfl (by rw [HU.out]; omega))
                  clear he
                  go_wp2_with fail
                  go_round
                  case rel => exact ⟨0 + 1, by decide, by first | rfl | go_num, HM2.out⟩
                  case measure => simp [intOf]
                · have hc : ((s[0].toNat : Int) != (((⟨#[73, 78, 66, 79, 88]⟩ : ByteArray)[0]'(by decide)).toNat : Int)) = true := by show ((s[0].toNat : Int) != 73) = true; simp; omega
                  have HV : Hid (strOf (cleanV (nats s)) = s) := Lib.hid (cleanV_same HF.out (inbox_stop (by decide) HX.out (d := 73) rfl (by rw [HU.out]; omega)))
                  clear he
                  go_wp2_with fail
                  go_ret2
                  exact ⟨by rw [HV.out, HE.out] <;> rfl, rfl⟩
            · have hk : 1 < s.size := by omega
              have HX := Lib.hid (nats_byte s 1 hk)
              have hxb : s[1].toNat < 256 := s[1].toNat_lt
              by_cases u1 : 97 ≤ s[1].toNat
              · have v1 : (97 : Int) ≤ (s[1].toNat : Int) := by omega
                by_cases u2 : s[1].toNat ≤ 122
                · have v2 : (s[1].toNat : Int) ≤ 122 := by omega
                  have HU : Hid (upC s[1].toNat = s[1].toNat - 32) := Lib.hid (if_pos ⟨u1, u2⟩)
                  have hw : IntKind.u8.wrap ((s[1].toNat : Int) - 32) = (s[1].toNat : Int) - 32 := IntWalk.u8_in _ (by omega)
                  by_cases he : s[1].toNat = 78 + 32
                  · have hc : ((s[1].toNat : Int) - 32 != (((⟨#[73, 78, 66, 79, 88]⟩ : ByteArray)[1]'(by decide)).toNat : Int)) = false := by show ((s[1].toNat : Int) - 32 != 78) = false; simp; omega
                    have HM2 : Hid (((nats s).take (1 + 1)).map upC = inboxL.take (1 + 1)) := Lib.hid (up_snoc HM.out HX.out (d := 78) rfl (by rw [HU.out]; omega))
                    clear he
                    go_wp2_with fail
                    go_round
                    case rel => exact ⟨1 + 1, by decide, by first | rfl | go_num, HM2.out⟩
                    case measure => simp [intOf]
                  · have hc : ((s[1].toNat : Int) - 32 != (((⟨#[73, 78, 66, 79, 88]⟩ : ByteArray)[1]'(by decide)).toNat : Int)) = true := by show ((s[1].toNat : Int) - 32 != 78) = true; simp; omega
                    have HV : Hid (strOf (cleanV (nats s)) = s) := Lib.hid (cleanV_same HF.out (inbox_stop (by decide) HX.out (d := 78) rfl (by rw [HU.out]; omega)))
                    clear he
                    go_wp2_with fail
                    go_ret2
                    exact ⟨by rw [HV.out, HE.out] <;> rfl, rfl⟩
                · have v2 : ¬ (s[1].toNat : Int) ≤ 122 := by omega
                  have HU : Hid (upC s[1].toNat = s[1].toNat) := Lib.hid (if_neg fun h => u2 h.2)
                  have he : True := trivial
                  have hc : ((s[1].toNat : Int) != (((⟨#[73, 78, 66, 79, 88]⟩ : ByteArray)[1]'(by decide)).toNat : Int)) = true := by show ((s[1].toNat : Int) != 78) = true; simp; omega
                  have HV : Hid (strOf (cleanV (nats s)) = s) := Lib.hid (cleanV_same HF.out (inbox_stop (by decide) HX.out (d := 78) rfl (by rw [HU.out]; omega)))
                  clear he
                  go_wp2_with fail
                  go_ret2
                  exact ⟨by rw [HV.out, HE.out] <;> rfl, rfl⟩
              · have v1 : ¬ (97 : Int) ≤ (s[1].toNat : Int) := by omega
                have HU : Hid (upC s[1].toNat = s[1].toNat) := Lib.hid (if_neg fun h => u1 h.1)
                by_cases he : s[1].toNat = 78
                · have hc : ((s[1].toNat : Int) != (((⟨#[73, 78, 66, 79, 88]⟩ : ByteArray)[1]'(by decide)).toNat : Int)) = false := by show ((s[1].toNat : Int) != 78) = false; simp; omega
                  have HM2 : Hid (((nats s).take (1 + 1)).map upC = inboxL.take (1 + 1)) := Lib.hid (up_snoc HM.out HX.out (d := 78) rfl (by rw [HU.out]; omega))
                  clear he
                  go_wp2_with fail
                  go_round
                  case rel => exact ⟨1 + 1, by decide, by first | rfl | go_num, HM2.out⟩
                  case measure => simp [intOf]
                · have hc : ((s[1].toNat : Int) != (((⟨#[73, 78, 66, 79, 88]⟩ : ByteArray)[1]'(by decide)).toNat : Int)) = true := by show ((s[1].toNat : Int) != 78) = true; simp; omega
                  have HV : Hid (strOf (cleanV (nats s)) = s) := Lib.hid (cleanV_same HF.out (inbox_stop (by decide) HX.out (d := 78) rfl (by rw [HU.out]; omega)))
                  clear he
                  go_wp2_with fail
                  go_ret2
                  exact ⟨by rw [HV.out, HE.out] <;> rfl, rfl⟩
            · have hk : 2 < s.size := by omega
              have HX := Lib.hid (nats_byte s 2 hk)
              have hxb : s[2].toNat < 256 := s[2].toNat_lt
              by_cases u1 : 97 ≤ s[2].toNat
              · have v1 : (97 : Int) ≤ (s[2].toNat : Int) := by omega
                by_cases u2 : s[2].toNat ≤ 122
                · have v2 : (s[2].toNat : Int) ≤ 122 := by omega
                  have HU : Hid (upC s[2].toNat = s[2].toNat - 32) := Lib.hid (if_pos ⟨u1, u2⟩)
                  have hw : IntKind.u8.wrap ((s[2].toNat : Int) - 32) = (s[2].toNat : Int) - 32 := IntWalk.u8_in _ (by omega)
                  by_cases he : s[2].toNat = 66 + 32
                  · have hc : ((s[2].toNat : Int) - 32 != (((⟨#[73, 78, 66, 79, 88]⟩ : ByteArray)[2]'(by decide)).toNat : Int)) = false := by show ((s[2].toNat : Int) - 32 != 66) = false; simp; omega
                    have HM2 : Hid (((nats s).take (2 + 1)).map upC = inboxL.take (2 + 1)) := Lib.hid (up_snoc HM.out HX.out (d := 66) rfl (by rw [HU.out]; omega))
                    clear he
                    go_wp2_with fail
                    go_round
                    case rel => exact ⟨2 + 1, by decide, by first | rfl | go_num, HM2.out⟩
                    case measure => simp [intOf]
                  · have hc : ((s[2].toNat : Int) - 32 != (((⟨#[73, 78, 66, 79, 88]⟩ : ByteArray)[2]'(by decide)).toNat : Int)) = true := by show ((s[2].toNat : Int) - 32 != 66) = true; simp; omega
                    have HV : Hid (strOf (cleanV (nats s)) = s) := Lib.hid (cleanV_same HF.out (inbox_stop (by decide) HX.out (d := 66) rfl (by rw [HU.out]; omega)))
                    clear he
                    go_wp2_with fail
                    go_ret2
                    exact ⟨by rw [HV.out, HE.out] <;> rfl, rfl⟩
                · have v2 : ¬ (s[2].toNat : Int) ≤ 122 := by omega
                  have HU : Hid (upC s[2].toNat = s[2].toNat) := Lib.hid (if_neg fun h => u2 h.2)
                  have he : True := trivial
                  have hc : ((s[2].toNat : Int) != (((⟨#[73, 78, 66, 79, 88]⟩ : ByteArray)[2]'(by decide)).toNat : Int)) = true := by show ((s[2].toNat : Int) != 66) = true; simp; omega
                  have HV : Hid (strOf (cleanV (nats s)) = s) := Lib.hid (cleanV_same HF.out (inbox_stop (by decide) HX.out (d := 66) rfl (by rw [HU.out]; omega)))
                  clear he
                  go_wp2_with fail
                  go_ret2
                  exact ⟨by rw [HV.out, HE.out] <;> rfl, rfl⟩
              · have v1 : ¬ (97 : Int) ≤ (s[2].toNat : Int) := by omega
                have HU : Hid (upC s[2].toNat = s[2].toNat) := Lib.hid (if_neg fun h => u1 h.1)
                by_cases he : s[2].toNat = 66
                · have hc : ((s[2].toNat : Int) != (((⟨#[73, 78, 66, 79, 88]⟩ : ByteArray)[2]'(by decide)).toNat : Int)) = false := by show ((s[2].toNat : Int) != 66) = false; simp; omega
                  have HM2 : Hid (((nats s).take (2 + 1)).map upC = inboxL.take (2 + 1)) := Lib.hid (up_snoc HM.out HX.out (d := 66) rfl (by rw [HU.out]; omega))
                  clear he
                  go_wp2_with fail
                  go_round
                  case rel => exact ⟨2 + 1, by decide, by first | rfl | go_num, HM2.out⟩
                  case measure => simp [intOf]
                · have hc : ((s[2].toNat : Int) != (((⟨#[73, 78, 66, 79, 88]⟩ : ByteArray)[2]'(by decide)).toNat : Int)) = true := by show ((s[2].toNat : Int) != 66) = true; simp; omega
                  have HV : Hid (strOf (cleanV (nats s)) = s) := Lib.hid (cleanV_same HF.out (inbox_stop (by decide) HX.out (d := 66) rfl (by rw [HU.out]; omega)))
                  clear he
                  go_wp2_with fail
                  go_ret2
                  exact ⟨by rw [HV.out, HE.out] <;> rfl, rfl⟩
            · have hk : 3 < s.size := by omega
              have HX := Lib.hid (nats_byte s 3 hk)
              have hxb : s[3].toNat < 256 := s[3].toNat_lt
              by_cases u1 : 97 ≤ s[3].toNat
              · have v1 : (97 : Int) ≤ (s[3].toNat : Int) := by omega
                by_cases u2 : s[3].toNat ≤ 122
                · have v2 : (s[3].toNat : Int) ≤ 122 := by omega
                  have HU : Hid (upC s[3].toNat = s[3].toNat - 32) := Lib.hid (if_pos ⟨u1, u2⟩)
                  have hw : IntKind.u8.wrap ((s[3].toNat : Int) - 32) = (s[3].toNat : Int) - 32 := IntWalk.u8_in _ (by omega)
                  by_cases he : s[3].toNat = 79 + 32
                  · have hc : ((s[3].toNat : Int) - 32 != (((⟨#[73, 78, 66, 79, 88]⟩ : ByteArray)[3]'(by decide)).toNat : Int)) = false := by show ((s[3].toNat : Int) - 32 != 79) = false; simp; omega
                    have HM2 : Hid (((nats s).take (3 + 1)).map upC = inboxL.take (3 + 1)) := Lib.hid (up_snoc HM.out HX.out (d := 79) rfl (by rw [HU.out]; omega))
                    clear he
                    go_wp2_with fail
                    go_round
                    case rel => exact ⟨3 + 1, by decide, by first | rfl | go_num, HM2.out⟩
                    case measure => simp [intOf]
                  · have hc : ((s[3].toNat : Int) - 32 != (((⟨#[73, 78, 66, 79, 88]⟩ : ByteArray)[3]'(by decide)).toNat : Int)) = true := by show ((s[3].toNat : Int) - 32 != 79) = true; simp; omega
                    have HV : Hid (strOf (cleanV (nats s)) = s) := Lib.hid (cleanV_same HF.out (inbox_stop (by decide) HX.out (d := 79) rfl (by rw [HU.out]; omega)))
                    clear he
                    go_wp2_with fail
                    go_ret2
                    exact ⟨by rw [HV.out, HE.out] <;> rfl, rfl⟩
                · have v2 : ¬ (s[3].toNat : Int) ≤ 122 := by omega
                  have HU : Hid (upC s[3].toNat = s[3].toNat) := Lib.hid (if_neg fun h => u2 h.2)
                  have he : True := trivial
                  have hc : ((s[3].toNat : Int) != (((⟨#[73, 78, 66, 79, 88]⟩ : ByteArray)[3]'(by decide)).toNat : Int)) = true := by show ((s[3].toNat : Int) != 79) = true; simp; omega
                  have HV : Hid (strOf (cleanV (nats s)) = s) := Lib.hid (cleanV_same HF.out (inbox_stop (by decide) HX.out (d := 79) rfl (by rw [HU.out]; omega)))
                  clear he
                  go_wp2_with fail
                  go_ret2
                  exact ⟨by rw [HV.out, HE.out] <;> rfl, rfl⟩
              · have v1 : ¬ (97 : Int) ≤ (s[3].toNat : Int) := by omega
                have HU : Hid (upC s[3].toNat = s[3].toNat) := Lib.hid (if_neg fun h => u1 h.1)
                by_cases he : s[3].toNat = 79
                · have hc : ((s[3].toNat : Int) != (((⟨#[73, 78, 66, 79, 88]⟩ : ByteArray)[3]'(by decide)).toNat : Int)) = false := by show ((s[3].toNat : Int) != 79) = false; simp; omega
                  have HM2 : Hid (((nats s).take (3 + 1)).map upC = inboxL.take (3 + 1)) := Lib.hid (up_snoc HM.out HX.out (d := 79) rfl (by rw [HU.out]; omega))
                  clear he
                  go_wp2_with fail
                  go_round
                  case rel => exact ⟨3 + 1, by decide, by first | rfl | go_num, HM2.out⟩
                  case measure => simp [intOf]
                · have hc : ((s[3].toNat : Int) != (((⟨#[73, 78, 66, 79, 88]⟩ : ByteArray)[3]'(by decide)).toNat : Int)) = true := by show ((s[3].toNat : Int) != 79) = true; simp; omega
                  have HV : Hid (strOf (cleanV (nats s)) = s) := Lib.hid (cleanV_same HF.out (inbox_stop (by decide) HX.out (d := 79) rfl (by rw [HU.out]; omega)))
                  clear he
                  go_wp2_with fail
                  go_ret2
                  exact ⟨by rw [HV.out, HE.out] <;> rfl, rfl⟩
            · have hk : 4 < s.size := by omega
              have HX := Lib.hid (nats_byte s 4 hk)
              have hxb : s[4].toNat < 256 := s[4].toNat_lt
              by_cases u1 : 97 ≤ s[4].toNat
              · have v1 : (97 : Int) ≤ (s[4].toNat : Int) := by omega
                by_cases u2 : s[4].toNat ≤ 122
                · have v2 : (s[4].toNat : Int) ≤ 122 := by omega
                  have HU : Hid (upC s[4].toNat = s[4].toNat - 32) := Lib.hid (if_pos ⟨u1, u2⟩)
                  have hw : IntKind.u8.wrap ((s[4].toNat : Int) - 32) = (s[4].toNat : Int) - 32 := IntWalk.u8_in _ (by omega)
                  by_cases he : s[4].toNat = 88 + 32
                  · have hc : ((s[4].toNat : Int) - 32 != (((⟨#[73, 78, 66, 79, 88]⟩ : ByteArray)[4]'(by decide)).toNat : Int)) = false := by show ((s[4].toNat : Int) - 32 != 88) = false; simp; omega
                    have HM2 : Hid (((nats s).take (4 + 1)).map upC = inboxL.take (4 + 1)) := Lib.hid (up_snoc HM.out HX.out (d := 88) rfl (by rw [HU.out]; omega))
                    clear he
                    go_wp2_with fail
                    go_round
                    case rel => exact ⟨4 + 1, by decide, by first | rfl | go_num, HM2.out⟩
                    case measure => simp [intOf]
                  · have hc : ((s[4].toNat : Int) - 32 != (((⟨#[73, 78, 66, 79, 88]⟩ : ByteArray)[4]'(by decide)).toNat : Int)) = true := by show ((s[4].toNat : Int) - 32 != 88) = true; simp; omega
                    have HV : Hid (strOf (cleanV (nats s)) = s) := Lib.hid (cleanV_same HF.out (inbox_stop (by decide) HX.out (d := 88) rfl (by rw [HU.out]; omega)))
                    clear he
                    go_wp2_with fail
                    go_ret2
                    exact ⟨by rw [HV.out, HE.out] <;> rfl, rfl⟩
                · have v2 : ¬ (s[4].toNat : Int) ≤ 122 := by omega
                  have HU : Hid (upC s[4].toNat = s[4].toNat) := Lib.hid (if_neg fun h => u2 h.2)
                  have he : True := trivial
                  have hc : ((s[4].toNat : Int) != (((⟨#[73, 78, 66, 79, 88]⟩ : ByteArray)[4]'(by decide)).toNat : Int)) = true := by show ((s[4].toNat : Int) != 88) = true; simp; omega
                  have HV : Hid (strOf (cleanV (nats s)) = s) := Lib.hid (cleanV_same HF.out (inbox_stop (by decide) HX.out (d := 88) rfl (by rw [HU.out]; omega)))
                  clear he
                  go_wp2_with fail
                  go_ret2
                  exact ⟨by rw [HV.out, HE.out] <;> rfl, rfl⟩
              · have v1 : ¬ (97 : Int) ≤ (s[4].toNat : Int) := by omega
                have HU : Hid (upC s[4].toNat = s[4].toNat) := Lib.hid (if_neg fun h => u1 h.1)
                by_cases he : s[4].toNat = 88
                · have hc : ((s[4].toNat : Int) != (((⟨#[73, 78, 66, 79, 88]⟩ : ByteArray)[4]'(by decide)).toNat : Int)) = false := by show ((s[4].toNat : Int) != 88) = false; simp; omega
                  have HM2 : Hid (((nats s).take (4 + 1)).map upC = inboxL.take (4 + 1)) := Lib.hid (up_snoc HM.out HX.out (d := 88) rfl (by rw [HU.out]; omega))
                  clear he
                  go_wp2_with fail
                  go_round
                  case rel => exact ⟨4 + 1, by decide, by first | rfl | go_num, HM2.out⟩
                  case measure => simp [intOf]
                · have hc : ((s[4].toNat : Int) != (((⟨#[73, 78, 66, 79, 88]⟩ : ByteArray)[4]'(by decide)).toNat : Int)) = true := by show ((s[4].toNat : Int) != 88) = true; simp; omega
                  have HV : Hid (strOf (cleanV (nats s)) = s) := Lib.hid (cleanV_same HF.out (inbox_stop (by decide) HX.out (d := 88) rfl (by rw [HU.out]; omega)))
                  clear he
                  go_wp2_with fail
                  go_ret2
                  exact ⟨by rw [HV.out, HE.out] <;> rfl, rfl⟩
            · have hi : inboxB (nats s) = true := decide_eq_true ⟨HM.out, by
                rcases HOR.out with h | ⟨_, h, h2⟩
                · exact .inl (by rw [HN.out]; exact h)
                · exact .inr (by rw [nats_byte s 5 h, h2])⟩
              have HV : Hid (strOf (cleanV (nats s)) = strOf (inboxL ++ (nats s).drop 5)) := Lib.hid (by
                unfold cleanV cleanN
                rw [if_pos HF.out, if_pos hi])
              have h55 : (5 : Int) ≤ (s.size : Int) := by omega
              clear hi
              go_wp2_with fail
              go_ret2
              exact ⟨by rw [HV.out, HE.out] <;> rfl, rfl⟩
      by_cases he5 : s.size = 5
      · exact HGO.out (.inl he5)
      · have hgt : 5 < s.size := by omega
        by_cases h47 : s[5].toNat = 47
        · exact HGO.out (.inr ⟨hgt, hgt, h47⟩)
        · have HV : Hid (strOf (cleanV (nats s)) = s) := Lib.hid (cleanV_same HF.out (inbox_more (by rw [HN.out]; exact hgt) (nats_byte s 5 hgt) h47))
          have g1 : (5 : Int) < (s.size : Int) := by omega
          have g2 : ((s[5].toNat : Int) != 47) = true := by simp; omega
          clear h47 he5 h5 HGO
          go_enter Tryz.func82, Tryz.ntmps82
          go_wp2_with fail
          refine (CF.out _).mono ?_
          rintro e w' ⟨rfl, rfl⟩
          go_wp2_with fail
          go_ret2
          exact ⟨by rw [HV.out, HE.out] <;> rfl, rfl⟩

theorem right_eq {s : ByteArray} (hf : formB (nats s) = true) : rightN (nats s) = decide (strOf (cleanV (nats s)) = s) := by
  unfold rightN cleanV
  rw [if_pos hf, Bool.eq_iff_iff, decide_eq_true_iff, decide_eq_true_iff]
  constructor
  · rintro ⟨_, h⟩; rw [h, strOf_nats]
  · intro h
    have hlt : ∀ x ∈ cleanN (nats s), x < 256 := fun x hx => by
      have := plain_lt (form_mem (by rw [form_clean]; exact hf) x hx)
      omega
    exact ⟨hf, by rw [← nats_strOf _ hlt, h]⟩

set_option maxRecDepth 20000 in
set_option maxHeartbeats 4000000 in
theorem xaRight_any (s : ByteArray) (hs : s.size ≤ 140737488355328) (w : World) : Calls Tryz.prog 59 #[.string s] w fun e w' => e = .returned (.bool (rightN (nats s))) ∧ w = w' := by
  have CC : Hid (∀ W, Calls Tryz.prog 82 #[.string s] W fun e w' => e = .returned (.tuple #[.string (strOf (cleanV (nats s))), .int .i64 (cleanE (nats s))]) ∧ W = w') := Lib.hid fun W => xaClean_any s hs W
  cases hf : formB (nats s)
  · have HR : Hid (rightN (nats s) = false) := Lib.hid (right_form hf)
    have he : cleanE (nats s) = 3 := by unfold cleanE; rw [hf, if_neg Bool.false_ne_true]
    rw [he] at CC
    clear hf he
    go_enter Tryz.func59, Tryz.ntmps59
    go_wp2_with fail
    refine (CC.out _).mono ?_
    rintro e w' ⟨rfl, rfl⟩
    go_wp2_with fail
    go_ret
    exact ⟨by rw [HR.out] <;> rfl, rfl⟩
  · have he : cleanE (nats s) = 0 := by unfold cleanE; rw [hf, if_pos rfl]
    rw [he] at CC
    by_cases hq : strOf (cleanV (nats s)) = s
    · have HR : Hid (rightN (nats s) = true) := Lib.hid ((right_eq hf).trans (decide_eq_true hq))
      rw [hq] at CC
      have hss : (s.toList == s.toList) = true := by simp
      clear hf he hq
      go_enter Tryz.func59, Tryz.ntmps59
      go_wp2_with fail
      refine (CC.out _).mono ?_
      rintro e w' ⟨rfl, rfl⟩
      go_wp2_with fail
      go_ret
      exact ⟨by rw [HR.out] <;> rfl, rfl⟩
    · have HR : Hid (rightN (nats s) = false) := Lib.hid ((right_eq hf).trans (decide_eq_false hq))
      have hss : ((strOf (cleanV (nats s))).toList == s.toList) = false := by
        rw [beq_eq_false_iff_ne]
        intro e
        rw [ByteArray.toList_eq, ByteArray.toList_eq] at e
        exact hq (data_inj e)
      obtain ⟨t, ht⟩ : ∃ t, strOf (cleanV (nats s)) = t := ⟨_, rfl⟩
      rw [ht] at CC hss
      clear hf he hq ht
      go_enter Tryz.func59, Tryz.ntmps59
      go_wp2_with fail
      refine (CC.out _).mono ?_
      rintro e w' ⟨rfl, rfl⟩
      go_wp2_with fail
      go_ret
      exact ⟨by rw [HR.out] <;> rfl, rfl⟩
end Go.Proofs.YtoiffchhfnbooaaGreatDoor
