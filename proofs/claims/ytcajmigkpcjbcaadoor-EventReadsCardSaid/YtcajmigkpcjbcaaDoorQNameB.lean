/-
  Contracts over package name: cleaning, what is right, joining, what a name goes on.
-/
import Derived.Test.YtcajmigkpcjbcaaDoorQNameA
import Derived.Test.YtcajmigkpcjbcaaDoorQNameRefC
import Derived.Laws.OwnMore
namespace Go.Proofs.YtcajmigkpcjbcaaDoor
set_option linter.unusedVariables false
set_option linter.unusedSimpArgs false
open Go.RowKit
set_option linter.unusedVariables false
set_option linter.unusedSimpArgs false

theorem cut_inbox {s p : ByteArray} (h : CutIs s p) : inboxB (nats s) = sameB (nats p) inboxL := by
  rcases h with ⟨rfl, h⟩ | ⟨q, h1, h2⟩
  · exact inbox_none h
  · exact inbox_hit h1 h2
theorem cut_size {s p : ByteArray} (h : CutIs s p) : p.size ≤ s.size := by
  rcases h with ⟨rfl, h⟩ | ⟨q, h1, h2⟩
  · exact Nat.le_refl _
  · have := congrArg List.length h1
    rw [List.length_append, List.length_cons, nats_length, nats_length, nats_length] at this
    omega
theorem inboxB_len {l : List Nat} (h : inboxB l = true) : 5 ≤ l.length := by
  have := congrArg List.length (of_decide_eq_true h).1
  rw [List.length_map, List.length_take] at this
  have h5 : inboxL.length = 5 := rfl
  omega
set_option maxRecDepth 20000 in
set_option maxHeartbeats 4000000 in
theorem nmClean_any (s : ByteArray) (hs : s.size ≤ 140737488355328) (w : World) : Calls Tryd.prog 65 #[.string s] w fun e w' => e = .returned (.tuple #[.string (strOf (cleanV (nats s))), .int .i64 (cleanE (nats s))]) ∧ Below w.heap.size w w' := by
  have HN := Lib.hid (nats_length s)
  have CF : Hid (∀ W, Calls Tryd.prog 73 #[.string s] W fun e w' => e = .returned (.bool (formB (nats s))) ∧ Below W.heap.size W w') := Lib.hid fun W => nmisName_any s hs W
  cases hf : formB (nats s)
  · have HV : Hid (strOf (cleanV (nats s)) = ⟨#[]⟩) := Lib.hid (by unfold cleanV; rw [hf, if_neg Bool.false_ne_true]; rfl)
    have HE : Hid (cleanE (nats s) = 3) := Lib.hid (by unfold cleanE; rw [hf, if_neg Bool.false_ne_true])
    rw [hf] at CF
    clear hf
    go_enter Tryd.func65, Tryd.ntmps65
    go_wp2_with fail
    refine (CF.out _).mono ?_
    rintro e w1 ⟨rfl, hb⟩
    have HB := Lib.hid hb
    clear hb
    go_wp2_with fail
    go_ret2
    exact ⟨by rw [HV.out, HE.out] <;> rfl, HB.out⟩
  · have HE : Hid (cleanE (nats s) = 0) := Lib.hid (by unfold cleanE; rw [hf, if_pos rfl])
    have HF := Lib.hid hf
    rw [hf] at CF
    clear hf
    have CC : Hid (∀ W, Calls Tryd.prog 74 #[.string s, .string ⟨#[47]⟩] W fun e w' => ∃ p q b, e = .returned (.tuple #[.string p, .string q, .bool b]) ∧ CutIs s p ∧ ∃ n, w' = W.drewN n) := Lib.hid fun W => sCut_any s hs W
    go_enter Tryd.func65, Tryd.ntmps65
    go_wp2_with fail
    refine (CF.out _).mono ?_
    rintro e w1 ⟨rfl, hb⟩
    have HB := Lib.hid hb
    clear hb CF
    go_wp2_with fail
    refine (CC.out _).mono ?_
    rintro e w2 ⟨p, q, b, rfl, hcut, n2, hw2⟩
    have HB2 : Hid (Below w.heap.size w w2) := Lib.hid (by rw [hw2]; exact below_drewN HB.out n2)
    have HI := Lib.hid (cut_inbox hcut)
    have hps : p.size ≤ 140737488355328 := Nat.le_trans (cut_size hcut) hs
    have CS : Hid (∀ W, Calls Tryd.prog 75 #[.string p, .string ⟨#[73, 78, 66, 79, 88]⟩] W fun e w' => e = .returned (.bool (sameB (nats p) inboxL)) ∧ ∃ n, w' = W.drewN n) := Lib.hid fun W => same_letters p ⟨#[73, 78, 66, 79, 88]⟩ hps (by decide) W
    rw [← HI.out] at CS
    clear hcut hw2 CC
    cases hi : inboxB (nats s)
    · have HV : Hid (strOf (cleanV (nats s)) = s) := Lib.hid (cleanV_same HF.out hi)
      rw [hi] at CS
      clear hi
      go_wp2_with fail
      refine (CS.out _).mono ?_
      rintro e w3 ⟨rfl, n3, hw3⟩
      have HB3 : Hid (Below w.heap.size w w3) := Lib.hid (by rw [hw3]; exact below_drewN HB2.out n3)
      clear hw3
      go_wp2_with fail
      go_ret2
      exact ⟨by rw [HV.out, HE.out] <;> rfl, HB3.out⟩
    · have h5 : 5 ≤ s.size := by have := inboxB_len hi; rwa [HN.out] at this
      have h40 : s.size ≤ 40 := by have := (of_decide_eq_true HF.out).2.1; rw [HN.out] at this; exact this
      have HV : Hid (cleanV (nats s) = inboxL ++ (nats s).drop 5) := Lib.hid (by unfold cleanV cleanN; rw [if_pos HF.out, if_pos hi])
      have ka : ∀ W, (Op.stringOp .add ⟨#[73, 78, 66, 79, 88]⟩ (s.extract 5 s.size)).run Tryd.prog W = .ok (.string (strOf (inboxL ++ (nats s).drop 5))) W := fun W => add_str _ _ inboxL ((nats s).drop 5) inboxS (by
          refine nats_inj ?_
          rw [nats_strOf _ (fun x hx => nats_lt s x (List.mem_of_mem_drop hx)), nats_extract]
          exact List.take_of_length_le (by rw [List.length_drop, HN.out]; omega)) (by rw [List.length_drop, HN.out]; show 5 + _ ≤ _; omega) W
      have h5' : (5 : Int) ≤ (s.size : Int) := by omega
      rw [hi] at CS
      clear hi
      go_wp2_with fail
      refine (CS.out _).mono ?_
      rintro e w3 ⟨rfl, n3, hw3⟩
      have HB3 : Hid (Below w.heap.size w w3) := Lib.hid (by rw [hw3]; exact below_drewN HB2.out n3)
      clear hw3
      go_wp2_with fail
      go_ret2
      exact ⟨by rw [HV.out, HE.out] <;> rfl, HB3.out⟩

set_option maxRecDepth 20000 in
set_option maxHeartbeats 2000000 in
theorem nmRight_any (s : ByteArray) (hs : s.size ≤ 140737488355328) (w : World) : Calls Tryd.prog 50 #[.string s] w fun e w' => e = .returned (.bool (rightN (nats s))) ∧ Below w.heap.size w w' := by
  have CC : Hid (∀ W, Calls Tryd.prog 65 #[.string s] W fun e w' => e = .returned (.tuple #[.string (strOf (cleanV (nats s))), .int .i64 (cleanE (nats s))]) ∧ Below W.heap.size W w') := Lib.hid fun W => nmClean_any s hs W
  cases hf : formB (nats s)
  · have HR : Hid (rightN (nats s) = false) := Lib.hid (right_form hf)
    have he : cleanE (nats s) = 3 := by unfold cleanE; rw [hf, if_neg Bool.false_ne_true]
    rw [he] at CC
    clear hf he
    go_enter Tryd.func50, Tryd.ntmps50
    go_wp2_with fail
    refine (CC.out _).mono ?_
    rintro e w1 ⟨rfl, hb⟩
    have HB := Lib.hid hb
    clear hb
    go_wp2_with fail
    go_ret
    exact ⟨by rw [HR.out] <;> rfl, HB.out⟩
  · have he : cleanE (nats s) = 0 := by unfold cleanE; rw [hf, if_pos rfl]
    rw [he] at CC
    by_cases hq : strOf (cleanV (nats s)) = s
    · have HR : Hid (rightN (nats s) = true) := Lib.hid ((right_eq hf).trans (decide_eq_true hq))
      rw [hq] at CC
      have hss : (s.toList == s.toList) = true := by simp
      clear hf he hq
      go_enter Tryd.func50, Tryd.ntmps50
      go_wp2_with fail
      refine (CC.out _).mono ?_
      rintro e w1 ⟨rfl, hb⟩
      have HB := Lib.hid hb
      clear hb
      go_wp2_with fail
      go_ret
      exact ⟨by rw [HR.out] <;> rfl, HB.out⟩
    · have HR : Hid (rightN (nats s) = false) := Lib.hid ((right_eq hf).trans (decide_eq_false hq))
      have hss : ((strOf (cleanV (nats s))).toList == s.toList) = false := by
        rw [beq_eq_false_iff_ne]
        intro e
        rw [ByteArray.toList_eq, ByteArray.toList_eq] at e
        exact hq (data_inj e)
      obtain ⟨t, ht⟩ : ∃ t, strOf (cleanV (nats s)) = t := ⟨_, rfl⟩
      rw [ht] at CC hss
      clear hf he hq ht
      go_enter Tryd.func50, Tryd.ntmps50
      go_wp2_with fail
      refine (CC.out _).mono ?_
      rintro e w1 ⟨rfl, hb⟩
      have HB := Lib.hid hb
      clear hb
      go_wp2_with fail
      go_ret
      exact ⟨by rw [HR.out] <;> rfl, HB.out⟩

end Go.Proofs.YtcajmigkpcjbcaaDoor
