/-
  Contracts over package name: cleaning, what is right, joining, what a name goes on.
-/
import Derived.Test.YtbegklhbhafmeaaDoorQNameA
import Derived.Test.YtbegklhbhafmeaaDoorQNameMore
import Derived.Laws.OwnMore
namespace Go.Proofs.YtbegklhbhafmeaaDoor
set_option linter.unusedVariables false
set_option linter.unusedSimpArgs false
open Go.RowKit
set_option linter.unusedVariables false
set_option linter.unusedSimpArgs false

theorem cut_inbox {s p : ByteArray} (h : CutIs s p) : inboxB (nats s) = sameB (nats p) inboxL := by
  rcases h with ⟨rfl, h⟩ | ⟨q, h1, h2⟩
  · exact inbox_none h
  · exact inbox_hit h1 h2
theorem cut_size {s p : ByteArray} (h : CutIs s p) : p.size ≤ s.size := by
  rcases h with ⟨rfl, h⟩ | ⟨q, h1, h2⟩
  · exact Nat.le_refl _
  · have := congrArg List.length h1
    rw [List.length_append, List.length_cons, nats_length, nats_length, nats_length] at this
    omega
theorem inboxB_len {l : List Nat} (h : inboxB l = true) : 5 ≤ l.length := by
  have := congrArg List.length (of_decide_eq_true h).1
  rw [List.length_map, List.length_take] at this
  have h5 : inboxL.length = 5 := rfl
  omega
set_option maxRecDepth 20000 in
set_option maxHeartbeats 4000000 in
theorem nmClean_any (s : ByteArray) (hs : s.size ≤ 140737488355328) (w : World) : Calls Tryd.prog 8 #[.string s] w fun e w' => e = .returned (.tuple #[.string (strOf (cleanV (nats s))), .int .i64 (cleanE (nats s))]) ∧ Below w.heap.size w w' := by
  have HN := Lib.hid (nats_length s)
  have CF : Hid (∀ W, Calls Tryd.prog 21 #[.string s] W fun e w' => e = .returned (.bool (formB (nats s))) ∧ Below W.heap.size W w') := Lib.hid fun W => nmisName_any s hs W
  cases hf : formB (nats s)
  · have HV : Hid (strOf (cleanV (nats s)) = ⟨#[]⟩) := Lib.hid (by unfold cleanV; rw [hf, if_neg Bool.false_ne_true]; rfl)
    have HE : Hid (cleanE (nats s) = 3) := Lib.hid (by unfold cleanE; rw [hf, if_neg Bool.false_ne_true])
    rw [hf] at CF
    clear hf
    go_enter Tryd.func8, Tryd.ntmps8
    go_wp2_with fail
    refine (CF.out _).mono ?_
    rintro e w1 ⟨rfl, hb⟩
    have HB := Lib.hid hb
    clear hb
    go_wp2_with fail
    go_ret2
    exact ⟨by rw [HV.out, HE.out] <;> rfl, HB.out⟩
  · have HE : Hid (cleanE (nats s) = 0) := Lib.hid (by unfold cleanE; rw [hf, if_pos rfl])
    have HF := Lib.hid hf
    rw [hf] at CF
    clear hf
    have CC : Hid (∀ W, Calls Tryd.prog 22 #[.string s, .string ⟨#[47]⟩] W fun e w' => ∃ p q b, e = .returned (.tuple #[.string p, .string q, .bool b]) ∧ CutIs s p ∧ ∃ n, w' = W.drewN n) := Lib.hid fun W => sCut_any s hs W
    go_enter Tryd.func8, Tryd.ntmps8
    go_wp2_with fail
    refine (CF.out _).mono ?_
    rintro e w1 ⟨rfl, hb⟩
    have HB := Lib.hid hb
    clear hb CF
    go_wp2_with fail
    refine (CC.out _).mono ?_
    rintro e w2 ⟨p, q, b, rfl, hcut, n2, hw2⟩
    have HB2 : Hid (Below w.heap.size w w2) := Lib.hid (by rw [hw2]; exact below_drewN HB.out n2)
    have HI := Lib.hid (cut_inbox hcut)
    have hps : p.size ≤ 140737488355328 := Nat.le_trans (cut_size hcut) hs
    have CS : Hid (∀ W, Calls Tryd.prog 23 #[.string p, .string ⟨#[73, 78, 66, 79, 88]⟩] W fun e w' => e = .returned (.bool (sameB (nats p) inboxL)) ∧ ∃ n, w' = W.drewN n) := Lib.hid fun W => same_letters p ⟨#[73, 78, 66, 79, 88]⟩ hps (by decide) W
    rw [← HI.out] at CS
    clear hcut hw2 CC
    cases hi : inboxB (nats s)
    · have HV : Hid (strOf (cleanV (nats s)) = s) := Lib.hid (cleanV_same HF.out hi)
      rw [hi] at CS
      clear hi
      go_wp2_with fail
      refine (CS.out _).mono ?_
      rintro e w3 ⟨rfl, n3, hw3⟩
      have HB3 : Hid (Below w.heap.size w w3) := Lib.hid (by rw [hw3]; exact below_drewN HB2.out n3)
      clear hw3
      go_wp2_with fail
      go_ret2
      exact ⟨by rw [HV.out, HE.out] <;> rfl, HB3.out⟩
    · have h5 : 5 ≤ s.size := by have := inboxB_len hi; rwa [HN.out] at this
      have h40 : s.size ≤ 40 := by have := (of_decide_eq_true HF.out).2.1; rw [HN.out] at this; exact this
      have HV : Hid (cleanV (nats s) = inboxL ++ (nats s).drop 5) := Lib.hid (by unfold cleanV cleanN; rw [if_pos HF.out, if_pos hi])
      have ka : ∀ W, (Op.stringOp .add ⟨#[73, 78, 66, 79, 88]⟩ (s.extract 5 s.size)).run Tryd.prog W = .ok (.string (strOf (inboxL ++ (nats s).drop 5))) W := fun W => add_str _ _ inboxL ((nats s).drop 5) inboxS (by
          refine nats_inj ?_
          rw [nats_strOf _ (fun x hx => nats_lt s x (List.mem_of_mem_drop hx)), nats_extract]
          exact List.take_of_length_le (by rw [List.length_drop, HN.out]; omega)) (by rw [List.length_drop, HN.out]; show 5 + _ ≤ _; omega) W
      have h5' : (5 : Int) ≤ (s.size : Int) := by omega
      rw [hi] at CS
      clear hi
      go_wp2_with fail
      refine (CS.out _).mono ?_
      rintro e w3 ⟨rfl, n3, hw3⟩
      have HB3 : Hid (Below w.heap.size w w3) := Lib.hid (by rw [hw3]; exact below_drewN HB2.out n3)
      clear hw3
      go_wp2_with fail
      go_ret2
      exact ⟨by rw [HV.out, HE.out] <;> rfl, HB3.out⟩

set_option maxRecDepth 20000 in
set_option maxHeartbeats 2000000 in
theorem nmRight_any (s : ByteArray) (hs : s.size ≤ 140737488355328) (w : World) : Calls Tryd.prog 10 #[.string s] w fun e w' => e = .returned (.bool (rightN (nats s))) ∧ Below w.heap.size w w' := by
  have CC : Hid (∀ W, Calls Tryd.prog 8 #[.string s] W fun e w' => e = .returned (.tuple #[.string (strOf (cleanV (nats s))), .int .i64 (cleanE (nats s))]) ∧ Below W.heap.size W w') := Lib.hid fun W => nmClean_any s hs W
  cases hf : formB (nats s)
  · have HR : Hid (rightN (nats s) = false) := Lib.hid (right_form hf)
    have he : cleanE (nats s) = 3 := by unfold cleanE; rw [hf, if_neg Bool.false_ne_true]
    rw [he] at CC
    clear hf he
    go_enter Tryd.func10, Tryd.ntmps10
    go_wp2_with fail
    refine (CC.out _).mono ?_
    rintro e w1 ⟨rfl, hb⟩
    have HB := Lib.hid hb
    clear hb
    go_wp2_with fail
    go_ret
    exact ⟨by rw [HR.out] <;> rfl, HB.out⟩
  · have he : cleanE (nats s) = 0 := by unfold cleanE; rw [hf, if_pos rfl]
    rw [he] at CC
    by_cases hq : strOf (cleanV (nats s)) = s
    · have HR : Hid (rightN (nats s) = true) := Lib.hid ((right_eq hf).trans (decide_eq_true hq))
      rw [hq] at CC
      have hss : (s.toList == s.toList) = true := by simp
      clear hf he hq
      go_enter Tryd.func10, Tryd.ntmps10
      go_wp2_with fail
      refine (CC.out _).mono ?_
      rintro e w1 ⟨rfl, hb⟩
      have HB := Lib.hid hb
      clear hb
      go_wp2_with fail
      go_ret
      exact ⟨by rw [HR.out] <;> rfl, HB.out⟩
    · have HR : Hid (rightN (nats s) = false) := Lib.hid ((right_eq hf).trans (decide_eq_false hq))
      have hss : ((strOf (cleanV (nats s))).toList == s.toList) = false := by
        rw [beq_eq_false_iff_ne]
        intro e
        rw [ByteArray.toList_eq, ByteArray.toList_eq] at e
        exact hq (data_inj e)
      obtain ⟨t, ht⟩ : ∃ t, strOf (cleanV (nats s)) = t := ⟨_, rfl⟩
      rw [ht] at CC hss
      clear hf he hq ht
      go_enter Tryd.func10, Tryd.ntmps10
      go_wp2_with fail
      refine (CC.out _).mono ?_
      rintro e w1 ⟨rfl, hb⟩
      have HB := Lib.hid hb
      clear hb
      go_wp2_with fail
      go_ret
      exact ⟨by rw [HR.out] <;> rfl, HB.out⟩

set_option maxRecDepth 20000 in
set_option maxHeartbeats 2000000 in
theorem nmJoin_any (b p : ByteArray) (hb : b.size ≤ 400000000000) (hp : p.size ≤ 400000000000) (w : World) : Calls Tryd.prog 17 #[.string b, .string p] w fun e w' => e = .returned (.tuple #[.string (strOf (joinV (nats b) (nats p))), .int .i64 (joinE (nats b) (nats p))]) ∧ w = w' := by
  have ka : ∀ W, (Op.stringOp .add b p).run Tryd.prog W = .ok (.string (strOf (nats b ++ nats p))) W := fun W => add_str b p (nats b) (nats p) (strOf_nats b).symm (strOf_nats p).symm (by rw [nats_length, nats_length]; omega) W
  have hlt : ∀ x ∈ nats b ++ nats p, x < 256 := fun x hx => by rcases List.mem_append.1 hx with h | h; exact nats_lt b x h; exact nats_lt p x h
  have CP : Hid (∀ W, Calls Tryd.prog 26 #[.string (strOf (nats b ++ nats p))] W fun e w' => e = .returned (.bool (patB (nats b ++ nats p))) ∧ W = w') := Lib.hid fun W => by
    have := nmisPattern_any (strOf (nats b ++ nats p)) (by rw [strOf_size, List.length_append, nats_length, nats_length]; omega) W
    rwa [nats_strOf _ hlt] at this
  cases hf : patB (nats b ++ nats p)
  · have HV : Hid (strOf (joinV (nats b) (nats p)) = ⟨#[]⟩) := Lib.hid (by unfold joinV; rw [hf, if_neg Bool.false_ne_true]; rfl)
    have HE : Hid (joinE (nats b) (nats p) = 3) := Lib.hid (by unfold joinE; rw [hf, if_neg Bool.false_ne_true])
    rw [hf] at CP
    clear hf hlt
    go_enter Tryd.func17, Tryd.ntmps17
    go_wp2_with fail
    refine (CP.out _).mono ?_
    rintro e w' ⟨rfl, rfl⟩
    go_wp2_with fail
    go_ret2
    exact ⟨by rw [HV.out, HE.out] <;> rfl, rfl⟩
  · have HV : Hid (joinV (nats b) (nats p) = nats b ++ nats p) := Lib.hid (by unfold joinV; rw [hf, if_pos rfl])
    have HE : Hid (joinE (nats b) (nats p) = 0) := Lib.hid (by unfold joinE; rw [hf, if_pos rfl])
    rw [hf] at CP
    clear hf hlt
    go_enter Tryd.func17, Tryd.ntmps17
    go_wp2_with fail
    refine (CP.out _).mono ?_
    rintro e w' ⟨rfl, rfl⟩
    go_wp2_with fail
    go_ret2
    exact ⟨by rw [HV.out, HE.out] <;> rfl, rfl⟩

set_option maxRecDepth 20000 in
set_option maxHeartbeats 4000000 in
theorem nmAbove_any (s : ByteArray) (hs : s.size ≤ 140737488355328) (w : World) : Calls Tryd.prog 13 #[.string s] w (GiveS w (aboveN (nats s))) := by
  have HN := Lib.hid (nats_length s)
  have CR : Hid (∀ W, Calls Tryd.prog 10 #[.string s] W fun e w' => e = .returned (.bool (rightN (nats s))) ∧ Below W.heap.size W w') := Lib.hid fun W => nmRight_any s hs W
  cases hr : rightN (nats s)
  · have HV : Hid (aboveN (nats s) = []) := Lib.hid (by unfold aboveN; rw [hr, if_neg Bool.false_ne_true])
    rw [hr] at CR
    clear hr
    go_enter Tryd.func13, Tryd.ntmps13
    go_wp2_with fail
    refine (CR.out _).mono ?_
    rintro e w1 ⟨rfl, hb⟩
    have HB1 := Lib.hid hb
    clear hb
    go_wp2_with fail
    go_ret
    exact ⟨none, 0, 0, rfl, by rw [HV.out]; exact OwnV.nil, HB1.out⟩
  · have h40 : s.size ≤ 40 := by have := (of_decide_eq_true (of_decide_eq_true hr).1).2.1; rw [HN.out] at this; exact this
    have HV : Hid (aboveN (nats s) = abvP (nats s) s.size) := Lib.hid (by unfold aboveN aboveR abvP; rw [hr, if_pos rfl, HN.out])
    rw [hr] at CR
    clear hr
    go_enter Tryd.func13, Tryd.ntmps13
    go_wp2_with fail
    refine (CR.out _).mono ?_
    rintro e w1 ⟨rfl, hb⟩
    have HB1 := Lib.hid hb
    have HSZ := Lib.hid hb.size
    clear hb
    go_wp2_with fail
    go_loopw [3, 11] (fun o i wx => ∃ (k : Nat) (A : Option Addr) (n cp : Nat), k ≤ s.size ∧ i = .int .i64 (k : Int) ∧ o = .slice A n cp ∧ n ≤ k ∧ OwnS wx w.heap.size A n cp (abvP (nats s) k) ∧ Below w.heap.size w wx) (fun _ i _ => s.size - (intOf i).toNat)
    case atStart => exact ⟨0, some ⟨w1.heap.size, 0, none⟩, 0, 0, Nat.zero_le _, rfl, rfl, Nat.le_refl _, World.ownsRow_lit w1 #[] 0 HSZ.out (by decide) rfl, HB1.out.alloc HSZ.out _⟩
    case round =>
      obtain ⟨k, A, n, cp, hk, rfl, rfl, hnk, hown, hb⟩ := hrel
      have HOWN := Lib.hid hown
      have HB := Lib.hid hb
      clear hown hb
      by_cases hlt : k < s.size
      · have HX := Lib.hid (nats_byte s k hlt)
        have HT := Lib.hid (abv_snoc (nats s) k)
        have a0 : (0 : Int) ≤ (k : Int) := by omega
        have a1 : (k : Int) < (s.size : Int) := by omega
        have a2 : (k : Int) ≤ (s.size : Int) := by omega
        have hxb : s[k].toNat < 256 := s[k].toNat_lt
        by_cases h47 : s[k].toNat = 47
        · have c1 : ((s[k].toNat : Int) == 47) = true := by rw [h47]; rfl
          have HT2 : Hid (abvP (nats s) (k + 1) = abvP (nats s) k ++ [(nats s).take k]) := Lib.hid (by rw [HT.out, if_pos (by rw [HX.out, h47])])
          have HSE : Hid (s.extract 0 k = strOf ((nats s).take k)) := Lib.hid (extract_strOf s k)
          clear h47
          go_wp2_with ((with_reducible show wpList _ _ _ (⟨some 23, _, _, _, _, _⟩ :: _) _ _); refine hold ?_)
          refine held (wpList_append_one rfl (.tmp 18) (.tmp 22) 28 rfl Tryd.underlying28 info_str rfl (by omega) w.heap.size A n cp _ rfl (OwnV.alloc HOWN.out _) wr.heap.size 0 (.string (s.extract 0 k)) rfl
            (by rw [cell_of_row _ wr.heap.size 0 _ _ (0, 0) (heap_alloc_new wr _)]; rfl) rfl (by omega) (by have := HB.out.size; simp; omega) ?_)
          intro A2 cp2 wx hown2 hb2
          have hown3 : OwnS wx w.heap.size A2 (n + 1) cp2 (abvP (nats s) (k + 1)) := by
            rw [HT2.out]
            unfold OwnS
            rw [List.map_append, List.map_singleton]
            rw [HSE.out] at hown2
            exact hown2
          have HO3 := Lib.hid hown3
          have HB3 := Lib.hid ((HB.out.alloc HB.out.size _).trans hb2)
          clear hown2 hb2 hown3
          go_wp2_with fail
          go_roundw
          case rel => exact ⟨k + 1, A2, n + 1, cp2, by omega, by go_num, rfl, by omega, HO3.out, HB3.out⟩
          case measure => simp [intOf]; omega
        · have c1 : ((s[k].toNat : Int) == 47) = false := by simp; omega
          have HT2 : Hid (abvP (nats s) (k + 1) = abvP (nats s) k) := Lib.hid (by rw [HT.out, if_neg (by rw [HX.out]; exact fun e => h47 (Option.some.inj e)), List.append_nil])
          clear h47
          go_wp2_with fail
          go_roundw
          case rel => exact ⟨k + 1, A, n, cp, by omega, by go_num, rfl, by omega, by rw [HT2.out]; exact HOWN.out, HB.out⟩
          case measure => simp [intOf]; omega
      · have a1 : ¬ (k : Int) < (s.size : Int) := by omega
        have HK : Hid (abvP (nats s) k = aboveN (nats s)) := Lib.hid (by rw [HV.out, show k = s.size by omega])
        go_wp2_with fail
        go_ret
        exact ⟨A, n, cp, rfl, by rw [← HK.out]; exact HOWN.out, HB.out⟩

set_option maxRecDepth 20000 in
set_option maxHeartbeats 2000000 in
theorem nmBelow_any (s t : ByteArray) (hs : s.size ≤ 140737488355328) (w : World) : Calls Tryd.prog 15 #[.string s, .string t] w fun e w' => e = .returned (.bool (belowN (nats s) (nats t))) ∧ Below w.heap.size w w' := by
  have HLT : Hid (∀ p ∈ aboveN (nats s), ∀ x ∈ p, x < 256) := Lib.hid fun p hp => above_lt (nats_lt s) hp
  go_enter Tryd.func15, Tryd.ntmps15
  go_wp2_with fail
  refine (nmAbove_any s hs w).mono ?_
  rintro e w1 ⟨A, n, c, rfl, hown, hb1⟩
  have HB := Lib.hid hb1
  have hn : n ≤ 140737488355328 := by rw [← hown.len]; exact Nat.le_trans (above_len (nats s)) (by rw [nats_length]; exact hs)
  have hat : ∃ g, 0 < n → A = some ⟨g, 0, none⟩ ∧ Strs w1 g 0 (aboveN (nats s)) := by
    by_cases h0 : 0 < n
    · obtain ⟨g, h1, _, _, h2, _⟩ := hown.at_ h0
      exact ⟨g, fun _ => ⟨h1, h2⟩⟩
    · exact ⟨0, fun h => absurd h h0⟩
  obtain ⟨g, hg⟩ := hat
  have CC := Lib.hid (containsS_any g 0 n c (aboveN (nats s)) t w1 hown.len (fun h => (hg h).2) HLT.out hn A (fun h => (hg h).1))
  rw [show decide (nats t ∈ aboveN (nats s)) = belowN (nats s) (nats t) from rfl] at CC
  clear hown hb1 hg
  go_wp2_with fail
  refine CC.out.mono ?_
  rintro e w2 ⟨rfl, rfl⟩
  go_wp2_with fail
  go_ret
  exact ⟨rfl, HB.out⟩
end Go.Proofs.YtbegklhbhafmeaaDoor
