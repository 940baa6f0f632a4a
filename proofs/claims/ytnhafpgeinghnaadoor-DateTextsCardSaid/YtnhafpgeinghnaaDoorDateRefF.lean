/-
  Contracts over the document's own dates: a zone, a clock.
-/
import Derived.Test.YtnhafpgeinghnaaDoorDateRefE
namespace Go.Proofs.YtnhafpgeinghnaaDoor
open Go.RowKit
set_option linter.unusedVariables false
set_option linter.unusedSimpArgs false

def zoneT (l : List Nat) : Value := if zoneOk l = true then .tuple #[.int .i64 (zoneV l), .bool true] else .tuple #[.int .i64 0, .bool false]
theorem sign3' (n : Nat) : (n = 43 ∧ ((n : Int) != 43) = false ∧ ((n : Int) == 45) = false) ∨ (n = 45 ∧ ((n : Int) != 43) = true ∧ ((n : Int) != 45) = false ∧ ((n : Int) == 45) = true) ∨ ((n ≠ 43 ∧ n ≠ 45) ∧ ((n : Int) != 43) = true ∧ ((n : Int) != 45) = true) := by
  rcases (by omega : n = 43 ∨ n = 45 ∨ (n ≠ 43 ∧ n ≠ 45)) with rfl | rfl | h
  · exact .inl ⟨rfl, rfl, rfl⟩
  · exact .inr (.inl ⟨rfl, rfl, rfl, rfl⟩)
  · exact .inr (.inr ⟨h, by simp; omega, by simp; omega⟩)
theorem numI_cases (l : List Nat) (a m : Nat) : (numOk l a m = false ∧ numI l a m = -1) ∨ (numOk l a m = true ∧ numI l a m = (valN l : Int) ∧ valN l < 10 ^ m) := by
  cases h : numOk l a m
  · exact .inl ⟨rfl, by unfold numI; rw [h]; rfl⟩
  · exact .inr ⟨rfl, by unfold numI; rw [h]; rfl, numOk_lt h⟩

set_option maxRecDepth 20000 in
set_option maxHeartbeats 4000000 in
theorem x7zone_any (s : ByteArray) (hs : s.size ≤ 100000) (w : World) : Calls Tryd.prog 30 #[.string s] w fun e w' => e = .returned (zoneT (nats s)) ∧ Below w.heap.size w w' := by
  have h64 : s.size ≤ 9223372036854775807 := by omega
  by_cases h5 : s.size = 5
  · have hge : 5 ≤ s.size := by omega
    have hne : ((s.size : Int) != 5) = false := by rw [h5]; rfl
    have HL := Lib.hid (show (nats s).length = 5 by rw [nats_length, h5])
    clear h5
    have h0s : 0 < s.size := by omega
    have hx := nats_byte s 0 h0s
    have hD : (nats s).getD 0 0 = s[0].toNat := by rw [List.getD_eq_getElem?_getD, hx]; rfl
    have hn1 : nats (s.extract 1 3) = ((nats s).take 3).drop 1 := piece_eq s 1 3
    have hn2 : nats (s.extract 3 s.size) = (nats s).drop 3 := by rw [piece_eq, List.take_of_length_le (by rw [nats_length]; exact Nat.le_refl _)]
    have hz1 : (s.extract 1 3).size ≤ 4294967296 := by rw [← nats_length, hn1]; simp; omega
    have hz2 : (s.extract 3 s.size).size ≤ 4294967296 := by rw [← nats_length, hn2]; rw [List.length_drop, nats_length]; omega
    have HOK : Hid (zoneOk (nats s) = ((decide (s[0].toNat = 43) || decide (s[0].toNat = 45)) && numOk (nats (s.extract 1 3)) 2 2 && twoOk (nats (s.extract 3 s.size)) 60)) := Lib.hid (by
      unfold zoneOk
      rw [HL.out, hD, hn1, hn2]; rfl)
    have HZV : Hid (zoneV (nats s) = if s[0].toNat = 45 then -((valN (nats (s.extract 1 3)) * 3600 + valN (nats (s.extract 3 s.size)) * 60 : Nat) : Int) else ((valN (nats (s.extract 1 3)) * 3600 + valN (nats (s.extract 3 s.size)) * 60 : Nat) : Int)) := Lib.hid (by
      unfold zoneV zoneA
      rw [hD, hn1, hn2])
    have hcb : s[0].toNat < 256 := s[0].toNat_lt
    have hj3 : (3 : Int) ≤ (s.size : Int) := by omega
    have h0i : (0 : Int) < (s.size : Int) := by omega
    have ca := fun k => (x7num_any (s.extract 1 3) 2 2 (w.drewN k) hz1 (by omega) (by omega)).mono (fun _ _ h => (⟨h.1, h.2.symm⟩ : _ ∧ _))
    have cb := fun k => (x7num_any (s.extract 3 s.size) 2 2 (w.drewN k) hz2 (by omega) (by omega)).mono (fun _ _ h => (⟨h.1, h.2.symm⟩ : _ ∧ _))
    have k1 := numI_cases (nats (s.extract 1 3)) 2 2
    have k2 := numI_cases (nats (s.extract 3 s.size)) 2 2
    clear hx hD hn1 hn2
    rcases sign3' s[0].toNat with ⟨hk, f1, f3⟩ | ⟨hk, f1, f2, f3⟩ | ⟨hk, f1, f2⟩
    · have HK := Lib.hid hk
      have HSG : Hid ((decide (s[0].toNat = 43) || decide (s[0].toNat = 45)) = true) := Lib.hid (by rw [hk]; rfl)
      clear hk
      rcases k1 with ⟨o1, v1⟩ | ⟨o1, v1, l1⟩
      · have HF : Hid (zoneT (nats s) = .tuple #[.int .i64 0, .bool false]) := Lib.hid (by unfold zoneT; rw [HOK.out, o1]; simp)
        obtain ⟨q, hq⟩ : ∃ q, numI (nats (s.extract 3 s.size)) 2 2 = q := ⟨_, rfl⟩
        rw [v1] at ca
        rw [hq] at cb
        clear o1 v1 k2 hq
        go_enter Tryd.func30, Tryd.ntmps30
        go_wp2_with fail
        go_quiet ((first | (go_at_call 52; with_reducible exact Calls.quiet_of_same (ca _)) | (go_at_call 52; with_reducible exact Calls.quiet_of_same (cb _))))
        go_wp2_with fail
        go_ret2
        exact ⟨by rw [HF.out] <;> rfl, below_drewN (Below.refl _ _) _⟩
      · obtain ⟨a1, ha1⟩ : ∃ a, valN (nats (s.extract 1 3)) = a := ⟨_, rfl⟩
        rw [ha1] at v1 l1 HZV
        rw [v1] at ca
        rw [o1, HSG.out] at HOK
        clear o1 v1 ha1
        rcases k2 with ⟨o2, v2⟩ | ⟨o2, v2, l2⟩
        · have HF : Hid (zoneT (nats s) = .tuple #[.int .i64 0, .bool false]) := Lib.hid (by unfold zoneT; rw [HOK.out]; unfold twoOk; rw [o2]; simp)
          rw [v2] at cb
          clear o2 v2
          go_enter Tryd.func30, Tryd.ntmps30
          go_wp2_with fail
          go_quiet ((first | (go_at_call 52; with_reducible exact Calls.quiet_of_same (ca _)) | (go_at_call 52; with_reducible exact Calls.quiet_of_same (cb _))))
          go_wp2_with fail
          go_ret2
          exact ⟨by rw [HF.out] <;> rfl, below_drewN (Below.refl _ _) _⟩
        · obtain ⟨a2, ha2⟩ : ∃ a, valN (nats (s.extract 3 s.size)) = a := ⟨_, rfl⟩
          have HTW : Hid (twoOk (nats (s.extract 3 s.size)) 60 = decide (a2 < 60)) := Lib.hid (by unfold twoOk; rw [o2, ha2]; rfl)
          rw [ha2] at v2 l2 HZV
          rw [v2] at cb
          clear o2 v2 ha2
          by_cases h60 : a2 < 60
          · have HF : Hid (zoneT (nats s) = .tuple #[.int .i64 ((a1 : Int) * 3600 + a2 * 60), .bool true]) := Lib.hid (by
              unfold zoneT
              have e : ((a1 * 3600 + a2 * 60 : Nat) : Int) = (a1 : Int) * 3600 + a2 * 60 := by omega
              rw [HOK.out, HTW.out, decide_eq_true h60, if_pos (show (true && true && true) = true from rfl), HZV.out, if_neg (by have := HK.out; omega), e])
            have h60' : (a2 : Int) < 60 := by omega
            go_enter Tryd.func30, Tryd.ntmps30
            go_wp2_with fail
            go_quiet ((first | (go_at_call 52; with_reducible exact Calls.quiet_of_same (ca _)) | (go_at_call 52; with_reducible exact Calls.quiet_of_same (cb _))))
            go_wp2_with fail
            go_ret2
            exact ⟨by rw [HF.out] <;> rfl, below_drewN (Below.refl _ _) _⟩
          · have HF : Hid (zoneT (nats s) = .tuple #[.int .i64 0, .bool false]) := Lib.hid (by unfold zoneT; rw [HOK.out, HTW.out, decide_eq_false h60]; simp)
            have h60' : ¬ (a2 : Int) < 60 := by omega
            go_enter Tryd.func30, Tryd.ntmps30
            go_wp2_with fail
            go_quiet ((first | (go_at_call 52; with_reducible exact Calls.quiet_of_same (ca _)) | (go_at_call 52; with_reducible exact Calls.quiet_of_same (cb _))))
            go_wp2_with fail
            go_ret2
            exact ⟨by rw [HF.out] <;> rfl, below_drewN (Below.refl _ _) _⟩
    · have HK := Lib.hid hk
      have HSG : Hid ((decide (s[0].toNat = 43) || decide (s[0].toNat = 45)) = true) := Lib.hid (by rw [hk]; rfl)
      clear hk
      rcases k1 with ⟨o1, v1⟩ | ⟨o1, v1, l1⟩
      · have HF : Hid (zoneT (nats s) = .tuple #[.int .i64 0, .bool false]) := Lib.hid (by unfold zoneT; rw [HOK.out, o1]; simp)
        obtain ⟨q, hq⟩ : ∃ q, numI (nats (s.extract 3 s.size)) 2 2 = q := ⟨_, rfl⟩
        rw [v1] at ca
        rw [hq] at cb
        clear o1 v1 k2 hq
        go_enter Tryd.func30, Tryd.ntmps30
        go_wp2_with fail
        go_quiet ((first | (go_at_call 52; with_reducible exact Calls.quiet_of_same (ca _)) | (go_at_call 52; with_reducible exact Calls.quiet_of_same (cb _))))
        go_wp2_with fail
        go_ret2
        exact ⟨by rw [HF.out] <;> rfl, below_drewN (Below.refl _ _) _⟩
      · obtain ⟨a1, ha1⟩ : ∃ a, valN (nats (s.extract 1 3)) = a := ⟨_, rfl⟩
        rw [ha1] at v1 l1 HZV
        rw [v1] at ca
        rw [o1, HSG.out] at HOK
        clear o1 v1 ha1
        rcases k2 with ⟨o2, v2⟩ | ⟨o2, v2, l2⟩
        · have HF : Hid (zoneT (nats s) = .tuple #[.int .i64 0, .bool false]) := Lib.hid (by unfold zoneT; rw [HOK.out]; unfold twoOk; rw [o2]; simp)
          rw [v2] at cb
          clear o2 v2
          go_enter Tryd.func30, Tryd.ntmps30
          go_wp2_with fail
          go_quiet ((first | (go_at_call 52; with_reducible exact Calls.quiet_of_same (ca _)) | (go_at_call 52; with_reducible exact Calls.quiet_of_same (cb _))))
          go_wp2_with fail
          go_ret2
          exact ⟨by rw [HF.out] <;> rfl, below_drewN (Below.refl _ _) _⟩
        · obtain ⟨a2, ha2⟩ : ∃ a, valN (nats (s.extract 3 s.size)) = a := ⟨_, rfl⟩
          have HTW : Hid (twoOk (nats (s.extract 3 s.size)) 60 = decide (a2 < 60)) := Lib.hid (by unfold twoOk; rw [o2, ha2]; rfl)
          rw [ha2] at v2 l2 HZV
          rw [v2] at cb
          clear o2 v2 ha2
          by_cases h60 : a2 < 60
          · have HF : Hid (zoneT (nats s) = .tuple #[.int .i64 (-((a1 : Int) * 3600 + a2 * 60)), .bool true]) := Lib.hid (by
              unfold zoneT
              have e : ((a1 * 3600 + a2 * 60 : Nat) : Int) = (a1 : Int) * 3600 + a2 * 60 := by omega
              rw [HOK.out, HTW.out, decide_eq_true h60, if_pos (show (true && true && true) = true from rfl), HZV.out, if_pos HK.out, e])
            have h60' : (a2 : Int) < 60 := by omega
            go_enter Tryd.func30, Tryd.ntmps30
            go_wp2_with fail
            go_quiet ((first | (go_at_call 52; with_reducible exact Calls.quiet_of_same (ca _)) | (go_at_call 52; with_reducible exact Calls.quiet_of_same (cb _))))
            go_wp2_with fail
            go_ret2
            exact ⟨by rw [HF.out] <;> rfl, below_drewN (Below.refl _ _) _⟩
          · have HF : Hid (zoneT (nats s) = .tuple #[.int .i64 0, .bool false]) := Lib.hid (by unfold zoneT; rw [HOK.out, HTW.out, decide_eq_false h60]; simp)
            have h60' : ¬ (a2 : Int) < 60 := by omega
            go_enter Tryd.func30, Tryd.ntmps30
            go_wp2_with fail
            go_quiet ((first | (go_at_call 52; with_reducible exact Calls.quiet_of_same (ca _)) | (go_at_call 52; with_reducible exact Calls.quiet_of_same (cb _))))
            go_wp2_with fail
            go_ret2
            exact ⟨by rw [HF.out] <;> rfl, below_drewN (Below.refl _ _) _⟩
    · have HF : Hid (zoneT (nats s) = .tuple #[.int .i64 0, .bool false]) := Lib.hid (by unfold zoneT; rw [HOK.out, decide_eq_false hk.1, decide_eq_false hk.2]; simp)
      clear hk ca cb k1 k2
      go_enter Tryd.func30, Tryd.ntmps30
      go_wp2_with fail
      go_ret2
      exact ⟨by rw [HF.out] <;> rfl, Below.refl _ _⟩
  · have HF : Hid (zoneT (nats s) = .tuple #[.int .i64 0, .bool false]) := Lib.hid (by
      unfold zoneT zoneOk
      rw [decide_eq_false (by rw [nats_length]; exact h5)]
      simp)
    have hne : ((s.size : Int) != 5) = true := by simp; omega
    clear h5
    go_enter Tryd.func30, Tryd.ntmps30
    go_wp2_with fail
    go_ret2
    exact ⟨by rw [HF.out] <;> rfl, Below.refl _ _⟩
end Go.Proofs.YtnhafpgeinghnaaDoor
