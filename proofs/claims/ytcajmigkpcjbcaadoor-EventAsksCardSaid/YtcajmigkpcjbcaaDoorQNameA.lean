/-
  Contracts over package name: which bytes and texts may be, what is a name, what is a pattern, cleaning, joining, what a name goes on.
-/
import Derived.Test.YtcajmigkpcjbcaaDoorQNameLib
namespace Go.Proofs.YtcajmigkpcjbcaaDoor
set_option linter.unusedVariables false
set_option linter.unusedSimpArgs false
open Go.RowKit
set_option linter.unusedVariables false
set_option linter.unusedSimpArgs false

theorem dsmall_any (c : Nat) (hc : c < 256) (w : World) : Calls Tryd.prog 82 #[.int .u8 (c : Int)] w fun e w' => e = .returned (.int .u8 (smallN c : Nat)) ∧ w = w' := by
  by_cases h1 : 65 ≤ c
  · by_cases h2 : c ≤ 90
    · have HR : Hid (smallN c = c + 32) := Lib.hid (if_pos ⟨h1, h2⟩)
      go_enter Tryd.func82, Tryd.ntmps82
      go_wp2
      go_ret
      exact ⟨ret_int (by rw [HR.out]; omega), rfl⟩
    · have HR : Hid (smallN c = c) := Lib.hid (if_neg (by omega))
      go_enter Tryd.func82, Tryd.ntmps82
      go_wp2
      go_ret
      exact ⟨by rw [HR.out] <;> rfl, rfl⟩
  · have HR : Hid (smallN c = c) := Lib.hid (if_neg (by omega))
    go_enter Tryd.func82, Tryd.ntmps82
    go_wp2
    go_ret
    exact ⟨by rw [HR.out] <;> rfl, rfl⟩

theorem sameB_at {a b : List Nat} {k x y : Nat} (hx : a[k]? = some x) (hy : b[k]? = some y) (h : smallN x ≠ smallN y) : sameB a b = false := by
  unfold sameB
  refine decide_eq_false fun e => h ?_
  have := congrArg (·[k]?) e
  simpa [hx, hy] using this
set_option maxRecDepth 20000 in
set_option maxHeartbeats 800000 in
theorem same_letters (a b : ByteArray) (ha : a.size ≤ 140737488355328) (hb : b.size ≤ 140737488355328) (w : World) :
    Calls Tryd.prog 75 #[.string a, .string b] w fun e w' => e = .returned (.bool (sameB (nats a) (nats b))) ∧ ∃ n, w' = w.drewN n := by
  by_cases hl : a.size = b.size
  · have HL := Lib.hid hl
    have h64 : a.size ≤ 9223372036854775807 := by omega
    have h65 : b.size ≤ 9223372036854775807 := by omega
    have hle : ((a.size : Int) != b.size) = false := by simp; omega
    clear hl
    go_enter Tryd.func75, Tryd.ntmps75
    go_wp2_with fail
    go_loopw [13] (fun i wx => ∃ k n : Nat, k ≤ a.size ∧ i = .int .i64 (k : Int) ∧ ((nats a).take k).map smallN = ((nats b).take k).map smallN ∧ wx = w.drewN n) (fun i _ => a.size - (intOf i).toNat)
    case atStart => exact ⟨0, 0, Nat.zero_le _, rfl, by simp, rfl⟩
    case round =>
      obtain ⟨k, n, hk, rfl, hm, hw⟩ := hrel
      have HM := Lib.hid hm
      have HW := Lib.hid hw
      clear hm hw
      by_cases hlt : k < a.size
      · have hlb : k < b.size := by have := HL.out; omega
        have hx := nats_byte a k hlt
        have hy := nats_byte b k hlb
        have hxa : a[k].toNat < 256 := a[k].toNat_lt
        have hxb : b[k].toNat < 256 := b[k].toNat_lt
        have HX := Lib.hid hx
        have HY := Lib.hid hy
        have HTA := Lib.hid (take_snoc_n _ _ _ hx)
        have HTB := Lib.hid (take_snoc_n _ _ _ hy)
        have ca := fun W => (dsmall_any a[k].toNat hxa W).mono (fun _ _ h => (⟨h.1, h.2.symm⟩ : _ ∧ _))
        have cb := fun W => (dsmall_any b[k].toNat hxb W).mono (fun _ _ h => (⟨h.1, h.2.symm⟩ : _ ∧ _))
        clear hx hy
        by_cases he : smallN a[k].toNat = smallN b[k].toNat
        · have hne : ((smallN a[k].toNat : Int) != smallN b[k].toNat) = false := by simp; omega
          have HE := Lib.hid he
          clear he
          go_wp2_with fail
          go_quiet ((go_at_call 82; first | (with_reducible exact Calls.quiet_of_same (ca _)) | (with_reducible exact Calls.quiet_of_same (cb _))))
          go_wp2_with fail
          go_roundw
          case rel => exact ⟨k + 1, _, by omega, by go_num, by rw [HTA.out, HTB.out, List.map_append, List.map_append, HM.out, List.map_singleton, List.map_singleton, HE.out], by rw [HW.out]; exact drewN_twice _ _ _⟩
          case measure => simp [intOf]; omega
        · have hne : ((smallN a[k].toNat : Int) != smallN b[k].toNat) = true := by simp; omega
          have HE := Lib.hid he
          clear he
          go_wp2_with fail
          go_quiet ((go_at_call 82; first | (with_reducible exact Calls.quiet_of_same (ca _)) | (with_reducible exact Calls.quiet_of_same (cb _))))
          go_wp2_with fail
          go_ret
          exact ⟨by rw [sameB_at HX.out HY.out HE.out] <;> rfl, _, by rw [HW.out]; exact drewN_twice _ _ _⟩
      · have HR : Hid (sameB (nats a) (nats b) = true) := Lib.hid (by
          have := HM.out
          rw [List.take_of_length_le (by rw [nats_length]; omega), List.take_of_length_le (by rw [nats_length, ← HL.out]; omega)] at this
          exact decide_eq_true this)
        go_wp2_with fail
        go_ret
        exact ⟨by rw [HR.out] <;> rfl, _, HW.out⟩
  · have HR : Hid (sameB (nats a) (nats b) = false) := Lib.hid (by
      cases h : sameB (nats a) (nats b)
      · rfl
      · have := sameB_len h
        rw [nats_length, nats_length] at this
        exact absurd this hl)
    have hle : ((a.size : Int) != b.size) = true := by simp; omega
    clear hl
    go_enter Tryd.func75, Tryd.ntmps75
    go_wp2_with fail
    go_ret
    exact ⟨by rw [HR.out] <;> rfl, 0, rfl⟩



theorem nmplain_any (c : Nat) (hc : c < 256) (w : World) : Calls Tryd.prog 78 #[.int .u8 (c : Int)] w fun e w' => e = .returned (.bool (plainB c)) ∧ w = w' := by
  by_cases h1 : 32 < c
  · by_cases h2 : c ≤ 126
    · have CI : Hid (∀ W, Calls Tryd.prog 83 #[.string ⟨#[40, 41, 123, 37, 42, 34, 92]⟩, .int .u8 (c : Int)] W fun e w' => e = .returned (.int .i64 (Lib.indexByte barredL c.toUInt8)) ∧ W = w') := Lib.hid fun W => by
        have := indexByte_any ⟨#[40, 41, 123, 37, 42, 34, 92]⟩ (c : Int) W
        rwa [Int.toNat_natCast] at this
      have hb := barred_ge c hc
      generalize Lib.indexByte barredL c.toUInt8 = z at CI hb
      have d1 : (32 : Int) < (c : Int) := by omega
      have d2 : (c : Int) ≤ 126 := by omega
      have HR : Hid (plainB c = decide (z < 0)) := Lib.hid (by unfold plainB; rw [decide_eq_decide]; omega)
      clear hb h1 h2
      go_enter Tryd.func78, Tryd.ntmps78
      go_wp2_with fail
      refine (CI.out _).mono ?_
      rintro e w' ⟨rfl, rfl⟩
      go_wp2_with fail
      go_ret
      exact ⟨by rw [HR.out] <;> rfl, rfl⟩
    · have HR : Hid (plainB c = false) := Lib.hid (decide_eq_false (by omega))
      have d1 : (32 : Int) < (c : Int) := by omega
      have d2 : ¬ (c : Int) ≤ 126 := by omega
      go_enter Tryd.func78, Tryd.ntmps78
      go_wp2_with fail
      go_ret
      exact ⟨by rw [HR.out] <;> rfl, rfl⟩
  · have HR : Hid (plainB c = false) := Lib.hid (decide_eq_false (by omega))
    have d1 : ¬ (32 : Int) < (c : Int) := by omega
    go_enter Tryd.func78, Tryd.ntmps78
    go_wp2_with fail
    go_ret
    exact ⟨by rw [HR.out] <;> rfl, rfl⟩
theorem okP_iff (c : Nat) : okP c ↔ (plainB c = true ∨ wildB c = true) := by
  unfold okP wildB
  rw [decide_eq_true_iff]
set_option maxRecDepth 20000 in
set_option maxHeartbeats 4000000 in
theorem nmisName_any (s : ByteArray) (hs : s.size ≤ 140737488355328) (w : World) : Calls Tryd.prog 73 #[.string s] w fun e w' => e = .returned (.bool (formB (nats s))) ∧ Below w.heap.size w w' := by
  have HN := Lib.hid (nats_length s)
  by_cases h40 : 40 < s.size
  · have HR : Hid (formB (nats s) = false) := Lib.hid (nameB_long (by rw [nats_length]; exact h40))
    have d1 : (40 : Int) < (s.size : Int) := by omega
    go_enter Tryd.func73, Tryd.ntmps73
    go_wp2_with fail
    go_ret
    exact ⟨by rw [HR.out] <;> rfl, Below.refl _ _⟩
  · have d1 : ¬ (40 : Int) < (s.size : Int) := by omega
    go_enter Tryd.func73, Tryd.ntmps73
    go_wp2_with fail
    go_loop [10] (fun i => ∃ k : Nat, k ≤ s.size ∧ i = .int .i64 (k : Int) ∧ ∀ c ∈ (nats s).take k, plainB c = true) (fun i => s.size - (intOf i).toNat)
    case atStart => exact ⟨0, Nat.zero_le _, rfl, fun c h => by simp at h⟩
    case round =>
      obtain ⟨k, hk, rfl, hm⟩ := hrel
      have HM := Lib.hid hm
      clear hm
      by_cases hlt : k < s.size
      · have a0 : (0 : Int) ≤ (k : Int) := by omega
        have a1 : (k : Int) < (s.size : Int) := by omega
        have HX := Lib.hid (nats_byte s k hlt)
        have hxb : s[k].toNat < 256 := s[k].toNat_lt
        have HP : Hid (∀ W, Calls Tryd.prog 78 #[.int .u8 (s[k].toNat : Int)] W fun e w' => e = .returned (.bool (plainB s[k].toNat)) ∧ W = w') := Lib.hid fun W => nmplain_any s[k].toNat hxb W
        cases hp : plainB s[k].toNat
        · have HR : Hid (formB (nats s) = false) := Lib.hid (nameB_stop HX.out hp)
          rw [hp] at HP
          clear hp
          go_wp2_with fail
          refine (HP.out _).mono ?_
          rintro e w' ⟨rfl, rfl⟩
          go_wp2_with fail
          go_ret
          exact ⟨by rw [HR.out] <;> rfl, Below.refl _ _⟩
        · have HS : Hid (∀ c ∈ (nats s).take (k + 1), plainB c = true) := Lib.hid (by
            rw [take_snoc_n _ _ _ HX.out]
            intro c hc
            rcases List.mem_append.1 hc with h | h
            · exact HM.out c h
            · rw [List.mem_singleton.1 h]; exact hp)
          rw [hp] at HP
          clear hp
          go_wp2_with fail
          refine (HP.out _).mono ?_
          rintro e w' ⟨rfl, rfl⟩
          go_wp2_with fail
          go_round
          case rel => exact ⟨k + 1, by omega, by go_num, HS.out⟩
          case measure => simp [intOf]; omega
      · have a1 : ¬ (k : Int) < (s.size : Int) := by omega
        have hall : ∀ c ∈ nats s, plainB c = true := by
          have h := HM.out
          rwa [List.take_of_length_le (by rw [HN.out]; omega)] at h
        have hfm := nameB_all (by rw [HN.out]; omega : (nats s).length ≤ 40) hall
        have CS := Lib.hid (split_any s (by omega) 47 w)
        rw [show (47 : UInt8).toNat = 47 from rfl] at CS
        have hlen : (splitL 47 (nats s)).length ≤ 41 := by rw [split_count]; have := List.count_le_length (a := 47) (l := nats s); rw [HN.out] at this; omega
        have hlt256 : ∀ p ∈ splitL 47 (nats s), ∀ x ∈ p, x < 256 := splitL_lt (nats_lt s)
        generalize splitL 47 (nats s) = l at CS hfm hlen hlt256
        obtain ⟨n, hn⟩ : ∃ n, l.length = n := ⟨_, rfl⟩
        rw [hn] at CS hfm hlen
        have HNL := Lib.hid hn
        have HLT := Lib.hid hlt256
        clear hn hlt256 hall
        by_cases h4 : n ≤ 4
        · have d2 : (n : Int) ≤ 4 := by omega
          have HR : Hid (formB (nats s) = !decide ([] ∈ l)) := Lib.hid (by rw [hfm, decide_eq_true h4, Bool.true_and])
          clear hfm
          go_wp2_with fail
          refine CS.out.mono ?_
          rintro e w1 ⟨rfl, hb, hst, hsz⟩
          have HB := Lib.hid hb
          have CC := Lib.hid (containsS_any w.heap.size 0 n n l ⟨#[]⟩ w1 HNL.out (fun _ => hst) HLT.out (by omega) (some ⟨w.heap.size, 0, none⟩) (fun _ => rfl))
          clear hb hst hsz
          go_wp2_with fail
          refine CC.out.mono ?_
          rintro e w' ⟨rfl, rfl⟩
          go_wp2_with fail
          go_ret
          exact ⟨by rw [HR.out] <;> rfl, HB.out⟩
        · have d2 : ¬ (n : Int) ≤ 4 := by omega
          have HR : Hid (formB (nats s) = false) := Lib.hid (by rw [hfm, decide_eq_false h4, Bool.false_and])
          clear hfm
          go_wp2_with fail
          refine CS.out.mono ?_
          rintro e w1 ⟨rfl, hb, hst, hsz⟩
          have HB := Lib.hid hb
          clear hb hst hsz
          go_wp2_with fail
          go_ret
          exact ⟨by rw [HR.out] <;> rfl, HB.out⟩
end Go.Proofs.YtcajmigkpcjbcaaDoor
