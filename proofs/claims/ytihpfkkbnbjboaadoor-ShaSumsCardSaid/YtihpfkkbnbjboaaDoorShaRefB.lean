/-
  Contracts over the document's own answer for layer 4: the bits of square and cube roots.
-/
import Derived.Test.YtihpfkkbnbjboaaDoorShaRefA
import Derived.Test.YtihpfkkbnbjboaaDoorBytesOwn
namespace Go.Proofs.YtihpfkkbnbjboaaDoor
set_option linter.unusedVariables false
set_option linter.unusedSimpArgs false
open Go.RowKit

theorem sq_hi_lt {y p : Nat} (h : y * y / 18446744073709551616 < p) : y * y ≤ p * 18446744073709551616 := by omega
theorem ret_mod {a b : Int} (h : a = b) : Ending.returned (.int .u32 a) = .returned (.int .u32 b) := by rw [h]

set_option maxHeartbeats 1000000 in
theorem square_any (p : Nat) (w : World) (hp : p ≤ 400) : Calls Tryd.prog 28 #[.int .u64 (p : Int)] w fun e w' => e = .returned (.int .u32 ((sqN p 37 % 4294967296 : Nat) : Int)) ∧ w = w' := by
  go_enter Tryd.func28, Tryd.ntmps28
  go_wp2
  go_loop [3, 4] (fun x t => ∃ m : Nat, m ≤ 37 ∧ t = .int .i64 (36 - (m : Int)) ∧ x = .int .u64 ((sqN p m : Nat) : Int)) (fun _ t => (intOf t + 1).toNat)
  case atStart => exact ⟨0, by omega, by simp, by rw [show sqN p 0 = 0 by unfold sqN; rfl]; rfl⟩
  case round =>
    obtain ⟨m, hm, rfl, rfl⟩ := hrel
    have hle := sqN_le p m hm
    by_cases hlt : m < 37
    · obtain ⟨b, hb⟩ : ∃ b : Nat, b = 36 - m := ⟨_, rfl⟩
      have e1 : (36 : Int) - (m : Int) = (b : Int) := by omega
      have HS := hide (sqN_succ p m)
      have hpow : 2 ^ (37 - m) = 2 ^ b * 2 := by rw [← Nat.pow_succ]; congr 1; omega
      rw [← hb] at HS
      rw [hpow] at hle
      have hb36 : b ≤ 36 := by omega
      have HB := hide hb
      clear hb hpow
      rw [e1]
      have E1 := hide e1
      clear e1
      have hc : (2 : Int) ^ b = ((2 ^ b : Nat) : Int) := by rw [Int.natCast_pow]; rfl
      have hpos : 0 < 2 ^ b := Nat.pow_pos (by omega)
      generalize 2 ^ b = q at *
      generalize sqN p m = x at *
      have hx : x + q ≤ 137438953472 := by omega
      obtain ⟨y, hy⟩ : ∃ y, y = x + q := ⟨_, rfl⟩
      rw [← hy] at HS hx
      have hyi : (x : Int) + (q : Int) = (y : Int) := by omega
      have HC := mul64_any y y w (by omega) (by omega)
      have hdm := Nat.div_add_mod (y * y) 18446744073709551616
      have hmod : y * y % 18446744073709551616 < 18446744073709551616 := Nat.mod_lt _ (by omega)
      generalize y * y / 18446744073709551616 = hi at *
      generalize y * y % 18446744073709551616 = lo at *
      generalize y * y = yy at *
      have HY := hide hy
      have HDM := hide hdm
      have HMOD := hide hmod
      clear hy hdm hmod hpos
      clear hle
      by_cases h1 : hi < p
      · have HS2 := hide (HS.out.trans (if_pos (by have := HDM.out; have := HMOD.out; omega)))
        have h1i : (hi : Int) < (p : Int) := by omega
        clear HS
        go_wp2_with fail
        refine HC.mono ?_
        rintro e w' ⟨rfl, rfl⟩
        go_wp2
        go_round
        case rel => exact ⟨m + 1, by omega, by have := E1.out; go_num, by rw [HS2.out]⟩
        case measure => simp [intOf]
      · have h1i : ¬ (hi : Int) < (p : Int) := by omega
        by_cases h2 : hi = p ∧ lo = 0
        · have HS2 := hide (HS.out.trans (if_pos (by have := HDM.out; have := HMOD.out; omega)))
          have h2i : ((hi : Int) == (p : Int)) = true := by simp; omega
          have h3i : ((lo : Int) == 0) = true := by simp; omega
          clear HS h2 h1
          go_wp2_with fail
          refine HC.mono ?_
          rintro e w' ⟨rfl, rfl⟩
          go_wp2
          go_round
          case rel => exact ⟨m + 1, by omega, by have := E1.out; go_num, by rw [HS2.out]⟩
          case measure => simp [intOf]
        · have HS2 := hide (HS.out.trans (if_neg (by have := HDM.out; have := HMOD.out; omega)))
          by_cases h4 : hi = p
          · have h2i : ((hi : Int) == (p : Int)) = true := by simp; omega
            have h3i : ((lo : Int) == 0) = false := by simp; omega
            clear HS h2 h1 h4
            go_wp2_with fail
            refine HC.mono ?_
            rintro e w' ⟨rfl, rfl⟩
            go_wp2
            go_round
            case rel => exact ⟨m + 1, by omega, by have := E1.out; go_num, by rw [HS2.out]⟩
            case measure => simp [intOf]
          · have h2i : ((hi : Int) == (p : Int)) = false := by simp; omega
            clear HS h2 h1 h4
            go_wp2_with fail
            refine HC.mono ?_
            rintro e w' ⟨rfl, rfl⟩
            go_wp2
            go_round
            case rel => exact ⟨m + 1, by omega, by have := E1.out; go_num, by rw [HS2.out]⟩
            case measure => simp [intOf]
    · have hm37 : m = 37 := by omega
      rw [hm37] at hle ⊢
      have hneg : (36 : Int) - ((37 : Nat) : Int) = -1 := by omega
      rw [hneg]
      obtain ⟨x, hx0⟩ : ∃ x, x = sqN p 37 := ⟨_, rfl⟩
      rw [← hx0] at hle ⊢
      have HX := hide hx0
      have hx : x ≤ 137438953472 := by omega
      clear hle hlt hm hm37 hx0
      go_wp2
      go_ret
      exact ⟨ret_int (by rw [← HX.out]; try omega), rfl⟩

/-- a third power, in words of 64 bits -/
theorem cube_words {y hi lo b a : Nat} (h1 : y * y = 18446744073709551616 * hi + lo) (h2 : lo * y = 18446744073709551616 * b + a) : y * y * y = 18446744073709551616 * (b + hi * y) + a := by
  rw [h1, Nat.add_mul, h2, Nat.mul_assoc, Nat.mul_add]
  omega

set_option maxRecDepth 20000 in
set_option maxHeartbeats 2000000 in
theorem cube_any (p : Nat) (w : World) (hp : p ≤ 400) : Calls Tryd.prog 31 #[.int .u64 (p : Int)] w fun e w' => e = .returned (.int .u32 ((cuN p 37 % 4294967296 : Nat) : Int)) ∧ w = w' := by
  go_enter Tryd.func31, Tryd.ntmps31
  go_wp2
  go_loop [3, 4] (fun x t => ∃ m : Nat, m ≤ 37 ∧ t = .int .i64 (36 - (m : Int)) ∧ x = .int .u64 ((cuN p m : Nat) : Int)) (fun _ t => (intOf t + 1).toNat)
  case atStart => exact ⟨0, by omega, by simp, by rw [show cuN p 0 = 0 by unfold cuN; rfl]; rfl⟩
  case round =>
    obtain ⟨m, hm, rfl, rfl⟩ := hrel
    have hle := cuN_le p m hm
    by_cases hlt : m < 37
    · obtain ⟨b, hb⟩ : ∃ b : Nat, b = 36 - m := ⟨_, rfl⟩
      have e1 : (36 : Int) - (m : Int) = (b : Int) := by omega
      have HS := hide (cuN_succ p m)
      have hpow : 2 ^ (37 - m) = 2 ^ b * 2 := by rw [← Nat.pow_succ]; congr 1; omega
      rw [← hb] at HS
      rw [hpow] at hle
      have hb36 : b ≤ 36 := by omega
      have HB := hide hb
      clear hb hpow
      rw [e1]
      have E1 := hide e1
      clear e1
      have hc : (2 : Int) ^ b = ((2 ^ b : Nat) : Int) := by rw [Int.natCast_pow]; rfl
      have hpos : 0 < 2 ^ b := Nat.pow_pos (by omega)
      generalize 2 ^ b = q at *
      generalize cuN p m = x at *
      have hx : x + q ≤ 137438953472 := by omega
      obtain ⟨y, hy⟩ : ∃ y, y = x + q := ⟨_, rfl⟩
      rw [← hy] at HS hx
      have hyi : (x : Int) + (q : Int) = (y : Int) := by omega
      have HC := mul64_any y y w (by omega) (by omega)
      have hdm := Nat.div_add_mod (y * y) 18446744073709551616
      have hmod : y * y % 18446744073709551616 < 18446744073709551616 := Nat.mod_lt _ (by omega)
      have hyy : y * y ≤ 137438953472 * 137438953472 := Nat.mul_le_mul hx hx
      generalize y * y / 18446744073709551616 = hi at *
      generalize y * y % 18446744073709551616 = lo at *
      have hhi : hi ≤ 1024 := by omega
      have HC2 := mul64_any lo y w hmod (by omega)
      have hdm2 := Nat.div_add_mod (lo * y) 18446744073709551616
      have hmod2 : lo * y % 18446744073709551616 < 18446744073709551616 := Nat.mod_lt _ (by omega)
      have hly : lo * y ≤ 18446744073709551616 * 137438953472 := Nat.mul_le_mul (by omega) hx
      generalize lo * y / 18446744073709551616 = bb at *
      generalize lo * y % 18446744073709551616 = aa at *
      have hcw := cube_words hdm.symm hdm2.symm
      have hbb : bb ≤ 137438953472 := by omega
      have hcy : hi * y ≤ 1024 * 137438953472 := Nat.mul_le_mul hhi hx
      have HC3 := mul64_any hi y w (by omega) (by omega)
      rw [Nat.div_eq_of_lt (by omega), Nat.mod_eq_of_lt (by omega), show ((0 : Nat) : Int) = 0 from rfl] at HC3
      have HA := fun W => run_add64_here bb (hi * y) W (by omega)
      rw [hcw] at HS
      generalize hi * y = cc at *
      clear hly hyy hdm hdm2 hcw
      obtain ⟨mid, hmid⟩ : ∃ mid, mid = bb + cc := ⟨_, rfl⟩
      rw [← hmid] at HS HA
      have HMID := hide hmid
      have hmid2 : mid ≤ 281474976710656 := by omega
      obtain ⟨want, hwant⟩ : ∃ want, want = p * 4294967296 := ⟨_, rfl⟩
      have hwi : (p : Int) * 4294967296 = (want : Int) := by omega
      have hcond : (18446744073709551616 * mid + aa ≤ p * 79228162514264337593543950336) ↔ (mid < want ∨ mid = want ∧ aa = 0) := by omega
      have hwl : want ≤ 1717986918400 := by omega
      have HY := hide hy
      have HCOND := hide hcond
      clear hcond hmod hy hmid hwant hpos hle hcy hbb hhi
      have hwb : (want : Int) < 18446744073709551616 := by omega
      have hmod3 : (aa : Int) < 18446744073709551616 := by omega
      clear hmod2
      go_wp2_with fail
      refine HC.mono ?_
      rintro e w' ⟨rfl, rfl⟩
      go_wp2_with fail
      refine HC2.mono ?_
      rintro e w' ⟨rfl, rfl⟩
      go_wp2_with fail
      refine HC3.mono ?_
      rintro e w' ⟨rfl, rfl⟩
      dsimp only
      iterate 78 go_step
      clear HC HC2 HC3 HA hwi hwb hwl hmid2 hyi hc hmod3
      by_cases h1 : mid < want
      · have HS2 := hide (HS.out.trans (if_pos (HCOND.out.2 (.inl h1))))
        have h1i : (mid : Int) < (want : Int) := by omega
        clear HS HCOND
        go_wp2
        go_round
        case rel => exact ⟨m + 1, by omega, by have := E1.out; go_num, by rw [HS2.out]⟩
        case measure => simp [intOf]
      · have h1i : ¬ (mid : Int) < (want : Int) := by omega
        by_cases h2 : mid = want ∧ aa = 0
        · have HS2 := hide (HS.out.trans (if_pos (HCOND.out.2 (.inr h2))))
          have h2i : ((mid : Int) == (want : Int)) = true := by simp; omega
          have h3i : ((aa : Int) == 0) = true := by simp; omega
          clear HS HCOND h1 h2
          go_wp2
          go_round
          case rel => exact ⟨m + 1, by omega, by have := E1.out; go_num, by rw [HS2.out]⟩
          case measure => simp [intOf]
        · have HS2 := hide (HS.out.trans (if_neg (fun h => (HCOND.out.1 h).elim h1 h2)))
          by_cases h4 : mid = want
          · have h2i : ((mid : Int) == (want : Int)) = true := by simp; omega
            have h3i : ((aa : Int) == 0) = false := by simp; omega
            clear HS HCOND h1 h2 h4
            go_wp2
            go_round
            case rel => exact ⟨m + 1, by omega, by have := E1.out; go_num, by rw [HS2.out]⟩
            case measure => simp [intOf]
          · have h2i : ((mid : Int) == (want : Int)) = false := by simp; omega
            clear HS HCOND h1 h2 h4
            go_wp2
            go_round
            case rel => exact ⟨m + 1, by omega, by have := E1.out; go_num, by rw [HS2.out]⟩
            case measure => simp [intOf]
    · have hm37 : m = 37 := by omega
      rw [hm37] at hle ⊢
      have hneg : (36 : Int) - ((37 : Nat) : Int) = -1 := by omega
      rw [hneg]
      obtain ⟨x, hx0⟩ : ∃ x, x = cuN p 37 := ⟨_, rfl⟩
      rw [← hx0] at hle ⊢
      have HX := hide hx0
      have hx : x ≤ 137438953472 := by omega
      clear hle hlt hm hm37 hx0
      go_wp2
      go_ret
      exact ⟨ret_int (by rw [← HX.out]; try omega), rfl⟩
end Go.Proofs.YtihpfkkbnbjboaaDoor
