/-
  Contracts over the document's own flags: names together, what is told.
-/
import Derived.Test.YtloghgfcgkfefaaDoorFlagRefA
namespace Go.Proofs.YtloghgfcgkfefaaDoor
open Go.RowKit
set_option linter.unusedVariables false
set_option linter.unusedSimpArgs false

set_option maxRecDepth 20000 in
set_option maxHeartbeats 4000000 in
theorem x8parse_any (A : Option Addr) (n c : Nat) (l : List ByteArray) (w : World) (hC : Col Value.string w w.heap.size A n l) (hz : ∀ z ∈ l, z.size ≤ 140737488355328) (hn : n ≤ 140737488355328) :
    Calls Tryd.prog 10 #[.slice A n c] w fun e w' => ∃ z d : Int, e = .returned (.tuple #[.int .i64 z, .int .i64 d]) ∧ z = (parV (l.map nats) : Nat) ∧ d = parE (l.map nats) ∧ Below w.heap.size w w' := by
  have HC := Lib.hid hC
  have HZ := Lib.hid hz
  have HL : Hid (l.length = n) := Lib.hid hC.1
  clear hC hz
  go_enter Tryd.func10, Tryd.ntmps10
  go_wp2_with fail
  go_loopw [4, 5] (fun x i wx => ∃ k a : Nat, k ≤ n ∧ i = .int .i64 (k : Int) ∧ x = .int .i64 (a : Int) ∧ a < 32 ∧ parUp ((l.map nats).take k) 0 = some a ∧ Below w.heap.size w wx) (fun x i _ => n - (intOf i).toNat)
  case atStart => exact ⟨0, 0, Nat.zero_le _, rfl, rfl, by omega, rfl, Below.refl _ _⟩
  case round =>
    obtain ⟨k, a, hk, rfl, rfl, ha, hp, hb⟩ := hrel
    have HB := Lib.hid hb
    have HP := Lib.hid hp
    have hCr := (HC.out.below hb (Nat.le_refl _))
    clear hb hp
    by_cases hlt : k < n
    · obtain ⟨b, o, s, rfl, hbb, hs, _, hcell⟩ := hCr.at_ hlt
      have hsz := HZ.out s (List.mem_of_getElem? hs)
      have HS : Hid ((l.map nats)[k]? = some (nats s)) := Lib.hid (by rw [List.getElem?_map, hs]; rfl)
      clear hCr hs
      go_wp2_with fail
      refine (x8one_any s hsz wr).mono ?_
      rintro e w' ⟨z, d, rfl, hz, hd, hb2⟩
      have HB2 := Lib.hid (HB.out.trans (hb2.mono HB.out.size))
      have ho := oneN_le (nats s)
      cases Nat.eq_zero_or_pos (oneN (nats s)) with
      | inl h0 =>
        have HN := Lib.hid (parV_no (par_stop HP.out HS.out h0))
        rw [h0] at hz hd
        subst hz hd
        clear hb2
        go_wp2_with fail
        go_ret2
        exact ⟨_, _, rfl, by rw [HN.out.1]; rfl, by rw [HN.out.2]; rfl, HB2.out⟩
      | inr h1 =>
        have HN := Lib.hid (par_go HP.out HS.out (by omega))
        obtain ⟨y, hy⟩ : ∃ y, oneN (nats s) = y := ⟨_, rfl⟩
        rw [hy] at hz hd ho h1 HN
        have hd0 : d = 0 := by rw [hd]; unfold oneE; rw [if_neg (by omega)]
        have hor := bits_or32 a ha y (by omega)
        have hlt2 := or_lt32 ha (show y < 32 by omega)
        subst hd0 hz
        clear hb2 hy hd
        go_wp2_with fail
        go_roundw
        case rel => exact ⟨k + 1, a ||| y, by omega, by go_num, by first | rfl | rw [hor], hlt2, HN.out, HB2.out⟩
        case measure => simp [intOf]; omega
    · have HN := Lib.hid (parV_of (l := l.map nats) (a := a) (by have := HP.out; rwa [List.take_of_length_le (by rw [List.length_map, HL.out]; omega)] at this))
      go_wp2_with fail
      go_ret2
      exact ⟨_, _, rfl, by rw [HN.out.1], by rw [HN.out.2], HB.out⟩

theorem join_one (f : Int) {k : Nat} (h : hasB f k = true) (h0 : toldUp f k = []) : joinUp (toldUp f k) = [] ∧ joinUp (toldUp f (k + 1)) = flagS k := by
  rw [toldUp_yes h, h0]; exact ⟨rfl, rfl⟩
theorem join_more (f : Int) {k : Nat} (h : hasB f k = true) (h0 : toldUp f k ≠ []) : joinUp (toldUp f (k + 1)) = (joinUp (toldUp f k) ++ [32]) ++ flagS k := by
  rw [toldUp_yes h, joinUp_snoc _ _ h0, List.append_assoc]; rfl
theorem flagS_ne {k : Nat} (h : k < 5) : flagS k ≠ [] := fun e => by
  have := (flagS_len h).1
  rw [e] at this
  exact absurd this (by decide)
theorem toldUp_ne (f : Int) : ∀ k, k ≤ 5 → ∀ x ∈ toldUp f k, x ≠ []
  | 0, _ => by intro x hx; cases hx
  | k + 1, hk => by
    intro x hx
    unfold toldUp at hx
    rcases List.mem_append.1 hx with h | h
    · exact toldUp_ne f k (by omega) x h
    · split at h
      · rw [List.mem_singleton.1 h]; exact flagS_ne (by omega)
      · cases h
theorem join_ne (f : Int) {k : Nat} (hk : k ≤ 5) (h0 : toldUp f k ≠ []) : joinUp (toldUp f k) ≠ [] := by
  have hm := toldUp_ne f k hk
  match hq : toldUp f k, h0, hm with
  | [], h0, _ => exact absurd rfl h0
  | [x], _, hm => exact hm x (List.mem_singleton_self x)
  | x :: y :: r, _, _ =>
    show x ++ 32 :: joinUp (y :: r) ≠ []
    intro e
    exact absurd (congrArg List.length e) (by simp)
theorem join_len5 (f : Int) (k : Nat) : (joinUp (toldUp f k)).length ≤ 10 * k := by
  have := joinUp_len (toldUp_mem f k)
  have := toldUp_len f k
  omega

set_option maxRecDepth 20000 in
set_option maxHeartbeats 4000000 in
theorem x8print_any (f : Int) (w : World) :
    Calls Tryd.prog 14 #[.int .i64 f] w fun e w' => e = .returned (.string (strOf (tellN f))) ∧ Below w.heap.size w w' := by
  go_enter Tryd.func14, Tryd.ntmps14
  go_wp2_with fail
  refine (x8names_any w).mono ?_
  rintro e w1 ⟨g, h, rfl, hN, hb1⟩
  have HN := Lib.hid hN
  have HB1 := Lib.hid hb1
  clear hb1
  go_wp2_with fail
  go_loopw [5, 6] (fun o i wx => ∃ k : Nat, k ≤ 5 ∧ i = .int .i64 (k : Int) ∧ o = .string (strOf (joinUp (toldUp f k))) ∧ wx = w1) (fun _ i _ => 5 - (intOf i).toNat)
  case atStart => exact ⟨0, Nat.zero_le _, rfl, rfl, rfl⟩
  case round =>
    obtain ⟨k, hk, rfl, rfl, rfl⟩ := hrel
    clear hN
    by_cases hlt : k < 5
    · have hcs := HN.out.2.2.1 k hlt
      have hcb := HN.out.2.2.2 k hlt
      have hk0 : (0 : Int) ≤ (k : Int) := by omega
      have hk5 : (k : Int) < 5 := by omega
      cases hq : hasB f k
      · have hq' : (bits .and .i64 f (bitN k : Nat) != 0) = false := hq
        have HT := Lib.hid (toldUp_no hq)
        clear hq
        go_wp2_with fail
        go_roundw
        case rel => exact ⟨k + 1, by omega, by go_num, by rw [HT.out], by first | exact trivial | rfl⟩
        case measure => simp [intOf]; omega
      · have hq' : (bits .and .i64 f (bitN k : Nat) != 0) = true := hq
        have hjl := join_len5 f k
        have hfl := flagS_le k
        by_cases h0 : toldUp f k = []
        · obtain ⟨j1, j2⟩ := join_one f hq h0
          have HJ := Lib.hid j2
          rw [j1]
          have he0 : strOf [] = ⟨#[]⟩ := rfl
          rw [he0]
          have ka := fun W => add_str ⟨#[]⟩ (strOf (flagS k)) [] (flagS k) rfl rfl (by simp; omega) W
          clear j1 j2 h0 hq he0
          go_wp2_with fail
          go_roundw
          case rel => exact ⟨k + 1, by omega, by go_num, by rw [HJ.out] <;> rfl, by first | exact trivial | rfl⟩
          case measure => simp [intOf]; omega
        · have HJ := Lib.hid (join_more f hq h0)
          obtain ⟨hn1, hn2⟩ := ne_empty (join_ne f hk h0)
          obtain ⟨J, hJ⟩ : ∃ J, joinUp (toldUp f k) = J := ⟨_, rfl⟩
          rw [hJ] at HJ hn1 hn2 hjl ⊢
          have ka := fun W => add_str (strOf J) ⟨#[32]⟩ J [32] rfl rfl (by simp; omega) W
          obtain ⟨J2, hJ2⟩ : ∃ J2, J ++ [32] = J2 := ⟨_, rfl⟩
          have hl2 : J2.length = J.length + 1 := by rw [← hJ2]; simp
          rw [hJ2] at ka HJ
          have kb := fun W => add_str (strOf J2) (strOf (flagS k)) J2 (flagS k) rfl rfl (by omega) W
          clear h0 hq hJ hJ2
          go_wp2_with fail
          go_roundw
          case rel => exact ⟨k + 1, by omega, by go_num, by rw [HJ.out], by first | exact trivial | rfl⟩
          case measure => simp [intOf]; omega
    · obtain rfl : k = 5 := by omega
      have hlj := told_join_len f
      have ka := fun W => add_str ⟨#[40]⟩ (strOf (joinUp (toldUp f 5))) [40] (joinUp (toldUp f 5)) rfl rfl (by have : (joinUp (toldUp f 5)).length ≤ 50 := hlj; simp; omega) W
      have kb := fun W => add_str (strOf ([40] ++ joinUp (toldUp f 5))) ⟨#[41]⟩ ([40] ++ joinUp (toldUp f 5)) [41] rfl rfl (by have : (joinUp (toldUp f 5)).length ≤ 50 := hlj; simp; omega) W
      have HE : Hid (([40] ++ joinUp (toldUp f 5)) ++ [41] = tellN f) := Lib.hid rfl
      obtain ⟨J2, hJ2⟩ : ∃ J2, [40] ++ joinUp (toldUp f 5) = J2 := ⟨_, rfl⟩
      rw [hJ2] at ka kb HE
      clear hJ2 hlj
      go_wp2_with fail
      go_ret
      exact ⟨by rw [HE.out] <;> rfl, HB1.out⟩
end Go.Proofs.YtloghgfcgkfefaaDoor
