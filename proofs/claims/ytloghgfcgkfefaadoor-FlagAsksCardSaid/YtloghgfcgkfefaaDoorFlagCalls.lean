/-
  Contracts over package flag and the document's own: whether they are flags; flags changed; names together.
-/
import Derived.Test.YtloghgfcgkfefaaDoorFlagOne
namespace Go.Proofs.YtloghgfcgkfefaaDoor
open Go.RowKit
set_option linter.unusedVariables false
set_option linter.unusedSimpArgs false

theorem bits_or32 : ∀ a : Nat, a < 32 → ∀ b : Nat, b < 32 → bits .or .i64 (a : Int) (b : Int) = ((a ||| b : Nat) : Int) := by decide +kernel
theorem parN_le {l : List (List Nat)} : ∀ {a b : Nat}, a < 32 → parUp l a = some b → b < 32 := by
  induction l with
  | nil => intro a b ha h; cases h; exact ha
  | cons x l ih =>
    intro a b ha h
    unfold parUp at h
    by_cases hx : oneN x = 0
    · rw [if_pos hx] at h; cases h
    · rw [if_neg hx] at h
      have := oneN_le x
      exact ih (or_lt32 ha (by omega)) h

theorem rightB_lo {f : Int} (h : ¬ 0 ≤ f) : rightB f = false := decide_eq_false fun e => h e.1
theorem rightB_hi {f : Int} (h : ¬ f ≤ 31) : rightB f = false := decide_eq_false fun e => h e.2
theorem rightB_yes {f : Int} (h : 0 ≤ f) (h2 : f ≤ 31) : rightB f = true := decide_eq_true ⟨h, h2⟩
set_option maxHeartbeats 400000 in
theorem right_any (f : Int) (w : World) : Calls Tryd.prog 15 #[.int .i64 f] w fun e w' => e = .returned (.bool (rightB f)) ∧ w = w' := by
  by_cases h1 : 0 ≤ f
  · by_cases h2 : f ≤ 31
    · have HR := Lib.hid (rightB_yes h1 h2)
      go_enter Tryd.func15, Tryd.ntmps15
      go_wp2
      go_ret
      exact ⟨by rw [HR.out] <;> rfl, rfl⟩
    · have HR := Lib.hid (rightB_hi h2)
      go_enter Tryd.func15, Tryd.ntmps15
      go_wp2
      go_ret
      exact ⟨by rw [HR.out] <;> rfl, rfl⟩
  · have HR := Lib.hid (rightB_lo h1)
    go_enter Tryd.func15, Tryd.ntmps15
    go_wp2
    go_ret
    exact ⟨by rw [HR.out] <;> rfl, rfl⟩
set_option maxHeartbeats 400000 in
theorem x8right_any (f : Int) (w : World) : Calls Tryd.prog 16 #[.int .i64 f] w fun e w' => e = .returned (.bool (rightB f)) ∧ w = w' := by
  by_cases h1 : 0 ≤ f
  · by_cases h2 : f ≤ 31
    · have HR := Lib.hid (rightB_yes h1 h2)
      go_enter Tryd.func16, Tryd.ntmps16
      go_wp2
      go_ret
      exact ⟨by rw [HR.out] <;> rfl, rfl⟩
    · have HR := Lib.hid (rightB_hi h2)
      go_enter Tryd.func16, Tryd.ntmps16
      go_wp2
      go_ret
      exact ⟨by rw [HR.out] <;> rfl, rfl⟩
  · have HR := Lib.hid (rightB_lo h1)
    go_enter Tryd.func16, Tryd.ntmps16
    go_wp2
    go_ret
    exact ⟨by rw [HR.out] <;> rfl, rfl⟩

theorem app_no1 {f m g : Int} (h : rightB f = false) : appV f m g = 0 ∧ appE f m g = 1 := by
  unfold appV appE; rw [h]; simp
theorem app_no2 {f m g : Int} (h : rightB g = false) : appV f m g = 0 ∧ appE f m g = 1 := by
  unfold appV appE; rw [h]; simp
theorem app_mode {f m g : Int} (hf : rightB f = true) (hg : rightB g = true) (h : ¬ (0 ≤ m ∧ m ≤ 2)) : appV f m g = 0 ∧ appE f m g = 1 := by
  unfold appV appE; rw [hf, hg, if_pos ⟨rfl, rfl⟩, if_neg (by omega), if_neg (by omega), if_neg (by omega), if_neg (fun e => h ⟨e.2.2.1, e.2.2.2⟩)]; exact ⟨rfl, rfl⟩
theorem app_0 {f g : Int} (hf : rightB f = true) (hg : rightB g = true) : appV f 0 g = g ∧ appE f 0 g = 0 := by
  unfold appV appE; rw [hf, hg]; simp
theorem app_1 {f g : Int} (hf : rightB f = true) (hg : rightB g = true) : appV f 1 g = bits .or .i64 f g ∧ appE f 1 g = 0 := by
  unfold appV appE; rw [hf, hg]; simp
theorem app_2 {f g : Int} (hf : rightB f = true) (hg : rightB g = true) : appV f 2 g = bits .andNot .i64 f g ∧ appE f 2 g = 0 := by
  unfold appV appE; rw [hf, hg]; simp
set_option maxRecDepth 20000 in
set_option maxHeartbeats 1000000 in
theorem apply_any (f m g : Int) (w : World) : Calls Tryd.prog 11 #[.int .i64 f, .int .i64 m, .int .i64 g] w fun e w' => ∃ z d : Int, e = .returned (.tuple #[.int .i64 z, .int .i64 d]) ∧ z = appV f m g ∧ d = appE f m g ∧ w = w' := by
  cases hf : rightB f
  · have HA := Lib.hid (app_no1 (m := m) (g := g) hf)
    go_enter Tryd.func11, Tryd.ntmps11
    go_wp2_with fail
    refine (right_any f w).mono ?_
    rintro e w' ⟨rfl, rfl⟩
    rw [hf]
    go_wp2_with fail
    go_ret2
    exact ⟨_, _, rfl, HA.out.1.symm, HA.out.2.symm, rfl⟩
  · cases hg : rightB g
    · have HA := Lib.hid (app_no2 (f := f) (m := m) hg)
      go_enter Tryd.func11, Tryd.ntmps11
      go_wp2_with fail
      refine (right_any f w).mono ?_
      rintro e w' ⟨rfl, rfl⟩
      rw [hf]
      go_wp2_with fail
      refine (right_any g w).mono ?_
      rintro e w' ⟨rfl, rfl⟩
      rw [hg]
      go_wp2_with fail
      go_ret2
      exact ⟨_, _, rfl, HA.out.1.symm, HA.out.2.symm, rfl⟩
    · rcases (by omega : m = 0 ∨ m = 1 ∨ m = 2 ∨ ¬ (0 ≤ m ∧ m ≤ 2)) with rfl | rfl | rfl | hm
      · have HA := Lib.hid (app_0 hf hg)
        go_enter Tryd.func11, Tryd.ntmps11
        go_wp2_with fail
        refine (right_any f w).mono ?_
        rintro e w' ⟨rfl, rfl⟩
        rw [hf]
        go_wp2_with fail
        refine (right_any g w).mono ?_
        rintro e w' ⟨rfl, rfl⟩
        rw [hg]
        go_wp2_with fail
        go_ret2
        exact ⟨_, _, rfl, HA.out.1.symm, HA.out.2.symm, rfl⟩
      · have HA := Lib.hid (app_1 hf hg)
        go_enter Tryd.func11, Tryd.ntmps11
        go_wp2_with fail
        refine (right_any f w).mono ?_
        rintro e w' ⟨rfl, rfl⟩
        rw [hf]
        go_wp2_with fail
        refine (right_any g w).mono ?_
        rintro e w' ⟨rfl, rfl⟩
        rw [hg]
        go_wp2_with fail
        go_ret2
        exact ⟨_, _, rfl, HA.out.1.symm, HA.out.2.symm, rfl⟩
      · have HA := Lib.hid (app_2 hf hg)
        go_enter Tryd.func11, Tryd.ntmps11
        go_wp2_with fail
        refine (right_any f w).mono ?_
        rintro e w' ⟨rfl, rfl⟩
        rw [hf]
        go_wp2_with fail
        refine (right_any g w).mono ?_
        rintro e w' ⟨rfl, rfl⟩
        rw [hg]
        go_wp2_with fail
        go_ret2
        exact ⟨_, _, rfl, HA.out.1.symm, HA.out.2.symm, rfl⟩
      · have HA := Lib.hid (app_mode hf hg hm)
        have f0 : (m == 0) = false := by simp; omega
        have f1 : (m == 1) = false := by simp; omega
        have f2 : (m == 2) = false := by simp; omega
        go_enter Tryd.func11, Tryd.ntmps11
        go_wp2_with fail
        refine (right_any f w).mono ?_
        rintro e w' ⟨rfl, rfl⟩
        rw [hf]
        go_wp2_with fail
        refine (right_any g w).mono ?_
        rintro e w' ⟨rfl, rfl⟩
        rw [hg]
        go_wp2_with fail
        go_ret2
        exact ⟨_, _, rfl, HA.out.1.symm, HA.out.2.symm, rfl⟩

theorem parV_of {l : List (List Nat)} {a : Nat} (h : parUp l 0 = some a) : parV l = a ∧ parE l = 0 := by
  unfold parV parE parN; rw [h]; exact ⟨rfl, rfl⟩
theorem parV_no {l : List (List Nat)} (h : parUp l 0 = none) : parV l = 0 ∧ parE l = 3 := by
  unfold parV parE parN; rw [h]; exact ⟨rfl, rfl⟩
theorem par_stop {l : List (List Nat)} {k a : Nat} {x : List Nat} (h : parUp (l.take k) 0 = some a) (hk : l[k]? = some x) (hx : oneN x = 0) : parUp l 0 = none := by
  have e : l = (l.take k ++ [x]) ++ l.drop (k + 1) := by
    have h2 := take_snoc_l l k x hk
    rw [← h2, List.take_append_drop]
  rw [e]
  refine parUp_none ?_
  rw [parUp_snoc h, if_pos hx]
theorem par_go {l : List (List Nat)} {k a : Nat} {x : List Nat} (h : parUp (l.take k) 0 = some a) (hk : l[k]? = some x) (hx : oneN x ≠ 0) : parUp (l.take (k + 1)) 0 = some (a ||| oneN x) := by
  rw [take_snoc_l l k x hk, parUp_snoc h, if_neg hx]

set_option maxRecDepth 20000 in
set_option maxHeartbeats 4000000 in
theorem parse_any (A : Option Addr) (n c : Nat) (l : List ByteArray) (w : World) (hA : All w) (hC : Col Value.string w w.heap.size A n l) (hz : ∀ z ∈ l, z.size ≤ 140737488355328) (hn : n ≤ 140737488355328) :
    Calls Tryd.prog 9 #[.slice A n c] w fun e w' => ∃ z d : Int, e = .returned (.tuple #[.int .i64 z, .int .i64 d]) ∧ z = (parV (l.map nats) : Nat) ∧ d = parE (l.map nats) ∧ Below w.heap.size w w' := by
  have HA := Lib.hid hA
  have HC := Lib.hid hC
  have HZ := Lib.hid hz
  have HL : Hid (l.length = n) := Lib.hid hC.1
  clear hA hC hz
  go_enter Tryd.func9, Tryd.ntmps9
  go_wp2_with fail
  go_loopw [4, 11] (fun x i wx => ∃ k a : Nat, k ≤ n ∧ i = .int .i64 (k : Int) ∧ x = .int .i64 (a : Int) ∧ a < 32 ∧ parUp ((l.map nats).take k) 0 = some a ∧ Below w.heap.size w wx) (fun x i _ => n - (intOf i).toNat)
  case atStart => exact ⟨0, 0, Nat.zero_le _, rfl, rfl, by omega, rfl, Below.refl _ _⟩
  case round =>
    obtain ⟨k, a, hk, rfl, rfl, ha, hp, hb⟩ := hrel
    have HB := Lib.hid hb
    have HP := Lib.hid hp
    have hAr := HA.out.below hb
    have hCr := (HC.out.below hb (Nat.le_refl _))
    clear hb hp
    by_cases hlt : k < n
    · obtain ⟨b, o, s, rfl, hbb, hs, _, hcell⟩ := hCr.at_ hlt
      have hsz := HZ.out s (List.mem_of_getElem? hs)
      have HS : Hid ((l.map nats)[k]? = some (nats s)) := Lib.hid (by rw [List.getElem?_map, hs]; rfl)
      clear hCr hs
      go_wp2_with fail
      refine (one_any s hsz wr hAr).mono ?_
      rintro e w' ⟨z, d, rfl, hz, hd, hb2⟩
      have HB2 := Lib.hid (HB.out.trans (hb2.mono HB.out.size))
      have ho := oneN_le (nats s)
      cases Nat.eq_zero_or_pos (oneN (nats s)) with
      | inl h0 =>
        have HN := Lib.hid (parV_no (par_stop HP.out HS.out h0))
        rw [h0] at hz hd
        subst hz hd
        clear hb2
        go_wp2_with fail
        go_ret2
        exact ⟨_, _, rfl, by rw [HN.out.1]; rfl, by rw [HN.out.2]; rfl, HB2.out⟩
      | inr h1 =>
        have HN := Lib.hid (par_go HP.out HS.out (by omega))
        obtain ⟨y, hy⟩ : ∃ y, oneN (nats s) = y := ⟨_, rfl⟩
        rw [hy] at hz hd ho h1 HN
        have hd0 : d = 0 := by rw [hd]; unfold oneE; rw [if_neg (by omega)]
        have hor := bits_or32 a ha y (by omega)
        have hlt2 := or_lt32 ha (show y < 32 by omega)
        subst hd0 hz
        clear hb2 hy hd
        go_wp2_with fail
        go_roundw
        case rel => exact ⟨k + 1, a ||| y, by omega, by go_num, by first | rfl | rw [hor], hlt2, HN.out, HB2.out⟩
        case measure => simp [intOf]; omega
    · have HN := Lib.hid (parV_of (l := l.map nats) (a := a) (by have := HP.out; rwa [List.take_of_length_le (by rw [List.length_map, HL.out]; omega)] at this))
      go_wp2_with fail
      go_ret2
      exact ⟨_, _, rfl, by rw [HN.out.1], by rw [HN.out.2], HB.out⟩
end Go.Proofs.YtloghgfcgkfefaaDoor
