/-
  Contracts over package name: is a name like a pattern; the laws' fixed fact.
-/
import Derived.Test.YtbegklhbhafmeaaDoorQNameC
import Derived.Test.YtbegklhbhafmeaaDoorQNameMore
namespace Go.Proofs.YtbegklhbhafmeaaDoor
set_option linter.unusedVariables false
set_option linter.unusedSimpArgs false
open Go.RowKit
set_option linter.unusedVariables false
set_option linter.unusedSimpArgs false

/-- is a name like a pattern, and are they one? -/
def lkB (p s : List Nat) : Bool := patB p && (rightN s && likeF p s)
set_option maxRecDepth 20000 in
set_option maxHeartbeats 4000000 in
theorem nmLike_any (p s : ByteArray) (hp : p.size ≤ 140737488355328) (hs : s.size ≤ 140737488355328) (w : World) : Calls Tryd.prog 19 #[.string p, .string s] w fun e w' => e = .returned (.bool (lkB (nats p) (nats s))) ∧ Below w.heap.size w w' := by
  unfold lkB
  have CP : Hid (∀ W, Calls Tryd.prog 26 #[.string p] W fun e w' => e = .returned (.bool (patB (nats p))) ∧ W = w') := Lib.hid fun W => nmisPattern_any p hp W
  have CR : Hid (∀ W, Calls Tryd.prog 10 #[.string s] W fun e w' => e = .returned (.bool (rightN (nats s))) ∧ Below W.heap.size W w') := Lib.hid fun W => nmRight_any s hs W
  cases h1 : patB (nats p)
  · rw [h1] at CP
    clear h1
    go_enter Tryd.func19, Tryd.ntmps19
    go_wp2_with fail
    refine (CP.out _).mono ?_
    rintro e w' ⟨rfl, rfl⟩
    go_wp2_with fail
    go_ret
    exact ⟨rfl, Below.refl _ _⟩
  · cases h2 : rightN (nats s)
    · rw [h1] at CP
      rw [h2] at CR
      clear h1 h2
      go_enter Tryd.func19, Tryd.ntmps19
      go_wp2_with fail
      refine (CP.out _).mono ?_
      rintro e w' ⟨rfl, rfl⟩
      go_wp2_with fail
      refine (CR.out _).mono ?_
      rintro e w2 ⟨rfl, hb⟩
      go_wp2_with fail
      go_ret
      exact ⟨rfl, hb⟩
    · have k1 : p.size ≤ 80 := by have := (of_decide_eq_true h1).1; rw [nats_length] at this; omega
      have k2 : s.size ≤ 40 := by have := (of_decide_eq_true (of_decide_eq_true h2).1).2.1; rw [nats_length] at this; omega
      rw [h1] at CP
      rw [h2] at CR
      clear h1 h2
      obtain ⟨b, hb⟩ : ∃ b, likeF (nats p) (nats s) = b := ⟨_, rfl⟩
      have CT : Hid (∀ W, Calls Tryd.prog 28 #[.string p, .string s] W fun e w' => e = .returned (.bool b) ∧ Below W.heap.size W w') := Lib.hid fun W => by rw [← hb]; exact nmmatches_any p s k1 k2 W
      rw [hb]
      clear hb
      go_enter Tryd.func19, Tryd.ntmps19
      go_wp2_with fail
      refine (CP.out _).mono ?_
      rintro e w' ⟨rfl, rfl⟩
      go_wp2_with fail
      refine (CR.out _).mono ?_
      rintro e w2 ⟨rfl, hb2⟩
      have HB2 := Lib.hid hb2
      clear hb2
      go_wp2_with fail
      refine (CT.out _).mono ?_
      rintro e w3 ⟨rfl, hb3⟩
      have HB3 := Lib.hid (HB2.out.trans (hb3.mono HB2.out.size))
      clear hb3
      go_wp2_with fail
      go_ret
      exact ⟨by cases b <;> rfl, HB3.out⟩

set_option maxRecDepth 20000 in
set_option maxHeartbeats 4000000 in
theorem alive10_any (w : World) : Calls Tryd.prog 7 #[] w fun e w' => e = .returned (.bool true) ∧ Below w.heap.size w w' := by
  have c1 : Hid (∀ W, Calls Tryd.prog 8 #[.string ⟨#[105, 110, 66, 111, 120, 47, 97]⟩] W fun e w' => e = .returned (.tuple #[.string ⟨#[73, 78, 66, 79, 88, 47, 97]⟩, .int .i64 0]) ∧ Below W.heap.size W w') := Lib.hid fun W => by
    have := nmClean_any ⟨#[105, 110, 66, 111, 120, 47, 97]⟩ (by decide) W
    rw [show strOf (cleanV (nats ⟨#[105, 110, 66, 111, 120, 47, 97]⟩)) = ⟨#[73, 78, 66, 79, 88, 47, 97]⟩ by decide +kernel, show cleanE (nats ⟨#[105, 110, 66, 111, 120, 47, 97]⟩) = 0 by decide +kernel] at this
    exact this
  have lk : ∀ (a b : ByteArray) (v : Bool), a.size ≤ 100 → b.size ≤ 100 → lkB (nats a) (nats b) = v → Hid (∀ W, Calls Tryd.prog 19 #[.string a, .string b] W fun e w' => e = .returned (.bool v) ∧ Below W.heap.size W w') := fun a b v ha hb h => Lib.hid fun W => h ▸ nmLike_any a b (by omega) (by omega) W
  have c2 := lk ⟨#[97, 47, 37]⟩ ⟨#[97, 47, 98]⟩ true (by decide) (by decide) (by decide +kernel)
  have c3 := lk ⟨#[97, 47, 37]⟩ ⟨#[97, 47, 98, 47, 99]⟩ false (by decide) (by decide) (by decide +kernel)
  have c4 := lk ⟨#[42, 99]⟩ ⟨#[97, 47, 98, 47, 99]⟩ true (by decide) (by decide) (by decide +kernel)
  have c5 : Hid (∀ W, Calls Tryd.prog 15 #[.string ⟨#[97, 47, 98, 47, 99]⟩, .string ⟨#[97, 47, 98]⟩] W fun e w' => e = .returned (.bool true) ∧ Below W.heap.size W w') := Lib.hid fun W => by
    have := nmBelow_any ⟨#[97, 47, 98, 47, 99]⟩ ⟨#[97, 47, 98]⟩ (by decide) W
    rwa [show belowN (nats ⟨#[97, 47, 98, 47, 99]⟩) (nats ⟨#[97, 47, 98]⟩) = true by decide +kernel] at this
  have c6 : Hid (∀ W, Calls Tryd.prog 10 #[.string ⟨#[97, 47, 47, 98]⟩] W fun e w' => e = .returned (.bool false) ∧ Below W.heap.size W w') := Lib.hid fun W => by
    have := nmRight_any ⟨#[97, 47, 47, 98]⟩ (by decide) W
    rwa [show rightN (nats ⟨#[97, 47, 47, 98]⟩) = false by decide +kernel] at this
  clear lk
  go_enter Tryd.func7, Tryd.ntmps7
  go_wp2_with fail
  refine (c1.out _).mono ?_
  rintro e w1 ⟨rfl, h1⟩
  have H1 := Lib.hid h1
  clear h1 c1
  go_wp2_with fail
  refine (c2.out _).mono ?_
  rintro e w2 ⟨rfl, h2⟩
  have H2 := Lib.hid (H1.out.trans (h2.mono H1.out.size))
  clear h2 c2 H1
  go_wp2_with fail
  refine (c3.out _).mono ?_
  rintro e w3 ⟨rfl, h3⟩
  have H3 := Lib.hid (H2.out.trans (h3.mono H2.out.size))
  clear h3 c3 H2
  go_wp2_with fail
  refine (c4.out _).mono ?_
  rintro e w4 ⟨rfl, h4⟩
  have H4 := Lib.hid (H3.out.trans (h4.mono H3.out.size))
  clear h4 c4 H3
  go_wp2_with fail
  refine (c5.out _).mono ?_
  rintro e w5 ⟨rfl, h5⟩
  have H5 := Lib.hid (H4.out.trans (h5.mono H4.out.size))
  clear h5 c5 H4
  go_wp2_with fail
  refine (c6.out _).mono ?_
  rintro e w6 ⟨rfl, h6⟩
  have H6 := Lib.hid (H5.out.trans (h6.mono H5.out.size))
  clear h6 c6 H5
  go_wp2_with fail
  go_ret
  exact ⟨rfl, H6.out⟩
end Go.Proofs.YtbegklhbhafmeaaDoor
