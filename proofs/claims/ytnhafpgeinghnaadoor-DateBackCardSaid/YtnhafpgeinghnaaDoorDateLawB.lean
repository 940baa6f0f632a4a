/-
  The law DateBack of package date, as a walk.
-/
import Derived.Test.YtnhafpgeinghnaaDoorDateAlive
import Derived.Test.YtnhafpgeinghnaaDoorDateBackM
namespace Go.Proofs.YtnhafpgeinghnaaDoor
open Go.RowKit
set_option linter.unusedVariables false
set_option linter.unusedSimpArgs false

/-- how two dates stand to one another -/
theorem lex_cases {y m d y' m' d' : Nat} (h : thereB y m d = true) (h' : thereB y' m' d' = true) :
    (y < y' ∧ dayN y m d < dayN y' m' d') ∨ (y' < y ∧ ¬ dayN y m d < dayN y' m' d') ∨
    (y = y' ∧ m < m' ∧ dayN y m d < dayN y' m' d') ∨ (y = y' ∧ m' < m ∧ ¬ dayN y m d < dayN y' m' d') ∨
    (y = y' ∧ m = m' ∧ d < d' ∧ dayN y m d < dayN y' m' d') ∨ (y = y' ∧ m = m' ∧ d' ≤ d ∧ ¬ dayN y m d < dayN y' m' d') := by
  have e := earlier_iff h h'
  unfold earlier at e
  rcases Nat.lt_trichotomy y y' with a | a | a
  · exact .inl ⟨a, e.1 (.inl a)⟩
  · rcases Nat.lt_trichotomy m m' with b | b | b
    · exact .inr (.inr (.inl ⟨a, b, e.1 (.inr ⟨a, .inl b⟩)⟩))
    · by_cases c : d < d'
      · exact .inr (.inr (.inr (.inr (.inl ⟨a, b, c, e.1 (.inr ⟨a, .inr ⟨b, c⟩⟩)⟩))))
      · exact .inr (.inr (.inr (.inr (.inr ⟨a, b, by omega, fun x => by have := e.2 x; omega⟩))))
    · exact .inr (.inr (.inr (.inl ⟨a, b, fun x => by have := e.2 x; omega⟩)))
  · exact .inr (.inl ⟨a, fun x => by have := e.2 x; omega⟩)

set_option maxRecDepth 100000 in
set_option maxHeartbeats 8000000 in
theorem dateBack_walk (t0 u0 : Int) (w : World) (hM : Mon w) (hT : Tens w) :
    Calls Tryd.prog 5 #[.int .i64 t0, .int .i64 u0] w fun e w' => e = .returned (.bool true) ∧ Below w.heap.size w w' := by
  obtain ⟨t, htb, ht⟩ := mask37 t0
  obtain ⟨u, hub, hu⟩ := mask37 u0
  have HM := Lib.hid hM
  have HT := Lib.hid hT
  clear hM hT
  go_enter Tryd.func5, Tryd.ntmps5
  go_wp2_with fail
  refine (alive07_any _ HM.out HT.out).mono ?_
  rintro e w1 ⟨rfl, hb1⟩
  have HM1 := Lib.hid (HM.out.below hb1)
  have HT1 := Lib.hid (HT.out.below hb1)
  have HB1 := Lib.hid hb1
  clear hb1
  go_wp2_with fail
  clear ht hu
  by_cases hmax : t ≤ 253402300799
  · obtain ⟨y, m, d, h, mi, s, h1, h2, h3, h4, h5, h6, h7, h8⟩ := time_ex t hmax
    obtain ⟨g1, g2, g3, g4⟩ := there_iff.1 h3
    have hmb := mDays_bd y m
    have hbd := dayN_bd h3 h2
    refine (print_any y m d h mi s t h1 h2 h3 h4 h5 h6 h7 w1 HM1.out HT1.out).mono ?_
    rintro e w2 ⟨rfl, hb2⟩
    have HM2 := Lib.hid (HM1.out.below hb2)
    have HB2 := Lib.hid (HB1.out.trans (hb2.mono HB1.out.size))
    have hlt : ∀ x ∈ printL y m d h mi s, x < 256 := dtxL_lt (by omega) (by omega) (by omega) (by omega) (by omega) (monS_lt m) (by decide)
    have HNP := Lib.hid (nats_strOf _ hlt)
    have HPP := Lib.hid (parse_print h3 h1 h2 h4 h5 h6)
    have hsz : (strOf (printL y m d h mi s)).size ≤ 4294967280 := by
      rw [strOf_size, print_text, (text_parts y d h mi s (monS m) [43, 48, 48, 48, 48] (monS_len g1 g2) rfl).1]; omega
    have cp := parse_any (strOf (printL y m d h mi s)) hsz w2 HM2.out
    rw [HNP.out, HPP.out, ← h7] at cp
    obtain ⟨n, hn⟩ : ∃ n, dayN y m d = n := ⟨_, rfl⟩
    have cd := fun W => day_any (t : Int) (by omega) W
    rw [h8, hn] at cd
    have cc := fun W (hW : Mon W) => civil_any y m d n h1 h2 h3 hn.symm W hW
    have cn := fun W (hW : Mon W) => dNumber_any y m d W hW
    rw [numberZ_yes h1 h2 h3, hn] at cn
    rw [hn] at hbd
    have HTH := Lib.hid h3
    have HN := Lib.hid hn
    clear hb2 hlt hsz hn h3 h7 h8
    go_wp2_with fail
    refine cp.mono ?_
    rintro e w3 ⟨rfl, hb3⟩
    show _
    unfold resP
    have HM3 := Lib.hid (HM2.out.below hb3)
    have HB3 := Lib.hid (HB2.out.trans (hb3.mono HB2.out.size))
    have c1 := cd w3
    have c2 := cc w3 HM3.out
    have c3 := cn w3 HM3.out
    clear cp cd cc cn hb3
    by_cases humax : u ≤ 253402300799
    · obtain ⟨y', m', d', h', mi', s', k1, k2, k3, k4, k5, k6, k7, k8⟩ := time_ex u humax
      have cu := day_any (u : Int) (by omega) w3
      have cv := civil_any y' m' d' (dayN y' m' d') k1 k2 k3 rfl w3 HM3.out
      have hlex := lex_cases HTH.out k3
      rw [k8] at cu
      rw [HN.out] at hlex
      obtain ⟨n', hn'⟩ : ∃ n, dayN y' m' d' = n := ⟨_, rfl⟩
      rw [hn'] at cu cv hlex
      clear k3 k7 k8 hn'
      rcases hlex with ⟨q1, q2⟩ | ⟨q1, q2⟩ | ⟨rfl, q1, q2⟩ | ⟨rfl, q1, q2⟩ | ⟨rfl, rfl, q1, q2⟩ | ⟨rfl, rfl, q1, q2⟩
      all_goals
        go_wp2_with (first
          | (go_at_call 16; with_reducible refine c1.mono ?_; rintro e w' ⟨rfl, rfl⟩)
          | (go_at_call 16; with_reducible refine cu.mono ?_; rintro e w' ⟨rfl, rfl⟩)
          | (go_at_call 18; with_reducible refine c2.mono ?_; rintro e w' ⟨rfl, rfl⟩)
          | (go_at_call 18; with_reducible refine cv.mono ?_; rintro e w' ⟨rfl, rfl⟩)
          | (go_at_call 20; with_reducible refine c3.mono ?_; rintro e w' ⟨rfl, rfl⟩))
        go_ret
        refine ⟨?_, HB3.out⟩
        first | rfl | (simp; done) | (simp; omega)
    · go_wp2_with (first
        | (go_at_call 16; with_reducible refine c1.mono ?_; rintro e w' ⟨rfl, rfl⟩)
        | (go_at_call 18; with_reducible refine c2.mono ?_; rintro e w' ⟨rfl, rfl⟩)
        | (go_at_call 20; with_reducible refine c3.mono ?_; rintro e w' ⟨rfl, rfl⟩))
      all_goals (go_ret; exact ⟨rfl, HB3.out⟩)
  · refine (print_no t (.inr (by omega)) w1).mono ?_
    rintro e w' ⟨rfl, rfl⟩
    go_wp2_with fail
    go_ret
    refine ⟨?_, HB1.out⟩
    first | rfl | (simp; done) | (simp; omega)
end Go.Proofs.YtnhafpgeinghnaaDoor
