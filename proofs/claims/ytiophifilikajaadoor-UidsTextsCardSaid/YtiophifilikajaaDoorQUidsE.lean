/-
  Contracts over package uids: cutting at a colon; an end, a range, read.
-/
import Derived.Test.YtiophifilikajaaDoorQUidsD
import Derived.Deep.QuietTactic
namespace Go.Proofs.YtiophifilikajaaDoor
set_option linter.unusedVariables false
set_option linter.unusedSimpArgs false
open Go.RowKit
set_option linter.unusedVariables false
set_option linter.unusedSimpArgs false

set_option maxHeartbeats 1000000 in
theorem slCut_any (s : ByteArray) (hs : s.size ≤ 140737488355328) (w : World) : Calls Tryd.prog 48 #[.string s, .string ⟨#[58]⟩] w fun e w' =>
    ∃ p q b, e = .returned (.tuple #[.string p, .string q, .bool b]) ∧ ((b = false ∧ p = s ∧ ∀ x ∈ nats s, x ≠ 58) ∨ (b = true ∧ nats s = nats p ++ 58 :: nats q ∧ ∀ x ∈ nats p, x ≠ 58)) ∧ ∃ n, w' = w.drewN n := by
  have CI := Lib.hid (slIndex_any s 58 w)
  rcases indexB_cut s 58 with ⟨h1, h2⟩ | ⟨i, h1, h2, h3, h4⟩
  · have H1 := Lib.hid h1
    have H2 := Lib.hid h2
    clear h1 h2
    go_enter Tryd.func48, Tryd.ntmps48
    go_wp2_with fail
    refine CI.out.mono ?_
    rintro e w' ⟨rfl, rfl⟩
    rw [H2.out]
    go_wp2_with fail
    go_ret3
    exact ⟨_, _, _, rfl, .inl ⟨rfl, rfl, H1.out⟩, 0, rfl⟩
  · have H1 := Lib.hid h1
    have H3 := Lib.hid h3
    have H4 := Lib.hid h4
    have c1 : (0 : Int) ≤ (i : Int) := by omega
    have c2 : (i : Int) ≤ (s.size : Int) := by omega
    have c3 : (0 : Int) ≤ (i : Int) + 1 := by omega
    have c4 : (i : Int) + 1 ≤ (s.size : Int) := by omega
    have c5 : IntKind.i64.wrap ((i : Int) + 1) = (i : Int) + 1 := IntWalk.i64_in _ (by omega)
    have c6 : ((i : Int) + 1).toNat = i + 1 := by omega
    have HP : Hid (nats (s.extract 0 i) = (nats s).take i) := Lib.hid (by rw [nats_extract]; simp)
    have HQ : Hid (nats (s.extract (i + 1) s.size) = (nats s).drop (i + 1)) := Lib.hid (by rw [nats_extract, List.take_of_length_le]; rw [List.length_drop, nats_length]; exact Nat.le_refl _)
    clear h1 h3 h4
    go_enter Tryd.func48, Tryd.ntmps48
    go_wp2_with fail
    refine CI.out.mono ?_
    rintro e w' ⟨rfl, rfl⟩
    rw [H1.out]
    go_wp2_with fail
    go_quiet (fail)
    go_wp2_with fail
    go_ret3
    exact ⟨_, _, _, rfl, .inr ⟨rfl, by rw [HP.out, HQ.out]; exact H4.out, by rw [HP.out]; exact H3.out⟩, _, rfl⟩
theorem sCut_any (s : ByteArray) (hs : s.size ≤ 140737488355328) (w : World) : Calls Tryd.prog 34 #[.string s, .string ⟨#[58]⟩] w fun e w' =>
    ∃ p q b, e = .returned (.tuple #[.string p, .string q, .bool b]) ∧ ((b = false ∧ p = s ∧ ∀ x ∈ nats s, x ≠ 58) ∨ (b = true ∧ nats s = nats p ++ 58 :: nats q ∧ ∀ x ∈ nats p, x ≠ 58)) ∧ ∃ n, w' = w.drewN n := by
  have CI := Lib.hid (slCut_any s hs w)
  go_enter Tryd.func34, Tryd.ntmps34
  go_wp2_with fail
  refine CI.out.mono ?_
  rintro e w' ⟨p, q, b, rfl, h, n, rfl⟩
  have H := Lib.hid h
  clear h CI
  go_wp2_with fail
  go_ret3
  exact ⟨_, _, _, rfl, H.out, n, rfl⟩

/-- what is told of an end's text: its number, and whether it is one -/
def EndIs (l : List Nat) (z : Int) (b : Bool) : Prop := b = (numberN l).isSome ∧ ∀ v, numberN l = some v → z = v
theorem endIs_star : EndIs [42] 0 true := ⟨rfl, fun v h => by cases h; rfl⟩
theorem numberN_of {l : List Nat} (h : l ≠ [42]) : numberN l = if numOkB l = true then some ((uVal l : Nat) : Int) else none := by unfold numberN; rw [if_neg h]
theorem endIs_yes {l : List Nat} (h : l ≠ [42]) (hd : dgsB l = true) (h0 : l.head? ≠ some 48) : EndIs l (uVal l : Nat) true := by
  have e : numberN l = some ((uVal l : Nat) : Int) := by rw [numberN_of h, numOkB_eq, hd, decide_eq_true h0]; rfl
  exact ⟨by rw [e]; rfl, fun v h => by rw [e] at h; exact Option.some.inj h⟩
theorem endIs_zero {l : List Nat} (h : l ≠ [42]) (h0 : l.head? = some 48) (z : Int) : EndIs l z false := by
  have e : numberN l = none := by rw [numberN_of h, numOkB_eq, decide_eq_false (fun e => e h0), Bool.and_false]; rfl
  exact ⟨by rw [e]; rfl, fun v h => by rw [e] at h; cases h⟩
theorem endIs_no {l : List Nat} (h : l ≠ [42]) (hd : dgsB l = false) (z : Int) : EndIs l z false := by
  have e : numberN l = none := by rw [numberN_of h, numOkB_eq, hd]; rfl
  exact ⟨by rw [e]; rfl, fun v h => by rw [e] at h; cases h⟩
theorem dgsB_ne {s : ByteArray} (h : dgsB (nats s) = true) : 0 < s.size := by
  have := (of_decide_eq_true h).1
  rw [← nats_length]
  exact List.length_pos_iff.2 this
theorem uVal_le {l : List Nat} (h : dgsB l = true) : uVal l ≤ 4294967295 := (of_decide_eq_true h).2.2
theorem err_methods : Tryd.prog.underlying 67 = some (.interface (Tryd.prog.methodsAt 67)) := by kernel_rfl

set_option maxHeartbeats 2000000 in
theorem ureadEnd_any (s : ByteArray) (hs : s.size ≤ 140737488355328) (w : World) (hS : Std w) :
    Calls Tryd.prog 35 #[.string s] w fun e w' => ∃ z b, e = .returned (.tuple #[.int .i64 z, .bool b]) ∧ EndIs (nats s) z b ∧ Below w.heap.size w w' := by
  by_cases h42 : nats s = [42]
  · obtain rfl : s = ⟨#[42]⟩ := by rw [← strOf_nats s, h42]; rfl
    have HE : Hid (EndIs (nats ⟨#[42]⟩) 0 true) := Lib.hid (by rw [h42]; exact endIs_star)
    clear h42
    go_enter Tryd.func35, Tryd.ntmps35
    go_wp2_with fail
    go_ret2
    exact ⟨_, _, rfl, HE.out, Below.refl _ _⟩
  · have hne : (s.toList == [42]) = false := by
      have := (strOf_one s [42] (by decide)).trans (decide_eq_false h42)
      rwa [show (strOf [42]).toList = [42] by rw [ByteArray.toList_eq]; rfl] at this
    have e1 : ∀ W, (binOp .eql 67 .nilIface .nilIface).run Tryd.prog W = .ok (.bool true) W := fun W => run_eql_nil_nil W 67 err_methods
    have e2 : ∀ t p W, (binOp .eql 67 (.iface t p) .nilIface).run Tryd.prog W = .ok (.bool false) W := fun t p W => run_eql_held_nil W 67 t p err_methods
    have H42 := Lib.hid h42
    clear h42
    cases hd : dgsB (nats s)
    · have CP := Lib.hid (pu_no s hs hd w hS)
      have HD := Lib.hid hd
      clear hd hS
      go_enter Tryd.func35, Tryd.ntmps35
      go_wp2_with fail
      refine CP.out.mono ?_
      rintro e w' ⟨z, t, p, rfl, hz, hb⟩
      have HB := Lib.hid hb
      have hz' : (z : Int) ≤ 4294967295 := by omega
      have hwz : IntKind.i64.wrap (z : Int) = (z : Int) := IntWalk.i64_in _ (by omega)
      have e3 := fun W => e2 t p W
      clear hb e1 e2 CP hz
      go_wp2_with fail
      go_quiet (fail)
      go_wp2_with fail
      go_ret2
      exact ⟨_, _, rfl, endIs_no H42.out HD.out _, below_drewN HB.out _⟩
    · have CP := Lib.hid (pu_yes s hs hd w)
      have hs0 : 0 < s.size := dgsB_ne hd
      have hs0' : (0 : Int) < (s.size : Int) := by omega
      have hx := nats_byte s 0 hs0
      have hu := uVal_le hd
      have HD := Lib.hid hd
      obtain ⟨u, hue⟩ : ∃ u, uVal (nats s) = u := ⟨_, rfl⟩
      rw [hue] at CP hu
      have HU := Lib.hid hue
      have hwz : IntKind.i64.wrap (u : Int) = (u : Int) := IntWalk.i64_in _ (by omega)
      clear hd hS e2 hue
      by_cases h48 : s[0].toNat = 48
      · have h0 : ((s[0].toNat : Int) != 48) = false := by rw [h48]; rfl
        have HZ : Hid ((nats s).head? = some 48) := Lib.hid (by rw [List.head?_eq_getElem?, hx, h48])
        clear h48 hx
        go_enter Tryd.func35, Tryd.ntmps35
        go_wp2_with fail
        refine CP.out.mono ?_
        rintro e w' ⟨rfl, hb⟩
        have HB := Lib.hid hb
        clear hb CP
        go_wp2_with fail
        go_quiet (fail)
        go_wp2_with fail
        go_ret2
        exact ⟨_, _, rfl, endIs_zero H42.out HZ.out _, below_drewN HB.out _⟩
      · have h0 : ((s[0].toNat : Int) != 48) = true := by simp; omega
        have HZ : Hid ((nats s).head? ≠ some 48) := Lib.hid (by rw [List.head?_eq_getElem?, hx]; intro e; exact h48 (Option.some.inj e))
        clear h48 hx
        go_enter Tryd.func35, Tryd.ntmps35
        go_wp2_with fail
        refine CP.out.mono ?_
        rintro e w' ⟨rfl, hb⟩
        have HB := Lib.hid hb
        clear hb CP
        go_wp2_with fail
        go_quiet (fail)
        go_wp2_with fail
        go_ret2
        exact ⟨_, _, rfl, by rw [← HU.out]; exact endIs_yes H42.out HD.out HZ.out, below_drewN HB.out _⟩
end Go.Proofs.YtiophifilikajaaDoor

/-
  Contracts over package uids: a range, read.
-/
namespace Go.Proofs.YtiophifilikajaaDoor
set_option linter.unusedVariables false
set_option linter.unusedSimpArgs false
open Go.RowKit
set_option linter.unusedVariables false
set_option linter.unusedSimpArgs false

/-- what is told of a range's text -/
def RgIs (l : List Nat) (x y : Int) (b : Bool) : Prop := b = (rangeO l).isSome ∧ ∀ r, rangeO l = some r → r = (x, y)
theorem rgIs_one {l : List Nat} {z : Int} {b : Bool} (h : ∀ x ∈ l, x ≠ 58) (he : EndIs l z b) : RgIs l z z b := by
  unfold RgIs
  rw [rangeO_one h, he.1]
  cases hn : numberN l with
  | none => exact ⟨rfl, fun r hr => by cases hr⟩
  | some v => exact ⟨rfl, fun r hr => by rw [he.2 v hn, ← Option.some.inj hr]⟩
theorem rgIs_two {p q : List Nat} {x y : Int} {b1 b2 : Bool} (h : ∀ x ∈ p, x ≠ 58) (h1 : EndIs p x b1) (h2 : EndIs q y b2) : RgIs (p ++ 58 :: q) x y (b1 && b2 && decide (x ≠ y)) := by
  unfold RgIs
  rw [rangeO_cut h, h1.1, h2.1]
  cases hp : numberN p with
  | none => exact ⟨rfl, fun r hr => by cases hr⟩
  | some u =>
    cases hq : numberN q with
    | none => exact ⟨rfl, fun r hr => by cases hr⟩
    | some v =>
      rw [h1.2 u hp, h2.2 v hq]
      by_cases e : u = v
      · simp [e]
      · refine ⟨by simp [e], fun r hr => ?_⟩
        simp only [if_neg e] at hr
        exact (Option.some.inj hr).symm
theorem bcellU {W w1 : World} (hb : Below W.heap.size W w1) : (∀ b o, b < W.heap.size → w1.cell? ⟨b, o, none⟩ = W.cell? ⟨b, o, none⟩) ∧ (∀ b o, b < W.heap.size → w1.frozen? ⟨b, o, none⟩ = W.frozen? ⟨b, o, none⟩) :=
  ⟨fun b o h => hb.cell (p := ⟨b, o, none⟩) h, fun b o h => hb.frozen (p := ⟨b, o, none⟩) h⟩
/-- a range's own box -/
def RBox (w : World) (B : Nat) : Prop := Bk2 w B
where Bk2 (w : World) (B : Nat) : Prop := w.heap[B]? = some (.cells #[.int .i64 0, .int .i64 0] 43 (0, 0))
theorem RBox.new (w : World) : RBox (w.alloc (.cells #[.int .i64 0, .int .i64 0] 43)) w.heap.size := heap_alloc_new w _
theorem RBox.lt {w : World} {B : Nat} (h : RBox w B) : B < w.heap.size := (Array.getElem?_eq_some_iff.1 (h : w.heap[B]? = _)).1
theorem RBox.below {w w' : World} {B : Nat} (h : RBox w B) (hb : Below w.heap.size w w') : RBox w' B := (hb.block B h.lt).trans h
theorem RBox.cells {w : World} {B : Nat} (h : RBox w B) : w.cell? ⟨B, 0, none⟩ = some (.int .i64 0) ∧ w.cell? ⟨B, 1, none⟩ = some (.int .i64 0) ∧ w.frozen? ⟨B, 0, none⟩ = false ∧ w.frozen? ⟨B, 1, none⟩ = false :=
  ⟨(cell_of_row w B 0 _ _ (0, 0) h).trans rfl, (cell_of_row w B 1 _ _ (0, 0) h).trans rfl, frozen_of_row w B 0 _ _ h, frozen_of_row w B 1 _ _ h⟩

set_option maxRecDepth 20000 in
set_option maxHeartbeats 4000000 in
theorem ureadRange_any (s : ByteArray) (hs : s.size ≤ 140737488355328) (w : World) (hS : Std w) :
    Calls Tryd.prog 25 #[.string s] w fun e w' => ∃ x y b, e = .returned (.tuple #[.agg #[.int .i64 x, .int .i64 y], .bool b]) ∧ RgIs (nats s) x y b ∧ Below w.heap.size w w' := by
  have hb0 : Below w.heap.size w (w.alloc (.cells #[.int .i64 0, .int .i64 0] 43)) := (Below.refl _ _).alloc (Nat.le_refl _) _
  have hS0 := hS.below hb0
  have hR0 := RBox.new w
  go_enter Tryd.func25, Tryd.ntmps25
  go_wp2_with fail
  generalize w.alloc (.cells #[.int .i64 0, .int .i64 0] 43) = W0 at *
  refine (sCut_any s hs W0).mono ?_
  rintro e w' ⟨p, q, b, rfl, h, n, rfl⟩
  have hb1 : Below w.heap.size w (W0.drewN n) := below_drewN hb0 n
  have hS1 := hS0.drewN n
  have hR1 : RBox (W0.drewN n) w.heap.size := hR0
  clear hb0 hS0 hR0 hS
  generalize W0.drewN n = W1 at *
  have hps : p.size ≤ s.size := by
    rcases h with ⟨_, rfl, _⟩ | ⟨_, h, _⟩
    · exact Nat.le_refl _
    · have := congrArg List.length h
      simp only [List.length_append, List.length_cons, nats_length] at this
      omega
  have H := Lib.hid h
  have HB1 := Lib.hid hb1
  have HS1 := Lib.hid hS1
  have HR1 := Lib.hid hR1
  clear h hb1 hS1 hR1
  go_wp2_with fail
  refine (ureadEnd_any p (by omega) W1 HS1.out).mono ?_
  rintro e W2 ⟨x, b1, rfl, he1, hb2⟩
  have HE1 := Lib.hid he1
  have HB2 := Lib.hid (HB1.out.trans (hb2.mono HB1.out.size))
  have HS2 := Lib.hid (HS1.out.below hb2)
  have HR2 := Lib.hid (HR1.out.below hb2)
  clear he1 hb2 HB1 HS1 HR1
  rcases H.out with ⟨rfl, rfl, hno⟩ | ⟨rfl, hcut, hno⟩
  · have HRG := Lib.hid (rgIs_one hno HE1.out)
    obtain ⟨c0, c1, f0, f1⟩ := HR2.out.cells
    clear hno H
    go_wp2_with fail
    refine bodyPost_ret (v := .tuple #[.agg #[.int .i64 x, .int .i64 x], .bool b1]) (by simp [results, Tryd.results25, go_sem, c0, c1, f0, f1]) rfl ⟨_, _, _, rfl, HRG.out, ?_⟩
    exact (HB2.out.setCell (Nat.le_refl _) _).setCell (Nat.le_refl _) _
  · have hqs : q.size ≤ s.size := by
      have := congrArg List.length hcut
      simp only [List.length_append, List.length_cons, nats_length] at this
      omega
    go_wp2_with fail
    refine (ureadEnd_any q (by omega) W2 HS2.out).mono ?_
    rintro e W3 ⟨y, b2, rfl, he2, hb3⟩
    have HB3 := Lib.hid (HB2.out.trans (hb3.mono HB2.out.size))
    have HR3 := Lib.hid (HR2.out.below hb3)
    have HRG : Hid (RgIs (nats s) x y (b1 && b2 && decide (x ≠ y))) := Lib.hid (by rw [hcut]; exact rgIs_two hno HE1.out he2)
    obtain ⟨c0, c1, f0, f1⟩ := HR3.out.cells
    clear hcut hno H he2 hb3 HS2 HB2 HR2 HE1
    cases b1
    · go_wp2_with fail
      refine bodyPost_ret (v := .tuple #[.agg #[.int .i64 x, .int .i64 y], .bool false]) (by simp [results, Tryd.results25, go_sem, c0, c1, f0, f1]) rfl ⟨_, _, _, rfl, HRG.out, ?_⟩
      exact (HB3.out.setCell (Nat.le_refl _) _).setCell (Nat.le_refl _) _
    · cases b2
      · go_wp2_with fail
        refine bodyPost_ret (v := .tuple #[.agg #[.int .i64 x, .int .i64 y], .bool false]) (by simp [results, Tryd.results25, go_sem, c0, c1, f0, f1]) rfl ⟨_, _, _, rfl, HRG.out, ?_⟩
        exact (HB3.out.setCell (Nat.le_refl _) _).setCell (Nat.le_refl _) _
      · by_cases hxy : x = y
        · subst hxy
          have hne : (x != x) = false := by simp
          have HRG2 : Hid (RgIs (nats s) x x false) := Lib.hid (by have := HRG.out; simpa using this)
          go_wp2_with fail
          refine bodyPost_ret (v := .tuple #[.agg #[.int .i64 x, .int .i64 x], .bool false]) (by simp [results, Tryd.results25, go_sem, c0, c1, f0, f1]) rfl ⟨_, _, _, rfl, HRG2.out, ?_⟩
          exact (HB3.out.setCell (Nat.le_refl _) _).setCell (Nat.le_refl _) _
        · have hne : (x != y) = true := by simp; exact hxy
          have HRG2 : Hid (RgIs (nats s) x y true) := Lib.hid (by have := HRG.out; rwa [decide_eq_true hxy] at this)
          clear hxy
          go_wp2_with fail
          refine bodyPost_ret (v := .tuple #[.agg #[.int .i64 x, .int .i64 y], .bool true]) (by simp [results, Tryd.results25, go_sem, c0, c1, f0, f1]) rfl ⟨_, _, _, rfl, HRG2.out, ?_⟩
          exact (HB3.out.setCell (Nat.le_refl _) _).setCell (Nat.le_refl _) _
end Go.Proofs.YtiophifilikajaaDoor
