/-
  The laws PackReads and PackStays as walks: whatever the input, true, and all older memory is as it was.
-/
import Derived.Test.YtnklffmnjalhlaaPackLawsA
import Derived.Deep.RegionHeld3
import Derived.Deep.QuietTactic
import Derived.BigQuiet
namespace Go.Proofs.Ytnklffmnjalhlaa
open Go.RowKit

theorem bel_call {W w4 : World} (h : Below W.drew.heap.size W.drew w4) : Below W.heap.size W w4 := (Below.refl _ _).drew.trans h
theorem bel_drewN {B : Nat} {a w : World} (h : Below B a w) (q : Nat) : Below B a (w.drewN q) := ⟨h.os, h.tape, h.output, h.size, h.block⟩

/-- both readers stand alike -/
def Both (g1 g2 B m : Nat) (w1 : World) (wr : World) : Prop :=
  ∃ l e, RdP wr g1 l e ∧ RdR wr g2 B l e ∧ (∀ x ∈ l, x < 256) ∧ l.length ≤ m ∧ Below B w1 wr
theorem numV_le (l : List Nat) (e : Nat) : numV l e ≤ 4611686018427387904 := by unfold numV; split <;> omega
theorem mod4_cases (x : Nat) : x % 4 = 0 ∨ x % 4 = 1 ∨ x % 4 = 2 ∨ x % 4 = 3 := by omega
theorem RdR.drew {w : World} {g B e : Nat} {l : List Nat} (h : RdR w g B l e) : RdR w.drew g B l e := h
theorem RdP.drew {w : World} {g e : Nat} {l : List Nat} (h : RdP w g l e) : RdP w.drew g l e := h
theorem stood_undrew {w w' : World} {g e : Nat} {l : List Nat} (h : Stood g l e w.drew w') : Stood g l e w w' := ⟨h.1, h.2.os, h.2.tape, h.2.output, h.2.size, h.2.block⟩
theorem stoodR_undrew {w w' : World} {g B e : Nat} {l : List Nat} (h : StoodR g B l e w.drew w') : StoodR g B l e w w' := ⟨h.1, h.2.os, h.2.tape, h.2.output, h.2.size, h.2.block⟩
theorem RdR.drewN {w : World} {g B e : Nat} {l : List Nat} (h : RdR w g B l e) (q : Nat) : RdR (w.drewN q) g B l e := h
theorem RdP.drewN {w : World} {g e : Nat} {l : List Nat} (h : RdP w g l e) (q : Nat) : RdP (w.drewN q) g l e := h

set_option maxRecDepth 20000 in
set_option maxHeartbeats 4000000 in
theorem packReads_walk (A : Option Addr) (n c : Nat) (l : List Nat) (A1 : Option Addr) (n1 c1 : Nat) (hw : List Nat) (w : World)
    (hl : Bytes w w.heap.size A n l) (hnc : n ≤ c) (hcm : c ≤ maxLen) (hn : n ≤ 140737488355328) (hh : Bytes w w.heap.size A1 n1 hw) (hn1 : n1 ≤ 140737488355328) :
    Calls Try.prog 4 #[.slice A n c, .slice A1 n1 c1] w fun e w' => e = .returned (.bool true) ∧ Below w.heap.size w w' := by
  go_enter Try.func4, Try.ntmps4
  go_wp2_with fail
  refine (alive03_any w).mono ?_
  rintro e w1 ⟨rfl, hb1⟩
  have hl1 := hl.later hb1
  have hh1 := hh.later hb1
  clear hl hh
  by_cases h0 : 6000 < n ∨ 200 < n1
  · by_cases ha : 6000 < n
    · have hai : (6000 : Int) < (n : Int) := by omega
      go_wp2
      go_ret
      exact ⟨rfl, hb1⟩
    have hai : ¬ (6000 : Int) < (n : Int) := by omega
    have hbi : (200 : Int) < (n1 : Int) := by omega
    go_wp2
    go_ret
    exact ⟨rfl, hb1⟩
  have hai : ¬ (6000 : Int) < (n : Int) := by omega
  have hbi : ¬ (200 : Int) < (n1 : Int) := by omega
  clear h0
  have HC := hide hcm
  clear hcm
  go_wp2_with fail
  refine (pFrom_any A n c _ l w1 hl1).mono ?_
  rintro e w2 ⟨rfl, hr2, hb2⟩
  have hbox : RdR (w2.alloc (.cells #[.slice A n c, .int .i64 0] 37)) w2.heap.size w1.heap.size l 0 :=
    ⟨A, n, c, heap_alloc_new w2 _, hnc, HC.out, hn, hl1.below (hb2.alloc hb2.size _) (Nat.le_refl _)⟩
  have hp2 : RdP (w2.alloc (.cells #[.slice A n c, .int .i64 0] 37)) w1.heap.size l 0 := hr2.below ((Below.refl w2.heap.size w2).alloc (Nat.le_refl _) _) hr2.lt
  have hb3 := hb2.alloc hb2.size (.cells #[.slice A n c, .int .i64 0] 37)
  have hg12 : w1.heap.size < w2.heap.size := hr2.lt
  go_wp2
  have hbb : Both w1.heap.size w2.heap.size w1.heap.size n w1 (w2.alloc (.cells #[.slice A n c, .int .i64 0] 37)) := ⟨l, 0, hp2, hbox, hl1.2.1, by rw [hl1.1]; exact Nat.le_refl _, hb3⟩
  clear hr2 hb2 hbox hp2 hb3
  generalize w2.alloc (.cells #[.slice A n c, .int .i64 0] 37) = w3 at *
  generalize w2.heap.size = g2 at *
  go_loopw [7] (fun i wr => ∃ k : Nat, k ≤ n1 ∧ i = .int .i64 k ∧ Both w1.heap.size g2 w1.heap.size n w1 wr) (fun i _ => n1 - (intOf i).toNat)
  case atStart => exact ⟨0, Nat.zero_le _, rfl, hbb⟩
  case round =>
    obtain ⟨k, hk, rfl, lr, er, hp, hr, hlt256, hlen, hb⟩ := hrel
    by_cases hlt : k < n1
    · obtain ⟨b, o, rfl, hbl, hc0⟩ := hh1.at_ hlt
      have hc : wr.cell? ⟨b, o + k, none⟩ = some (.int .u8 ((byteAt hw k : Nat) : Int)) := (hb.cell (p := ⟨b, o + k, none⟩) hbl).trans hc0
      have hx := hh1.lt k
      have hbw : b < wr.heap.size := Nat.lt_of_lt_of_le hbl hb.size
      have hg1w := hp.lt
      have hg2w := hr.lt
      clear hc0
      generalize byteAt hw k = x at *
      rcases mod4_cases x with h4 | h4 | h4 | h4
      · have e0 : (((x % 4 : Nat) : Int) == 0) = true := by rw [h4]; rfl
        have e1 : (((x % 4 : Nat) : Int) == 1) = false := by rw [h4]; rfl
        have e2 : (((x % 4 : Nat) : Int) == 2) = false := by rw [h4]; rfl
        go_wp2_with fail
        refine (pNum_any w1.heap.size er lr wr hp (by omega) hlt256).mono ?_
        rintro e w4 ⟨rfl, hs1⟩
        have hr4 := hr.grown hs1.2 (by simp; omega) (fun k hk => by cases hk; exact Nat.le_refl _) hb.size
        go_wp2_with fail
        refine (rNum_any g2 w1.heap.size er lr w4 hr4 (by omega)).mono ?_
        rintro e w5 ⟨rfl, hs2⟩
        have hQ := fun x hx => takeL_lt (e := er) (n := 8) hlt256 x hx
        have hQ2 := Nat.le_trans (takeL_len (l := lr) (e := er) (n := 8)) hlen
        clear hr4
        have hb6 := (hb.grown hs1.2 hb.size (fun k hk => by cases hk; exact Nat.le_refl _))
        have hb7 := hb6.grown hs2.2 hb6.size (fun k hk => by cases hk; omega)
        have hp7 := hs1.1.grown hs2.2 (by simp; omega)
        obtain ⟨A3, n3, c3, _, _, _, _, _, -, he1, -⟩ := hs2.1.open_ (by omega)
        have HR := hide hs2.1
        have HP := hide hp7
        clear hs1 hs2 hp7 hb6 hb hr hp
        go_wp2_with fail
        go_quiet ((go_at_call 22; exact Calls.quiet_of_same ((pErr_any _ _ _ _ (HP.out.drewN _)).mono (fun _ _ h => ⟨h.1, h.2.symm⟩))))
        go_wp2
        go_roundw
        case rel => exact ⟨k + 1, by omega, by go_num, _, _, HP.out.drewN _, HR.out.drewN _, hQ, hQ2, bel_drewN hb7 _⟩
        case measure => simp [intOf]; omega
      · have e0 : (((x % 4 : Nat) : Int) == 0) = false := by rw [h4]; rfl
        have e1 : (((x % 4 : Nat) : Int) == 1) = true := by rw [h4]; rfl
        have e2 : (((x % 4 : Nat) : Int) == 2) = false := by rw [h4]; rfl
        go_wp2_with fail
        refine (pText_any w1.heap.size er lr wr hp (by omega) hlt256).mono ?_
        rintro e w4 ⟨rfl, hs1⟩
        have hr4 := hr.grown hs1.2 (by simp; omega) (fun k hk => by cases hk; exact Nat.le_refl _) hb.size
        go_wp2_with fail
        refine (rText_any g2 w1.heap.size er lr w4 hr4 (by omega) hlt256).mono ?_
        rintro e w5 ⟨rfl, hs2⟩
        have hQ := fun x hx => textL_lt (e := er) hlt256 x hx
        have hQ2 := Nat.le_trans (textL_len (l := lr) (e := er)) hlen
        clear hr4
        have hb6 := (hb.grown hs1.2 hb.size (fun k hk => by cases hk; exact Nat.le_refl _))
        have hb7 := hb6.grown hs2.2 hb6.size (fun k hk => by cases hk; omega)
        have hp7 := hs1.1.grown hs2.2 (by simp; omega)
        obtain ⟨A3, n3, c3, _, _, _, _, _, -, he1, -⟩ := hs2.1.open_ (by omega)
        have HR := hide hs2.1
        have HP := hide hp7
        clear hs1 hs2 hp7 hb6 hb hr hp
        go_wp2_with fail
        go_quiet ((go_at_call 22; exact Calls.quiet_of_same ((pErr_any _ _ _ _ (HP.out.drewN _)).mono (fun _ _ h => ⟨h.1, h.2.symm⟩))))
        go_wp2
        go_roundw
        case rel => exact ⟨k + 1, by omega, by go_num, _, _, HP.out.drewN _, HR.out.drewN _, hQ, hQ2, bel_drewN hb7 _⟩
        case measure => simp [intOf]; omega
      · have e0 : (((x % 4 : Nat) : Int) == 0) = false := by rw [h4]; rfl
        have e1 : (((x % 4 : Nat) : Int) == 1) = false := by rw [h4]; rfl
        have e2 : (((x % 4 : Nat) : Int) == 2) = true := by rw [h4]; rfl
        have hr0 := hr
        have hkI0 : (0 : Int) ≤ (k : Int) := by omega
        have hkI : (k : Int) < (n1 : Int) := by omega
        have hQ := fun x hx => takeL_lt (e := er) (n := 8) hlt256 x hx
        have hQ2 := Nat.le_trans (takeL_len (l := lr) (e := er) (n := 8)) hlen
        have hcq : (((countV lr er (x : Int) : Nat) : Int) != ((countV lr er (x : Int) : Nat) : Int)) = false := by simp
        have hwr : IntKind.i64.wrap (x : Int) = (x : Int) := IntWalk.i64_in _ (by omega)
        go_wp2_with fail
        go_region_held3 (fun W' => W'.cell? ⟨b, o + k, none⟩ = some (.int .u8 (x : Int)))
          (first | exact hc | exact (hb4.cell (p := ⟨b, o + k, none⟩) hbl).trans hc | exact (hb5.cell (p := ⟨b, o + k, none⟩) hbl).trans hc)
          (first
            | (go_at_call 18; refine (pCount_any w1.heap.size er x lr _ (RdP.drew hp) (by omega) hlt256 (by omega)).mono ?_; rintro e w4 ⟨rfl, hs1'⟩; have hs1 := stood_undrew hs1'; clear hs1'; have hr4 := hr0.grown hs1.2 (by simp; omega) (fun k hk => by cases hk; exact Nat.le_refl _) hb.size; have hb4 : Below w1.heap.size wr w4 := (Below.refl _ _).grown hs1.2 hb.size (fun k hk => by cases hk; exact Nat.le_refl _))
            | (go_at_call 19; refine (rCount_any g2 w1.heap.size er x lr _ hr4 (by omega) (by omega)).mono ?_; rintro e w5 ⟨rfl, hs2⟩; have hb5 : Below w1.heap.size wr w5 := hb4.grown hs2.2 (Nat.le_trans hb.size hb4.size) (fun k hk => by cases hk; omega)))
        clear hr0 hr4 hb4 hb5 hwr hcq hkI0 hkI
        have hb6 := (hb.grown hs1.2 hb.size (fun k hk => by cases hk; exact Nat.le_refl _))
        have hb7 := hb6.grown hs2.2 hb6.size (fun k hk => by cases hk; omega)
        have hp7 := hs1.1.grown hs2.2 (by simp; omega)
        obtain ⟨A3, n3, c3, _, _, _, _, _, -, he1, -⟩ := hs2.1.open_ (by omega)
        have HR := hide hs2.1
        have HP := hide hp7
        clear hs1 hs2 hp7 hb6 hb hr hp
        go_wp2_with fail
        go_quiet ((go_at_call 22; exact Calls.quiet_of_same ((pErr_any _ _ _ _ (HP.out.drewN _)).mono (fun _ _ h => ⟨h.1, h.2.symm⟩))))
        go_wp2
        go_roundw
        case rel => exact ⟨k + 1, by omega, by go_num, _, _, HP.out.drewN _, HR.out.drewN _, hQ, hQ2, bel_drewN hb7 _⟩
        case measure => simp [intOf]; omega
      · have e0 : (((x % 4 : Nat) : Int) == 0) = false := by rw [h4]; rfl
        have e1 : (((x % 4 : Nat) : Int) == 1) = false := by rw [h4]; rfl
        have e2 : (((x % 4 : Nat) : Int) == 2) = false := by rw [h4]; rfl
        by_cases hf : 200 < x
        all_goals
          first
            | (have hfi : decide ((200 : Int) < (x : Int)) = true := by simp; omega)
            | (have hfi : decide ((200 : Int) < (x : Int)) = false := by simp; omega)
          go_wp2_with fail
          refine (pFail_any w1.heap.size er _ lr wr hp).mono ?_
          rintro e w4 ⟨rfl, hs1⟩
          have hr4 := hr.grown hs1.2 (by simp; omega) (fun k hk => by cases hk; exact Nat.le_refl _) hb.size
          have hc4 : w4.cell? ⟨b, o + k, none⟩ = some (.int .u8 (x : Int)) := (hs1.2.cell hc (by simp; omega))
          go_wp2_with fail
          refine (rFail_any g2 w1.heap.size er _ lr w4 hr4 (by omega)).mono ?_
          rintro e w5 ⟨rfl, hs2⟩
          have hQ := hlt256
          have hQ2 := hlen
          clear hr4
          have hb6 := (hb.grown hs1.2 hb.size (fun k hk => by cases hk; exact Nat.le_refl _))
          have hb7 := hb6.grown hs2.2 hb6.size (fun k hk => by cases hk; omega)
          have hp7 := hs1.1.grown hs2.2 (by simp; omega)
          obtain ⟨A3, n3, c3, _, _, _, _, _, -, he1, -⟩ := hs2.1.open_ (by omega)
          have HR := hide hs2.1
          have HP := hide hp7
          clear hs1 hs2 hp7 hb6 hb hr hp
          go_wp2_with fail
          go_quiet ((go_at_call 22; exact Calls.quiet_of_same ((pErr_any _ _ _ _ (HP.out.drewN _)).mono (fun _ _ h => ⟨h.1, h.2.symm⟩))))
          go_wp2
          go_roundw
          case rel => exact ⟨k + 1, by omega, by go_num, _, _, HP.out.drewN _, HR.out.drewN _, hQ, hQ2, bel_drewN hb7 _⟩
          case measure => simp [intOf]; omega
    · obtain rfl : k = n1 := by omega
      go_wp2_with fail
      refine (pDone_any w1.heap.size er lr wr hp hlt256).mono ?_
      rintro e w' ⟨rfl, rfl⟩
      go_wp2_with fail
      refine (rDone_any g2 w1.heap.size er lr wr hr (by omega)).mono ?_
      rintro e w' ⟨rfl, rfl⟩
      go_wp2
      go_ret
      exact ⟨rfl, hb1.trans (hb.mono hb1.size)⟩
end Go.Proofs.Ytnklffmnjalhlaa
