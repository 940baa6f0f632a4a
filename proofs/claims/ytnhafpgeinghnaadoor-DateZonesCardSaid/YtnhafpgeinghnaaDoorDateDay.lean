/-
  Contracts over package date: the day of three texts; a zone.
-/
import Derived.Test.YtnhafpgeinghnaaDoorDateMonth
import Derived.Test.YtnhafpgeinghnaaDoorDateNum
import Derived.Deep.RegionHeld3
namespace Go.Proofs.YtnhafpgeinghnaaDoor
open Go.RowKit
set_option linter.unusedVariables false
set_option linter.unusedSimpArgs false

def dayR (b : Bool) (d m y : List Nat) : Int := if (b || !ymdOk d m y) = true then 0 else ymdV d m y
theorem dayR_bd (b : Bool) (d m y : List Nat) : -719528 ≤ dayR b d m y ∧ dayR b d m y ≤ 2932896 := by
  unfold dayR
  split
  · omega
  · rename_i h
    exact ymdV_bd (by cases hk : ymdOk d m y
                      · exact absurd (by rw [hk]; cases b <;> rfl) h
                      · rfl)

theorem readV_ok {l : List Nat} {a m : Nat} (h : numOk l a m = true) : readV false l a m = valN l := by unfold readV; rw [h]; rfl
theorem day_flags (b : Bool) (d m y : List Nat) :
    (b || !ymdOk d m y) = ((((b || !numOk d 1 2) || decide (monN m = 0)) || !numOk y 4 4) || !thereB (readV ((b || !numOk d 1 2) || decide (monN m = 0)) y 4 4) (monN m) (readV b d 1 2)) ∧
    (((((b || !numOk d 1 2) || decide (monN m = 0)) || !numOk y 4 4) || !thereB (readV ((b || !numOk d 1 2) || decide (monN m = 0)) y 4 4) (monN m) (readV b d 1 2)) = false →
      readV b d 1 2 = valN d ∧ readV ((b || !numOk d 1 2) || decide (monN m = 0)) y 4 4 = valN y ∧ monN m ≠ 0 ∧ thereB (readV ((b || !numOk d 1 2) || decide (monN m = 0)) y 4 4) (monN m) (readV b d 1 2) = true) := by
  cases b
  · cases h1 : numOk d 1 2
    · simp [ymdOk, h1]
    · by_cases h2 : monN m = 0
      · simp [ymdOk, h1, h2]
      · cases h3 : numOk y 4 4
        · simp [ymdOk, h1, h2, h3]
        · have e1 := readV_ok h1
          have e3 := readV_ok h3
          have e2 : ((false || !true) || decide (monN m = 0)) = false := by simp [h2]
          rw [e2, e1, e3]
          simp [ymdOk, h1, h2, h3]
  · simp

set_option maxRecDepth 20000 in
set_option maxHeartbeats 1000000 in
theorem day_any3 (g : Nat) (d m y : ByteArray) (b : Bool) (w : World) (h : Rd w g b) (hd : d.size ≤ 4294967296) (hm : m.size ≤ 4294967296) (hy : y.size ≤ 4294967296) (hM : Mon w) :
    Calls Tryd.prog 23 #[.pointer (some ⟨g, 0, none⟩), .string d, .string m, .string y] w (Gave (.int .i64 (dayR b (nats d) (nats m) (nats y))) g (b || !ymdOk (nats d) (nats m) (nats y)) w) := by
  have hg0 := h.2
  have HM := Lib.hid hM
  clear hM
  go_enter Tryd.func23, Tryd.ntmps23
  go_wp2_with fail
  refine (number_any g d 1 2 b w h hd (by omega) (by omega)).mono ?_
  rintro e w1 ⟨rfl, hr1, hg1⟩
  have hM1 := HM.out.grown hg1 hg0
  have HG1 := Lib.hid hg1
  obtain ⟨v1, hv1⟩ : ∃ v, readV b (nats d) 1 2 = v := ⟨_, rfl⟩
  obtain ⟨b1, hb1⟩ : ∃ q, (b || !numOk (nats d) 1 2) = q := ⟨_, rfl⟩
  have hl1 := readV_bd b (nats d) 1 2
  rw [hb1] at hr1
  rw [hv1] at hl1 ⊢
  have HV1 := Lib.hid hv1
  have HB1 := Lib.hid hb1
  clear hv1 hb1 hg1 h
  go_wp2_with fail
  refine (month_any g m b1 w1 hr1 hm hM1).mono ?_
  rintro e w2 ⟨rfl, hr2, hg2⟩
  have hM2 := hM1.grown hg2 hg0
  have HG2 := Lib.hid (grown_trans HG1.out hg2)
  obtain ⟨v2, hv2⟩ : ∃ v, monN (nats m) = v := ⟨_, rfl⟩
  obtain ⟨b2, hb2⟩ : ∃ q, (b1 || decide (monN (nats m) = 0)) = q := ⟨_, rfl⟩
  have hl2 := monN_le (nats m)
  rw [hb2] at hr2
  rw [hv2] at hl2 ⊢
  have HV2 := Lib.hid hv2
  have HB2 := Lib.hid hb2
  clear hv2 hb2 hg2 hr1 hM1 HG1
  go_wp2_with fail
  refine (number_any g y 4 4 b2 w2 hr2 hy (by omega) (by omega)).mono ?_
  rintro e w3 ⟨rfl, hr3, hg3⟩
  have hM3 := hM2.grown hg3 hg0
  have HG3 := Lib.hid (grown_trans HG2.out hg3)
  obtain ⟨v3, hv3⟩ : ∃ v, readV b2 (nats y) 4 4 = v := ⟨_, rfl⟩
  obtain ⟨b3, hb3⟩ : ∃ q, (b2 || !numOk (nats y) 4 4) = q := ⟨_, rfl⟩
  have hl3 := readV_bd b2 (nats y) 4 4
  rw [hb3] at hr3
  rw [hv3] at hl3 ⊢
  have HV3 := Lib.hid hv3
  have HB3 := Lib.hid hb3
  clear hv3 hb3 hg3 hr2 hM2 HG2
  go_wp2_with fail
  refine (dthere_any v3 v2 v1 w3 hM3).mono ?_
  rintro e w' ⟨rfl, rfl⟩
  rw [thereZ_nat]
  obtain ⟨th, hth⟩ : ∃ q, thereB v3 v2 v1 = q := ⟨_, rfl⟩
  rw [hth]
  have HTH := Lib.hid hth
  clear hth
  go_wp2_with fail
  refine (need_any g b3 th w3 hr3).mono ?_
  rintro e w4 ⟨rfl, hr4, hg4⟩
  have hM4 := hM3.grown hg4 hg0
  have HG4 := Lib.hid (grown_trans HG3.out hg4)
  have hall : (b || !ymdOk (nats d) (nats m) (nats y)) = (b3 || !th) ∧ ((b3 || !th) = false → dayN v3 v2 v1 = ymdV (nats d) (nats m) (nats y) ∧ th = true ∧ 1 ≤ v2) := by
    have e1 := HV1.out; have e2 := HB1.out; have e3 := HV2.out; have e4 := HB2.out; have e5 := HV3.out; have e6 := HB3.out; have e7 := HTH.out
    subst e4 e6 e7 e3 e5 e2 e1
    have hf := day_flags b (nats d) (nats m) (nats y)
    refine ⟨hf.1, fun hh => ?_⟩
    obtain ⟨f1, f2, f3, f4⟩ := hf.2 hh
    exact ⟨by unfold ymdV; rw [f1, f2], f4, by omega⟩
  have HALL := Lib.hid hall
  clear hall hg4 hr3 hM3 HG3
  cases hb4 : (b3 || !th)
  · have hcell := hr4.cell
    rw [hb4] at hcell hr4
    obtain ⟨hv, ht, h1⟩ := HALL.out.2 hb4
    have hB : Hid (thereB v3 v2 v1 = true) := Lib.hid (by rw [HTH.out, ht])
    have HF := Lib.hid (show (b || !ymdOk (nats d) (nats m) (nats y)) = false by rw [HALL.out.1, hb4])
    have HV := Lib.hid hv
    have HR4 := Lib.hid hr4
    clear hb4 hv ht hr4
    go_wp2_with fail
    refine (from1970_any v3 v2 v1 (by omega) h1 hl2 (by have := (there_iff.1 hB.out).2.2.2; have := mDays_bd v3 v2; omega) w4 hM4).mono ?_
    rintro e w' ⟨rfl, rfl⟩
    rw [HV.out]
    go_wp2_with fail
    go_ret
    exact ⟨by unfold dayR; rw [HF.out]; rfl, by rw [HF.out]; exact HR4.out, HG4.out⟩
  · have hcell := hr4.cell
    rw [hb4] at hcell hr4
    have HF := Lib.hid (show (b || !ymdOk (nats d) (nats m) (nats y)) = true by rw [HALL.out.1, hb4])
    have HR4 := Lib.hid hr4
    clear hb4 hr4
    go_wp2_with fail
    go_ret
    exact ⟨by unfold dayR; rw [HF.out]; rfl, by rw [HF.out]; exact HR4.out, HG4.out⟩

/-- what a method gave is a number of which something is known -/
def GaveP (p : Int → Prop) (g : Nat) (b : Bool) (w : World) (x : Ending) (w' : World) : Prop := ∃ z, p z ∧ Gave (.int .i64 z) g b w x w'
def ZoneIs (b : Bool) (l : List Nat) (z : Int) : Prop := -400000 ≤ z ∧ z ≤ 400000 ∧ ((b || !zoneOk l) = false → z = zoneV l)

theorem sign3 (n : Nat) : (n = 43 ∧ ((n : Int) == 43) = true ∧ ((n : Int) == 45) = false) ∨ (n = 45 ∧ ((n : Int) == 43) = false ∧ ((n : Int) == 45) = true) ∨ ((n ≠ 43 ∧ n ≠ 45) ∧ ((n : Int) == 43) = false ∧ ((n : Int) == 45) = false) := by
  rcases (by omega : n = 43 ∨ n = 45 ∨ (n ≠ 43 ∧ n ≠ 45)) with rfl | rfl | h
  · exact .inl ⟨rfl, rfl, rfl⟩
  · exact .inr (.inl ⟨rfl, rfl, rfl⟩)
  · exact .inr (.inr ⟨h, by simp; omega, by simp; omega⟩)
theorem two100 (l : List Nat) : twoOk l 100 = numOk l 2 2 := by
  unfold twoOk
  cases h : numOk l 2 2
  · rfl
  · have := numOk_lt h
    rw [decide_eq_true (by omega)]; rfl
theorem zone_flags (b : Bool) (l : List Nat) (h5 : l.length = 5) :
    (b || !zoneOk l) = (((b || !(decide (l.getD 0 0 = 43) || decide (l.getD 0 0 = 45))) || !twoOk ((l.take 3).drop 1) 100) || !twoOk (l.drop 3) 60) ∧
    ((((b || !(decide (l.getD 0 0 = 43) || decide (l.getD 0 0 = 45))) || !twoOk ((l.take 3).drop 1) 100) || !twoOk (l.drop 3) 60) = false →
      readV (b || !(decide (l.getD 0 0 = 43) || decide (l.getD 0 0 = 45))) ((l.take 3).drop 1) 2 2 = valN ((l.take 3).drop 1) ∧
      readV ((b || !(decide (l.getD 0 0 = 43) || decide (l.getD 0 0 = 45))) || !twoOk ((l.take 3).drop 1) 100) (l.drop 3) 2 2 = valN (l.drop 3)) := by
  have e : zoneOk l = ((decide (l.getD 0 0 = 43) || decide (l.getD 0 0 = 45)) && twoOk ((l.take 3).drop 1) 100 && twoOk (l.drop 3) 60) := by
    unfold zoneOk
    rw [decide_eq_true h5, two100, Bool.true_and]
  rw [e]
  generalize (decide (l.getD 0 0 = 43) || decide (l.getD 0 0 = 45)) = sg
  cases b
  · cases sg
    · simp
    · cases h1 : twoOk ((l.take 3).drop 1) 100
      · simp
      · cases h2 : twoOk (l.drop 3) 60
        · simp
        · have e1 := readV_ok (twoOk_iff.1 h1).1
          have e2 := readV_ok (twoOk_iff.1 h2).1
          exact ⟨rfl, fun _ => ⟨e1, e2⟩⟩
  · simp

set_option maxRecDepth 20000 in
set_option maxHeartbeats 2000000 in
theorem zone_any (g : Nat) (s : ByteArray) (b : Bool) (w : World) (h : Rd w g b) (hs : s.size ≤ 4294967296) :
    Calls Tryd.prog 26 #[.pointer (some ⟨g, 0, none⟩), .string s] w (GaveP (ZoneIs b (nats s)) g (b || !zoneOk (nats s)) w) := by
  have h64 : s.size ≤ 9223372036854775807 := by omega
  by_cases h5 : s.size = 5
  · have h5a : 5 ≤ s.size := by omega
    have h5e : ((s.size : Int) != 5) = false := by rw [h5]; rfl
    have H5 := Lib.hid h5
    have HL := Lib.hid (show (nats s).length = 5 by rw [nats_length, h5])
    clear h5
    have h0s : 0 < s.size := by omega
    have hx := nats_byte s 0 h0s
    have hD : (nats s).getD 0 0 = s[0].toNat := by rw [List.getD_eq_getElem?_getD, hx]; rfl
    have hn1 : nats (s.extract 1 3) = ((nats s).take 3).drop 1 := piece_eq s 1 3
    have hn2 : nats (s.extract 3 s.size) = (nats s).drop 3 := by rw [piece_eq, List.take_of_length_le (by rw [nats_length]; omega)]
    have hz1 : (s.extract 1 3).size ≤ 4294967296 := by rw [← nats_length, hn1]; simp; omega
    have hz2 : (s.extract 3 s.size).size ≤ 4294967296 := by rw [← nats_length, hn2]; rw [List.length_drop, nats_length]; omega
    have HD := Lib.hid hD
    have HN1 := Lib.hid hn1
    have HN2 := Lib.hid hn2
    have hcb : s[0].toNat < 256 := s[0].toNat_lt
    clear hx hD hn1 hn2
    rcases sign3 s[0].toNat with ⟨hk, f1, f2⟩ | ⟨hk, f1, f2⟩ | ⟨hk, f1, f2⟩
    all_goals
      have HK := Lib.hid hk
      obtain ⟨b1, hb1⟩ : ∃ q, (b || !(decide (s[0].toNat = 43) || decide (s[0].toNat = 45))) = q := ⟨_, rfl⟩
      have HB1 := Lib.hid hb1
      clear hk hb1
      go_enter Tryd.func26, Tryd.ntmps26
      go_wp2_with fail
      refine (need_any g b _ w h).mono ?_
      rintro e w1 ⟨rfl, hr1, hg1⟩
      replace hr1 : Rd w1 g b1 := by
        have hk := HK.out
        rw [← HB1.out]
        simpa [hk] using hr1
      go_wp2_with fail
      have hm : Tryd.prog.follows .mixedOrders = true := by kernel_rfl
      refine wp_region_held_drew (S := fun _ => True) hm trivial (fun hHeld => ?_)
      have HRW := Lib.hid (hr1.below ((Below.refl w1.heap.size w1).drew) hr1.lt)
      have HGW := Lib.hid (grown_trans hg1 (hbw_grown ((Below.refl w1.heap.size w1).drew) hr1.lt))
      clear hr1 hg1
      generalize w1.drew = W at *
      simp only [List.size_toArray, List.length_cons, List.length_nil, Nat.reduceAdd]
      refine wpAnyH_take (i := 0) (v := .pointer (some ⟨g, 0, none⟩)) rfl (by kernel_rfl) (by kernel_rfl) (by kernel_rfl) (fun _ _ _ h => h) (Or.inl ⟨by rfl, fun w0 hC => by simp [execOp, Act.eval, Act.put, go_sem]⟩) hHeld ?_
      try simp only [Act.put, List.setIfInBounds_toArray, List.set_cons_zero, List.set_cons_succ, List.getElem_toArray, List.getElem_cons_zero, List.getElem_cons_succ]
      refine wpAnyH_take (i := 1) (v := .string s) rfl (by kernel_rfl) (by kernel_rfl) (by kernel_rfl) (fun _ _ _ h => h) (Or.inl ⟨by rfl, fun w0 hC => by simp [execOp, Act.eval, Act.put, go_sem]⟩) hHeld ?_
      try simp only [Act.put, List.setIfInBounds_toArray, List.set_cons_zero, List.set_cons_succ, List.getElem_toArray, List.getElem_cons_zero, List.getElem_cons_succ]
      refine wpAnyH_take (i := 2) (v := .string (s.extract 1 3)) rfl (by kernel_rfl) (by kernel_rfl) (by kernel_rfl) (fun _ _ _ h => h) (Or.inl ⟨by rfl, fun w0 hC => by simp [execOp, Act.eval, Act.put, go_sem]; intro hz; exact absurd hz (by omega)⟩) hHeld ?_
      try simp only [Act.put, List.setIfInBounds_toArray, List.set_cons_zero, List.set_cons_succ, List.getElem_toArray, List.getElem_cons_zero, List.getElem_cons_succ]
      refine wpAnyH_take (i := 5) (v := .pointer (some ⟨g, 0, none⟩)) rfl (by kernel_rfl) (by kernel_rfl) (by kernel_rfl) (fun _ _ _ h => h) (Or.inl ⟨by rfl, fun w0 hC => by simp [execOp, Act.eval, Act.put, go_sem]⟩) hHeld ?_
      try simp only [Act.put, List.setIfInBounds_toArray, List.set_cons_zero, List.set_cons_succ, List.getElem_toArray, List.getElem_cons_zero, List.getElem_cons_succ]
      refine wpAnyH_take (i := 6) (v := .string s) rfl (by kernel_rfl) (by kernel_rfl) (by kernel_rfl) (fun _ _ _ h => h) (Or.inl ⟨by rfl, fun w0 hC => by simp [execOp, Act.eval, Act.put, go_sem]⟩) hHeld ?_
      try simp only [Act.put, List.setIfInBounds_toArray, List.set_cons_zero, List.set_cons_succ, List.getElem_toArray, List.getElem_cons_zero, List.getElem_cons_succ]
      refine wpAnyH_take (i := 7) (v := .string (s.extract 3 s.size)) rfl (by kernel_rfl) (by kernel_rfl) (by kernel_rfl) (fun _ _ _ h => h) (Or.inl ⟨by rfl, fun w0 hC => by simp [execOp, Act.eval, Act.put, go_sem]; intro hz; exact absurd hz (by omega)⟩) hHeld ?_
      try simp only [Act.put, List.setIfInBounds_toArray, List.set_cons_zero, List.set_cons_succ, List.getElem_toArray, List.getElem_cons_zero, List.getElem_cons_succ]
      refine wpAnyH_ready (rs := [3]) (by kernel_rfl) (by simp) (AllReadyH.cons rfl (fun K hK => ?_) AllReadyH.nil)
      rw [if_pos (by rfl)]
      go_wp2_with fail
      refine (two_any g (s.extract 1 3) 100 b1 W HRW.out hz1 (by omega)).mono ?_
      rintro e W2 ⟨rfl, hr2, hg2⟩
      obtain ⟨v1, hv1⟩ : ∃ v, readV b1 (nats (s.extract 1 3)) 2 2 = v := ⟨_, rfl⟩
      obtain ⟨b2, hb2⟩ : ∃ q, (b1 || !twoOk (nats (s.extract 1 3)) 100) = q := ⟨_, rfl⟩
      have hl1 := readV_bd b1 (nats (s.extract 1 3)) 2 2
      rw [hb2] at hr2
      rw [hv1] at hl1 ⊢
      have HV1 := Lib.hid hv1
      have HB2 := Lib.hid hb2
      have HR2 := Lib.hid hr2
      have HG2 := Lib.hid (grown_trans HGW.out hg2)
      clear hv1 hb2 hr2 hg2 HRW HGW
      have hS : True := trivial
      have hw1 : IntKind.i64.wrap ((v1 : Int) * 3600) = (v1 : Int) * 3600 := IntWalk.i64_in _ (by omega)
      refine hK.out _ _ hS (fun hHeld => ?_)
      clear hK K
      try simp only [Act.put, List.setIfInBounds_toArray, List.set_cons_zero, List.set_cons_succ, List.getElem_toArray, List.getElem_cons_zero, List.getElem_cons_succ]
      refine wpAnyH_take (i := 4) (v := .int .i64 ((v1 : Int) * 3600)) rfl (by kernel_rfl) (by kernel_rfl) (by kernel_rfl) (fun _ _ _ h => h) (Or.inl ⟨by rfl, fun w0 hC => by simp [execOp, Act.eval, Act.put, go_sem, hw1]⟩) hHeld ?_
      try simp only [Act.put, List.setIfInBounds_toArray, List.set_cons_zero, List.set_cons_succ, List.getElem_toArray, List.getElem_cons_zero, List.getElem_cons_succ]
      clear hw1
      refine wpAnyH_ready (rs := [8]) (by kernel_rfl) (by simp) (AllReadyH.cons rfl (fun K hK => ?_) AllReadyH.nil)
      rw [if_pos (by rfl)]
      go_wp2_with fail
      refine (two_any g (s.extract 3 s.size) 60 b2 W2 HR2.out hz2 (by omega)).mono ?_
      rintro e W3 ⟨rfl, hr3, hg3⟩
      obtain ⟨v2, hv2⟩ : ∃ v, readV b2 (nats (s.extract 3 s.size)) 2 2 = v := ⟨_, rfl⟩
      obtain ⟨b3, hb3⟩ : ∃ q, (b2 || !twoOk (nats (s.extract 3 s.size)) 60) = q := ⟨_, rfl⟩
      have hl2 := readV_bd b2 (nats (s.extract 3 s.size)) 2 2
      rw [hb3] at hr3
      rw [hv2] at hl2 ⊢
      have HV2 := Lib.hid hv2
      have HB3 := Lib.hid hb3
      have HR3 := Lib.hid hr3
      have HG3 := Lib.hid (grown_trans HG2.out hg3)
      clear hv2 hb3 hr3 hg3 HR2 HG2
      have hw2 : IntKind.i64.wrap ((v2 : Int) * 60) = (v2 : Int) * 60 := IntWalk.i64_in _ (by omega)
      have hw3 : IntKind.i64.wrap ((v1 : Int) * 3600 + v2 * 60) = (v1 : Int) * 3600 + v2 * 60 := IntWalk.i64_in _ (by omega)
      refine hK.out _ _ hS (fun hHeld => ?_)
      clear hK K
      try simp only [Act.put, List.setIfInBounds_toArray, List.set_cons_zero, List.set_cons_succ, List.getElem_toArray, List.getElem_cons_zero, List.getElem_cons_succ]
      refine wpAnyH_take (i := 9) (v := .int .i64 ((v2 : Int) * 60)) rfl (by kernel_rfl) (by kernel_rfl) (by kernel_rfl) (fun _ _ _ h => h) (Or.inl ⟨by rfl, fun w0 hC => by simp [execOp, Act.eval, Act.put, go_sem, hw2]⟩) hHeld ?_
      try simp only [Act.put, List.setIfInBounds_toArray, List.set_cons_zero, List.set_cons_succ, List.getElem_toArray, List.getElem_cons_zero, List.getElem_cons_succ]
      refine wpAnyH_take (i := 10) (v := .int .i64 ((v1 : Int) * 3600 + v2 * 60)) rfl (by kernel_rfl) (by kernel_rfl) (by kernel_rfl) (fun _ _ _ h => h) (Or.inl ⟨by rfl, fun w0 hC => by simp [execOp, Act.eval, Act.put, go_sem, hw3]⟩) hHeld ?_
      try simp only [Act.put, List.setIfInBounds_toArray, List.set_cons_zero, List.set_cons_succ, List.getElem_toArray, List.getElem_cons_zero, List.getElem_cons_succ]
      clear hw2 hw3
      refine wpAnyH_take (i := 11) (v := .int .i64 ((v1 : Int) * 3600 + v2 * 60)) rfl (by kernel_rfl) (by kernel_rfl) (by kernel_rfl) (fun _ _ _ h => h) (Or.inl ⟨by rfl, fun w0 hC => by simp [execOp, Act.eval, Act.put, go_sem]⟩) hHeld ?_
      try simp only [Act.put, List.setIfInBounds_toArray, List.set_cons_zero, List.set_cons_succ, List.getElem_toArray, List.getElem_cons_zero, List.getElem_cons_succ]
      refine wpAnyH_done (by kernel_rfl) ?_ _
      have hfl := zone_flags b (nats s) HL.out
      rw [HD.out, HB1.out, ← HN1.out, ← HN2.out, HV1.out, HB2.out, HV2.out, HB3.out] at hfl
      have HFL := Lib.hid hfl
      have hzv : zoneV (nats s) = if s[0].toNat = 45 then -((valN (nats (s.extract 1 3)) * 3600 + valN (nats (s.extract 3 s.size)) * 60 : Nat) : Int) else ((valN (nats (s.extract 1 3)) * 3600 + valN (nats (s.extract 3 s.size)) * 60 : Nat) : Int) := by
        unfold zoneV zoneA
        rw [HD.out, HN1.out, HN2.out]
      have HZV := Lib.hid hzv
      clear hfl hzv
      go_wp2_with fail
      go_ret
      refine ⟨_, ⟨?_, ?_, fun hh => ?_⟩, rfl, by rw [HFL.out.1]; exact HR3.out, HG3.out⟩
      · omega
      · omega
      · rw [HFL.out.1] at hh
        obtain ⟨e1, e2⟩ := HFL.out.2 hh
        have hk := HK.out
        rw [HZV.out, ← e1, ← e2]
        first
          | (rw [if_pos hk]; omega)
          | (rw [if_neg (by omega)]; omega)
  · have HZ : Hid (zoneOk (nats s) = false) := Lib.hid (by
      unfold zoneOk
      rw [decide_eq_false (by rw [nats_length]; exact h5)]
      rfl)
    have h5e : ((s.size : Int) != 5) = true := by simp; omega
    have hcell := h.cell
    have hfrz := h.frz
    have HPUT := Lib.hid (h.put true)
    clear h h5
    go_enter Tryd.func26, Tryd.ntmps26
    go_wp2_with fail
    go_ret
    refine ⟨0, ⟨by omega, by omega, fun hh => ?_⟩, rfl, ?_, grownBy_setCell _ _ _ _⟩
    · rw [HZ.out] at hh; cases b <;> cases hh
    · rw [HZ.out, show (b || !false) = true by cases b <;> rfl]; exact HPUT.out
end Go.Proofs.YtnhafpgeinghnaaDoor
