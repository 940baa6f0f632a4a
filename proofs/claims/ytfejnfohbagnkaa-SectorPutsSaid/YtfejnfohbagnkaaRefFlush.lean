/-
  Walks over the document's own functions on disks: Flush, of any disk. It leaves all older memory as it was.
-/
import Derived.Test.YtfejnfohbagnkaaRefPut
namespace Go.Proofs.Ytfejnfohbagnkaa
open Go.RowKit

theorem doneM_congr {st st' : Nat → Bool} (h : ∀ i, st i = st' i) : ∀ (l : List (Int × List Int)) (i : Nat) (ss : List (List Int)), doneM st i ss l = doneM st' i ss l
  | [], _, _ => rfl
  | x :: r, i, ss => by
    unfold doneM
    rw [h i, doneM_congr h r]
theorem bit_full (i : Nat) : bitM 18446744073709551615 i = true := by
  unfold bitM
  rw [show (18446744073709551615 : Nat) = 2 ^ 64 - 1 by omega, Nat.testBit_two_pow_sub_one]
  have := Nat.mod_lt i (show 0 < 64 by omega)
  simpa using this
theorem doneM_full (ss : List (List Int)) (l : List (Int × List Int)) : doneM (bitM 18446744073709551615) 0 ss l = doneM (fun _ => true) 0 ss l := doneM_congr bit_full _ _ _

set_option maxRecDepth 100000 in
set_option maxHeartbeats 2000000 in
theorem rflush_no (v : Value) (d : Dk) (w : World) (hd : DkAt w w.heap.size v d) (hr : rightB d = false) : Calls Try.prog 23 #[v] w (DkRes w (d, 1)) := by
  have hdW := fun W => hd.later (W := W)
  obtain ⟨A, n, c, A', n', c', rfl, hnc, hnc', hc, hc', hS, hL⟩ := hd
  have HS := Lib.hid hS; have HL := Lib.hid hL; have Hd := Lib.hid hdW
  clear hS hL hdW
  have Hr := Lib.hid hr
  clear hr
  go_enter Try.func23, Try.ntmps23
  go_wp2_with fail
  refine (rright_any _ d _ (Hd.out _ (((Below.refl _ _).alloc (Nat.le_refl _) _).alloc (by simp) _))).mono ?_
  rintro e w1 ⟨rfl, hb1⟩
  have B0 : Bk w1 w.heap.size 25 _ := Bk.below ((Bk.new w 25 _).alloc _) hb1 (by simp only [World.size_alloc]; omega)
  have B6 : Bk w1 (w.heap.size + 1) 25 _ := Bk.below (Bk.new2 _ _ 25 _) hb1 (by simp only [World.size_alloc]; omega)
  have hb : Below w.heap.size w w1 := (((Below.refl _ _).alloc (Nat.le_refl _) _).alloc (by simp) _).trans (hb1.mono (by simp only [World.size_alloc]; omega))
  obtain ⟨⟨p0, p1, p2, p3⟩, -⟩ := B0.four
  rw [Hr.out]
  obtain ⟨⟨s0, s1, s2, s3⟩, t0, t1, t2, t3⟩ := B6.four
  have HW := Lib.hid hb
  clear B0 B6 hb hb1
  go_wp2
  refine bodyPost_ret (v := .tuple #[.agg #[.slice A n c, .slice A' n' c', .int .i64 d.fuse, .bool d.down], .int .i64 1]) (by simp [results, Try.results23, go_sem, *]) rfl ?_
  refine DkRes.same rfl HS.out HL.out hnc hnc' hc hc' ?_
  repeat (first | with_reducible exact HW.out | (with_reducible refine Below.alloc ?_ ?hp _; (case hp => first | omega | (simp; done) | (simp; omega))) | (with_reducible refine Below.setCell ?_ ?hp _; (case hp => first | omega | (simp; done) | (simp; omega))))

set_option maxRecDepth 100000 in
set_option maxHeartbeats 2000000 in
theorem rflush_fall (v : Value) (d : Dk) (w : World) (hd : DkAt w w.heap.size v d) (hr : rightB d = true) (hde : deedD d.fuse d.down = true) :
    Calls Try.prog 23 #[v] w (DkRes w ({ d with fuse := deedF d.fuse d.down, down := true }, 9)) := by
  have hdW := fun W => hd.later (W := W)
  obtain ⟨A, n, c, A', n', c', rfl, hnc, hnc', hc, hc', hS, hL⟩ := hd
  have HS := Lib.hid hS; have HL := Lib.hid hL; have Hd := Lib.hid hdW
  clear hS hL hdW
  have Hr := Lib.hid hr; have Hde := Lib.hid hde
  clear hr hde
  go_enter Try.func23, Try.ntmps23
  go_wp2_with fail
  refine (rright_any _ d _ (Hd.out _ (((Below.refl _ _).alloc (Nat.le_refl _) _).alloc (by simp) _))).mono ?_
  rintro e w1 ⟨rfl, hb1⟩
  have B0 : Bk w1 w.heap.size 25 _ := Bk.below ((Bk.new w 25 _).alloc _) hb1 (by simp only [World.size_alloc]; omega)
  have B6 : Bk w1 (w.heap.size + 1) 25 _ := Bk.below (Bk.new2 _ _ 25 _) hb1 (by simp only [World.size_alloc]; omega)
  have hb : Below w.heap.size w w1 := (((Below.refl _ _).alloc (Nat.le_refl _) _).alloc (by simp) _).trans (hb1.mono (by simp only [World.size_alloc]; omega))
  obtain ⟨⟨p0, p1, p2, p3⟩, -⟩ := B0.four
  rw [Hr.out]
  have HB6 := Lib.hid B6; have HW := Lib.hid hb
  have hlt : w.heap.size + 1 < w1.heap.size := B6.lt
  clear B0 B6 hb hb1
  go_wp2_with fail
  refine (rdeed_any _ d _ (Hd.out _ HW.out) Hr.out).mono ?_
  rintro e w2 ⟨A2, n2, c2, A2', n2', c2', rfl, hO, hb2⟩
  have B6 := HB6.out.below hb2 (by omega)
  have hbw : Below w.heap.size w w2 := HW.out.trans (hb2.mono (by omega))
  rw [Hde.out]
  have hlt2 : w.heap.size + 1 < w2.heap.size := B6.lt
  obtain ⟨hR2, hO2⟩ := hO
  obtain ⟨⟨s0, s1, s2, s3⟩, t0, t1, t2, t3⟩ := B6.four
  have HR2 := Lib.hid hR2; have HO2 := Lib.hid hO2.out; have HBW := Lib.hid hbw
  clear B6 hbw hb2 hR2 hO2 HB6 p0 p1 p2 p3
  dsimp only
  go_wp2
  refine bodyPost_ret (v := .tuple #[.agg #[.slice A2 n2 c2, .slice A2' n2' c2', .int .i64 (deedF d.fuse d.down), .bool true], .int .i64 9]) (by simp [results, Try.results23, go_sem, *]) rfl ?_
  refine ⟨_, rfl, DkOut.at_ (base := w1.heap.size) ⟨A2, n2, c2, A2', n2', c2', rfl, ?_, ?_⟩, ?_⟩
  · repeat (first | with_reducible exact HR2.out | (with_reducible refine RowsOut.alloc ?_ _) | (with_reducible refine RowsOut.box ?_ ?hp _; (case hp => first | omega | (simp; done) | (simp; omega))))
  · repeat (first | with_reducible exact HO2.out | (with_reducible refine RowsOut.alloc ?_ _) | (with_reducible refine RowsOut.box ?_ ?hp _; (case hp => first | omega | (simp; done) | (simp; omega))))
  · repeat (first | with_reducible exact HBW.out | (with_reducible refine Below.alloc ?_ ?hp _; (case hp => first | omega | (simp; done) | (simp; omega))) | (with_reducible refine Below.setCell ?_ ?hp _; (case hp => first | omega | (simp; done) | (simp; omega))))

set_option maxRecDepth 100000 in
set_option maxHeartbeats 2000000 in
theorem rflush_ok (v : Value) (d : Dk) (w : World) (hd : DkAt w w.heap.size v d) (hr : rightB d = true) (hde : deedD d.fuse d.down = false) :
    Calls Try.prog 23 #[v] w (DkRes w (⟨viewM d, [], deedF d.fuse d.down, d.down⟩, 0)) := by
  have hdW := fun W => hd.later (W := W)
  obtain ⟨A, n, c, A', n', c', rfl, hnc, hnc', hc, hc', hS, hL⟩ := hd
  have HS := Lib.hid hS; have HL := Lib.hid hL; have Hd := Lib.hid hdW
  clear hS hL hdW
  have hdn : d.down = false := by have := hde; simp [deedD] at this; exact this.1
  have hrr : rightB ⟨d.secs, d.loose, deedF d.fuse d.down, false⟩ = true := by
    have hf := deedF_right d hr
    unfold rightB at hr ⊢
    simp only [Bool.and_eq_true] at hr ⊢
    exact ⟨⟨hr.1.1, hf⟩, hr.2⟩
  have Hr := Lib.hid hr; have Hde := Lib.hid hde; have HRR := Lib.hid hrr; have HDN := Lib.hid hdn
  clear hr hde hrr hdn
  go_enter Try.func23, Try.ntmps23
  go_wp2_with fail
  refine (rright_any _ d _ (Hd.out _ (((Below.refl _ _).alloc (Nat.le_refl _) _).alloc (by simp) _))).mono ?_
  rintro e w1 ⟨rfl, hb1⟩
  have B0 : Bk w1 w.heap.size 25 _ := Bk.below ((Bk.new w 25 _).alloc _) hb1 (by simp only [World.size_alloc]; omega)
  have B6 : Bk w1 (w.heap.size + 1) 25 _ := Bk.below (Bk.new2 _ _ 25 _) hb1 (by simp only [World.size_alloc]; omega)
  have hb : Below w.heap.size w w1 := (((Below.refl _ _).alloc (Nat.le_refl _) _).alloc (by simp) _).trans (hb1.mono (by simp only [World.size_alloc]; omega))
  obtain ⟨⟨p0, p1, p2, p3⟩, -⟩ := B0.four
  rw [Hr.out]
  have HB6 := Lib.hid B6; have HW := Lib.hid hb
  have hlt : w.heap.size + 1 < w1.heap.size := B6.lt
  clear B0 B6 hb hb1
  go_wp2_with fail
  refine (rdeed_any _ d _ (Hd.out _ HW.out) Hr.out).mono ?_
  rintro e w2 ⟨A2, n2, c2, A2', n2', c2', rfl, hO, hb2⟩
  have B6 := HB6.out.below hb2 (by omega)
  have hbw : Below w.heap.size w w2 := HW.out.trans (hb2.mono (by omega))
  rw [Hde.out]
  have hlt2 : w.heap.size + 1 < w2.heap.size := B6.lt
  have hO' : DkAt w2 w2.heap.size (.agg #[.slice A2 n2 c2, .slice A2' n2' c2', .int .i64 (deedF d.fuse d.down), .bool false]) ⟨d.secs, d.loose, deedF d.fuse d.down, false⟩ :=
    DkOut.at_ (base := w1.heap.size) ⟨A2, n2, c2, A2', n2', c2', rfl, hO.1, hO.2.out⟩
  have HB6' := Lib.hid B6; have HO' := Lib.hid hO'; have HBW := Lib.hid hbw
  clear B6 hbw hb2 hO hO' HB6 p0 p1 p2 p3
  dsimp only
  go_wp2_with fail
  refine calls_over (fun W => Bk W (w.heap.size + 1) 25 #[.slice none 0 0, .slice none 0 0, .int .i64 0, .bool false] ∧ DkAt W W.heap.size (.agg #[.slice A2 n2 c2, .slice A2' n2' c2', .int .i64 (deedF d.fuse d.down), .bool false]) ⟨d.secs, d.loose, deedF d.fuse d.down, false⟩ ∧ Below w.heap.size w W)
    ⟨HB6'.out.alloc _, HO'.out.later ((Below.refl _ _).alloc (Nat.le_refl _) _), HBW.out.alloc HBW.out.size _⟩ ?_
  rintro W ⟨B6, hO, hbw⟩
  have hp := rdone_any _ ⟨d.secs, d.loose, deedF d.fuse d.down, false⟩ 18446744073709551615 (by omega) W hO HRR.out
  rw [show ((18446744073709551615 : Nat) : Int) = 18446744073709551615 from rfl] at hp
  refine hp.mono ?_
  clear hp HB6' HO' HBW hO
  rintro e w3 ⟨v3, rfl, ⟨A3, n3, c3, A3', n3', c3', rfl, hR3, hR3'⟩, hb3⟩
  have C6 := B6.below hb3 B6.lt
  have hbw3 : Below w.heap.size w w3 := hbw.trans (hb3.mono hbw.size)
  have hlt3 : w.heap.size + 1 < W.heap.size := B6.lt
  obtain ⟨⟨s0, s1, s2, s3⟩, t0, t1, t2, t3⟩ := C6.four
  rw [doneM_full] at hR3
  have HR3 := Lib.hid hR3; have HR3' := Lib.hid hR3'; have HBW := Lib.hid hbw3
  clear B6 C6 hR3 hR3' hbw hbw3 hb3
  dsimp only
  go_wp2
  refine bodyPost_ret (v := .tuple #[.agg #[.slice A3 n3 c3, .slice A3' n3' c3', .int .i64 (deedF d.fuse d.down), .bool false], .int .i64 0]) (by simp [results, Try.results23, go_sem, *]) rfl ?_
  refine ⟨_, rfl, ?_, ?_⟩
  · show DkAt _ _ (.agg #[.slice A3 n3 c3, .slice A3' n3' c3', .int .i64 (deedF d.fuse d.down), .bool false]) ⟨viewM d, [], deedF d.fuse d.down, d.down⟩
    rw [HDN.out]
    refine DkOut.at_ (base := W.heap.size) ⟨A3, n3, c3, A3', n3', c3', rfl, ?_, ?_⟩
    · repeat (first | with_reducible exact HR3.out | (with_reducible refine RowsOut.alloc ?_ _) | (with_reducible refine RowsOut.box ?_ ?hp _; (case hp => first | omega | (simp; done) | (simp; omega))))
      exact HR3.out
    · repeat (first | with_reducible exact HR3'.out | (with_reducible refine RowsOut.alloc ?_ _) | (with_reducible refine RowsOut.box ?_ ?hp _; (case hp => first | omega | (simp; done) | (simp; omega))))
  · repeat (first | with_reducible exact HBW.out | (with_reducible refine Below.alloc ?_ ?hp _; (case hp => first | omega | (simp; done) | (simp; omega))) | (with_reducible refine Below.setCell ?_ ?hp _; (case hp => first | omega | (simp; done) | (simp; omega))))

/-- the document's own Flush, of any disk -/
theorem rflush_any (v : Value) (d : Dk) (w : World) (hd : DkAt w w.heap.size v d) : Calls Try.prog 23 #[v] w (DkRes w (flushM d)) := by
  unfold flushM
  by_cases h : rightB d = true
  · rw [if_pos h]
    by_cases hde : deedD d.fuse d.down = true
    · rw [if_pos hde]; exact rflush_fall v d w hd h hde
    · rw [if_neg hde]; exact rflush_ok v d w hd h (by simpa using hde)
  · rw [if_neg h]; exact rflush_no v d w hd (by simpa using h)
end Go.Proofs.Ytfejnfohbagnkaa
