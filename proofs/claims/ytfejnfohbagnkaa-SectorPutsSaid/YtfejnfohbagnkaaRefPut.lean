/-
  Walks over the document's own functions on disks: deed, Put and Flush, of any disk that may be, any place and any bytes. Each leaves all older memory as it was.
-/
import Derived.Test.YtfejnfohbagnkaaRefOwn
namespace Go.Proofs.Ytfejnfohbagnkaa
open Go.RowKit

set_option maxHeartbeats 1000000 in
theorem rdeed_any (v : Value) (d : Dk) (w : World) (hd : DkAt w w.heap.size v d) (hr : rightB d = true) :
    Calls Try.prog 35 #[v] w fun e w' => ∃ A n c A' n' c', e = .returned (.tuple #[.agg #[.slice A n c, .slice A' n' c', .int .i64 (deedF d.fuse d.down), .bool (deedD d.fuse d.down)], .bool (!deedD d.fuse d.down)]) ∧
      DkOwn w' w.heap.size A n c A' n' c' { d with fuse := deedF d.fuse d.down, down := deedD d.fuse d.down } ∧ Below w.heap.size w w' := by
  have hdW := fun W => hd.later (W := W)
  obtain ⟨A, n, c, A', n', c', rfl, hrest⟩ := hd
  clear hrest
  have hb := hr
  unfold rightB fuseB at hb
  simp only [Bool.and_eq_true, decide_eq_true_eq] at hb
  have hf0 : -1 ≤ d.fuse := hb.1.2.1
  have hf1 : d.fuse ≤ 1099511627776 := hb.1.2.2
  have hl1 : d.secs.length ≤ 1000000 := by have := hb.1.1.1; omega
  have hl2 : d.loose.length ≤ 1000000 := by have := hb.1.1.2; omega
  have Hd := Lib.hid hdW
  have HL1 := Lib.hid hl1; have HL2 := Lib.hid hl2
  clear hb hr hdW hl1 hl2
  by_cases h1 : d.down = true
  · have hm1 : deedF d.fuse d.down = d.fuse := by unfold deedF; rw [if_pos h1]
    have hm2 : deedD d.fuse d.down = true := by unfold deedD; rw [h1]; rfl
    rw [hm1, hm2]
    have Hm := Lib.hid (show (!true) = false from rfl)
    have H1 := Lib.hid h1
    clear hm1 hm2 h1
    go_enter Try.func35, Try.ntmps35
    go_wp2_with fail
    refine (rcopy_own _ d _ (Hd.out _ (((Below.refl _ _).alloc (Nat.le_refl _) _).alloc (by simp) _)) HL1.out HL2.out).mono ?_
    rintro e w1 ⟨A1, n1, c1, A1', n1', c1', rfl, ⟨hR, hO⟩, hb1⟩
    have B0 : Bk w1 w.heap.size 25 _ := Bk.below ((Bk.new w 25 _).alloc _) hb1 (by simp only [World.size_alloc]; omega)
    have B1 : Bk w1 (w.heap.size + 1) 25 _ := Bk.below (Bk.new2 _ _ 25 _) hb1 (by simp only [World.size_alloc]; omega)
    have hb : Below w.heap.size w w1 := (((Below.refl _ _).alloc (Nat.le_refl _) _).alloc (by simp) _).trans (hb1.mono (by simp only [World.size_alloc]; omega))
    obtain ⟨⟨p0, p1, p2, p3⟩, q0, q1, q2, q3⟩ := B0.four
    rw [H1.out]
    simp only [World.size_alloc] at hR hO
    have HR := Lib.hid hR; have HO := Lib.hid hO; have HW := Lib.hid hb; have HB0 := Lib.hid B0; have HB1 := Lib.hid B1
    clear B0 B1 hb hb1 hR hO
    dsimp only
    go_wp2_with ((with_reducible show wpList _ _ _ (⟨some 14, _, _, _, _, _⟩ :: _) _ _); refine hold ?_)
    refine wpList_over (fun W => Bk W w.heap.size 25 #[.slice A1 n1 c1, .slice A1' n1' c1', .int .i64 d.fuse, .bool true] ∧ Bk W (w.heap.size + 1) 25 #[.slice none 0 0, .slice none 0 0, .int .i64 0, .bool false] ∧
      RowsOut W (w.heap.size + 1 + 1) 28 64 (.slice A1 n1 c1) n1 (d.secs.map secv) ∧ RowsOwn W (w.heap.size + 1 + 1) 37 65 (.slice A1' n1' c1') n1' (d.loose.map wrv) ∧ Below w.heap.size w W) ⟨?_, ?_, ?_, ?_, ?_⟩ ?_
    · have := (((((HB0.out.put 0 (.slice A1 n1 c1)).put 1 (.slice A1' n1' c1')).put 2 (.int .i64 d.fuse)).put 3 (.bool true)).put 3 (.bool true))
      simpa using this
    · repeat (first | with_reducible exact HB1.out | (with_reducible refine Bk.far ?_ ?hp _; (case hp => first | omega | (simp; done) | (simp; omega))))
    · repeat (first | with_reducible exact HR.out | (with_reducible refine RowsOut.alloc ?_ _) | (with_reducible refine RowsOut.box ?_ ?hp _; (case hp => first | omega | (simp; done) | (simp; omega))))
    · repeat (first | with_reducible exact HO.out | (with_reducible refine RowsOwn.alloc ?_ _) | (with_reducible refine RowsOwn.box ?_ ?hp _; (case hp => first | omega | (simp; done) | (simp; omega))))
    · repeat (first | with_reducible exact HW.out | (with_reducible refine Below.alloc ?_ ?hp _; (case hp => first | omega | (simp; done) | (simp; omega))) | (with_reducible refine Below.setCell ?_ ?hp _; (case hp => first | omega | (simp; done) | (simp; omega))))
    clear HR HO HW HB0 HB1 p0 p1 p2 p3 q0 q1 q2 q3
    rintro W ⟨B0, B1, hR, hO, hb⟩
    obtain ⟨⟨p0, p1, p2, p3⟩, q0, q1, q2, q3⟩ := B0.four
    obtain ⟨⟨r0, r1, r2, r3⟩, s0, s1, s2, s3⟩ := B1.four
    have HR := Lib.hid hR; have HO := Lib.hid hO; have HW := Lib.hid hb
    clear B0 B1 hb hR hO
    go_wp2
    refine bodyPost_ret (v := .tuple #[.agg #[.slice A1 n1 c1, .slice A1' n1' c1', .int .i64 d.fuse, .bool true], .bool false]) (by simp [results, Try.results35, go_sem, *]) rfl ?_
    refine ⟨A1, n1, c1, A1', n1', c1', by rw [Hm.out], ⟨?_, ?_⟩, ?_⟩
    · refine RowsOut.low (base := w.heap.size + 1 + 1) ?_ (by omega)
      repeat (first | with_reducible exact HR.out | (with_reducible refine RowsOut.alloc ?_ _) | (with_reducible refine RowsOut.box ?_ ?hp _; (case hp => first | omega | (simp; done) | (simp; omega))))
    · refine RowsOwn.low (base := w.heap.size + 1 + 1) ?_ (by omega)
      repeat (first | with_reducible exact HO.out | (with_reducible refine RowsOwn.alloc ?_ _) | (with_reducible refine RowsOwn.box ?_ ?hp _; (case hp => first | omega | (simp; done) | (simp; omega))))
    · repeat (first | with_reducible exact HW.out | (with_reducible refine Below.alloc ?_ ?hp _; (case hp => first | omega | (simp; done) | (simp; omega))) | (with_reducible refine Below.setCell ?_ ?hp _; (case hp => first | omega | (simp; done) | (simp; omega))))
  · have h1' : d.down = false := by simpa using h1
    have H1 := Lib.hid h1'
    clear h1
    by_cases h2 : d.fuse = 0
    · have hm1 : deedF d.fuse d.down = d.fuse := by unfold deedF; rw [h1', h2]; rfl
      have hm2 : deedD d.fuse d.down = true := by unfold deedD; rw [h1', h2]; rfl
      rw [hm1, hm2]
      have Hm := Lib.hid (show (!true) = false from rfl)
      have h2b : (d.fuse == 0) = true := by simpa using h2
      clear hm1 hm2 h2 h1'
      go_enter Try.func35, Try.ntmps35
      go_wp2_with fail
      refine (rcopy_own _ d _ (Hd.out _ (((Below.refl _ _).alloc (Nat.le_refl _) _).alloc (by simp) _)) HL1.out HL2.out).mono ?_
      rintro e w1 ⟨A1, n1, c1, A1', n1', c1', rfl, ⟨hR, hO⟩, hb1⟩
      have B0 : Bk w1 w.heap.size 25 _ := Bk.below ((Bk.new w 25 _).alloc _) hb1 (by simp only [World.size_alloc]; omega)
      have B1 : Bk w1 (w.heap.size + 1) 25 _ := Bk.below (Bk.new2 _ _ 25 _) hb1 (by simp only [World.size_alloc]; omega)
      have hb : Below w.heap.size w w1 := (((Below.refl _ _).alloc (Nat.le_refl _) _).alloc (by simp) _).trans (hb1.mono (by simp only [World.size_alloc]; omega))
      obtain ⟨⟨p0, p1, p2, p3⟩, q0, q1, q2, q3⟩ := B0.four
      rw [H1.out]
      simp only [World.size_alloc] at hR hO
      have HR := Lib.hid hR; have HO := Lib.hid hO; have HW := Lib.hid hb; have HB0 := Lib.hid B0; have HB1 := Lib.hid B1
      clear B0 B1 hb hb1 hR hO
      dsimp only
      go_wp2_with ((with_reducible show wpList _ _ _ (⟨some 14, _, _, _, _, _⟩ :: _) _ _); refine hold ?_)
      refine wpList_over (fun W => Bk W w.heap.size 25 #[.slice A1 n1 c1, .slice A1' n1' c1', .int .i64 d.fuse, .bool true] ∧ Bk W (w.heap.size + 1) 25 #[.slice none 0 0, .slice none 0 0, .int .i64 0, .bool false] ∧
        RowsOut W (w.heap.size + 1 + 1) 28 64 (.slice A1 n1 c1) n1 (d.secs.map secv) ∧ RowsOwn W (w.heap.size + 1 + 1) 37 65 (.slice A1' n1' c1') n1' (d.loose.map wrv) ∧ Below w.heap.size w W) ⟨?_, ?_, ?_, ?_, ?_⟩ ?_
      · have := (((((HB0.out.put 0 (.slice A1 n1 c1)).put 1 (.slice A1' n1' c1')).put 2 (.int .i64 d.fuse)).put 3 (.bool false)).put 3 (.bool true))
        simpa using this
      · repeat (first | with_reducible exact HB1.out | (with_reducible refine Bk.far ?_ ?hp _; (case hp => first | omega | (simp; done) | (simp; omega))))
      · repeat (first | with_reducible exact HR.out | (with_reducible refine RowsOut.alloc ?_ _) | (with_reducible refine RowsOut.box ?_ ?hp _; (case hp => first | omega | (simp; done) | (simp; omega))))
      · repeat (first | with_reducible exact HO.out | (with_reducible refine RowsOwn.alloc ?_ _) | (with_reducible refine RowsOwn.box ?_ ?hp _; (case hp => first | omega | (simp; done) | (simp; omega))))
      · repeat (first | with_reducible exact HW.out | (with_reducible refine Below.alloc ?_ ?hp _; (case hp => first | omega | (simp; done) | (simp; omega))) | (with_reducible refine Below.setCell ?_ ?hp _; (case hp => first | omega | (simp; done) | (simp; omega))))
      clear HR HO HW HB0 HB1 p0 p1 p2 p3 q0 q1 q2 q3
      rintro W ⟨B0, B1, hR, hO, hb⟩
      obtain ⟨⟨p0, p1, p2, p3⟩, q0, q1, q2, q3⟩ := B0.four
      obtain ⟨⟨r0, r1, r2, r3⟩, s0, s1, s2, s3⟩ := B1.four
      have HR := Lib.hid hR; have HO := Lib.hid hO; have HW := Lib.hid hb
      clear B0 B1 hb hR hO
      go_wp2
      refine bodyPost_ret (v := .tuple #[.agg #[.slice A1 n1 c1, .slice A1' n1' c1', .int .i64 d.fuse, .bool true], .bool false]) (by simp [results, Try.results35, go_sem, *]) rfl ?_
      refine ⟨A1, n1, c1, A1', n1', c1', by rw [Hm.out], ⟨?_, ?_⟩, ?_⟩
      · refine RowsOut.low (base := w.heap.size + 1 + 1) ?_ (by omega)
        repeat (first | with_reducible exact HR.out | (with_reducible refine RowsOut.alloc ?_ _) | (with_reducible refine RowsOut.box ?_ ?hp _; (case hp => first | omega | (simp; done) | (simp; omega))))
      · refine RowsOwn.low (base := w.heap.size + 1 + 1) ?_ (by omega)
        repeat (first | with_reducible exact HO.out | (with_reducible refine RowsOwn.alloc ?_ _) | (with_reducible refine RowsOwn.box ?_ ?hp _; (case hp => first | omega | (simp; done) | (simp; omega))))
      · repeat (first | with_reducible exact HW.out | (with_reducible refine Below.alloc ?_ ?hp _; (case hp => first | omega | (simp; done) | (simp; omega))) | (with_reducible refine Below.setCell ?_ ?hp _; (case hp => first | omega | (simp; done) | (simp; omega))))
    · have h2b : (d.fuse == 0) = false := by simpa using h2
      have hm2 : deedD d.fuse d.down = false := by unfold deedD; rw [h1', h2b]; rfl
      have Hm := Lib.hid (show (!false) = true from rfl)
      by_cases h3 : 0 < d.fuse
      · have hm1 : deedF d.fuse d.down = d.fuse - 1 := by unfold deedF; rw [h1', if_pos h3]; rfl
        rw [hm1, hm2]
        have h3b : decide (0 < d.fuse) = true := by simpa using h3
        clear hm1 hm2 h2 h1'
        go_enter Try.func35, Try.ntmps35
        go_wp2_with fail
        refine (rcopy_own _ d _ (Hd.out _ (((Below.refl _ _).alloc (Nat.le_refl _) _).alloc (by simp) _)) HL1.out HL2.out).mono ?_
        rintro e w1 ⟨A1, n1, c1, A1', n1', c1', rfl, ⟨hR, hO⟩, hb1⟩
        have B0 : Bk w1 w.heap.size 25 _ := Bk.below ((Bk.new w 25 _).alloc _) hb1 (by simp only [World.size_alloc]; omega)
        have B1 : Bk w1 (w.heap.size + 1) 25 _ := Bk.below (Bk.new2 _ _ 25 _) hb1 (by simp only [World.size_alloc]; omega)
        have hb : Below w.heap.size w w1 := (((Below.refl _ _).alloc (Nat.le_refl _) _).alloc (by simp) _).trans (hb1.mono (by simp only [World.size_alloc]; omega))
        obtain ⟨⟨p0, p1, p2, p3⟩, q0, q1, q2, q3⟩ := B0.four
        rw [H1.out]
        simp only [World.size_alloc] at hR hO
        have HR := Lib.hid hR; have HO := Lib.hid hO; have HW := Lib.hid hb; have HB0 := Lib.hid B0; have HB1 := Lib.hid B1
        clear B0 B1 hb hb1 hR hO
        dsimp only
        go_wp2_with ((with_reducible show wpList _ _ _ (⟨some 22, _, _, _, _, _⟩ :: _) _ _); refine hold ?_)
        refine wpList_over (fun W => Bk W w.heap.size 25 #[.slice A1 n1 c1, .slice A1' n1' c1', .int .i64 (d.fuse - 1), .bool false] ∧ Bk W (w.heap.size + 1) 25 #[.slice none 0 0, .slice none 0 0, .int .i64 0, .bool false] ∧
          RowsOut W (w.heap.size + 1 + 1) 28 64 (.slice A1 n1 c1) n1 (d.secs.map secv) ∧ RowsOwn W (w.heap.size + 1 + 1) 37 65 (.slice A1' n1' c1') n1' (d.loose.map wrv) ∧ Below w.heap.size w W) ⟨?_, ?_, ?_, ?_, ?_⟩ ?_
        · have := (((((HB0.out.put 0 (.slice A1 n1 c1)).put 1 (.slice A1' n1' c1')).put 2 (.int .i64 d.fuse)).put 3 (.bool false)).put 2 (.int .i64 (d.fuse - 1)))
          simpa using this
        · repeat (first | with_reducible exact HB1.out | (with_reducible refine Bk.far ?_ ?hp _; (case hp => first | omega | (simp; done) | (simp; omega))))
        · repeat (first | with_reducible exact HR.out | (with_reducible refine RowsOut.alloc ?_ _) | (with_reducible refine RowsOut.box ?_ ?hp _; (case hp => first | omega | (simp; done) | (simp; omega))))
        · repeat (first | with_reducible exact HO.out | (with_reducible refine RowsOwn.alloc ?_ _) | (with_reducible refine RowsOwn.box ?_ ?hp _; (case hp => first | omega | (simp; done) | (simp; omega))))
        · repeat (first | with_reducible exact HW.out | (with_reducible refine Below.alloc ?_ ?hp _; (case hp => first | omega | (simp; done) | (simp; omega))) | (with_reducible refine Below.setCell ?_ ?hp _; (case hp => first | omega | (simp; done) | (simp; omega))))
        clear HR HO HW HB0 HB1 p0 p1 p2 p3 q0 q1 q2 q3
        rintro W ⟨B0, B1, hR, hO, hb⟩
        obtain ⟨⟨p0, p1, p2, p3⟩, q0, q1, q2, q3⟩ := B0.four
        obtain ⟨⟨r0, r1, r2, r3⟩, s0, s1, s2, s3⟩ := B1.four
        have HR := Lib.hid hR; have HO := Lib.hid hO; have HW := Lib.hid hb
        clear B0 B1 hb hR hO
        go_wp2
        refine bodyPost_ret (v := .tuple #[.agg #[.slice A1 n1 c1, .slice A1' n1' c1', .int .i64 (d.fuse - 1), .bool false], .bool true]) (by simp [results, Try.results35, go_sem, *]) rfl ?_
        refine ⟨A1, n1, c1, A1', n1', c1', by rw [Hm.out], ⟨?_, ?_⟩, ?_⟩
        · refine RowsOut.low (base := w.heap.size + 1 + 1) ?_ (by omega)
          repeat (first | with_reducible exact HR.out | (with_reducible refine RowsOut.alloc ?_ _) | (with_reducible refine RowsOut.box ?_ ?hp _; (case hp => first | omega | (simp; done) | (simp; omega))))
        · refine RowsOwn.low (base := w.heap.size + 1 + 1) ?_ (by omega)
          repeat (first | with_reducible exact HO.out | (with_reducible refine RowsOwn.alloc ?_ _) | (with_reducible refine RowsOwn.box ?_ ?hp _; (case hp => first | omega | (simp; done) | (simp; omega))))
        · repeat (first | with_reducible exact HW.out | (with_reducible refine Below.alloc ?_ ?hp _; (case hp => first | omega | (simp; done) | (simp; omega))) | (with_reducible refine Below.setCell ?_ ?hp _; (case hp => first | omega | (simp; done) | (simp; omega))))
      · have hm1 : deedF d.fuse d.down = d.fuse := by unfold deedF; rw [h1', if_neg h3]; rfl
        rw [hm1, hm2]
        have h3b : decide (0 < d.fuse) = false := by simpa using h3
        clear hm1 hm2 h2 h1'
        go_enter Try.func35, Try.ntmps35
        go_wp2_with fail
        refine (rcopy_own _ d _ (Hd.out _ (((Below.refl _ _).alloc (Nat.le_refl _) _).alloc (by simp) _)) HL1.out HL2.out).mono ?_
        rintro e w1 ⟨A1, n1, c1, A1', n1', c1', rfl, ⟨hR, hO⟩, hb1⟩
        have B0 : Bk w1 w.heap.size 25 _ := Bk.below ((Bk.new w 25 _).alloc _) hb1 (by simp only [World.size_alloc]; omega)
        have B1 : Bk w1 (w.heap.size + 1) 25 _ := Bk.below (Bk.new2 _ _ 25 _) hb1 (by simp only [World.size_alloc]; omega)
        have hb : Below w.heap.size w w1 := (((Below.refl _ _).alloc (Nat.le_refl _) _).alloc (by simp) _).trans (hb1.mono (by simp only [World.size_alloc]; omega))
        obtain ⟨⟨p0, p1, p2, p3⟩, q0, q1, q2, q3⟩ := B0.four
        rw [H1.out]
        simp only [World.size_alloc] at hR hO
        have HR := Lib.hid hR; have HO := Lib.hid hO; have HW := Lib.hid hb; have HB0 := Lib.hid B0; have HB1 := Lib.hid B1
        clear B0 B1 hb hb1 hR hO
        dsimp only
        go_wp2_with ((with_reducible show wpList _ _ _ (⟨some 22, _, _, _, _, _⟩ :: _) _ _); refine hold ?_)
        refine wpList_over (fun W => Bk W w.heap.size 25 #[.slice A1 n1 c1, .slice A1' n1' c1', .int .i64 d.fuse, .bool false] ∧ Bk W (w.heap.size + 1) 25 #[.slice none 0 0, .slice none 0 0, .int .i64 0, .bool false] ∧
          RowsOut W (w.heap.size + 1 + 1) 28 64 (.slice A1 n1 c1) n1 (d.secs.map secv) ∧ RowsOwn W (w.heap.size + 1 + 1) 37 65 (.slice A1' n1' c1') n1' (d.loose.map wrv) ∧ Below w.heap.size w W) ⟨?_, ?_, ?_, ?_, ?_⟩ ?_
        · have := ((((HB0.out.put 0 (.slice A1 n1 c1)).put 1 (.slice A1' n1' c1')).put 2 (.int .i64 d.fuse)).put 3 (.bool false))
          simpa using this
        · repeat (first | with_reducible exact HB1.out | (with_reducible refine Bk.far ?_ ?hp _; (case hp => first | omega | (simp; done) | (simp; omega))))
        · repeat (first | with_reducible exact HR.out | (with_reducible refine RowsOut.alloc ?_ _) | (with_reducible refine RowsOut.box ?_ ?hp _; (case hp => first | omega | (simp; done) | (simp; omega))))
        · repeat (first | with_reducible exact HO.out | (with_reducible refine RowsOwn.alloc ?_ _) | (with_reducible refine RowsOwn.box ?_ ?hp _; (case hp => first | omega | (simp; done) | (simp; omega))))
        · repeat (first | with_reducible exact HW.out | (with_reducible refine Below.alloc ?_ ?hp _; (case hp => first | omega | (simp; done) | (simp; omega))) | (with_reducible refine Below.setCell ?_ ?hp _; (case hp => first | omega | (simp; done) | (simp; omega))))
        clear HR HO HW HB0 HB1 p0 p1 p2 p3 q0 q1 q2 q3
        rintro W ⟨B0, B1, hR, hO, hb⟩
        obtain ⟨⟨p0, p1, p2, p3⟩, q0, q1, q2, q3⟩ := B0.four
        obtain ⟨⟨r0, r1, r2, r3⟩, s0, s1, s2, s3⟩ := B1.four
        have HR := Lib.hid hR; have HO := Lib.hid hO; have HW := Lib.hid hb
        clear B0 B1 hb hR hO
        go_wp2
        refine bodyPost_ret (v := .tuple #[.agg #[.slice A1 n1 c1, .slice A1' n1' c1', .int .i64 d.fuse, .bool false], .bool true]) (by simp [results, Try.results35, go_sem, *]) rfl ?_
        refine ⟨A1, n1, c1, A1', n1', c1', by rw [Hm.out], ⟨?_, ?_⟩, ?_⟩
        · refine RowsOut.low (base := w.heap.size + 1 + 1) ?_ (by omega)
          repeat (first | with_reducible exact HR.out | (with_reducible refine RowsOut.alloc ?_ _) | (with_reducible refine RowsOut.box ?_ ?hp _; (case hp => first | omega | (simp; done) | (simp; omega))))
        · refine RowsOwn.low (base := w.heap.size + 1 + 1) ?_ (by omega)
          repeat (first | with_reducible exact HO.out | (with_reducible refine RowsOwn.alloc ?_ _) | (with_reducible refine RowsOwn.box ?_ ?hp _; (case hp => first | omega | (simp; done) | (simp; omega))))
        · repeat (first | with_reducible exact HW.out | (with_reducible refine Below.alloc ?_ ?hp _; (case hp => first | omega | (simp; done) | (simp; omega))) | (with_reducible refine Below.setCell ?_ ?hp _; (case hp => first | omega | (simp; done) | (simp; omega))))
end Go.Proofs.Ytfejnfohbagnkaa
