/-
  The walk of the law SectorFuse: an armed disk does just so many deeds, and then falls, and stays down until it is started. It returns true, and leaves all older memory as it was.
-/
import Derived.Test.YtfejnfohbagnkaaSecAlive
namespace Go.Proofs.Ytfejnfohbagnkaa
open Go.RowKit

/-- the disk behind i deeds -/
def FuseAt (deeds i : Nat) (d : Dk) : Prop := rightB d = true ∧ d.secs.length = 3 ∧ d.loose.length ≤ i ∧ d.fuse = ((deeds - i : Nat) : Int) ∧ d.down = decide (deeds < i)

theorem rightB_iff {d : Dk} : rightB d = true ↔ d.secs.length ≤ 4096 ∧ d.loose.length ≤ 100000 ∧ fuseB d.fuse = true ∧ looseB d.secs.length d.loose = true := by
  unfold rightB
  simp only [Bool.and_eq_true, decide_eq_true_eq]
  exact ⟨fun h => ⟨h.1.1.1, h.1.1.2, h.1.2, h.2⟩, fun h => ⟨⟨⟨h.1, h.2.1⟩, h.2.2.1⟩, h.2.2.2⟩⟩
theorem looseB_append (n : Nat) (l m : List (Int × List Int)) : looseB n (l ++ m) = (looseB n l && looseB n m) := by simp [looseB]
theorem fuse_small (m : Nat) (h : m ≤ 300) : fuseB (m : Int) = true := by
  unfold fuseB
  simp only [Bool.and_eq_true, decide_eq_true_eq]
  omega

theorem put_fuse {deeds i : Nat} {d : Dk} (s : List Int) (h : FuseAt deeds i d) (hi : i ≤ 300) (hd : deeds ≤ 300) :
    FuseAt deeds (i + 1) (putM d 1 s).1 ∧ (putM d 1 s).2 = (if i < deeds then 0 else 9) := by
  obtain ⟨h1, h2, h3, h4, h5⟩ := h
  have ht : thereB d.secs.length 1 = true := by rw [h2]; rfl
  obtain ⟨r1, r2, r3, r4⟩ := rightB_iff.1 h1
  unfold putM
  rw [if_pos (by rw [h1, ht]; rfl)]
  by_cases hlt : i < deeds
  · have hde : deedD d.fuse d.down = false := by
      rw [h4, h5]
      unfold deedD
      rw [Bool.or_eq_false_iff]
      exact ⟨by simp; omega, by simp; omega⟩
    have hdf : deedF d.fuse d.down = ((deeds - (i + 1) : Nat) : Int) := by
      have hdd : d.down = false := by rw [h5]; simp; omega
      unfold deedF
      rw [hdd, h4]
      simp only [Bool.false_eq_true, if_false]
      rw [if_pos (by omega)]
      omega
    rw [if_neg (by rw [hde]; simp), if_pos hlt]
    refine ⟨⟨rightB_iff.2 ⟨r1, by simp; omega, by show fuseB (deedF d.fuse d.down) = true; rw [hdf]; exact fuse_small _ (by omega), ?_⟩, h2, by simp; omega, hdf, ?_⟩, rfl⟩
    · show looseB d.secs.length (d.loose ++ [(1, s)]) = true
      rw [looseB_append, r4]
      simpa [looseB] using ht
    · show d.down = _
      rw [h5]
      simp; omega
  · have hde : deedD d.fuse d.down = true := by
      rw [h4, h5]
      unfold deedD
      rw [Bool.or_eq_true]
      by_cases he : deeds < i
      · exact .inl (by simpa using he)
      · exact .inr (by simp; omega)
    have hdf : deedF d.fuse d.down = 0 := by
      unfold deedF
      rw [h4]
      split
      · omega
      · split <;> omega
    rw [if_pos hde, if_neg hlt]
    refine ⟨⟨rightB_iff.2 ⟨r1, r2, by show fuseB (deedF d.fuse d.down) = true; rw [hdf]; rfl, r4⟩, h2, by show d.loose.length ≤ i + 1; omega, ?_, ?_⟩, rfl⟩
    · show deedF d.fuse d.down = _
      rw [hdf]; omega
    · show true = _
      simp; omega
theorem flush_fuse {deeds i : Nat} {d : Dk} (h : FuseAt deeds i d) (hi : i ≤ 300) (hd : deeds ≤ 300) :
    FuseAt deeds (i + 1) (flushM d).1 ∧ (flushM d).2 = (if i < deeds then 0 else 9) := by
  obtain ⟨h1, h2, h3, h4, h5⟩ := h
  obtain ⟨r1, r2, r3, r4⟩ := rightB_iff.1 h1
  unfold flushM
  rw [if_pos h1]
  by_cases hlt : i < deeds
  · have hde : deedD d.fuse d.down = false := by
      rw [h4, h5]
      unfold deedD
      rw [Bool.or_eq_false_iff]
      exact ⟨by simp; omega, by simp; omega⟩
    have hdf : deedF d.fuse d.down = ((deeds - (i + 1) : Nat) : Int) := by
      have hdd : d.down = false := by rw [h5]; simp; omega
      unfold deedF
      rw [hdd, h4]
      simp only [Bool.false_eq_true, if_false]
      rw [if_pos (by omega)]
      omega
    rw [if_neg (by rw [hde]; simp), if_pos hlt]
    have hv : (viewM d).length = 3 := by unfold viewM; rw [doneM_length, h2]
    refine ⟨⟨rightB_iff.2 ⟨by show (viewM d).length ≤ _; omega, by show 0 ≤ _; omega, by show fuseB (deedF d.fuse d.down) = true; rw [hdf]; exact fuse_small _ (by omega), rfl⟩, hv, by show 0 ≤ _; omega, hdf, ?_⟩, rfl⟩
    show d.down = _
    rw [h5]
    simp; omega
  · have hde : deedD d.fuse d.down = true := by
      rw [h4, h5]
      unfold deedD
      rw [Bool.or_eq_true]
      by_cases he : deeds < i
      · exact .inl (by simpa using he)
      · exact .inr (by simp; omega)
    have hdf : deedF d.fuse d.down = 0 := by
      unfold deedF
      rw [h4]
      split
      · omega
      · split <;> omega
    rw [if_pos hde, if_neg hlt]
    refine ⟨⟨rightB_iff.2 ⟨r1, r2, by show fuseB (deedF d.fuse d.down) = true; rw [hdf]; rfl, r4⟩, h2, by show d.loose.length ≤ i + 1; omega, ?_, ?_⟩, rfl⟩
    · show deedF d.fuse d.down = _
      rw [hdf]; omega
    · show true = _
      simp; omega

def FuseRel (w : World) (bd m n : Nat) (i : Value) (wr : World) : Prop :=
  ∃ (j : Nat) (d : Dk) (A : Option Addr) (n1 c1 : Nat) (A' : Option Addr) (n1' c1' : Nat), j ≤ n ∧ i = .int .i64 j ∧ FuseAt m j d ∧ Bk wr bd 25 #[.slice A n1 c1, .slice A' n1' c1', .int .i64 d.fuse, .bool d.down] ∧
    DkAt wr wr.heap.size (.agg #[.slice A n1 c1, .slice A' n1' c1', .int .i64 d.fuse, .bool d.down]) d ∧ Below w.heap.size w wr

def fu0 : Dk := (newM 3).1
theorem fu0_ok : newM 3 = (fu0, 0) := by decide +kernel
theorem fu1_ok (m : Nat) (h : m ≤ 255) : ∃ d, armM fu0 (m : Int) = (d, 0) ∧ FuseAt m 0 d := by
  have hr : rightB fu0 = true := by decide +kernel
  refine ⟨{ fu0 with fuse := (m : Int) }, ?_, ?_, rfl, Nat.le_refl _, by simp, by show fu0.down = _; simp; rfl⟩
  · unfold armM
    rw [hr, fuse_small m (by omega)]
    rfl
  · obtain ⟨r1, r2, r3, r4⟩ := rightB_iff.1 hr
    exact rightB_iff.2 ⟨r1, r2, fuse_small m (by omega), r4⟩

set_option maxRecDepth 100000 in
set_option maxHeartbeats 2000000 in
theorem fuse_walk (m : Nat) (h255 : m ≤ 255) (A : Option Addr) (n c : Nat) (fs : List Bool) (w : World) (hn : n ≤ maxLen) (hfl : fs.length = n) (hf : ∀ j, j < n → ∃ b o, A = some ⟨b, o, none⟩ ∧ b < w.heap.size ∧ w.cell? ⟨b, o + j, none⟩ = some (.bool (fs.getD j false))) :
    Calls Try.prog 8 #[.int .u8 (m : Int), .slice A n c] w fun e w' => e = .returned (.bool true) ∧ Below w.heap.size w w' := by
  unfold maxLen at hn
  have Hf := Lib.hid hf
  clear hf
  have Hfl := Lib.hid hfl
  clear hfl
  go_enter Try.func8, Try.ntmps8
  go_wp2_with fail
  refine (alive_any _).mono ?_
  rintro e w1 ⟨rfl, hb1⟩
  go_wp2_with fail
  have hp := new_any 3 w1
  rw [fu0_ok] at hp
  refine hp.mono ?_
  clear hp
  rintro e w2 hres
  obtain ⟨A0, n0, c0, A0', n0', c0', rfl, hd0, hb2⟩ := hres.zero
  have HD0 := Lib.hid hd0
  have HBW := Lib.hid (hb1.trans (hb2.mono hb1.size))
  clear hres hd0 hb1 hb2
  have hle : w.heap.size ≤ w2.heap.size := HBW.out.size
  have hm0 : (0 : Int) ≤ (m : Int) := by omega
  have hm1 : (m : Int) ≤ 255 := by omega
  go_wp2_with fail
  obtain ⟨d1, hd1, hF1⟩ := fu1_ok m h255
  refine calls_over (fun W => Bk W w2.heap.size 25 #[.slice A0 n0 c0, .slice A0' n0' c0', .int .i64 fu0.fuse, .bool fu0.down] ∧ DkAt W W.heap.size (.agg #[.slice A0 n0 c0, .slice A0' n0' c0', .int .i64 fu0.fuse, .bool fu0.down]) fu0 ∧ Below w.heap.size w W) ⟨Bk.new _ _ _, HD0.out.later ((Below.refl _ _).alloc (Nat.le_refl _) _), HBW.out.alloc hle _⟩ ?_
  rintro W1 ⟨B1, hdd1, hb1⟩
  have hp := arm_any _ fu0 (m : Int) W1 hdd1
  rw [hd1] at hp
  refine hp.mono ?_
  clear hp hd1
  rintro e w3 hres
  obtain ⟨A1, n1, c1, A1', n1', c1', rfl, hd2, hb2⟩ := hres.zero
  have HB := Lib.hid (B1.below hb2 B1.lt)
  have HD := Lib.hid hd2
  have HBW' := Lib.hid (hb1.trans (hb2.mono hb1.size))
  clear hres hd2 hdd1 B1 hb1 hb2 HBW HD0
  have HF1 := Lib.hid hF1
  clear hF1
  obtain ⟨⟨p0, p1, p2, p3⟩, q0, q1, q2, q3⟩ := HB.out.four
  have hn0 : (0 : Int) ≤ (n : Int) := by omega
  by_cases hbig : 300 < n
  · have hb300 : decide (300 < (n : Int)) = true := by simp; omega
    go_wp2
    go_ret
    refine ⟨rfl, ?_⟩
    exact (stored4_facts HB.out _ _ _ _).2.2.1 _ _ HBW'.out hle
  · have hb300 : decide (300 < (n : Int)) = false := by simp; omega
    go_wp2_with fail
    go_loopw [8] (fun i wr => FuseRel w w2.heap.size m n i wr) (fun i _ => n - (intOf i).toNat)
    case atStart =>
      obtain ⟨f1, f2, f3, -⟩ := stored4_facts HB.out (.slice A1 n1 c1) (.slice A1' n1' c1') (.int .i64 d1.fuse) (.bool d1.down)
      exact ⟨0, d1, A1, n1, c1, A1', n1', c1', Nat.zero_le _, rfl, HF1.out, f1, f2 _ _ HD.out, f3 _ _ HBW'.out hle⟩
    case round =>
      clear p0 p1 p2 p3 q0 q1 q2 q3 HB HD HBW' HF1 hb300
      obtain ⟨j, d, A2, n2, c2, A2', n2', c2', hj, rfl, hF, hBr, hDr, hbr⟩ := hrel
      obtain ⟨⟨p0, p1, p2, p3⟩, q0, q1, q2, q3⟩ := hBr.four
      have HBr := Lib.hid hBr; have HDr := Lib.hid hDr; have hF := Lib.hid hF; have hbr := Lib.hid hbr
      clear hBr hDr
      by_cases hlt : j < n
      · obtain ⟨bf, of, hA, hbf, hcf⟩ := Hf.out j hlt
        subst hA
        have hjn : (j : Int) < (n : Int) := by omega
        have cfl : wr.cell? ⟨bf, of + j, none⟩ = some (.bool (fs.getD j false)) := (hbr.out.cell (p := ⟨bf, of + j, none⟩) hbf).trans hcf
        clear hcf
        by_cases hjm : j < m
        · by_cases hfl' : fs.getD j false = true
          · have hfv : fs.getD j false = true := hfl'
            rw [hfv] at cfl
            have Hfv := Lib.hid hfv
            clear hfv
            have hp := put_any _ d 1 (byte1 1) wr HDr.out rfl
            obtain ⟨dp, hdp, hFp⟩ : ∃ dp, putM d 1 (byte1 1) = (dp, 0) ∧ FuseAt m (j + 1) dp := by
              obtain ⟨h1, h2⟩ := put_fuse (byte1 1) hF.out (by omega) (by omega)
              rw [if_pos hjm] at h2
              exact ⟨_, by rw [← h2], h1⟩
            rw [hdp] at hp
            have Hp := Lib.hid hp
            have HFp := Lib.hid hFp
            clear hp hdp hFp
            go_wp2_with ((with_reducible show wpList _ _ _ (⟨_, .build _ _, _, _, _, _⟩ :: _) _ _); refine hold ?_)
            refine held (wpList_build_to rfl 28 #[(0, .const (.int .u8 1))] rfl [(0, .int .u8 1)] rfl (secv (byte1 1)).toArray (built_byte1 1) ?_)
            go_wp2_with fail
            refine Hp.out.mono ?_
            clear Hp
            rintro e w4 hres
            obtain ⟨A3, n3, c3, A3', n3', c3', rfl, hd4, hb4⟩ := hres.zero
            have HB4 := Lib.hid (HBr.out.below hb4 HBr.out.lt)
            have HD4 := Lib.hid hd4
            have HDr4 := Lib.hid (HDr.out.later hb4)
            have HW4 := Lib.hid (hbr.out.trans (hb4.mono hbr.out.size))
            have cfl4 : w4.cell? ⟨bf, of + j, none⟩ = some (.bool true) := (hb4.cell (p := ⟨bf, of + j, none⟩) (by have := hbr.out.size; show bf < _; omega)).trans cfl
            have hlt4 : w2.heap.size < w4.heap.size := HB4.out.lt
            have hbf4 : bf < w4.heap.size := by have := HW4.out.size; omega
            have hne4 : ¬ w4.heap.size = w2.heap.size := by omega
            clear hres hd4 hb4 p0 p1 p2 p3 q0 q1 q2 q3 cfl
            obtain ⟨⟨p0, p1, p2, p3⟩, q0, q1, q2, q3⟩ := HB4.out.four
            have hjmB : decide ((j : Int) < (m : Int)) = true := by simp; omega
            go_wp2_with fail
            refine calls_over (fun W => Bk W w2.heap.size 25 #[.slice A2 n2 c2, .slice A2' n2' c2', .int .i64 d.fuse, .bool d.down] ∧ Bk W w4.heap.size 25 #[.slice A3 n3 c3, .slice A3' n3' c3', .int .i64 dp.fuse, .bool dp.down] ∧ DkAt W W.heap.size (.agg #[.slice A2 n2 c2, .slice A2' n2' c2', .int .i64 d.fuse, .bool d.down]) d ∧ Below w.heap.size w W) ⟨HB4.out.alloc _, Bk.new _ _ _, HDr4.out.later ((Below.refl _ _).alloc (Nat.le_refl _) _), HW4.out.alloc HW4.out.size _⟩ ?_
            clear p0 p1 p2 p3 q0 q1 q2 q3 HD4 HDr4 HW4 HB4 cfl4
            rintro W5 ⟨C0, C1, hD5, hb5⟩
            have hp := flush_any _ d W5 hD5
            obtain ⟨dq, hdq, hFq⟩ : ∃ dq, flushM d = (dq, 0) ∧ FuseAt m (j + 1) dq := by
              obtain ⟨h1, h2⟩ := flush_fuse hF.out (by omega) (by omega)
              rw [if_pos hjm] at h2
              exact ⟨_, by rw [← h2], h1⟩
            rw [hdq] at hp
            refine hp.mono ?_
            clear hp hdq
            rintro e w6 hres
            obtain ⟨A4, n4, c4, A4', n4', c4', rfl, hd6, hb6⟩ := hres.zero
            have HFq := Lib.hid hFq
            have HC0 := Lib.hid (C0.below hb6 C0.lt)
            have HC1 := Lib.hid (C1.below hb6 C1.lt)
            have HD6 := Lib.hid hd6
            have HW6 := Lib.hid (hb5.trans (hb6.mono hb5.size))
            clear hres hd6 hb6 hb5 hD5 C0 C1 hFq
            obtain ⟨⟨p0, p1, p2, p3⟩, q0, q1, q2, q3⟩ := HC0.out.four
            obtain ⟨⟨r0, r1, r2, r3⟩, s0, s1, s2, s3⟩ := HC1.out.four
            go_wp2
            go_roundw
            case rel =>
              obtain ⟨g1, g2, g3, g4⟩ := stored4_facts HC1.out (.slice A4 n4 c4) (.slice A4' n4' c4') (.int .i64 dq.fuse) (.bool dq.down)
              obtain ⟨f1, f2, f3, -⟩ := stored4_facts (g4 _ _ _ (by omega) HC0.out) (.slice A4 n4 c4) (.slice A4' n4' c4') (.int .i64 dq.fuse) (.bool dq.down)
              have hDx := g2 _ _ HD6.out
              have hWx := g3 _ _ HW6.out (by omega)
              exact ⟨j + 1, dq, A4, n4, c4, A4', n4', c4', by omega, by go_num, HFq.out, f1, f2 _ _ hDx, f3 _ _ hWx hle⟩
            case measure => simp [intOf]; omega
          · have hfv : fs.getD j false = false := (by simpa using hfl')
            rw [hfv] at cfl
            have Hfv := Lib.hid hfv
            clear hfv
            have hp := put_any _ d 1 (byte1 1) wr HDr.out rfl
            obtain ⟨dp, hdp, hFp⟩ : ∃ dp, putM d 1 (byte1 1) = (dp, 0) ∧ FuseAt m (j + 1) dp := by
              obtain ⟨h1, h2⟩ := put_fuse (byte1 1) hF.out (by omega) (by omega)
              rw [if_pos hjm] at h2
              exact ⟨_, by rw [← h2], h1⟩
            rw [hdp] at hp
            have Hp := Lib.hid hp
            have HFp := Lib.hid hFp
            clear hp hdp hFp
            go_wp2_with ((with_reducible show wpList _ _ _ (⟨_, .build _ _, _, _, _, _⟩ :: _) _ _); refine hold ?_)
            refine held (wpList_build_to rfl 28 #[(0, .const (.int .u8 1))] rfl [(0, .int .u8 1)] rfl (secv (byte1 1)).toArray (built_byte1 1) ?_)
            go_wp2_with fail
            refine Hp.out.mono ?_
            clear Hp
            rintro e w4 hres
            obtain ⟨A3, n3, c3, A3', n3', c3', rfl, hd4, hb4⟩ := hres.zero
            have HB4 := Lib.hid (HBr.out.below hb4 HBr.out.lt)
            have HD4 := Lib.hid hd4
            have HDr4 := Lib.hid (HDr.out.later hb4)
            have HW4 := Lib.hid (hbr.out.trans (hb4.mono hbr.out.size))
            have cfl4 : w4.cell? ⟨bf, of + j, none⟩ = some (.bool false) := (hb4.cell (p := ⟨bf, of + j, none⟩) (by have := hbr.out.size; show bf < _; omega)).trans cfl
            have hlt4 : w2.heap.size < w4.heap.size := HB4.out.lt
            have hbf4 : bf < w4.heap.size := by have := HW4.out.size; omega
            have hne4 : ¬ w4.heap.size = w2.heap.size := by omega
            clear hres hd4 hb4 p0 p1 p2 p3 q0 q1 q2 q3 cfl
            obtain ⟨⟨p0, p1, p2, p3⟩, q0, q1, q2, q3⟩ := HB4.out.four
            have hjmB : decide ((j : Int) < (m : Int)) = true := by simp; omega
            go_wp2
            go_roundw
            case rel =>
              obtain ⟨f1, f2, f3, -⟩ := stored4_facts HB4.out (.slice A3 n3 c3) (.slice A3' n3' c3') (.int .i64 dp.fuse) (.bool dp.down)
              have g3 := f3 _ _ HW4.out hle
              exact ⟨j + 1, dp, A3, n3, c3, A3', n3', c3', by omega, by go_num, HFp.out, f1.alloc _, (f2 _ _ HD4.out).later ((Below.refl _ _).alloc (Nat.le_refl _) _), g3.alloc g3.size _⟩
            case measure => simp [intOf]; omega
        · by_cases hfl' : fs.getD j false = true
          · have hfv : fs.getD j false = true := hfl'
            rw [hfv] at cfl
            have Hfv := Lib.hid hfv
            clear hfv
            have hp := put_any _ d 1 (byte1 1) wr HDr.out rfl
            obtain ⟨dp, hdp, hFp⟩ : ∃ dp, putM d 1 (byte1 1) = (dp, 9) ∧ FuseAt m (j + 1) dp := by
              obtain ⟨h1, h2⟩ := put_fuse (byte1 1) hF.out (by omega) (by omega)
              rw [if_neg hjm] at h2
              exact ⟨_, by rw [← h2], h1⟩
            rw [hdp] at hp
            have Hp := Lib.hid hp
            have HFp := Lib.hid hFp
            clear hp hdp hFp
            go_wp2_with ((with_reducible show wpList _ _ _ (⟨_, .build _ _, _, _, _, _⟩ :: _) _ _); refine hold ?_)
            refine held (wpList_build_to rfl 28 #[(0, .const (.int .u8 1))] rfl [(0, .int .u8 1)] rfl (secv (byte1 1)).toArray (built_byte1 1) ?_)
            go_wp2_with fail
            refine Hp.out.mono ?_
            clear Hp
            rintro e w4 hres
            obtain ⟨A3, n3, c3, A3', n3', c3', rfl, hd4, hb4⟩ := hres.zero
            have HB4 := Lib.hid (HBr.out.below hb4 HBr.out.lt)
            have HD4 := Lib.hid hd4
            have HDr4 := Lib.hid (HDr.out.later hb4)
            have HW4 := Lib.hid (hbr.out.trans (hb4.mono hbr.out.size))
            have cfl4 : w4.cell? ⟨bf, of + j, none⟩ = some (.bool true) := (hb4.cell (p := ⟨bf, of + j, none⟩) (by have := hbr.out.size; show bf < _; omega)).trans cfl
            have hlt4 : w2.heap.size < w4.heap.size := HB4.out.lt
            have hbf4 : bf < w4.heap.size := by have := HW4.out.size; omega
            have hne4 : ¬ w4.heap.size = w2.heap.size := by omega
            clear hres hd4 hb4 p0 p1 p2 p3 q0 q1 q2 q3 cfl
            obtain ⟨⟨p0, p1, p2, p3⟩, q0, q1, q2, q3⟩ := HB4.out.four
            have hjmB : decide ((j : Int) < (m : Int)) = false := by simp; omega
            go_wp2_with fail
            refine calls_over (fun W => Bk W w2.heap.size 25 #[.slice A2 n2 c2, .slice A2' n2' c2', .int .i64 d.fuse, .bool d.down] ∧ Bk W w4.heap.size 25 #[.slice A3 n3 c3, .slice A3' n3' c3', .int .i64 dp.fuse, .bool dp.down] ∧ DkAt W W.heap.size (.agg #[.slice A2 n2 c2, .slice A2' n2' c2', .int .i64 d.fuse, .bool d.down]) d ∧ Below w.heap.size w W) ⟨HB4.out.alloc _, Bk.new _ _ _, HDr4.out.later ((Below.refl _ _).alloc (Nat.le_refl _) _), HW4.out.alloc HW4.out.size _⟩ ?_
            clear p0 p1 p2 p3 q0 q1 q2 q3 HD4 HDr4 HW4 HB4 cfl4
            rintro W5 ⟨C0, C1, hD5, hb5⟩
            have hp := flush_any _ d W5 hD5
            obtain ⟨dq, hdq, hFq⟩ : ∃ dq, flushM d = (dq, 9) ∧ FuseAt m (j + 1) dq := by
              obtain ⟨h1, h2⟩ := flush_fuse hF.out (by omega) (by omega)
              rw [if_neg hjm] at h2
              exact ⟨_, by rw [← h2], h1⟩
            rw [hdq] at hp
            refine hp.mono ?_
            clear hp hdq
            rintro e w6 hres
            obtain ⟨A4, n4, c4, A4', n4', c4', rfl, hd6, hb6⟩ := hres.zero
            have HFq := Lib.hid hFq
            have HC0 := Lib.hid (C0.below hb6 C0.lt)
            have HC1 := Lib.hid (C1.below hb6 C1.lt)
            have HD6 := Lib.hid hd6
            have HW6 := Lib.hid (hb5.trans (hb6.mono hb5.size))
            clear hres hd6 hb6 hb5 hD5 C0 C1 hFq
            obtain ⟨⟨p0, p1, p2, p3⟩, q0, q1, q2, q3⟩ := HC0.out.four
            obtain ⟨⟨r0, r1, r2, r3⟩, s0, s1, s2, s3⟩ := HC1.out.four
            have hdn : dq.down = true := by have := HFq.out.2.2.2.2; rw [this]; simp; omega
            go_wp2
            go_roundw
            case rel =>
              obtain ⟨g1, g2, g3, g4⟩ := stored4_facts HC1.out (.slice A4 n4 c4) (.slice A4' n4' c4') (.int .i64 dq.fuse) (.bool true)
              obtain ⟨f1, f2, f3, -⟩ := stored4_facts (g4 _ _ _ (by omega) HC0.out) (.slice A4 n4 c4) (.slice A4' n4' c4') (.int .i64 dq.fuse) (.bool true)
              have hDx := g2 _ _ HD6.out
              have hWx := g3 _ _ HW6.out (by omega)
              exact ⟨j + 1, dq, A4, n4, c4, A4', n4', c4', by omega, by go_num, HFq.out, (by rw [hdn]; exact f1), f2 _ _ hDx, f3 _ _ hWx hle⟩
            case measure => simp [intOf]; omega
          · have hfv : fs.getD j false = false := (by simpa using hfl')
            rw [hfv] at cfl
            have Hfv := Lib.hid hfv
            clear hfv
            have hp := put_any _ d 1 (byte1 1) wr HDr.out rfl
            obtain ⟨dp, hdp, hFp⟩ : ∃ dp, putM d 1 (byte1 1) = (dp, 9) ∧ FuseAt m (j + 1) dp := by
              obtain ⟨h1, h2⟩ := put_fuse (byte1 1) hF.out (by omega) (by omega)
              rw [if_neg hjm] at h2
              exact ⟨_, by rw [← h2], h1⟩
            rw [hdp] at hp
            have Hp := Lib.hid hp
            have HFp := Lib.hid hFp
            clear hp hdp hFp
            go_wp2_with ((with_reducible show wpList _ _ _ (⟨_, .build _ _, _, _, _, _⟩ :: _) _ _); refine hold ?_)
            refine held (wpList_build_to rfl 28 #[(0, .const (.int .u8 1))] rfl [(0, .int .u8 1)] rfl (secv (byte1 1)).toArray (built_byte1 1) ?_)
            go_wp2_with fail
            refine Hp.out.mono ?_
            clear Hp
            rintro e w4 hres
            obtain ⟨A3, n3, c3, A3', n3', c3', rfl, hd4, hb4⟩ := hres.zero
            have HB4 := Lib.hid (HBr.out.below hb4 HBr.out.lt)
            have HD4 := Lib.hid hd4
            have HDr4 := Lib.hid (HDr.out.later hb4)
            have HW4 := Lib.hid (hbr.out.trans (hb4.mono hbr.out.size))
            have cfl4 : w4.cell? ⟨bf, of + j, none⟩ = some (.bool false) := (hb4.cell (p := ⟨bf, of + j, none⟩) (by have := hbr.out.size; show bf < _; omega)).trans cfl
            have hlt4 : w2.heap.size < w4.heap.size := HB4.out.lt
            have hbf4 : bf < w4.heap.size := by have := HW4.out.size; omega
            have hne4 : ¬ w4.heap.size = w2.heap.size := by omega
            clear hres hd4 hb4 p0 p1 p2 p3 q0 q1 q2 q3 cfl
            obtain ⟨⟨p0, p1, p2, p3⟩, q0, q1, q2, q3⟩ := HB4.out.four
            have hjmB : decide ((j : Int) < (m : Int)) = false := by simp; omega
            have hdn : dp.down = true := by have := HFp.out.2.2.2.2; rw [this]; simp; omega
            go_wp2
            go_roundw
            case rel =>
              obtain ⟨f1, f2, f3, -⟩ := stored4_facts HB4.out (.slice A3 n3 c3) (.slice A3' n3' c3') (.int .i64 dp.fuse) (.bool true)
              have g3 := f3 _ _ HW4.out hle
              exact ⟨j + 1, dp, A3, n3, c3, A3', n3', c3', by omega, by go_num, HFp.out, (by rw [hdn]; exact f1.alloc _), (f2 _ _ HD4.out).later ((Below.refl _ _).alloc (Nat.le_refl _) _), g3.alloc g3.size _⟩
            case measure => simp [intOf]; omega
      · have hjn : ¬ j < n := hlt
        have hjB : decide ((j : Int) < (n : Int)) = false := by simp; omega
        go_wp2_with fail
        have hp := start_any _ d 0 wr (by omega) HDr.out
        obtain ⟨ds, hds⟩ : ∃ ds, startM d 0 = (ds, 0) ∧ ds.fuse = -1 ∧ ds.down = false := by
          unfold startM
          rw [if_pos hF.out.1]
          exact ⟨_, rfl, rfl, rfl⟩
        rw [hds.1] at hp
        have hfu := hds.2.1
        have hdo := hds.2.2
        refine hp.mono ?_
        clear hp hds
        rintro e w4 hres
        obtain ⟨A3, n3, c3, A3', n3', c3', rfl, hd4, hb4⟩ := hres.zero
        have HB4 := Lib.hid (HBr.out.below hb4 HBr.out.lt)
        have HW4 := Lib.hid (hbr.out.trans (hb4.mono hbr.out.size))
        clear hres hd4 hb4 p0 p1 p2 p3 q0 q1 q2 q3
        obtain ⟨⟨p0, p1, p2, p3⟩, q0, q1, q2, q3⟩ := HB4.out.four
        go_wp2
        go_ret
        exact ⟨rfl, (stored4_facts HB4.out _ _ _ _).2.2.1 _ _ HW4.out hle⟩
end Go.Proofs.Ytfejnfohbagnkaa
