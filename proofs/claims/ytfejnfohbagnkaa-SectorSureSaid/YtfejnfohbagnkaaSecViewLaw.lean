/-
  The walk of the law SectorView: what was put is read, and nothing else has changed. It returns true, and leaves all older memory as it was.
-/
import Derived.Test.YtfejnfohbagnkaaSecAlive
import Derived.Test.YtfejnfohbagnkaaSecEq
namespace Go.Proofs.Ytfejnfohbagnkaa
open Go.RowKit

/-- is a disk a greater one than is looked at? -/
def greatB (d : Dk) : Bool := decide (500 < d.secs.length) || decide (500 < d.loose.length)

set_option maxHeartbeats 400000 in
theorem great_any (v : Value) (d : Dk) (w : World) (hd : DkAt w w.heap.size v d) : Calls Try.prog 10 #[v] w fun e w' => e = .returned (.bool (greatB d)) ∧ Below w.heap.size w w' := by
  obtain ⟨A, n, c, A', n', c', rfl, hnc, hnc', hc, hc', hS, hL⟩ := hd
  have hn : d.secs.length = n := by have := hS.1; simpa using this
  have hn' : d.loose.length = n' := by have := hL.1; simpa using this
  unfold greatB
  rw [hn, hn']
  clear hn hn' hS hL
  unfold maxLen at hc hc'
  by_cases h1 : 500 < n
  · have hd1 : decide (500 < (n : Int)) = true := by simp; omega
    go_enter Try.func10, Try.ntmps10
    go_wp2
    go_ret
    exact ⟨ret_b (by simp [h1]) rfl, (Below.refl _ _).alloc (Nat.le_refl _) _⟩
  · have hd1 : decide (500 < (n : Int)) = false := by simp; omega
    by_cases h2 : 500 < n'
    · have hd2 : decide (500 < (n' : Int)) = true := by simp; omega
      go_enter Try.func10, Try.ntmps10
      go_wp2
      go_ret
      exact ⟨ret_b (by simp [h1, h2]) rfl, (Below.refl _ _).alloc (Nat.le_refl _) _⟩
    · have hd2 : decide (500 < (n' : Int)) = false := by simp; omega
      go_enter Try.func10, Try.ntmps10
      go_wp2
      go_ret
      exact ⟨ret_b (by simp [h1, h2]) rfl, (Below.refl _ _).alloc (Nat.le_refl _) _⟩

theorem doneM_snoc (st : Nat → Bool) (x : Int × List Int) : ∀ (l : List (Int × List Int)) (i : Nat) (ss : List (List Int)), doneM st i ss (l ++ [x]) = if st (i + l.length) then (doneM st i ss l).set x.1.toNat x.2 else doneM st i ss l
  | [], i, ss => by simp [doneM]
  | y :: r, i, ss => by
    simp only [List.cons_append, doneM]
    rw [doneM_snoc st x r (i + 1)]
    have e : i + 1 + r.length = i + (y :: r).length := by simp; omega
    rw [e]

theorem readM_up {d : Dk} {a : Int} (h1 : rightB d = true) (h2 : thereB d.secs.length a = true) (h3 : d.down = false) : readM d a = ((viewM d).getD a.toNat [], 0) := by
  unfold readM
  rw [if_pos (by rw [h1, h2]; rfl), if_neg (by rw [h3]; simp)]

theorem DkAt.lens {w : World} {B : Nat} {v : Value} {d : Dk} (h : DkAt w B v d) : (∀ s ∈ d.secs, s.length = 64) ∧ ∀ x ∈ d.loose, x.2.length = 64 := by
  obtain ⟨A, n, c, A', n', c', _, _, _, _, _, h5, h6⟩ := h
  exact ⟨fun s hs => by simpa [secv_length] using h5.2.1 _ (List.mem_map.2 ⟨s, hs, rfl⟩), fun x hx => by simpa [wrv_length] using h6.2.1 _ (List.mem_map.2 ⟨x, hx, rfl⟩)⟩
theorem doneM_len (st : Nat → Bool) : ∀ (l : List (Int × List Int)) (i : Nat) (ss : List (List Int)), (∀ s ∈ ss, s.length = 64) → (∀ x ∈ l, x.2.length = 64) → ∀ s ∈ doneM st i ss l, s.length = 64
  | [], _, _, hs, _ => hs
  | x :: r, i, ss, hs, hl => by
    unfold doneM
    refine doneM_len st r (i + 1) _ ?_ (fun y hy => hl y (by simp [hy]))
    split
    · intro s h
      rcases List.mem_or_eq_of_mem_set h with h | h
      · exact hs s h
      · rw [h]; exact hl x (by simp)
    · exact hs
theorem readM_len {d : Dk} (a : Int) (hs : ∀ s ∈ d.secs, s.length = 64) (hl : ∀ x ∈ d.loose, x.2.length = 64) : (readM d a).1.length = 64 := by
  unfold readM
  split
  · split
    · simp
    · rename_i h _
      obtain ⟨_, h2⟩ : rightB d = true ∧ thereB d.secs.length a = true := by simpa using h
      obtain ⟨k, rfl⟩ : ∃ k : Nat, a = (k : Int) := Int.eq_ofNat_of_zero_le (by simp [thereB] at h2; exact h2.1)
      have hk : k < (viewM d).length := by unfold viewM; rw [doneM_length]; simp [thereB] at h2; exact h2
      have := doneM_len (fun _ => true) d.loose 0 d.secs hs hl ((viewM d).getD k []) (by rw [List.getD_eq_getElem?_getD, List.getElem?_eq_getElem hk]; exact List.getElem_mem hk)
      simpa using this
  · simp

/-- what the law asks -/
theorem view_law {d : Dk} {a : Int} {s : List Int} (hg : greatB d = false) (h : (putM d a s).2 = 0) (k : Nat) (hk : k < d.secs.length) :
    readM (putM d a s).1 a = (s, 0) ∧ (readM (putM d a s).1 (k : Int)).2 = 0 ∧ (readM d (k : Int)).2 = 0 ∧ ((k : Int) = a ∨ (readM (putM d a s).1 (k : Int)).1 = (readM d (k : Int)).1) := by
  unfold putM at h ⊢
  by_cases hr : (rightB d && thereB d.secs.length a) = true
  · rw [if_pos hr] at h ⊢
    by_cases hde : deedD d.fuse d.down = true
    · rw [if_pos hde] at h
      exact absurd h (by simp)
    · rw [if_neg hde] at h ⊢
      have hdn : d.down = false := by
        simp only [deedD, Bool.or_eq_true, not_or, Bool.not_eq_true] at hde
        exact hde.1
      obtain ⟨hr1, hr2⟩ : rightB d = true ∧ thereB d.secs.length a = true := by simpa using hr
      obtain ⟨r1, r2, r3, r4⟩ : d.secs.length ≤ 4096 ∧ d.loose.length ≤ 100000 ∧ fuseB d.fuse = true ∧ looseB d.secs.length d.loose = true := by
        unfold rightB at hr1
        simp only [Bool.and_eq_true, decide_eq_true_eq] at hr1
        exact ⟨hr1.1.1.1, hr1.1.1.2, hr1.1.2, hr1.2⟩
      have hl500 : d.loose.length ≤ 500 := by
        unfold greatB at hg
        simp only [Bool.or_eq_false_iff, decide_eq_false_iff_not] at hg
        omega
      have hR : rightB { d with loose := d.loose ++ [(a, s)], fuse := deedF d.fuse d.down } = true := by
        unfold rightB
        simp only [Bool.and_eq_true, decide_eq_true_eq]
        refine ⟨⟨⟨r1, by simp; omega⟩, deedF_right d hr1⟩, ?_⟩
        simp only [looseB, List.all_append, List.all_cons, List.all_nil, Bool.and_true, Bool.and_eq_true]
        exact ⟨r4, hr2⟩
      have htk : thereB d.secs.length (k : Int) = true := by simp [thereB, hk]
      obtain ⟨ka, hka⟩ : ∃ ka : Nat, a = (ka : Int) := Int.eq_ofNat_of_zero_le (by simp [thereB] at hr2; exact hr2.1)
      subst hka
      have hkan : ka < d.secs.length := by simp [thereB] at hr2; exact hr2
      have hv : viewM { d with loose := d.loose ++ [((ka : Int), s)], fuse := deedF d.fuse d.down } = (viewM d).set ka s := by
        unfold viewM
        rw [doneM_snoc]
        simp
      have hvl : (viewM d).length = d.secs.length := by unfold viewM; rw [doneM_length]
      have g1 := readM_up (a := (ka : Int)) hR hr2 hdn
      have g2 := readM_up (a := (k : Int)) hR htk hdn
      have g3 := readM_up (a := (k : Int)) hr1 htk hdn
      rw [hv] at g1 g2
      rw [g1, g2, g3]
      simp only [Int.toNat_natCast]
      refine ⟨by simp [hvl, hkan], trivial, trivial, ?_⟩
      by_cases he : k = ka
      · exact .inl (by omega)
      · right
        have he' : ¬ ka = k := fun h => he h.symm
        rw [List.getD_eq_getElem?_getD, List.getD_eq_getElem?_getD, List.getElem?_set, if_neg he']
  · rw [if_neg hr] at h
    exact absurd h (by simp)

/-- an array out of a box of its own -/
theorem bk_range {w : World} {b : Nat} {t : TypeId} {l : List Value} (h : Bk w b t l.toArray) : w.rangeAt b 0 l := fun j v hv => by rw [h.cell, Nat.zero_add]; simpa using hv
theorem bk_range_wr {w : World} {b : Nat} {t : TypeId} {x : Int × List Int} (h : Bk w b t (wrv x).toArray) : w.rangeAt b 1 (secv x.2) := fun j v hv => by
  rw [h.cell, Nat.add_comm]
  simpa [wrv] using hv
theorem new_sec {w w' : World} {s : List Int} (hs : s.length = 64) (h : w' = (w.alloc (.cells (secv zsec).toArray 28)).setRow w.heap.size (splice (secv zsec).toArray.toList 0 (secv s).toArray.toList).toArray) :
    Bk w' w.heap.size 28 (secv s).toArray ∧ Below w.heap.size w w' ∧ w.heap.size < w'.heap.size := by
  rw [splice_whole (by simp only [secv_length, hs]; simp [zsec])] at h
  subst h
  refine ⟨by simpa using (Bk.new w 28 (secv zsec).toArray).setRow_same (secv s).toArray.toList.toArray, below_setRow ((Below.refl _ _).alloc (Nat.le_refl _) _) (Nat.le_refl _) _, by simp⟩

set_option maxRecDepth 100000 in
set_option maxHeartbeats 2000000 in
theorem view_walk (v : Value) (d : Dk) (x : Int × List Int) (at_ : Nat) (hat : at_ ≤ 65535) (hx : x.2.length = 64) (w : World) (hd : DkAt w w.heap.size v d) :
    Calls Try.prog 7 #[v, .agg (wrv x).toArray, .int .u16 (at_ : Int)] w fun e w' => e = .returned (.bool true) ∧ Below w.heap.size w w' := by
  have hdW := fun W => hd.later (W := W)
  obtain ⟨A, n, c, A', n', c', rfl, hnc, hnc', hc, hc', hS, hL⟩ := hd
  have hn : d.secs.length = n := by have := hS.1; simpa using this
  have HN := Lib.hid hn
  have Hd := Lib.hid hdW
  have HX := Lib.hid hx
  clear hdW hS hL hn hx
  have hcn : n ≤ maxLen := by omega
  unfold maxLen at hcn
  have ha0 : (0 : Int) ≤ (at_ : Int) := by omega
  have ha1 : (at_ : Int) ≤ 65535 := by omega
  go_enter Try.func7, Try.ntmps7
  go_wp2_with fail
  refine calls_over (fun W => Bk W w.heap.size 25 #[.slice A n c, .slice A' n' c', .int .i64 d.fuse, .bool d.down] ∧ Bk W (w.heap.size + 1) 37 (wrv x).toArray ∧ Below w.heap.size w W) ⟨(Bk.new _ _ _).alloc _, Bk.new2 _ _ _ _, ((Below.refl _ _).alloc (Nat.le_refl _) _).alloc (by simp) _⟩ ?_
  rintro W1 ⟨B0, B1, hb1⟩
  refine (alive_any _).mono ?_
  rintro e w1 ⟨rfl, hb2⟩
  have HB0 := Lib.hid (B0.below hb2 B0.lt); have HB1 := Lib.hid (B1.below hb2 B1.lt); have HW := Lib.hid (hb1.trans (hb2.mono hb1.size))
  clear B0 B1 hb1 hb2
  obtain ⟨⟨p0, p1, p2, p3⟩, q0, q1, q2, q3⟩ := HB0.out.four
  go_wp2_with fail
  refine (great_any _ d _ (Hd.out _ HW.out)).mono ?_
  rintro e w2 ⟨rfl, hb2⟩
  have HB0' := Lib.hid (HB0.out.below hb2 HB0.out.lt); have HB1' := Lib.hid (HB1.out.below hb2 HB1.out.lt); have HW' := Lib.hid (HW.out.trans (hb2.mono HW.out.size))
  clear hb2 HB0 HB1 HW p0 p1 p2 p3 q0 q1 q2 q3
  obtain ⟨⟨p0, p1, p2, p3⟩, q0, q1, q2, q3⟩ := HB0'.out.four
  have hwl : w.heap.size + 1 < w2.heap.size := HB1'.out.lt
  have hwl0 : w.heap.size < w2.heap.size := HB0'.out.lt
  have c1 : w2.cell? ⟨w.heap.size + 1, 0, none⟩ = some (.int .i64 x.1) := HB1'.out.cell 0
  by_cases hg : greatB d = true
  · go_wp2
    go_ret
    exact ⟨rfl, HW'.out⟩
  have hg' : greatB d = false := by simpa using hg
  clear hg
  by_cases hn0 : n = 0
  · have hnb : ((n : Int) == 0) = true := by simp; omega
    go_wp2
    go_ret
    exact ⟨rfl, HW'.out⟩
  have hnb : ((n : Int) == 0) = false := by simp; omega
  have hnp : (0 : Int) < (n : Int) := by omega
  have hxl : (secv x.2).length = 64 := by rw [secv_length, HX.out]
  go_wp2_with ((with_reducible show wpList _ _ _ (⟨some 31, _, _, _, _, _⟩ :: _) _ _); refine hold ?_)
  refine held (wpList_load_mid rfl 28 (.tmp 30) rfl (w.heap.size + 1) 1 rfl (secv x.2) (.array 64 5) (bk_range_wr HB1'.out) Try.underlying28 rfl (by rw [hxl]; exact size_sec) ?_)
  go_wp2_with fail
  have hp := put_any _ d x.1 x.2 w2 (Hd.out _ HW'.out) HX.out
  by_cases he : (putM d x.1 x.2).2 = 0
  case neg =>
    have hz : ((putM d x.1 x.2).2 == 0) = false := by simpa using he
    refine hp.mono ?_
    rintro e w3 hres
    obtain ⟨A1, n1, c1', A1', n1', c1'', rfl, hd3, hb3⟩ := hres.zero
    have hbf := HW'.out.trans (hb3.mono HW'.out.size)
    clear hres hd3 hb3 hp
    go_wp2
    go_ret
    exact ⟨rfl, hbf.alloc hbf.size _⟩
  obtain ⟨dx, hdx⟩ : ∃ dx, putM d x.1 x.2 = (dx, 0) := ⟨(putM d x.1 x.2).1, Prod.ext rfl he⟩
  have hlaw := fun k hk => view_law hg' he k hk
  rw [hdx] at hp hlaw
  obtain ⟨k, hk⟩ : ∃ k, at_ % n = k := ⟨_, rfl⟩
  have hkn : k < n := by rw [← hk]; exact Nat.mod_lt _ (by omega)
  obtain ⟨g1, g2, g3, g4⟩ := hlaw k (by rw [HN.out]; exact hkn)
  have hmod : (at_ : Int) % (n : Int) = (k : Int) := by rw [← hk]; simp
  have hdl := (Hd.out _ HW'.out).lens
  clear he hdx hlaw hk p0 p1 p2 p3 q0 q1 q2 q3 c1
  refine hp.mono ?_
  clear hp
  rintro e w3 hres
  obtain ⟨A1, n1, c1', A1', n1', c1'', rfl, hd3, hb3⟩ := hres.zero
  have hxl3 := hd3.lens
  obtain ⟨r2, hr2, r2l⟩ : ∃ r, readM dx (k : Int) = (r, 0) ∧ r.length = 64 := ⟨(readM dx (k : Int)).1, Prod.ext rfl g2, readM_len _ hxl3.1 hxl3.2⟩
  obtain ⟨r3, hr3, r3l⟩ : ∃ r, readM d (k : Int) = (r, 0) ∧ r.length = 64 := ⟨(readM d (k : Int)).1, Prod.ext rfl g3, readM_len _ hdl.1 hdl.2⟩
  dsimp only at g1 g4
  rw [hr2, hr3] at g4
  obtain ⟨s1, hs1⟩ : ∃ s, s = x.2 := ⟨_, rfl⟩
  have s1l : s1.length = 64 := by rw [hs1]; exact HX.out
  rw [← hs1] at g1
  have HS1 := Lib.hid hs1
  have HMOD := Lib.hid hmod
  have HG1 := Lib.hid g1; have HR2 := Lib.hid hr2; have HR3 := Lib.hid hr3; have HG4 := Lib.hid g4
  have B0 := HB0'.out.below hb3 HB0'.out.lt
  have B1 := HB1'.out.below hb3 HB1'.out.lt
  have HW3 := HW'.out.trans (hb3.mono HW'.out.size)
  obtain ⟨⟨p0, p1, p2, p3⟩, q0, q1, q2, q3⟩ := B0.four
  have c1 : w3.cell? ⟨w.heap.size + 1, 0, none⟩ = some (.int .i64 x.1) := B1.cell 0
  have hl3 : w.heap.size + 1 < w3.heap.size := B1.lt
  have hl30 : w.heap.size < w3.heap.size := by omega
  have h0 := Lib.hid B0; have h1 := Lib.hid B1; have hD := Lib.hid hd3; have hW3 := Lib.hid HW3
  clear B0 B1 hd3 HW3 g1 hr2 hr3 g4 hres hb3 hs1 g2 g3 hxl3 hdl hxl
  go_wp2_with fail
  refine calls_over (fun W => Bk W w.heap.size 25 #[.slice A n c, .slice A' n' c', .int .i64 d.fuse, .bool d.down] ∧ Bk W (w.heap.size + 1) 37 (wrv x).toArray ∧ Bk W w3.heap.size 25 #[.slice A1 n1 c1', .slice A1' n1' c1'', .int .i64 dx.fuse, .bool dx.down] ∧ DkAt W W.heap.size (.agg #[.slice A1 n1 c1', .slice A1' n1' c1'', .int .i64 dx.fuse, .bool dx.down]) dx ∧ Below w.heap.size w W)
    ⟨h0.out.alloc _, h1.out.alloc _, Bk.new _ _ _, hD.out.later ((Below.refl _ _).alloc (Nat.le_refl _) _), hW3.out.alloc hW3.out.size _⟩ ?_
  clear h0 h1 hD hW3 p0 p1 p2 p3 q0 q1 q2 q3 c1 HB0' HB1' HW' hwl hwl0
  rintro W ⟨C0, C1, C2, hDx, hbW⟩
  have hp := read_any _ dx x.1 W hDx
  rw [HG1.out] at hp
  refine hp.mono ?_
  clear hp
  rintro e w4 ⟨rfl, hb4⟩
  have C0 := C0.below hb4 C0.lt
  have C1 := C1.below hb4 C1.lt
  have C2 := C2.below hb4 C2.lt
  have hDx := hDx.later hb4
  have hbW := hbW.trans (hb4.mono hbW.size)
  clear hb4
  dsimp only
  have H0 := Lib.hid C0; have H1 := Lib.hid C1; have H2 := Lib.hid C2; have HDx := Lib.hid hDx; have HbW := Lib.hid hbW
  clear C0 C1 C2 hDx hbW
  go_wp2_with ((with_reducible show wpList _ _ _ (⟨_, .alloc 28, _, _, _, _⟩ :: _) _ _); refine hold ?_)
  refine held (wpList_alloc_to rfl 28 rfl (secv zsec).toArray (by kernel_rfl) ?_)
  go_wp2_with ((with_reducible show wpList _ _ _ (⟨none, .store 28 _ _, _, _, _, _⟩ :: _) _ _); refine hold ?_)
  refine held (wpList_store_wide rfl 28 (.tmp 10) (.tmp 48) rfl w4.heap.size 0 (secv s1).toArray rfl rfl 28 _ (Bk.new _ _ _) (by simp [secv_length, zsec, s1l]) (by simp only [List.size_toArray, secv_length, s1l]; kernel_rfl) (by simpa using secv_one s1) ?_)
  intro w5 hw'
  obtain ⟨N10, hbi, hli⟩ := new_sec s1l hw'.out
  clear hw'
  have C0 := H0.out.below hbi H0.out.lt
  have C1 := H1.out.below hbi H1.out.lt
  have C2 := H2.out.below hbi H2.out.lt
  have hDx := HDx.out.later hbi
  have hbW := HbW.out.trans (hbi.mono HbW.out.size)
  clear hbi hli H0 H1 H2 HDx HbW
  obtain ⟨⟨p0, p1, p2, p3⟩, q0, q1, q2, q3⟩ := C2.four
  have H0 := Lib.hid C0; have H1 := Lib.hid C1; have H2 := Lib.hid C2; have HDx := Lib.hid hDx; have HbW := Lib.hid hbW; have HN10 := Lib.hid N10
  clear N10 C0 C1 C2 hDx hbW
  go_wp2_with fail
  have hp := read_any _ dx (k : Int) w5 HDx.out
  rw [HR2.out] at hp
  refine hp.mono ?_
  clear hp
  rintro e w6 ⟨rfl, hb4⟩
  clear p0 p1 p2 p3 q0 q1 q2 q3
  have C0 := H0.out.below hb4 H0.out.lt
  have C1 := H1.out.below hb4 H1.out.lt
  have C2 := H2.out.below hb4 H2.out.lt
  have hDx := HDx.out.later hb4
  have hbW := HbW.out.trans (hb4.mono HbW.out.size)
  have N10 := HN10.out.below hb4 HN10.out.lt
  clear hb4 H0 H1 H2 HDx HbW HN10
  dsimp only
  have H0 := Lib.hid C0; have H1 := Lib.hid C1; have H2 := Lib.hid C2; have HDx := Lib.hid hDx; have HbW := Lib.hid hbW; have HN10 := Lib.hid N10
  clear N10 C0 C1 C2 hDx hbW
  go_wp2_with ((with_reducible show wpList _ _ _ (⟨_, .alloc 28, _, _, _, _⟩ :: _) _ _); refine hold ?_)
  refine held (wpList_alloc_to rfl 28 rfl (secv zsec).toArray (by kernel_rfl) ?_)
  go_wp2_with ((with_reducible show wpList _ _ _ (⟨none, .store 28 _ _, _, _, _, _⟩ :: _) _ _); refine hold ?_)
  refine held (wpList_store_wide rfl 28 (.tmp 12) (.tmp 54) rfl w6.heap.size 0 (secv r2).toArray rfl rfl 28 _ (Bk.new _ _ _) (by simp [secv_length, zsec, r2l]) (by simp only [List.size_toArray, secv_length, r2l]; kernel_rfl) (by simpa using secv_one r2) ?_)
  intro w7 hw'
  obtain ⟨N12, hbi, hli⟩ := new_sec r2l hw'.out
  clear hw'
  have N10 := HN10.out.below hbi HN10.out.lt
  have C0 := H0.out.below hbi H0.out.lt
  have C1 := H1.out.below hbi H1.out.lt
  have C2 := H2.out.below hbi H2.out.lt
  have hDx := HDx.out.later hbi
  have hbW := HbW.out.trans (hbi.mono HbW.out.size)
  clear HN10 hbi hli H0 H1 H2 HDx HbW
  obtain ⟨⟨p0, p1, p2, p3⟩, q0, q1, q2, q3⟩ := C0.four
  have H0 := Lib.hid C0; have H1 := Lib.hid C1; have H2 := Lib.hid C2; have HDx := Lib.hid hDx; have HbW := Lib.hid hbW; have HN10 := Lib.hid N10; have HN12 := Lib.hid N12
  clear N10 N12 C0 C1 C2 hDx hbW
  go_wp2_with fail
  have hp := read_any _ d (k : Int) w7 (Hd.out _ HbW.out)
  rw [HR3.out] at hp
  refine hp.mono ?_
  clear hp
  rintro e w8 ⟨rfl, hb4⟩
  clear p0 p1 p2 p3 q0 q1 q2 q3
  have C0 := H0.out.below hb4 H0.out.lt
  have C1 := H1.out.below hb4 H1.out.lt
  have C2 := H2.out.below hb4 H2.out.lt
  have hDx := HDx.out.later hb4
  have hbW := HbW.out.trans (hb4.mono HbW.out.size)
  have N10 := HN10.out.below hb4 HN10.out.lt
  have N12 := HN12.out.below hb4 HN12.out.lt
  clear hb4 H0 H1 H2 HDx HbW HN10 HN12
  dsimp only
  have H0 := Lib.hid C0; have H1 := Lib.hid C1; have H2 := Lib.hid C2; have HDx := Lib.hid hDx; have HbW := Lib.hid hbW; have HN10 := Lib.hid N10; have HN12 := Lib.hid N12
  clear N10 N12 C0 C1 C2 hDx hbW
  go_wp2_with ((with_reducible show wpList _ _ _ (⟨_, .alloc 28, _, _, _, _⟩ :: _) _ _); refine hold ?_)
  refine held (wpList_alloc_to rfl 28 rfl (secv zsec).toArray (by kernel_rfl) ?_)
  go_wp2_with ((with_reducible show wpList _ _ _ (⟨none, .store 28 _ _, _, _, _, _⟩ :: _) _ _); refine hold ?_)
  refine held (wpList_store_wide rfl 28 (.tmp 14) (.tmp 60) rfl w8.heap.size 0 (secv r3).toArray rfl rfl 28 _ (Bk.new _ _ _) (by simp [secv_length, zsec, r3l]) (by simp only [List.size_toArray, secv_length, r3l]; kernel_rfl) (by simpa using secv_one r3) ?_)
  intro w9 hw'
  obtain ⟨N14, hbi, hli⟩ := new_sec r3l hw'.out
  clear hw'
  have N10 := HN10.out.below hbi HN10.out.lt
  have N12 := HN12.out.below hbi HN12.out.lt
  have C0 := H0.out.below hbi H0.out.lt
  have C1 := H1.out.below hbi H1.out.lt
  have C2 := H2.out.below hbi H2.out.lt
  have hDx := HDx.out.later hbi
  have hbW := HbW.out.trans (hbi.mono HbW.out.size)
  clear HN10 HN12 hbi hli H0 H1 H2 HDx HbW
  obtain ⟨⟨p0, p1, p2, p3⟩, q0, q1, q2, q3⟩ := C0.four
  have H0 := Lib.hid C0; have H1 := Lib.hid C1; have H2 := Lib.hid C2; have HDx := Lib.hid hDx; have HbW := Lib.hid hbW; have HN10 := Lib.hid N10; have HN12 := Lib.hid N12; have HN14 := Lib.hid N14
  clear N10 N12 N14 C0 C1 C2 hDx hbW
  have c1 : w9.cell? ⟨w.heap.size + 1, 0, none⟩ = some (.int .i64 x.1) := H1.out.cell 0
  obtain ⟨i28, hi28⟩ : ∃ i, Try.prog.info? 5 = some i := Option.isSome_iff_exists.1 (by kernel_rfl)
  have heq1 : ∀ W, (binOp .eql 28 (.agg (secv s1).toArray) (.agg (secv x.2).toArray)).run Try.prog W = .ok (.bool true) W := fun W => by
    rw [run_eql_sec W Try.underlying28 Try.underlying5 hi28 (by kernel_rfl) s1l HX.out, HS1.out]
    simp
  by_cases hka : (k : Int) = x.1
  · have hkb : ((k : Int) == x.1) = true := by simpa using hka
    clear hka
    go_wp2_with ((with_reducible show wpList _ _ _ (⟨some 73, _, _, _, _, _⟩ :: _) _ _); refine hold ?_)
    refine held (wpList_load_if (by simp [Region.wanted, yielded]) 28 (.tmp 10) rfl w4.heap.size 0 rfl (secv s1) (.array 64 5) (bk_range HN10.out) Try.underlying28 rfl (by rw [secv_length, s1l]; exact size_sec) ?_)
    go_wp2_with ((with_reducible show wpList _ _ _ (⟨some 75, _, _, _, _, _⟩ :: _) _ _); refine hold ?_)
    refine held (wpList_load_if (by simp [Region.wanted, yielded]) 28 (.tmp 74) rfl (w.heap.size + 1) 1 rfl (secv x.2) (.array 64 5) (bk_range_wr H1.out) Try.underlying28 rfl (by rw [secv_length, HX.out]; exact size_sec) ?_)
    go_wp2
    go_ret
    exact ⟨rfl, HbW.out⟩
  · have hkb : ((k : Int) == x.1) = false := by simpa using hka
    have h23 : r2 = r3 := HG4.out.resolve_left hka
    clear hka
    have heq2 : ∀ W, (binOp .eql 28 (.agg (secv r2).toArray) (.agg (secv r3).toArray)).run Try.prog W = .ok (.bool true) W := fun W => by
      rw [run_eql_sec W Try.underlying28 Try.underlying5 hi28 (by kernel_rfl) r2l r3l, h23]
      simp
    have H23 := Lib.hid h23
    clear h23
    go_wp2_with ((with_reducible show wpList _ _ _ (⟨some 73, _, _, _, _, _⟩ :: _) _ _); refine hold ?_)
    refine held (wpList_load_if (by simp [Region.wanted, yielded]) 28 (.tmp 10) rfl w4.heap.size 0 rfl (secv s1) (.array 64 5) (bk_range HN10.out) Try.underlying28 rfl (by rw [secv_length, s1l]; exact size_sec) ?_)
    go_wp2_with ((with_reducible show wpList _ _ _ (⟨some 75, _, _, _, _, _⟩ :: _) _ _); refine hold ?_)
    refine held (wpList_load_if (by simp [Region.wanted, yielded]) 28 (.tmp 74) rfl (w.heap.size + 1) 1 rfl (secv x.2) (.array 64 5) (bk_range_wr H1.out) Try.underlying28 rfl (by rw [secv_length, HX.out]; exact size_sec) ?_)
    go_wp2_with ((with_reducible show wpList _ _ _ (⟨some 84, _, _, _, _, _⟩ :: _) _ _); refine hold ?_)
    refine held (wpList_load_if (by simp [Region.wanted, yielded]) 28 (.tmp 12) rfl w6.heap.size 0 rfl (secv r2) (.array 64 5) (bk_range HN12.out) Try.underlying28 rfl (by rw [secv_length, r2l]; exact size_sec) ?_)
    go_wp2_with ((with_reducible show wpList _ _ _ (⟨some 85, _, _, _, _, _⟩ :: _) _ _); refine hold ?_)
    refine held (wpList_load_if (by simp [Region.wanted, yielded]) 28 (.tmp 14) rfl w8.heap.size 0 rfl (secv r3) (.array 64 5) (bk_range HN14.out) Try.underlying28 rfl (by rw [secv_length, r3l]; exact size_sec) ?_)
    go_wp2
    go_ret
    exact ⟨rfl, HbW.out⟩
end Go.Proofs.Ytfejnfohbagnkaa
