/-
  Walks over the document's own functions on disks: Put, of any disk, any place and any bytes. It leaves all older memory as it was.
-/
import Derived.Test.YtfejnfohbagnkaaRefPut
namespace Go.Proofs.Ytfejnfohbagnkaa
open Go.RowKit

/-- a slice of one write, laid out -/
theorem fill_write (x : Int × List Int) (hx : x.2.length = 64) (z : Value) : Instr.fill (fun i => some (i * 65, 65)) ((Array.range (1 * 65)).map (z.cells[· % z.cells.size]!)) [(0, .agg (wrv x).toArray)] = some (wrv x).toArray := by
  have hl : (wrv x).toArray.size = 65 := by simp [wrv_length, hx]
  generalize hb : (Array.range (1 * 65)).map (z.cells[· % z.cells.size]!) = base
  have hbs : base.size = 65 := by rw [← hb]; simp
  have h1 := fold_set 0 (wrv x) 0 base (by rw [hbs]; simp [wrv_length, hx])
  have hc : (Value.agg (wrv x).toArray).cells = (wrv x).toArray := rfl
  unfold Instr.fill
  simp only [hc, hl, hbs]
  show (if (65 ≠ 65 || 0 * 65 + 65 > 65) = true then none else Instr.fill _ _ []) = _
  simp only [Instr.fill]
  refine congrArg some ?_
  apply Array.ext'
  have h2 : ((wrv x).toArray.zipIdx.foldl (fun (cs : Array Value) (y : Value × Nat) => cs.setIfInBounds (0 + y.2) y.1) base).toList = splice base.toList (0 + 0) (wrv x) := by
    rw [← Array.foldl_toList, Array.toList_zipIdx]
    rw [h1]
  have h3 : splice base.toList (0 + 0) (wrv x) = wrv x := splice_whole (by simp [wrv_length, hx, hbs])
  rw [h3] at h2
  simpa using h2

theorem wpList_buildSlice_one {P : Program} {ops : Array Oper} {rest : List Oper} {o : Oper} {a : Act} {w : World} {Q : Exit → Act → World → Prop} (hg : o.guard = none) (t e : TypeId) (x : Operand) (ho : o.op = .buildSlice t 1 #[(0, x)])
    (v : Value) (hx : a.eval x = v) (cells : Array Value) (ie : TypeInfo) (z : Value)
    (hu : P.underlying t = some (.slice e)) (hie : P.info? e = some ie) (hz : ie.zero = some z) (hsmall : ¬ 1 * ie.size > 2 ^ 24) (hpos : ¬ 1 * ie.size = 0)
    (hf : Instr.fill (fun i => some (i * ie.size, ie.size)) ((Array.range (1 * ie.size)).map (z.cells[· % z.cells.size]!)) [(0, v)] = some cells)
    (h : wpList P ops Q rest (a.put o.dst (.slice (some ⟨w.heap.size, 0, none⟩) 1 1)) (w.alloc (.cells cells e))) : wpList P ops Q (o :: rest) a w :=
  wpList_buildSlice hg t e 1 #[(0, x)] ho cells ie z hu hie hz hsmall hpos (by
    have e : (Array.map (fun (y : Nat × Operand) => match y with | (i, x) => (i, a.eval x)) #[(0, x)]).toList = [(0, v)] := by simp [hx]
    rw [e]; exact hf) h

theorem Bk.ne_type {w : World} {b b' : Nat} {t t' : TypeId} {cs cs' : Array Value} (h : Bk w b t cs) (h' : Bk w b' t' cs') (hne : t ≠ t') : b ≠ b' := by
  rintro rfl
  have : some (Obj.cells cs t (0, 0)) = some (Obj.cells cs' t' (0, 0)) := (show w.heap[b]? = _ from h).symm.trans h'
  injection this with this
  injection this with _ h2 _
  exact hne h2

theorem bk_write {w : World} {x : Int × List Int} (hx : x.2.length = 64) (b : Nat) (h : Bk w b 37 (wrv x).toArray) : Arr w w.heap.size 65 (some ⟨b, 0, none⟩) 1 [wrv x] :=
  Arr.of_bk h rfl (fun y hy => by simp only [List.mem_singleton] at hy; rw [hy, wrv_length, hx]) (fun j v hv => by simpa using hv) _ h.lt

set_option maxRecDepth 100000 in
set_option maxHeartbeats 2000000 in
theorem rput_no (v : Value) (d : Dk) (a : Int) (s : List Int) (w : World) (hd : DkAt w w.heap.size v d) (h : (rightB d && thereB d.secs.length a) = false) :
    Calls Try.prog 21 #[v, .int .i64 a, .agg (secv s).toArray] w (DkRes w (d, 1)) := by
  have hdW := fun W => hd.later (W := W)
  obtain ⟨A, n, c, A', n', c', rfl, hnc, hnc', hc, hc', hS, hL⟩ := hd
  have hn : d.secs.length = n := by have := hS.1; simpa using this
  rw [hn] at h
  unfold maxLen at hc hc'
  have hn63 : (n : Int) ≤ 9223372036854775807 := by omega
  have HS := Lib.hid hS; have HL := Lib.hid hL; have Hd := Lib.hid hdW
  clear hn hS hL hdW
  by_cases hr : rightB d = true
  · have ht : thereB n a = false := by simpa [hr] using h
    have Hr := Lib.hid hr
    clear hr h
    by_cases ha : 0 ≤ a
    · have hk0 : decide (a < 0) = false := by simp; omega
      have hkn2 : decide ((n : Int) ≤ a) = true := by unfold thereB at ht; simp at ht ⊢; omega
      clear ht
      go_enter Try.func21, Try.ntmps21
      go_wp2_with fail
      refine (rright_any _ d _ (Hd.out _ ((((Below.refl _ _).alloc (Nat.le_refl _) _).alloc (by simp) _).alloc (by simp only [World.size_alloc]; omega) _))).mono ?_
      rintro e w1 ⟨rfl, hb1⟩
      have B0 : Bk w1 w.heap.size 25 _ := Bk.below (((Bk.new w 25 _).alloc _).alloc _) hb1 (by simp only [World.size_alloc]; omega)
      have B5 : Bk w1 (w.heap.size + 1) 28 (secv s).toArray := Bk.below ((Bk.new2 _ _ 28 _).alloc _) hb1 (by simp only [World.size_alloc]; omega)
      have B6 : Bk w1 (w.heap.size + 1 + 1) 25 _ := Bk.below (Bk.new3 _ _ _ 25 _) hb1 (by simp only [World.size_alloc]; omega)
      have hb : Below w.heap.size w w1 := ((((Below.refl _ _).alloc (Nat.le_refl _) _).alloc (by simp) _).alloc (by simp only [World.size_alloc]; omega) _).trans (hb1.mono (by simp only [World.size_alloc]; omega))
      obtain ⟨⟨p0, p1, p2, p3⟩, -⟩ := B0.four
      rw [Hr.out]
      obtain ⟨⟨s0, s1, s2, s3⟩, t0, t1, t2, t3⟩ := B6.four
      have HW := Lib.hid hb
      clear B0 B5 B6 hb hb1
      go_wp2
      refine bodyPost_ret (v := .tuple #[.agg #[.slice A n c, .slice A' n' c', .int .i64 d.fuse, .bool d.down], .int .i64 1]) (by simp [results, Try.results21, go_sem, *]) rfl ?_
      refine DkRes.same rfl HS.out HL.out hnc hnc' hc hc' ?_
      repeat (first | with_reducible exact HW.out | (with_reducible refine Below.alloc ?_ ?hp _; (case hp => first | omega | (simp; done) | (simp; omega))) | (with_reducible refine Below.setCell ?_ ?hp _; (case hp => first | omega | (simp; done) | (simp; omega))))
    · have hk0 : decide (a < 0) = true := by simp; omega
      clear ht
      go_enter Try.func21, Try.ntmps21
      go_wp2_with fail
      refine (rright_any _ d _ (Hd.out _ ((((Below.refl _ _).alloc (Nat.le_refl _) _).alloc (by simp) _).alloc (by simp only [World.size_alloc]; omega) _))).mono ?_
      rintro e w1 ⟨rfl, hb1⟩
      have B0 : Bk w1 w.heap.size 25 _ := Bk.below (((Bk.new w 25 _).alloc _).alloc _) hb1 (by simp only [World.size_alloc]; omega)
      have B5 : Bk w1 (w.heap.size + 1) 28 (secv s).toArray := Bk.below ((Bk.new2 _ _ 28 _).alloc _) hb1 (by simp only [World.size_alloc]; omega)
      have B6 : Bk w1 (w.heap.size + 1 + 1) 25 _ := Bk.below (Bk.new3 _ _ _ 25 _) hb1 (by simp only [World.size_alloc]; omega)
      have hb : Below w.heap.size w w1 := ((((Below.refl _ _).alloc (Nat.le_refl _) _).alloc (by simp) _).alloc (by simp only [World.size_alloc]; omega) _).trans (hb1.mono (by simp only [World.size_alloc]; omega))
      obtain ⟨⟨p0, p1, p2, p3⟩, -⟩ := B0.four
      rw [Hr.out]
      obtain ⟨⟨s0, s1, s2, s3⟩, t0, t1, t2, t3⟩ := B6.four
      have HW := Lib.hid hb
      clear B0 B5 B6 hb hb1
      go_wp2
      refine bodyPost_ret (v := .tuple #[.agg #[.slice A n c, .slice A' n' c', .int .i64 d.fuse, .bool d.down], .int .i64 1]) (by simp [results, Try.results21, go_sem, *]) rfl ?_
      refine DkRes.same rfl HS.out HL.out hnc hnc' hc hc' ?_
      repeat (first | with_reducible exact HW.out | (with_reducible refine Below.alloc ?_ ?hp _; (case hp => first | omega | (simp; done) | (simp; omega))) | (with_reducible refine Below.setCell ?_ ?hp _; (case hp => first | omega | (simp; done) | (simp; omega))))
  · have hr' : rightB d = false := by simpa using hr
    clear h hr
    have Hr := Lib.hid hr'
    clear hr'
    go_enter Try.func21, Try.ntmps21
    go_wp2_with fail
    refine (rright_any _ d _ (Hd.out _ ((((Below.refl _ _).alloc (Nat.le_refl _) _).alloc (by simp) _).alloc (by simp only [World.size_alloc]; omega) _))).mono ?_
    rintro e w1 ⟨rfl, hb1⟩
    have B0 : Bk w1 w.heap.size 25 _ := Bk.below (((Bk.new w 25 _).alloc _).alloc _) hb1 (by simp only [World.size_alloc]; omega)
    have B5 : Bk w1 (w.heap.size + 1) 28 (secv s).toArray := Bk.below ((Bk.new2 _ _ 28 _).alloc _) hb1 (by simp only [World.size_alloc]; omega)
    have B6 : Bk w1 (w.heap.size + 1 + 1) 25 _ := Bk.below (Bk.new3 _ _ _ 25 _) hb1 (by simp only [World.size_alloc]; omega)
    have hb : Below w.heap.size w w1 := ((((Below.refl _ _).alloc (Nat.le_refl _) _).alloc (by simp) _).alloc (by simp only [World.size_alloc]; omega) _).trans (hb1.mono (by simp only [World.size_alloc]; omega))
    obtain ⟨⟨p0, p1, p2, p3⟩, -⟩ := B0.four
    rw [Hr.out]
    obtain ⟨⟨s0, s1, s2, s3⟩, t0, t1, t2, t3⟩ := B6.four
    have HW := Lib.hid hb
    clear B0 B5 B6 hb hb1
    go_wp2
    refine bodyPost_ret (v := .tuple #[.agg #[.slice A n c, .slice A' n' c', .int .i64 d.fuse, .bool d.down], .int .i64 1]) (by simp [results, Try.results21, go_sem, *]) rfl ?_
    refine DkRes.same rfl HS.out HL.out hnc hnc' hc hc' ?_
    repeat (first | with_reducible exact HW.out | (with_reducible refine Below.alloc ?_ ?hp _; (case hp => first | omega | (simp; done) | (simp; omega))) | (with_reducible refine Below.setCell ?_ ?hp _; (case hp => first | omega | (simp; done) | (simp; omega))))

set_option maxRecDepth 100000 in
set_option maxHeartbeats 2000000 in
theorem rput_fall (v : Value) (d : Dk) (a : Int) (s : List Int) (w : World) (hd : DkAt w w.heap.size v d) (h : (rightB d && thereB d.secs.length a) = true) (hde : deedD d.fuse d.down = true) :
    Calls Try.prog 21 #[v, .int .i64 a, .agg (secv s).toArray] w (DkRes w ({ d with fuse := deedF d.fuse d.down, down := true }, 9)) := by
  have hdW := fun W => hd.later (W := W)
  obtain ⟨A, n, c, A', n', c', rfl, hnc, hnc', hc, hc', hS, hL⟩ := hd
  have hn : d.secs.length = n := by have := hS.1; simpa using this
  rw [hn] at h
  unfold maxLen at hc hc'
  have hn63 : (n : Int) ≤ 9223372036854775807 := by omega
  have HS := Lib.hid hS; have HL := Lib.hid hL; have Hd := Lib.hid hdW
  clear hn hS hL hdW
  obtain ⟨hr, ht⟩ : rightB d = true ∧ thereB n a = true := by simpa using h
  clear h
  have hab : 0 ≤ a ∧ a < (n : Int) := by unfold thereB at ht; simp at ht; omega
  obtain ⟨hk1, hk2⟩ := hab
  have hk0 : decide (a < 0) = false := by simp; omega
  have hkn2 : decide ((n : Int) ≤ a) = false := by simp; omega
  have Hr := Lib.hid hr; have Hde := Lib.hid hde
  clear ht hr hde
  go_enter Try.func21, Try.ntmps21
  go_wp2_with fail
  refine (rright_any _ d _ (Hd.out _ ((((Below.refl _ _).alloc (Nat.le_refl _) _).alloc (by simp) _).alloc (by simp only [World.size_alloc]; omega) _))).mono ?_
  rintro e w1 ⟨rfl, hb1⟩
  have B0 : Bk w1 w.heap.size 25 _ := Bk.below (((Bk.new w 25 _).alloc _).alloc _) hb1 (by simp only [World.size_alloc]; omega)
  have B5 : Bk w1 (w.heap.size + 1) 28 (secv s).toArray := Bk.below ((Bk.new2 _ _ 28 _).alloc _) hb1 (by simp only [World.size_alloc]; omega)
  have B6 : Bk w1 (w.heap.size + 1 + 1) 25 _ := Bk.below (Bk.new3 _ _ _ 25 _) hb1 (by simp only [World.size_alloc]; omega)
  have hb : Below w.heap.size w w1 := ((((Below.refl _ _).alloc (Nat.le_refl _) _).alloc (by simp) _).alloc (by simp only [World.size_alloc]; omega) _).trans (hb1.mono (by simp only [World.size_alloc]; omega))
  obtain ⟨⟨p0, p1, p2, p3⟩, -⟩ := B0.four
  rw [Hr.out]
  have HB5 := Lib.hid B5; have HB6 := Lib.hid B6; have HW := Lib.hid hb
  have hlt : w.heap.size + 1 + 1 < w1.heap.size := B6.lt
  clear B0 B5 B6 hb hb1
  go_wp2_with fail
  refine (rdeed_any _ d _ (Hd.out _ HW.out) Hr.out).mono ?_
  rintro e w2 ⟨A2, n2, c2, A2', n2', c2', rfl, hO, hb2⟩
  have B5 := HB5.out.below hb2 (by omega)
  have B6 := HB6.out.below hb2 (by omega)
  have hbw : Below w.heap.size w w2 := HW.out.trans (hb2.mono (by omega))
  rw [Hde.out]
  have hlt2 : w.heap.size + 1 + 1 < w2.heap.size := B6.lt
  obtain ⟨hR2, hO2⟩ := hO
  obtain ⟨⟨s0, s1, s2, s3⟩, t0, t1, t2, t3⟩ := B6.four
  have HR2 := Lib.hid hR2; have HO2 := Lib.hid hO2.out; have HBW := Lib.hid hbw
  clear B5 B6 hbw hb2 hR2 hO2 HB5 HB6 p0 p1 p2 p3
  dsimp only
  go_wp2
  refine bodyPost_ret (v := .tuple #[.agg #[.slice A2 n2 c2, .slice A2' n2' c2', .int .i64 (deedF d.fuse d.down), .bool true], .int .i64 9]) (by simp [results, Try.results21, go_sem, *]) rfl ?_
  refine ⟨_, rfl, DkOut.at_ (base := w1.heap.size) ⟨A2, n2, c2, A2', n2', c2', rfl, ?_, ?_⟩, ?_⟩
  · repeat (first | with_reducible exact HR2.out | (with_reducible refine RowsOut.alloc ?_ _) | (with_reducible refine RowsOut.box ?_ ?hp _; (case hp => first | omega | (simp; done) | (simp; omega))))
  · repeat (first | with_reducible exact HO2.out | (with_reducible refine RowsOut.alloc ?_ _) | (with_reducible refine RowsOut.box ?_ ?hp _; (case hp => first | omega | (simp; done) | (simp; omega))))
  · repeat (first | with_reducible exact HBW.out | (with_reducible refine Below.alloc ?_ ?hp _; (case hp => first | omega | (simp; done) | (simp; omega))) | (with_reducible refine Below.setCell ?_ ?hp _; (case hp => first | omega | (simp; done) | (simp; omega))))

set_option maxRecDepth 100000 in
set_option maxHeartbeats 2000000 in
theorem rput_ok (v : Value) (d : Dk) (a : Int) (s : List Int) (w : World) (hd : DkAt w w.heap.size v d) (h : (rightB d && thereB d.secs.length a) = true) (hde : deedD d.fuse d.down = false) (hs : s.length = 64) :
    Calls Try.prog 21 #[v, .int .i64 a, .agg (secv s).toArray] w (DkRes w ({ d with loose := d.loose ++ [(a, s)], fuse := deedF d.fuse d.down }, 0)) := by
  have hdW := fun W => hd.later (W := W)
  obtain ⟨A, n, c, A', n', c', rfl, hnc, hnc', hc, hc', hS, hL⟩ := hd
  have hn : d.secs.length = n := by have := hS.1; simpa using this
  rw [hn] at h
  unfold maxLen at hc hc'
  have hn63 : (n : Int) ≤ 9223372036854775807 := by omega
  have HS := Lib.hid hS; have HL := Lib.hid hL; have Hd := Lib.hid hdW
  clear hn hS hL hdW
  obtain ⟨hr, ht⟩ : rightB d = true ∧ thereB n a = true := by simpa using h
  clear h
  have hab : 0 ≤ a ∧ a < (n : Int) := by unfold thereB at ht; simp at ht; omega
  obtain ⟨hk1, hk2⟩ := hab
  have hk0 : decide (a < 0) = false := by simp; omega
  have hkn2 : decide ((n : Int) ≤ a) = false := by simp; omega
  have Hr := Lib.hid hr; have Hde := Lib.hid hde
  clear ht hr hde
  go_enter Try.func21, Try.ntmps21
  go_wp2_with fail
  refine (rright_any _ d _ (Hd.out _ ((((Below.refl _ _).alloc (Nat.le_refl _) _).alloc (by simp) _).alloc (by simp only [World.size_alloc]; omega) _))).mono ?_
  rintro e w1 ⟨rfl, hb1⟩
  have B0 : Bk w1 w.heap.size 25 _ := Bk.below (((Bk.new w 25 _).alloc _).alloc _) hb1 (by simp only [World.size_alloc]; omega)
  have B5 : Bk w1 (w.heap.size + 1) 28 (secv s).toArray := Bk.below ((Bk.new2 _ _ 28 _).alloc _) hb1 (by simp only [World.size_alloc]; omega)
  have B6 : Bk w1 (w.heap.size + 1 + 1) 25 _ := Bk.below (Bk.new3 _ _ _ 25 _) hb1 (by simp only [World.size_alloc]; omega)
  have hb : Below w.heap.size w w1 := ((((Below.refl _ _).alloc (Nat.le_refl _) _).alloc (by simp) _).alloc (by simp only [World.size_alloc]; omega) _).trans (hb1.mono (by simp only [World.size_alloc]; omega))
  obtain ⟨⟨p0, p1, p2, p3⟩, -⟩ := B0.four
  rw [Hr.out]
  have HB5 := Lib.hid B5; have HB6 := Lib.hid B6; have HW := Lib.hid hb
  have hlt : w.heap.size + 1 + 1 < w1.heap.size := B6.lt
  clear B0 B5 B6 hb hb1
  go_wp2_with fail
  refine (rdeed_any _ d _ (Hd.out _ HW.out) Hr.out).mono ?_
  rintro e w2 ⟨A2, n2, c2, A2', n2', c2', rfl, hO, hb2⟩
  have B5 := HB5.out.below hb2 (by omega)
  have B6 := HB6.out.below hb2 (by omega)
  have hbw : Below w.heap.size w w2 := HW.out.trans (hb2.mono (by omega))
  rw [Hde.out]
  have hlt2 : w.heap.size + 1 + 1 < w2.heap.size := B6.lt
  obtain ⟨hR2, hO2⟩ := hO
  have hdn : d.down = false := by have := Hde.out; unfold deedD at this; simp at this; exact this.1
  have hn2 : n2' ≤ 100000 := by
    have h1 := hO2.2.1
    have h2 := Hr.out
    unfold rightB at h2
    simp only [Bool.and_eq_true, decide_eq_true_eq, List.length_map] at h1 h2
    omega
  have HDN := Lib.hid hdn; have HN2 := Lib.hid hn2
  have HB5' := Lib.hid B5; have HB6' := Lib.hid B6; have HR2 := Lib.hid hR2; have HO2 := Lib.hid hO2; have HBW := Lib.hid hbw
  have hsl : (secv s).length = 64 := by rw [secv_length]; exact hs
  have hl01 : w1.heap.size ≤ w2.heap.size := hb2.size
  clear B5 B6 hbw hb2 hR2 hO2 HB5 HB6 p0 p1 p2 p3 hdn hn2
  dsimp only
  go_wp2_with ((with_reducible show wpList _ _ _ (⟨some 36, _, _, _, _, _⟩ :: _) _ _); refine hold ?_)
  refine wpList_over (fun W => Bk W (w.heap.size + 1) 28 (secv s).toArray ∧ Bk W (w.heap.size + 1 + 1) 25 #[.slice none 0 0, .slice none 0 0, .int .i64 0, .bool false] ∧ Bk W w2.heap.size 25 #[.slice A2 n2 c2, .slice A2' n2' c2', .int .i64 (deedF d.fuse d.down), .bool false] ∧
    RowsOut W w1.heap.size 28 64 (.slice A2 n2 c2) n2 (d.secs.map secv) ∧ RowsOwn W w1.heap.size 37 65 (.slice A2' n2' c2') n2' (d.loose.map wrv) ∧ Below w.heap.size w W ∧ w2.heap.size < W.heap.size)
    ⟨HB5'.out.alloc _, HB6'.out.alloc _, Bk.new _ _ _, HR2.out.alloc _, HO2.out.alloc _, HBW.out.alloc HBW.out.size _, by simp⟩ ?_
  clear HB5' HB6' HR2 HO2 HBW
  rintro W ⟨B5, B6, B8, hR, hO, hbw, hsz⟩
  obtain ⟨⟨p0, p1, p2, p3⟩, q0, q1, q2, q3⟩ := B8.four
  have HB5 := Lib.hid B5; have HB6 := Lib.hid B6; have HB8 := Lib.hid B8; have HR := Lib.hid hR; have HO := Lib.hid hO; have HBW := Lib.hid hbw
  clear B5 B6 B8 hR hO hbw
  refine wpList_load_mid rfl 28 (.tmp 5) rfl (w.heap.size + 1) 0 rfl (secv s) (.array 64 5) (bk_range HB5.out) Try.underlying28 rfl (by rw [hsl]; exact size_sec) ?_
  go_wp2_with ((with_reducible show wpList _ _ _ (⟨some 37, _, _, _, _, _⟩ :: _) _ _); refine hold ?_)
  refine held (wpList_build_to rfl 37 #[(0, .tmp 35), (1, .tmp 36)] rfl [(0, .int .i64 a), (1, .agg (secv s).toArray)] rfl (wrv (a, s)).toArray (built_write a s hs) ?_)
  obtain ⟨ie, hie, hiz, his, hib⟩ := info_parts info_wr
  go_wp2_with ((with_reducible show wpList _ _ _ (⟨some 38, _, _, _, _, _⟩ :: _) _ _); refine hold ?_)
  refine held (wpList_buildSlice_one rfl 23 37 (.tmp 37) rfl (.agg (wrv (a, s)).toArray) rfl (wrv (a, s)).toArray ie (.agg (wrv (0, zsec)).toArray) Try.underlying23 hie hiz (by rw [his]; omega) (by rw [his]; omega) ?_ ?_)
  · have hf := fill_write (a, s) hs (.agg (wrv (0, zsec)).toArray)
    rw [his]
    exact hf
  clear hie hiz his hib ie
  go_wp2_with ((with_reducible show wpList _ _ _ (⟨some 39, _, _, _, _, _⟩ :: _) _ _); refine hold ?_)
  refine held (wpList_append_rows_own rfl (.tmp 34) (.tmp 38) 23 rfl 37 (.agg (wrv (0, zsec)).toArray) 65 72 Try.underlying23 info_wr (by simp [Value.cells, wrv_length, zsec]) (by omega) (by omega) w1.heap.size (.slice A2' n2' c2') rfl n2' (d.loose.map wrv) (HO.out.alloc _) (by simp only [World.size_alloc]; omega)
    _ ⟨W.heap.size, 0, none⟩ 1 1 [wrv (a, s)] rfl (bk_write (x := (a, s)) hs _ (Bk.new _ _ _)) (fun x hx => by simp only [List.mem_singleton] at hx; rw [hx]; exact wrv_one (a, s)) (by have := HN2.out; omega) ?_)
  intro v3 w3 hO3 hty hbl
  have C8 := hty w2.heap.size 25 _ (by decide) (HB8.out.alloc _)
  have C6 := hty (w.heap.size + 1 + 1) 25 _ (by decide) (HB6.out.alloc _)
  have hR3 := (HR.out.alloc (Obj.cells (wrv (a, s)).toArray 37)).typed (fun g cs h => hty g 28 cs (by decide) h)
  have hbw : Below w.heap.size w w3 := (HBW.out.alloc HBW.out.size _).trans (hbl.mono (by omega))
  obtain ⟨A3, c3, hv3⟩ := hO3.nil_or
  rw [hv3] at hO3 ⊢
  clear hv3 hty hbl HB5 HB6 HB8 HR HO HBW p0 p1 p2 p3 q0 q1 q2 q3
  obtain ⟨⟨p0, p1, p2, p3⟩, q0, q1, q2, q3⟩ := C8.four
  obtain ⟨⟨s0, s1, s2, s3⟩, t0, t1, t2, t3⟩ := C6.four
  have hl8 : w2.heap.size < w3.heap.size := C8.lt
  have hR4 : RowsOut (w3.setCell ⟨w2.heap.size, 1, none⟩ (.slice A3 (n2' + 1) c3)) w1.heap.size 28 64 (.slice A2 n2 c2) n2 (d.secs.map secv) := hR3.typed fun g cs h => h.far (Bk.ne_type h C8 (by decide)) _
  have hO4 : RowsOut (w3.setCell ⟨w2.heap.size, 1, none⟩ (.slice A3 (n2' + 1) c3)) w1.heap.size 37 65 (.slice A3 (n2' + 1) c3) (n2' + 1) ((d.loose ++ [(a, s)]).map wrv) := by
    rw [List.map_append]
    exact hO3.out.typed fun g cs h => h.far (Bk.ne_type h C8 (by decide)) _
  have HR4 := Lib.hid hR4; have HO4 := Lib.hid hO4; have HBW := Lib.hid hbw
  clear C8 C6 hR3 hO3 hbw hR4 hO4
  go_wp2
  refine bodyPost_ret (v := .tuple #[.agg #[.slice A2 n2 c2, .slice A3 (n2' + 1) c3, .int .i64 (deedF d.fuse d.down), .bool false], .int .i64 0]) (by simp [results, Try.results21, go_sem, *]) rfl ?_
  refine ⟨_, rfl, ?_, ?_⟩
  · show DkAt _ _ (.agg #[.slice A2 n2 c2, .slice A3 (n2' + 1) c3, .int .i64 (deedF d.fuse d.down), .bool false]) ⟨d.secs, d.loose ++ [(a, s)], deedF d.fuse d.down, d.down⟩
    rw [HDN.out]
    refine DkOut.at_ (base := w1.heap.size) ⟨A2, n2, c2, A3, n2' + 1, c3, rfl, ?_, ?_⟩
    · repeat (first | with_reducible exact HR4.out | (with_reducible refine RowsOut.alloc ?_ _) | (with_reducible refine RowsOut.box ?_ ?hp _; (case hp => first | omega | (simp; done) | (simp; omega))))
    · repeat (first | with_reducible exact HO4.out | (with_reducible refine RowsOut.alloc ?_ _) | (with_reducible refine RowsOut.box ?_ ?hp _; (case hp => first | omega | (simp; done) | (simp; omega))))
  · repeat (first | with_reducible exact HBW.out | (with_reducible refine Below.alloc ?_ ?hp _; (case hp => first | omega | (simp; done) | (simp; omega))) | (with_reducible refine Below.setCell ?_ ?hp _; (case hp => first | omega | (simp; done) | (simp; omega))))

/-- the document's own Put, of any disk, any place and any bytes -/
theorem rput_any (v : Value) (d : Dk) (a : Int) (s : List Int) (w : World) (hd : DkAt w w.heap.size v d) (hs : s.length = 64) :
    Calls Try.prog 21 #[v, .int .i64 a, .agg (secv s).toArray] w (DkRes w (putM d a s)) := by
  unfold putM
  by_cases h : (rightB d && thereB d.secs.length a) = true
  · rw [if_pos h]
    by_cases hde : deedD d.fuse d.down = true
    · rw [if_pos hde]; exact rput_fall v d a s w hd h hde
    · rw [if_neg hde]; exact rput_ok v d a s w hd h (by simpa using hde) hs
  · rw [if_neg h]; exact rput_no v d a s w hd (by simpa using h)
end Go.Proofs.Ytfejnfohbagnkaa
