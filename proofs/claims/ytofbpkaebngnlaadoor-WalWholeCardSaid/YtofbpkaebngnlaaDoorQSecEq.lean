/-
  Comparing arrays of bytes, and writes, as the program does: each byte in order. Laws for the walks over package sector.
-/
import Derived.Test.YtofbpkaebngnlaaDoorQSecWords
import Derived.ChangeKeysEq
import Derived.Laws.StructEq
import Derived.Test.YtofbpkaebngnlaaDoorQSecAlive
import Derived.StillTailTactics
namespace Go.Proofs.YtofbpkaebngnlaaDoor
set_option linter.unusedVariables false
set_option linter.unusedSimpArgs false
open Go.RowKit

section
variable {P : Program}

theorem run_part_int (w : World) {e : TypeId} {k : IntKind} (he : P.underlying e = some (.int k)) (cs : Array Value) (off : Nat) (v : Value) (hv : cs[off]? = some v) : (part e cs off).run P w = .ok v w := by
  have hagg : (isAgg e).run P w = .ok false w := by
    unfold isAgg
    rw [Sem.run_bind, run_underlying he w]
    simp
  simp [part, hagg, hv]

theorem run_eq_items (d : Nat) {e : TypeId} (he : P.underlying e = some (.int .u8)) (a b : List Int) : ∀ (is : List Nat) (w : World), (∀ i ∈ is, i < a.length ∧ i < b.length) →
    (Op.eqItems (d + 1) e 1 (secv a).toArray (secv b).toArray is).run P w = .ok (is.all fun i => a.getD i 0 == b.getD i 0) w
  | [], w, _ => by simp [Op.eqItems]
  | i :: r, w, h => by
    obtain ⟨ha, hb⟩ := h i (by simp)
    have h1 : (secv a).toArray[i * 1]? = some (.int .u8 (a.getD i 0)) := by simp [secv, ha]
    have h2 : (secv b).toArray[i * 1]? = some (.int .u8 (b.getD i 0)) := by simp [secv, hb]
    have ih := run_eq_items d he a b r w (fun j hj => h j (by simp [hj]))
    simp only [Op.eqItems, Sem.run_bind, run_part_int w he _ _ _ h1, run_part_int w he _ _ _ h2, Result.andThen_ok, run_equalIn_int w d e .u8 .u8 _ _ he]
    by_cases hab : (a.getD i 0 == b.getD i 0) = true
    · rw [hab]
      simp only [Bool.not_true, Bool.false_eq_true, if_false, ih, List.all_cons, hab, Bool.true_and]
    · have hab' : (a.getD i 0 == b.getD i 0) = false := by simpa using hab
      rw [hab']
      simp only [Bool.not_false, if_true, Sem.run_pure, List.all_cons, hab', Bool.false_and]

theorem all_eq {n : Nat} {a b : List Int} (ha : a.length = n) (hb : b.length = n) : ((List.range n).all fun i => a.getD i 0 == b.getD i 0) = decide (a = b) := by
  rw [Bool.eq_iff_iff, List.all_eq_true, decide_eq_true_eq]
  constructor
  · intro h
    apply List.ext_getElem
    · rw [ha, hb]
    · intro i h1 h2
      have := h i (by simp; omega)
      simpa [h1, h2] using this
  · rintro rfl i _
    simp

theorem run_equalIn_sec (w : World) (d : Nat) {t e : TypeId} {n : Nat} {i : TypeInfo} (ht : P.underlying t = some (.array n e)) (he : P.underlying e = some (.int .u8)) (hi : P.info? e = some i) (hc : P.cellsOf e = 1) {a b : List Int} (ha : a.length = n) (hb : b.length = n) :
    (Op.equalIn (d + 2) t (.agg (secv a).toArray) (.agg (secv b).toArray)).run P w = .ok (decide (a = b)) w := by
  rw [run_equalIn_array w (d + 1) _ _ ht hi, hc, run_eq_items d he a b _ w (fun j hj => by simp at hj; omega), all_eq ha hb]

theorem run_eql_sec (w : World) {t e : TypeId} {n : Nat} {i : TypeInfo} (ht : P.underlying t = some (.array n e)) (he : P.underlying e = some (.int .u8)) (hi : P.info? e = some i) (hc : P.cellsOf e = 1) {a b : List Int} (ha : a.length = n) (hb : b.length = n) :
    (binOp .eql t (.agg (secv a).toArray) (.agg (secv b).toArray)).run P w = .ok (.bool (decide (a = b))) w := by
  simp only [binOp]
  simp [Op.equal, Op.maxDepth, run_equalIn_sec w 9998 ht he hi hc ha hb]
theorem run_neq_sec (w : World) {t e : TypeId} {n : Nat} {i : TypeInfo} (ht : P.underlying t = some (.array n e)) (he : P.underlying e = some (.int .u8)) (hi : P.info? e = some i) (hc : P.cellsOf e = 1) {a b : List Int} (ha : a.length = n) (hb : b.length = n) :
    (binOp .neq t (.agg (secv a).toArray) (.agg (secv b).toArray)).run P w = .ok (.bool (!decide (a = b))) w := by
  simp only [binOp]
  simp [Op.equal, Op.maxDepth, run_equalIn_sec w 9998 ht he hi hc ha hb]

/-! ### guarded operations -/
theorem wpList_wanted {ops : Array Oper} {rest : List Oper} {o : Oper} {a : Act} {w : World} {Q : Exit → Act → World → Prop} (hw : Region.wanted o (yielded ops a.tmps) = true)
    (h : ∀ K : Act → World → Prop, (∀ a w, wpList P ops Q rest a w → K a w) → o.wp P a w K Q) : wpList P ops Q (o :: rest) a w :=
  wpList_step fun K hK => by rw [if_pos hw]; exact h K hK

/-- a whole sector out of the middle of a block, where the operation is guarded -/
theorem wpList_load_if {ops : Array Oper} {rest : List Oper} {op : Oper} {a : Act} {w : World} {Q : Exit → Act → World → Prop} (hgd : Region.wanted op (yielded ops a.tmps) = true) (ty : TypeId) (x : Operand) (ho : op.op = .load ty x)
    (b o : Nat) (hx : a.eval x = .pointer (some ⟨b, o, none⟩)) (cs : List Value) (d : TypeDesc) (hc : w.rangeAt b o cs)
    (hu : P.underlying ty = some d) (hd : d.isRow = true) (hi : (P.info? ty).map (·.size) = some cs.length)
    (h : wpList P ops Q rest (a.put op.dst (.agg cs.toArray)) w) : wpList P ops Q (op :: rest) a w :=
  wpList_wanted hgd fun _ hK => wp_load_mid ty x ho b o hx cs d hc hu hd hi (hK _ _ h)
end
end Go.Proofs.YtofbpkaebngnlaaDoor

/-
  The walk of the law SectorView: what was put is read, and nothing else has changed. It returns true, and leaves all older memory as it was.
-/
namespace Go.Proofs.YtofbpkaebngnlaaDoor
set_option linter.unusedVariables false
set_option linter.unusedSimpArgs false
open Go.RowKit

/-- is a disk a greater one than is looked at? -/
def greatB (d : Dk) : Bool := decide (500 < d.secs.length) || decide (500 < d.loose.length)

theorem doneM_snoc (st : Nat → Bool) (x : Int × List Int) : ∀ (l : List (Int × List Int)) (i : Nat) (ss : List (List Int)), doneM st i ss (l ++ [x]) = if st (i + l.length) then (doneM st i ss l).set x.1.toNat x.2 else doneM st i ss l
  | [], i, ss => by simp [doneM]
  | y :: r, i, ss => by
    simp only [List.cons_append, doneM]
    rw [doneM_snoc st x r (i + 1)]
    have e : i + 1 + r.length = i + (y :: r).length := by simp; omega
    rw [e]

theorem readM_up {d : Dk} {a : Int} (h1 : rightB d = true) (h2 : thereB d.secs.length a = true) (h3 : d.down = false) : readM d a = ((viewM d).getD a.toNat [], 0) := by
  unfold readM
  rw [if_pos (by rw [h1, h2]; rfl), if_neg (by rw [h3]; simp)]

theorem DkAt.lens {w : World} {B : Nat} {v : Value} {d : Dk} (h : DkAt w B v d) : (∀ s ∈ d.secs, s.length = 64) ∧ ∀ x ∈ d.loose, x.2.length = 64 := by
  obtain ⟨A, n, c, A', n', c', _, _, _, _, _, h5, h6⟩ := h
  exact ⟨fun s hs => by simpa [secv_length] using h5.2.1 _ (List.mem_map.2 ⟨s, hs, rfl⟩), fun x hx => by simpa [wrv_length] using h6.2.1 _ (List.mem_map.2 ⟨x, hx, rfl⟩)⟩
theorem doneM_lens (st : Nat → Bool) : ∀ (l : List (Int × List Int)) (i : Nat) (ss : List (List Int)), (∀ s ∈ ss, s.length = 64) → (∀ x ∈ l, x.2.length = 64) → ∀ s ∈ doneM st i ss l, s.length = 64
  | [], _, _, hs, _ => hs
  | x :: r, i, ss, hs, hl => by
    unfold doneM
    refine doneM_lens st r (i + 1) _ ?_ (fun y hy => hl y (by simp [hy]))
    split
    · intro s h
      rcases List.mem_or_eq_of_mem_set h with h | h
      · exact hs s h
      · rw [h]; exact hl x (by simp)
    · exact hs
theorem readM_len {d : Dk} (a : Int) (hs : ∀ s ∈ d.secs, s.length = 64) (hl : ∀ x ∈ d.loose, x.2.length = 64) : (readM d a).1.length = 64 := by
  unfold readM
  split
  · split
    · simp
    · rename_i h _
      obtain ⟨_, h2⟩ : rightB d = true ∧ thereB d.secs.length a = true := by simpa using h
      obtain ⟨k, rfl⟩ : ∃ k : Nat, a = (k : Int) := Int.eq_ofNat_of_zero_le (by simp [thereB] at h2; exact h2.1)
      have hk : k < (viewM d).length := by unfold viewM; rw [doneM_length]; simp [thereB] at h2; exact h2
      have := doneM_lens (fun _ => true) d.loose 0 d.secs hs hl ((viewM d).getD k []) (by rw [List.getD_eq_getElem?_getD, List.getElem?_eq_getElem hk]; exact List.getElem_mem hk)
      simpa using this
  · simp

/-- what the law asks -/
theorem view_law {d : Dk} {a : Int} {s : List Int} (hg : greatB d = false) (h : (putM d a s).2 = 0) (k : Nat) (hk : k < d.secs.length) :
    readM (putM d a s).1 a = (s, 0) ∧ (readM (putM d a s).1 (k : Int)).2 = 0 ∧ (readM d (k : Int)).2 = 0 ∧ ((k : Int) = a ∨ (readM (putM d a s).1 (k : Int)).1 = (readM d (k : Int)).1) := by
  unfold putM at h ⊢
  by_cases hr : (rightB d && thereB d.secs.length a) = true
  · rw [if_pos hr] at h ⊢
    by_cases hde : deedD d.fuse d.down = true
    · rw [if_pos hde] at h
      exact absurd h (by simp)
    · rw [if_neg hde] at h ⊢
      have hdn : d.down = false := by
        simp only [deedD, Bool.or_eq_true, not_or, Bool.not_eq_true] at hde
        exact hde.1
      obtain ⟨hr1, hr2⟩ : rightB d = true ∧ thereB d.secs.length a = true := by simpa using hr
      obtain ⟨r1, r2, r3, r4⟩ : d.secs.length ≤ 4096 ∧ d.loose.length ≤ 100000 ∧ fuseB d.fuse = true ∧ looseB d.secs.length d.loose = true := by
        unfold rightB at hr1
        simp only [Bool.and_eq_true, decide_eq_true_eq] at hr1
        exact ⟨hr1.1.1.1, hr1.1.1.2, hr1.1.2, hr1.2⟩
      have hl500 : d.loose.length ≤ 500 := by
        unfold greatB at hg
        simp only [Bool.or_eq_false_iff, decide_eq_false_iff_not] at hg
        omega
      have hR : rightB { d with loose := d.loose ++ [(a, s)], fuse := deedF d.fuse d.down } = true := by
        unfold rightB
        simp only [Bool.and_eq_true, decide_eq_true_eq]
        refine ⟨⟨⟨r1, by simp; omega⟩, deedF_right d hr1⟩, ?_⟩
        simp only [looseB, List.all_append, List.all_cons, List.all_nil, Bool.and_true, Bool.and_eq_true]
        exact ⟨r4, hr2⟩
      have htk : thereB d.secs.length (k : Int) = true := by simp [thereB, hk]
      obtain ⟨ka, hka⟩ : ∃ ka : Nat, a = (ka : Int) := Int.eq_ofNat_of_zero_le (by simp [thereB] at hr2; exact hr2.1)
      subst hka
      have hkan : ka < d.secs.length := by simp [thereB] at hr2; exact hr2
      have hv : viewM { d with loose := d.loose ++ [((ka : Int), s)], fuse := deedF d.fuse d.down } = (viewM d).set ka s := by
        unfold viewM
        rw [doneM_snoc]
        simp
      have hvl : (viewM d).length = d.secs.length := by unfold viewM; rw [doneM_length]
      have g1 := readM_up (a := (ka : Int)) hR hr2 hdn
      have g2 := readM_up (a := (k : Int)) hR htk hdn
      have g3 := readM_up (a := (k : Int)) hr1 htk hdn
      rw [hv] at g1 g2
      rw [g1, g2, g3]
      simp only [Int.toNat_natCast]
      refine ⟨by simp [hvl, hkan], trivial, trivial, ?_⟩
      by_cases he : k = ka
      · exact .inl (by omega)
      · right
        have he' : ¬ ka = k := fun h => he h.symm
        rw [List.getD_eq_getElem?_getD, List.getD_eq_getElem?_getD, List.getElem?_set, if_neg he']
  · rw [if_neg hr] at h
    exact absurd h (by simp)

/-- an array out of a box of its own -/
theorem bk_range {w : World} {b : Nat} {t : TypeId} {l : List Value} (h : Bk w b t l.toArray) : w.rangeAt b 0 l := fun j v hv => by rw [h.cell, Nat.zero_add]; simpa using hv
theorem bk_range_wr {w : World} {b : Nat} {t : TypeId} {x : Int × List Int} (h : Bk w b t (wrv x).toArray) : w.rangeAt b 1 (secv x.2) := fun j v hv => by
  rw [h.cell, Nat.add_comm]
  simpa [wrv] using hv
theorem new_sec {w w' : World} {s : List Int} (hs : s.length = 64) (h : w' = (w.alloc (.cells (secv zsec).toArray 58)).setRow w.heap.size (splice (secv zsec).toArray.toList 0 (secv s).toArray.toList).toArray) :
    Bk w' w.heap.size 58 (secv s).toArray ∧ Below w.heap.size w w' ∧ w.heap.size < w'.heap.size := by
  rw [splice_whole (by simp only [secv_length, hs]; simp [zsec])] at h
  subst h
  refine ⟨by simpa using (Bk.new w 58 (secv zsec).toArray).setRow_same (secv s).toArray.toList.toArray, below_setRow ((Below.refl _ _).alloc (Nat.le_refl _) _) (Nat.le_refl _) _, by simp⟩

end Go.Proofs.YtofbpkaebngnlaaDoor

/-
  Walks over the document's own functions on disks: Right, New and Arm, of any disk and any number. Each leaves all older memory as it was.
-/
namespace Go.Proofs.YtofbpkaebngnlaaDoor
set_option linter.unusedVariables false
set_option linter.unusedSimpArgs false
open Go.RowKit

set_option maxRecDepth 20000 in
set_option maxHeartbeats 1000000 in
theorem rright_any (v : Value) (d : Dk) (w : World) (hd : DkAt w w.heap.size v d) :
    Calls Tryd.prog 20 #[v] w fun e w' => e = .returned (.bool (rightB d)) ∧ Below w.heap.size w w' := by
  obtain ⟨A, n, c, A', n', c', rfl, hnc, hnc', hc, hc', hS, hL⟩ := hd
  unfold maxLen at hc hc'
  have hn : n = d.secs.length := by have := hS.1; simpa using this.symm
  have hn' : n' = d.loose.length := by have := hL.1; simpa using this.symm
  have HN := Lib.hid hn; clear hn
  have HN' := Lib.hid hn'; clear hn'
  have hbw : Below w.heap.size w (w.alloc (Obj.cells #[Value.slice A n c, Value.slice A' n' c', Value.int IntKind.i64 d.fuse, Value.bool d.down] 28)) := (Below.refl _ _).alloc (Nat.le_refl _) _
  by_cases h1 : n ≤ 4096
  · have hd7 : decide (4096 < (n : Int)) = false := by simp; omega
    by_cases h2 : n' ≤ 100000
    · have hd12 : decide (100000 < (n' : Int)) = false := by simp; omega
      by_cases h3 : -1 ≤ d.fuse
      · have hd17 : decide (d.fuse < -1) = false := by simp; omega
        by_cases h4 : d.fuse ≤ 1099511627776
        · have hd22 : decide (1099511627776 < d.fuse) = false := by simp; omega
          have hfb : fuseB d.fuse = true := by unfold fuseB; simp [h3, h4]
          have Hfb := Lib.hid hfb
          clear hfb h3 h4
          go_enter Tryd.func20, Tryd.ntmps20
          go_wp2_with fail
          go_loopw [3] (fun k wr => ∃ j : Nat, j ≤ n' ∧ k = .int .i64 j ∧ looseB n d.loose = looseB n (d.loose.drop j) ∧ Below (w.heap.size + 1) (w.alloc (Obj.cells #[Value.slice A n c, Value.slice A' n' c', Value.int IntKind.i64 d.fuse, Value.bool d.down] 28)) wr) (fun k _ => n' - (intOf k).toNat)
          case atStart => exact ⟨0, Nat.zero_le _, rfl, rfl, Below.refl _ _⟩
          case round =>
            obtain ⟨j, hj, rfl, hlo, hb⟩ := hrel
            have B0 : Bk wr w.heap.size 28 _ := (Bk.new w _ _).below hb (by omega)
            obtain ⟨⟨p0, p1, p2, p3⟩, -⟩ := B0.four
            clear B0
            by_cases hlt : j < n'
            · obtain ⟨bL, oL, hA', hbL, hrL⟩ := hL.at_ hlt
              obtain ⟨x, hx⟩ : ∃ x, d.loose[j]? = some x := ⟨d.loose[j]'(by rw [← HN'.out]; exact hlt), List.getElem?_eq_getElem _⟩
              subst hA'
              have hcell : wr.cell? ⟨bL, oL + j * 65, none⟩ = some (.int .i64 x.1) := by
                rw [hb.cell (p := ⟨bL, oL + j * 65, none⟩) (by show bL < _; omega), World.cell?_alloc_lt _ _ _ hbL]
                have := hrL 0 (.int .i64 x.1) (by simp [hx, wrv])
                simpa using this
              have hi1 : (j : Int) < (n' : Int) := by omega
              have hlo2 : looseB n d.loose = (thereB n x.1 && looseB n (d.loose.drop (j + 1))) := by
                rw [hlo, looseB_cons n d.loose j (by rw [← HN'.out]; exact hlt)]
                rw [List.getElem?_eq_getElem (by rw [← HN'.out]; exact hlt)] at hx
                injection hx with hx
                rw [hx]
              have Hlo := Lib.hid hlo2
              clear hlo hlo2
              have Hb := Lib.hid hb
              clear hb
              by_cases g1 : 0 ≤ x.1
              · have hg1 : decide (x.1 < 0) = false := by simp; omega
                by_cases g2 : x.1 < n
                · have hg2 : decide ((n : Int) ≤ x.1) = false := by simp; omega
                  have ht : thereB n x.1 = true := by unfold thereB; simp [g1, g2]
                  have Ht := Lib.hid ht
                  clear ht
                  go_wp2
                  go_quiet (fail)
                  go_wp2
                  go_roundw
                  case rel => exact ⟨j + 1, by omega, by go_num, by rw [Hlo.out, Ht.out]; rfl, by first | exact Hb.out | exact Hb.out.drew | (have := Hb.out; exact ⟨this.os, this.tape, this.output, this.size, this.block⟩)⟩
                  case measure => simp [intOf]; omega
                · have hg2 : decide ((n : Int) ≤ x.1) = true := by simp; omega
                  have ht : thereB n x.1 = false := by unfold thereB; simp; omega
                  have Ht := Lib.hid ht
                  clear ht
                  go_wp2
                  go_quiet (fail)
                  go_wp2
                  go_ret
                  exact ⟨ret_b (show rightB d = false by unfold rightB; rw [← HN.out, Hlo.out, Ht.out]; simp) rfl, hbw.trans (by have := Hb.out; exact ⟨this.os, this.tape, this.output, this.size, fun k hk => this.block k (by omega)⟩)⟩
              · have hg1 : decide (x.1 < 0) = true := by simp; omega
                have ht : thereB n x.1 = false := by unfold thereB; simp; omega
                have Ht := Lib.hid ht
                clear ht
                go_wp2
                go_quiet (fail)
                go_wp2
                go_ret
                exact ⟨ret_b (show rightB d = false by unfold rightB; rw [← HN.out, Hlo.out, Ht.out]; simp) rfl, hbw.trans (by have := Hb.out; exact ⟨this.os, this.tape, this.output, this.size, fun k hk => this.block k (by omega)⟩)⟩
            · have hjn : j = n' := by omega
              have Hjn := Lib.hid hjn; clear hjn
              have Hlo := Lib.hid hlo; clear hlo
              go_wp2
              go_ret
              exact ⟨ret_b (show rightB d = true by unfold rightB; rw [← HN.out, ← HN'.out, Hlo.out, Hjn.out, HN'.out, Hfb.out]; simp [looseB, h1, HN'.out ▸ h2]) rfl, hbw.trans (hb.mono (by simp))⟩
        · have hd22 : decide (1099511627776 < d.fuse) = true := by simp; omega
          go_enter Tryd.func20, Tryd.ntmps20
          go_wp2
          go_ret
          exact ⟨ret_b (show rightB d = false by have hfb : fuseB d.fuse = false := (by unfold fuseB; simp; omega); unfold rightB; rw [hfb]; simp) rfl, hbw⟩
      · have hd17 : decide (d.fuse < -1) = true := by simp; omega
        go_enter Tryd.func20, Tryd.ntmps20
        go_wp2
        go_ret
        exact ⟨ret_b (show rightB d = false by have hfb : fuseB d.fuse = false := (by unfold fuseB; simp; omega); unfold rightB; rw [hfb]; simp) rfl, hbw⟩
    · have hd12 : decide (100000 < (n' : Int)) = true := by simp; omega
      go_enter Tryd.func20, Tryd.ntmps20
      go_wp2
      go_ret
      exact ⟨ret_b (show rightB d = false by unfold rightB; rw [← HN'.out]; simp [h2]) rfl, hbw⟩
  · have hd7 : decide (4096 < (n : Int)) = true := by simp; omega
    go_enter Tryd.func20, Tryd.ntmps20
    go_wp2
    go_ret
    exact ⟨ret_b (show rightB d = false by unfold rightB; rw [← HN.out]; simp [h1]) rfl, hbw⟩

set_option maxRecDepth 20000 in
set_option maxHeartbeats 1000000 in
theorem rnew_any (n : Int) (w : World) : Calls Tryd.prog 5 #[.int .i64 n] w (DkRes w (newM n)) := by
  by_cases h0 : 0 ≤ n
  · by_cases h1 : n ≤ 4096
    · have hM : newM n = (⟨List.replicate n.toNat zsec, [], -1, false⟩, 0) := by unfold newM; rw [if_pos ⟨h0, h1⟩]; rfl
      rw [hM]
      clear hM
      have hmk := fun W => run_make_secs (P := Tryd.prog) (t := 25) Tryd.underlying25 info_sec n h0 (by omega) W
      go_enter Tryd.func5, Tryd.ntmps5
      go_wp2
      refine bodyPost_ret (v := .tuple #[.agg #[.slice (some ⟨w.heap.size + 1, 0, none⟩) n.toNat n.toNat, .slice none 0 0, .int .i64 (-1), .bool false], .int .i64 0]) (by simp [results, Tryd.results5, go_sem]) rfl ?_
      refine ⟨_, rfl, ⟨_, _, _, _, _, _, rfl, Nat.le_refl _, Nat.le_refl _, by unfold maxLen; omega, by simp, Arr.zeros _ _ _ _ (by exact Bk.new2 _ _ _ _) _ (by simp), Arr.nil⟩, ?_⟩
      exact ((Below.refl _ _).alloc (Nat.le_refl _) _).alloc (by simp) _
    · have hM : newM n = (⟨[], [], 0, false⟩, 1) := by unfold newM; rw [if_neg (fun h => h1 h.2)]
      rw [hM]
      clear hM
      have h2 : decide (4096 < n) = true := by simp; omega
      have h3 : decide (n < 0) = false := by simp; omega
      go_enter Tryd.func5, Tryd.ntmps5
      go_wp2
      refine bodyPost_ret (v := .tuple #[.agg #[.slice none 0 0, .slice none 0 0, .int .i64 0, .bool false], .int .i64 1]) (by simp [results, Tryd.results5, go_sem]) rfl ?_
      refine ⟨_, rfl, ⟨_, _, _, _, _, _, rfl, Nat.le_refl _, Nat.le_refl _, by simp, by simp, Arr.nil, Arr.nil⟩, ?_⟩
      exact (Below.refl _ _).alloc (Nat.le_refl _) _
  · have hM : newM n = (⟨[], [], 0, false⟩, 1) := by unfold newM; rw [if_neg (fun h => h0 h.1)]
    rw [hM]
    clear hM
    have h3 : decide (n < 0) = true := by simp; omega
    go_enter Tryd.func5, Tryd.ntmps5
    go_wp2
    refine bodyPost_ret (v := .tuple #[.agg #[.slice none 0 0, .slice none 0 0, .int .i64 0, .bool false], .int .i64 1]) (by simp [results, Tryd.results5, go_sem]) rfl ?_
    refine ⟨_, rfl, ⟨_, _, _, _, _, _, rfl, Nat.le_refl _, Nat.le_refl _, by simp, by simp, Arr.nil, Arr.nil⟩, ?_⟩
    exact (Below.refl _ _).alloc (Nat.le_refl _) _
end Go.Proofs.YtofbpkaebngnlaaDoor

/-
  A region that leaves its order open and only reads, with whole sectors and writes among what it reads: laws for such walks; and what slices.Equal answers of two lists of sectors, and of writes.
-/
namespace Go.Proofs.YtofbpkaebngnlaaDoor
set_option linter.unusedVariables false
set_option linter.unusedSimpArgs false
open Go.RowKit

section
variable {P : Program} {ops : Array Oper} {w : World}
theorem wpStill_value {Q : Act → Prop} {a : Act} {o : Oper} {rest : List Oper} {v : Value} (hw : Region.wanted o (yielded ops a.tmps) = true) (hv : (execOp a.eval o).run P w = .ok (.value v) w)
    (h : wpStill P ops w Q rest (a.put o.dst v)) : wpStill P ops w Q (o :: rest) a := by
  unfold wpStill
  rw [if_pos hw]
  unfold Oper.still
  rw [hv]
  exact ⟨rfl, h⟩
theorem wpStill_load_mid {Q : Act → Prop} {a : Act} {op : Oper} {rest : List Oper} (hw : Region.wanted op (yielded ops a.tmps) = true) (ty : TypeId) (x : Operand) (ho : op.op = .load ty x)
    (b o : Nat) (hx : a.eval x = .pointer (some ⟨b, o, none⟩)) (cs : List Value) (d : TypeDesc) (hc : w.rangeAt b o cs)
    (hu : P.underlying ty = some d) (hd : d.isRow = true) (hi : (P.info? ty).map (·.size) = some cs.length)
    (h : wpStill P ops w Q rest (a.put op.dst (.agg cs.toArray))) : wpStill P ops w Q (op :: rest) a := by
  refine wpStill_value hw ?_ h
  unfold execOp
  simp only [ho, hx, Instr.loadAt, Instr.sureAddr, Sem.run_bind, Sem.run_pure, Result.andThen_ok, run_loadVar_mid w b o ty cs d hc hu hd hi]
end

theorem Arr.rows_at {w : World} {B n : Nat} {A : Option Addr} {α : Type} {f : α → List Value} {k : Nat} {l : List α} (h : Arr w B k A n (l.map f)) {i : Nat} (hi : i < l.length) : ∃ b o, A = some ⟨b, o, none⟩ ∧ b < B ∧ w.rangeAt b (o + i * k) (f l[i]) := by
  have hn : l.length = n := by simpa using h.1
  obtain ⟨b, o, e, hb, hr⟩ := h.at_ (i := i) (by omega)
  refine ⟨b, o, e, hb, ?_⟩
  have : (l.map f).getD i [] = f l[i] := by simp [hi]
  rwa [this] at hr

theorem rows_eq_step {α : Type} [DecidableEq α] (l m : List α) (i : Nat) (h : l.take i = m.take i) (hl : l.length = m.length) (hi : i < l.length) :
    (l[i] = m[i]'(by omega) → l.take (i + 1) = m.take (i + 1)) ∧ (¬ l[i] = m[i]'(by omega) → decide (l = m) = false) := by
  constructor
  · intro e
    rw [List.take_succ_eq_append_getElem hi, List.take_succ_eq_append_getElem (by omega : i < m.length), h, e]
  · intro e
    rw [decide_eq_false_iff_not]
    rintro rfl
    exact e rfl

end Go.Proofs.YtofbpkaebngnlaaDoor
