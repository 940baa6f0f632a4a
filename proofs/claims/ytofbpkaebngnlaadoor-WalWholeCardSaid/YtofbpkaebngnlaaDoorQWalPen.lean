/-
  Contracts over package wal: the pen, a disk that is being written: one deed of its, done, or a panic of the errno; the pen holds the disk as it is then.
-/
import Derived.Test.YtofbpkaebngnlaaDoorQSecAlive
import Derived.Test.YtofbpkaebngnlaaDoorQWalMath
import Derived.Test.YtofbpkaebngnlaaDoorQPackWalksA
import Derived.Deep.RegionHeld3
import Derived.WalkLawsBesides
namespace Go.Proofs.YtofbpkaebngnlaaDoor
set_option linter.unusedVariables false
set_option linter.unusedSimpArgs false
set_option linter.unusedVariables false
set_option linter.unusedSimpArgs false
open Go.RowKit

/-- rows lie in no small box: what leaves all but one small box as it lay leaves them -/
theorem Arr.other {w w' : World} {B k n g : Nat} {A : Option Addr} {xs : List (List Value)} {t : TypeId} {cs : Array Value} (h : Arr w B k A n xs) (hb : Bk w g t cs) (hs : cs.size < k) (hBw : B ≤ w.heap.size)
    (hg : w.grownBy w' (some g)) : Arr w' B k A n xs := by
  refine ⟨h.1, h.2.1, fun hn => ?_⟩
  obtain ⟨b, o, e, hbB, hc⟩ := h.2.2 hn
  refine ⟨b, o, e, hbB, fun j x hx => ?_⟩
  have hne : b ≠ g := by
    intro he
    subst he
    have hx0 : xs[0]? = some (xs[0]'(by rw [h.1]; exact hn)) := List.getElem?_eq_getElem _
    have hl := h.2.1 _ (List.getElem_mem (by rw [h.1]; exact hn : 0 < xs.length))
    have := hc 0 _ hx0 cs.size _ (List.getElem?_eq_getElem (by rw [hl]; exact hs))
    rw [hb.cell] at this
    have hlt : o + 0 * k + cs.size < cs.size := by
      rcases Nat.lt_or_ge (o + 0 * k + cs.size) cs.size with h1 | h1
      · exact h1
      · rw [Array.getElem?_eq_none h1] at this; cases this
    omega
  exact rangeAt_keep (hc j x hx) (fun p hp => World.cell?_of_block (w := w) (hg.block p.block (by omega) (fun e => hne (by injection e with e; rw [← hp, e]))))
theorem DkAt.other {w w' : World} {B g : Nat} {v : Value} {d : Dk} {t : TypeId} {cs : Array Value} (h : DkAt w B v d) (hb : Bk w g t cs) (hs : cs.size < 64) (hBw : B ≤ w.heap.size) (hg : w.grownBy w' (some g)) : DkAt w' B v d := by
  obtain ⟨A, n, c, A', n', c', e, h1, h2, h3, h4, h5, h6⟩ := h
  exact ⟨A, n, c, A', n', c', e, h1, h2, h3, h4, h5.other hb hs hBw hg, h6.other hb (by omega) hBw hg⟩
theorem grown_of_below {w w' : World} (h : Below w.heap.size w w') (row : Option Nat) : w.grownBy w' row := ⟨h.os, h.tape, h.output, h.size, fun k hk _ => h.block k hk⟩
theorem Below.of_grown {B : Nat} {w w' : World} {g : Nat} (h : w.grownBy w' (some g)) (hB : B ≤ g) (hw : B ≤ w.heap.size) : Below B w w' := ⟨h.os, h.tape, h.output, h.size, fun k hk => h.block k (by omega) (fun e => by injection e with e; omega)⟩
theorem Bk.grown {w w' : World} {b : Nat} {t : TypeId} {cs : Array Value} {row : Option Nat} (h : Bk w b t cs) (hg : w.grownBy w' row) (hne : some b ≠ row) : Bk w' b t cs := (hg.block b h.lt hne).trans h

/-- the pen in block g holds the disk d -/
def PenIs (w : World) (g : Nat) (d : Dk) : Prop :=
  ∃ A n c A' n' c', Bk w g 79 #[.slice A n c, .slice A' n' c', .int .i64 d.fuse, .bool d.down] ∧ DkAt w w.heap.size (.agg #[.slice A n c, .slice A' n' c', .int .i64 d.fuse, .bool d.down]) d
theorem PenIs.lt {w : World} {g : Nat} {d : Dk} (h : PenIs w g d) : g < w.heap.size := by obtain ⟨A, n, c, A', n', c', h, _⟩ := h; exact h.lt
theorem PenIs.below {w w' : World} {g : Nat} {d : Dk} (h : PenIs w g d) (hb : Below w.heap.size w w') : PenIs w' g d := by
  obtain ⟨A, n, c, A', n', c', h1, h2⟩ := h
  exact ⟨A, n, c, A', n', c', h1.below hb h1.lt, h2.later hb⟩
/-- how a call that writes by the pen ends -/
def penE (x : Dk × Int) : Ending := if x.2 = 0 then .returned (.tuple #[]) else .panicked [{ v := .iface 29 (.int .i64 x.2), recovered := false }]
theorem penE_ok {x : Dk × Int} (h : x.2 = 0) : penE x = .returned (.tuple #[]) := if_pos h
theorem penE_bad {x : Dk × Int} (h : x.2 ≠ 0) : penE x = .panicked [{ v := .iface 29 (.int .i64 x.2), recovered := false }] := if_neg h
def PenRes (g : Nat) (x : Dk × Int) (w : World) (e : Ending) (w' : World) : Prop := e = penE x ∧ PenIs w' g x.1 ∧ w.grownBy w' (some g)
theorem PenRes.first {g : Nat} {x : Dk × Int} {w w0 w' : World} {e : Ending} (h : PenRes g x w e w') (h0 : w0.grownBy w (some g)) : PenRes g x w0 e w' := ⟨h.1, h.2.1, grownBy_trans h0 h.2.2⟩

theorem stored4_grown (w : World) (b : Nat) (a0 a1 a2 a3 : Value) : w.grownBy (stored4 w b a0 a1 a2 a3) (some b) := by
  unfold stored4
  exact grownBy_trans (grownBy_trans (grownBy_trans (grownBy_setCell _ _ _ _) (grownBy_setCell _ _ _ _)) (grownBy_setCell _ _ _ _)) (grownBy_setCell _ _ _ _)

set_option maxRecDepth 20000 in
set_option maxHeartbeats 1000000 in
theorem goOn_any (g : Nat) (u0 u1 u2 u3 v : Value) (d : Dk) (er : Int) (w : World) (hB : Bk w g 79 #[u0, u1, u2, u3]) (hd : DkAt w w.heap.size v d) :
    Calls Tryd.prog 37 #[.pointer (some ⟨g, 0, none⟩), v, .int .i64 er] w (PenRes g (d, er) w) := by
  obtain ⟨A, n, c, A', n', c', rfl, hr⟩ := hd
  have hd : DkAt w w.heap.size (.agg #[.slice A n c, .slice A' n' c', .int .i64 d.fuse, .bool d.down]) d := ⟨A, n, c, A', n', c', rfl, hr⟩
  clear hr
  have hlt := hB.lt
  have hf := stored4_facts hB (.slice A n c) (.slice A' n' c') (.int .i64 d.fuse) (.bool d.down)
  have hb1 := (Below.refl (stored4 w g (.slice A n c) (.slice A' n' c') (.int .i64 d.fuse) (.bool d.down)).heap.size (stored4 w g (.slice A n c) (.slice A' n' c') (.int .i64 d.fuse) (.bool d.down))).alloc (Nat.le_refl _) (.cells #[.slice A n c, .slice A' n' c', .int .i64 d.fuse, .bool d.down] 28)
  have HP := Lib.hid (PenIs.below (show PenIs _ g d from ⟨A, n, c, A', n', c', hf.1, hf.2.1 _ _ hd⟩) hb1)
  have HG := Lib.hid (grownBy_trans (stored4_grown w g (.slice A n c) (.slice A' n' c') (.int .i64 d.fuse) (.bool d.down)) (grown_of_below hb1 (some g)))
  obtain ⟨⟨p0, p1, p2, p3⟩, q0, q1, q2, q3⟩ := hB.four
  clear hb1 hf hd hB
  unfold PenRes penE
  by_cases he : er = 0
  · subst he
    rw [if_pos rfl]
    go_enter Tryd.func37, Tryd.ntmps37
    go_wp2
    go_end0
    exact ⟨rfl, HP.out, HG.out⟩
  · rw [if_neg he]
    have hne : (er != 0) = true := by simpa using he
    go_enter Tryd.func37, Tryd.ntmps37
    go_wp2
    exact ⟨rfl, rfl, HP.out, HG.out⟩

section
variable {P : Program}
theorem exec_loadw {o : Oper} {ρ : Operand → Value} {w : World} {ty : TypeId} {x : Operand} (ho : o.op = .load ty x) {b off : Nat} (hx : ρ x = .pointer (some ⟨b, off, none⟩)) {cs : Array Value} {d : TypeDesc} (hc : w.rangeAt b off cs.toList)
    (hu : P.underlying ty = some d) (hd : d.isRow = true) (hi : (P.info? ty).map (·.size) = some cs.size) : (execOp ρ o).run P w = .ok (.value (.agg cs)) w := by
  unfold execOp
  simp only [ho, hx, Instr.loadAt, Instr.sureAddr, Sem.run_bind, Sem.run_pure, Result.andThen_ok, run_loadVar_mid w b off ty cs.toList d hc hu hd (by rw [Array.length_toList]; exact hi), Array.toArray_toList]
end
theorem Bk.rng {w : World} {b : Nat} {t : TypeId} {cs : Array Value} (h : Bk w b t cs) : w.rangeAt b 0 cs.toList := fun i v hv => by
  rw [Nat.zero_add, h.cell]
  simpa using hv
theorem size_secA {s : List Int} (h : s.length = 64) : (Tryd.prog.info? 58).map (·.size) = some (secv s).toArray.size := by
  rw [List.size_toArray, secv_length, h]; exact size_sec
theorem DkRes.val {w w' : World} {x : Dk × Int} {e : Ending} (h : DkRes w x e w') : ∃ v, e = .returned (.tuple #[v, .int .i64 x.2]) ∧ DkAt w' w'.heap.size v x.1 ∧ Below w.heap.size w w' := h

set_option maxRecDepth 20000 in
set_option maxHeartbeats 2000000 in
theorem pput_any (g : Nat) (d : Dk) (a : Int) (s : List Int) (w : World) (hp : PenIs w g d) (hs : s.length = 64) :
    Calls Tryd.prog 18 #[.pointer (some ⟨g, 0, none⟩), .int .i64 a, .agg (secv s).toArray] w (PenRes g (putM d a s) w) := by
  obtain ⟨A, n, c, A', n', c', hB, hd⟩ := hp
  have hlt := hB.lt
  go_enter Tryd.func18, Tryd.ntmps18
  go_wp2_with fail
  have hm : Tryd.prog.follows .mixedOrders = true := by kernel_rfl
  have hb0 : Below w.heap.size w (w.alloc (.cells (secv s).toArray 58)).drew := ((Below.refl _ _).alloc (Nat.le_refl _) _).drew
  have hBx : Bk (w.alloc (.cells (secv s).toArray 58)).drew w.heap.size 58 (secv s).toArray := (Bk.new w 58 (secv s).toArray).drew
  have hB1 := hB.below hb0 hB.lt
  have hd1 := hd.later hb0
  have hg0 := grown_of_below hb0 (some g)
  refine wp_region_held_drew (S := fun W => Bk W w.heap.size 58 (secv s).toArray ∧ w.grownBy W (some g)) hm ⟨hBx, hg0⟩ (fun hHeld => ?_)
  generalize (w.alloc (.cells (secv s).toArray 58)).drew = W at *
  obtain ⟨⟨p0, p1, p2, p3⟩, q0, q1, q2, q3⟩ := hB1.four
  have HB1 := Lib.hid hB1
  have HD1 := Lib.hid hd1
  have HS := Lib.hid hs
  clear hB hd hb0 hBx hB1 hd1 hg0 hs
  simp only [List.size_toArray, List.length_cons, List.length_nil, Nat.reduceAdd]
  refine wpAnyH_take (i := 0) (v := .pointer (some ⟨g, 0, none⟩)) rfl (by kernel_rfl) (by kernel_rfl) (by kernel_rfl) (fun _ _ _ h => h) (Or.inl ⟨by rfl, fun w0 hC => by simp [execOp, Act.eval, Act.put, go_sem]⟩) hHeld ?_
  try simp only [Act.put, List.setIfInBounds_toArray, List.set_cons_zero, List.set_cons_succ, List.getElem_toArray, List.getElem_cons_zero, List.getElem_cons_succ]
  refine wpAnyH_take (i := 1) (v := .pointer (some ⟨g, 0, none⟩)) rfl (by kernel_rfl) (by kernel_rfl) (by kernel_rfl) (fun _ _ _ h => h) (Or.inl ⟨by rfl, fun w0 hC => by simp [execOp, Act.eval, Act.put, go_sem]⟩) hHeld ?_
  try simp only [Act.put, List.setIfInBounds_toArray, List.set_cons_zero, List.set_cons_succ, List.getElem_toArray, List.getElem_cons_zero, List.getElem_cons_succ]
  refine wpAnyH_take (i := 2) (v := .pointer (some ⟨g, 0, none⟩)) rfl (by kernel_rfl) (by kernel_rfl) (by kernel_rfl) (fun _ _ _ h => h) (Or.inl ⟨by rfl, fun w0 hC => by simp [execOp, Act.eval, Act.put, go_sem]⟩) hHeld ?_
  try simp only [Act.put, List.setIfInBounds_toArray, List.set_cons_zero, List.set_cons_succ, List.getElem_toArray, List.getElem_cons_zero, List.getElem_cons_succ]
  refine wpAnyH_take (i := 3) (v := .pointer (some ⟨g, 0, none⟩)) rfl (by kernel_rfl) (by kernel_rfl) (by kernel_rfl) (fun _ _ _ h => h) (Or.inl ⟨by rfl, fun w0 hC => by simp [execOp, Act.eval, Act.put, go_sem]⟩) hHeld ?_
  try simp only [Act.put, List.setIfInBounds_toArray, List.set_cons_zero, List.set_cons_succ, List.getElem_toArray, List.getElem_cons_zero, List.getElem_cons_succ]
  refine wpAnyH_take (i := 5) (v := .int .i64 a) rfl (by kernel_rfl) (by kernel_rfl) (by kernel_rfl) (fun _ _ _ h => h) (Or.inl ⟨by rfl, fun w0 hC => by simp [execOp, Act.eval, Act.put, go_sem]⟩) hHeld ?_
  try simp only [Act.put, List.setIfInBounds_toArray, List.set_cons_zero, List.set_cons_succ, List.getElem_toArray, List.getElem_cons_zero, List.getElem_cons_succ]
  refine wpAnyH_take (i := 6) (v := .agg (secv s).toArray) rfl (by kernel_rfl) (by kernel_rfl) (by kernel_rfl) (fun _ _ _ h => h) (Or.inl ⟨by rfl, fun w0 hC => exec_loadw rfl rfl hC.1.rng Tryd.underlying58 rfl (size_secA HS.out)⟩) hHeld ?_
  try simp only [Act.put, List.setIfInBounds_toArray, List.set_cons_zero, List.set_cons_succ, List.getElem_toArray, List.getElem_cons_zero, List.getElem_cons_succ]
  refine wpAnyH_ready (rs := [4]) (by kernel_rfl) (by simp) (AllReadyH.cons rfl (fun K hK => ?_) AllReadyH.nil)
  rw [if_pos (by rfl)]
  go_wp2_with fail
  refine hK.out _ _ hHeld (fun hHeld => ?_)
  clear hK K
  try simp only [Act.put, List.setIfInBounds_toArray, List.set_cons_zero, List.set_cons_succ, List.getElem_toArray, List.getElem_cons_zero, List.getElem_cons_succ]
  refine wpAnyH_ready (rs := [7]) (by kernel_rfl) (by simp) (AllReadyH.cons rfl (fun K hK => ?_) AllReadyH.nil)
  rw [if_pos (by rfl)]
  go_wp2_with fail
  refine (put_any _ d a s W HD1.out HS.out).mono ?_
  rintro e w1 ⟨v1, rfl, hd2, hb2⟩
  have hB2 := HB1.out.below hb2 HB1.out.lt
  have hG2 := grown_of_below hb2 (some g)
  have HD2 := Lib.hid hd2; have HB2 := Lib.hid hB2
  generalize hx : putM d a s = x at *
  have HX := Lib.hid hx
  clear hx p0 p1 p2 p3 q0 q1 q2 q3 HB1 HD1 hd2 hB2
  refine hK.out _ _ ⟨hHeld.1.below hb2 hHeld.1.lt, grownBy_trans hHeld.2 hG2⟩ (fun hHeld => ?_)
  clear hK K
  try simp only [Act.put, List.setIfInBounds_toArray, List.set_cons_zero, List.set_cons_succ, List.getElem_toArray, List.getElem_cons_zero, List.getElem_cons_succ]
  clear hb2 hG2
  refine wpAnyH_take (i := 8) (v := v1) rfl (by kernel_rfl) (by kernel_rfl) (by kernel_rfl) (fun _ _ _ h => h) (Or.inl ⟨by rfl, fun w0 hC => by simp [execOp, Act.eval, Act.put, go_sem]⟩) hHeld ?_
  try simp only [Act.put, List.setIfInBounds_toArray, List.set_cons_zero, List.set_cons_succ, List.getElem_toArray, List.getElem_cons_zero, List.getElem_cons_succ]
  refine wpAnyH_take (i := 9) (v := .int .i64 x.2) rfl (by kernel_rfl) (by kernel_rfl) (by kernel_rfl) (fun _ _ _ h => h) (Or.inl ⟨by rfl, fun w0 hC => by simp [execOp, Act.eval, Act.put, go_sem]⟩) hHeld ?_
  try simp only [Act.put, List.setIfInBounds_toArray, List.set_cons_zero, List.set_cons_succ, List.getElem_toArray, List.getElem_cons_zero, List.getElem_cons_succ]
  refine wpAnyH_ready (rs := [10]) (by kernel_rfl) (by simp) (AllReadyH.cons rfl (fun K hK => ?_) AllReadyH.nil)
  rw [if_pos (by rfl)]
  go_wp2_with fail
  refine (goOn_any g _ _ _ _ v1 x.1 x.2 w1 HB2.out HD2.out).mono ?_
  rintro e w2 ⟨he, hp2, hg2⟩
  by_cases h0 : x.2 = 0
  · rw [penE_ok h0] at he
    subst he
    have HP2 := Lib.hid hp2
    have hB3 : Bk w2 w.heap.size 58 (secv s).toArray := hHeld.1.grown hg2 (fun e => by injection e with e; omega)
    have HG2 := Lib.hid (grownBy_trans hHeld.2 hg2)
    clear hp2 hg2
    refine hK.out _ _ ⟨hB3, HG2.out⟩ (fun hHeld => ?_)
    clear hK K
    try simp only [Act.put, List.setIfInBounds_toArray, List.set_cons_zero, List.set_cons_succ, List.getElem_toArray, List.getElem_cons_zero, List.getElem_cons_succ]
    refine wpAnyH_done (by kernel_rfl) ?_ _
    go_wp2
    go_end0
    exact ⟨(penE_ok h0).symm, HP2.out, HG2.out⟩
  · rw [penE_bad h0] at he
    subst he
    have HP2 := Lib.hid hp2
    have HG2 := Lib.hid (grownBy_trans hHeld.2 hg2)
    clear hp2 hg2
    go_wp2
    exact ⟨rfl, (penE_bad h0).symm, HP2.out, HG2.out⟩

set_option maxRecDepth 20000 in
set_option maxHeartbeats 2000000 in
theorem pflush_any (g : Nat) (d : Dk) (w : World) (hp : PenIs w g d) :
    Calls Tryd.prog 27 #[.pointer (some ⟨g, 0, none⟩)] w (PenRes g (flushM d) w) := by
  obtain ⟨A, n, c, A', n', c', hB, hd⟩ := hp
  have hlt := hB.lt
  obtain ⟨⟨p0, p1, p2, p3⟩, q0, q1, q2, q3⟩ := hB.four
  have HB := Lib.hid hB
  clear hB
  go_enter Tryd.func27, Tryd.ntmps27
  go_wp2_with fail
  refine (flush_any _ d w hd).mono ?_
  rintro e w1 ⟨v1, rfl, hd2, hb2⟩
  have HB2 := Lib.hid (HB.out.below hb2 HB.out.lt)
  have HG2 := Lib.hid (grown_of_below hb2 (some g))
  generalize flushM d = x at *
  clear HB hd p0 p1 p2 p3 q0 q1 q2 q3 hb2
  go_wp2_with fail
  refine (goOn_any g _ _ _ _ v1 x.1 x.2 w1 HB2.out hd2).mono ?_
  rintro e w2 ⟨he, hp2, hg2⟩
  have HP2 := Lib.hid hp2
  have HG3 := Lib.hid (grownBy_trans HG2.out hg2)
  clear hp2 hg2
  by_cases h0 : x.2 = 0
  · rw [penE_ok h0] at he
    subst he
    go_wp2
    go_end0
    exact ⟨(penE_ok h0).symm, HP2.out, HG3.out⟩
  · rw [penE_bad h0] at he
    subst he
    go_wp2
    exact ⟨rfl, (penE_bad h0).symm, HP2.out, HG3.out⟩
end Go.Proofs.YtofbpkaebngnlaaDoor
