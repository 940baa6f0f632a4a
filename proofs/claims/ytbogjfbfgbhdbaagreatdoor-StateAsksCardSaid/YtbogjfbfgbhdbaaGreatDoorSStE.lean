/-
  A part of the proof: see the last text.
-/
import Derived.Test.YtbogjfbfgbhdbaaGreatDoorSNameMore
import Derived.Test.YtbogjfbfgbhdbaaGreatDoorSBoxG
import Derived.Test.YtbogjfbfgbhdbaaGreatDoorSEventMathB
namespace Go.Proofs.YtbogjfbfgbhdbaaGreatDoor
set_option linter.unusedVariables false
set_option linter.unusedSimpArgs false
open Go.RowKit
set_option linter.unusedVariables false
set_option linter.unusedSimpArgs false
def GiveO {α : Type} (k : Nat) (f : α → List Value) (t : TypeId) (w : World) (n : Nat) (l : List α) (e : Ending) (w' : World) : Prop := ∃ A' c', e = .returned (.slice A' n c') ∧ OwnK k f w' w.heap.size t A' n c' l ∧ Below w.heap.size w w'
theorem info_box14 : (Tryz.prog.info? 44).map (fun i => (i.zero, i.size, i.bytes)) = some (some (.agg #[.string ByteArray.empty, .int .i64 0, .int .i64 0, .slice none 0 0]), 4, 56) := by kernel_rfl
theorem info_tomb14 : (Tryz.prog.info? 51).map (fun i => (i.zero, i.size, i.bytes)) = some (some (.agg #[.int .i64 0, .string ByteArray.empty, .int .i64 0, .int .i64 0, .int .i64 0, .int .i64 0, .slice none 0 0]), 7, 80) := by kernel_rfl
theorem info_hold14 : (Tryz.prog.info? 71).map (fun i => (i.zero, i.size, i.bytes)) = some (some (.agg #[.int .i64 0, .string ByteArray.empty, .slice none 0 0]), 3, 48) := by kernel_rfl
theorem rgC_len14 (r : Rg) : (rgC r).length = 2 := rfl
theorem rgC_one14 (r : Rg) : ∀ u ∈ rgC r, u.oneCell' = true := by
  intro u hu
  unfold rgC at hu
  simp only [List.mem_cons, List.not_mem_nil, or_false] at hu
  rcases hu with rfl | rfl <;> rfl
theorem zCloneSt_any (A : Option Addr) (n c : Nat) (l : List ByteArray) (w : World) (hl : ColK 1 strC w w.heap.size A n l) (hn : n ≤ 1000000) :
    Calls Tryz.prog 71 #[.slice A n c] w (GiveO 1 strC 9 w n l) := by
  cases A with
  | none =>
    have h0 : n = 0 := by
      rcases Nat.eq_zero_or_pos n with h | h
      · exact h
      · obtain ⟨b, o, h', _⟩ := hl.2 h; cases h'
    subst h0
    have hl' : l = [] := List.eq_nil_of_length_eq_zero hl.1
    subst hl'
    have heq := fun W => Lib.run_eql_slice_nil (P := Tryz.prog) W 23 9 none 0 c 0 0 Tryz.underlying23
    go_enter Tryz.func71, Tryz.ntmps71
    go_wp2
    go_ret
    exact ⟨_, _, rfl, OwnK.nil strC_len, Below.refl _ _⟩
  | some a =>
    have heq := fun W => Lib.run_eql_slice_nil (P := Tryz.prog) W 23 9 (some a) n c 0 0 Tryz.underlying23
    obtain ⟨A3, c3, w3, hrun, ho3, hb3, hg3⟩ := run_append_ks (P := Tryz.prog) (f := strC) (OwnK.empty strC_len w 9) 23 23 Tryz.underlying23 info_str rfl (by omega) (by omega) (A' := some a) (m := n) (c' := c) (hl.below ((Below.refl _ _).alloc (Nat.le_refl _) (.cells #[] 9)) (Nat.le_refl _)) (fun u _ => strC_one u) (by omega) (by simp)
    rw [Nat.zero_add, List.nil_append] at ho3
    rw [Nat.zero_add] at hrun
    have hb3' : Below w.heap.size w w3 := ((Below.refl _ _).alloc (Nat.le_refl _) _).trans hb3
    have HRUN := Lib.hid hrun
    clear hrun hl hg3 hb3
    go_enter Tryz.func71, Tryz.ntmps71
    go_wp2_with ((with_reducible show wpList _ _ _ (⟨some 7, _, _, _, _, _⟩ :: _) _ _); refine hold ?_)
    refine held (wpList_plain rfl fun K hK => wp_append_ks (s := .tmp 5) (x := .tmp 6) rfl rfl rfl HRUN.out (hK _ _ ?_))
    go_wp2
    go_ret
    exact ⟨_, _, rfl, ho3, hb3'⟩
theorem zCloneBx_any (A : Option Addr) (n c : Nat) (l : List Bh) (w : World) (hl : ColK 4 bhC w w.heap.size A n l) (hn : n ≤ 1000000) :
    Calls Tryz.prog 146 #[.slice A n c] w (GiveO 4 bhC 44 w n l) := by
  cases A with
  | none =>
    have h0 : n = 0 := by
      rcases Nat.eq_zero_or_pos n with h | h
      · exact h
      · obtain ⟨b, o, h', _⟩ := hl.2 h; cases h'
    subst h0
    have hl' : l = [] := List.eq_nil_of_length_eq_zero hl.1
    subst hl'
    have heq := fun W => Lib.run_eql_slice_nil (P := Tryz.prog) W 22 44 none 0 c 0 0 Tryz.underlying22
    go_enter Tryz.func146, Tryz.ntmps146
    go_wp2
    go_ret
    exact ⟨_, _, rfl, OwnK.nil bhC_len, Below.refl _ _⟩
  | some a =>
    have heq := fun W => Lib.run_eql_slice_nil (P := Tryz.prog) W 22 44 (some a) n c 0 0 Tryz.underlying22
    obtain ⟨A3, c3, w3, hrun, ho3, hb3, hg3⟩ := run_append_ks (P := Tryz.prog) (f := bhC) (OwnK.empty bhC_len w 44) 22 22 Tryz.underlying22 info_box14 rfl (by omega) (by omega) (A' := some a) (m := n) (c' := c) (hl.below ((Below.refl _ _).alloc (Nat.le_refl _) (.cells #[] 44)) (Nat.le_refl _)) (fun u _ => bhC_one u) (by omega) (by simp)
    rw [Nat.zero_add, List.nil_append] at ho3
    rw [Nat.zero_add] at hrun
    have hb3' : Below w.heap.size w w3 := ((Below.refl _ _).alloc (Nat.le_refl _) _).trans hb3
    have HRUN := Lib.hid hrun
    clear hrun hl hg3 hb3
    go_enter Tryz.func146, Tryz.ntmps146
    go_wp2_with ((with_reducible show wpList _ _ _ (⟨some 7, _, _, _, _, _⟩ :: _) _ _); refine hold ?_)
    refine held (wpList_plain rfl fun K hK => wp_append_ks (s := .tmp 5) (x := .tmp 6) rfl rfl rfl HRUN.out (hK _ _ ?_))
    go_wp2
    go_ret
    exact ⟨_, _, rfl, ho3, hb3'⟩
theorem zCloneTb_any (A : Option Addr) (n c : Nat) (l : List Th) (w : World) (hl : ColK 7 thC w w.heap.size A n l) (hn : n ≤ 1000000) :
    Calls Tryz.prog 147 #[.slice A n c] w (GiveO 7 thC 51 w n l) := by
  cases A with
  | none =>
    have h0 : n = 0 := by
      rcases Nat.eq_zero_or_pos n with h | h
      · exact h
      · obtain ⟨b, o, h', _⟩ := hl.2 h; cases h'
    subst h0
    have hl' : l = [] := List.eq_nil_of_length_eq_zero hl.1
    subst hl'
    have heq := fun W => Lib.run_eql_slice_nil (P := Tryz.prog) W 25 51 none 0 c 0 0 Tryz.underlying25
    go_enter Tryz.func147, Tryz.ntmps147
    go_wp2
    go_ret
    exact ⟨_, _, rfl, OwnK.nil thC_len, Below.refl _ _⟩
  | some a =>
    have heq := fun W => Lib.run_eql_slice_nil (P := Tryz.prog) W 25 51 (some a) n c 0 0 Tryz.underlying25
    obtain ⟨A3, c3, w3, hrun, ho3, hb3, hg3⟩ := run_append_ks (P := Tryz.prog) (f := thC) (OwnK.empty thC_len w 51) 25 25 Tryz.underlying25 info_tomb14 rfl (by omega) (by omega) (A' := some a) (m := n) (c' := c) (hl.below ((Below.refl _ _).alloc (Nat.le_refl _) (.cells #[] 51)) (Nat.le_refl _)) (fun u _ => thC_one u) (by omega) (by simp)
    rw [Nat.zero_add, List.nil_append] at ho3
    rw [Nat.zero_add] at hrun
    have hb3' : Below w.heap.size w w3 := ((Below.refl _ _).alloc (Nat.le_refl _) _).trans hb3
    have HRUN := Lib.hid hrun
    clear hrun hl hg3 hb3
    go_enter Tryz.func147, Tryz.ntmps147
    go_wp2_with ((with_reducible show wpList _ _ _ (⟨some 7, _, _, _, _, _⟩ :: _) _ _); refine hold ?_)
    refine held (wpList_plain rfl fun K hK => wp_append_ks (s := .tmp 5) (x := .tmp 6) rfl rfl rfl HRUN.out (hK _ _ ?_))
    go_wp2
    go_ret
    exact ⟨_, _, rfl, ho3, hb3'⟩
theorem zCloneHo_any (A : Option Addr) (n c : Nat) (l : List Hh) (w : World) (hl : ColK 3 hhC w w.heap.size A n l) (hn : n ≤ 1000000) :
    Calls Tryz.prog 148 #[.slice A n c] w (GiveO 3 hhC 71 w n l) := by
  cases A with
  | none =>
    have h0 : n = 0 := by
      rcases Nat.eq_zero_or_pos n with h | h
      · exact h
      · obtain ⟨b, o, h', _⟩ := hl.2 h; cases h'
    subst h0
    have hl' : l = [] := List.eq_nil_of_length_eq_zero hl.1
    subst hl'
    have heq := fun W => Lib.run_eql_slice_nil (P := Tryz.prog) W 26 71 none 0 c 0 0 Tryz.underlying26
    go_enter Tryz.func148, Tryz.ntmps148
    go_wp2
    go_ret
    exact ⟨_, _, rfl, OwnK.nil hhC_len, Below.refl _ _⟩
  | some a =>
    have heq := fun W => Lib.run_eql_slice_nil (P := Tryz.prog) W 26 71 (some a) n c 0 0 Tryz.underlying26
    obtain ⟨A3, c3, w3, hrun, ho3, hb3, hg3⟩ := run_append_ks (P := Tryz.prog) (f := hhC) (OwnK.empty hhC_len w 71) 26 26 Tryz.underlying26 info_hold14 rfl (by omega) (by omega) (A' := some a) (m := n) (c' := c) (hl.below ((Below.refl _ _).alloc (Nat.le_refl _) (.cells #[] 71)) (Nat.le_refl _)) (fun u _ => hhC_one u) (by omega) (by simp)
    rw [Nat.zero_add, List.nil_append] at ho3
    rw [Nat.zero_add] at hrun
    have hb3' : Below w.heap.size w w3 := ((Below.refl _ _).alloc (Nat.le_refl _) _).trans hb3
    have HRUN := Lib.hid hrun
    clear hrun hl hg3 hb3
    go_enter Tryz.func148, Tryz.ntmps148
    go_wp2_with ((with_reducible show wpList _ _ _ (⟨some 7, _, _, _, _, _⟩ :: _) _ _); refine hold ?_)
    refine held (wpList_plain rfl fun K hK => wp_append_ks (s := .tmp 5) (x := .tmp 6) rfl rfl rfl HRUN.out (hK _ _ ?_))
    go_wp2
    go_ret
    exact ⟨_, _, rfl, ho3, hb3'⟩
theorem zCloneRu_any (A : Option Addr) (n c : Nat) (l : List Rul) (w : World) (hl : ColK 2 rulC w w.heap.size A n l) (hn : n ≤ 1000000) :
    Calls Tryz.prog 72 #[.slice A n c] w (GiveO 2 rulC 83 w n l) := by
  cases A with
  | none =>
    have h0 : n = 0 := by
      rcases Nat.eq_zero_or_pos n with h | h
      · exact h
      · obtain ⟨b, o, h', _⟩ := hl.2 h; cases h'
    subst h0
    have hl' : l = [] := List.eq_nil_of_length_eq_zero hl.1
    subst hl'
    have heq := fun W => Lib.run_eql_slice_nil (P := Tryz.prog) W 24 83 none 0 c 0 0 Tryz.underlying24
    go_enter Tryz.func72, Tryz.ntmps72
    go_wp2
    go_ret
    exact ⟨_, _, rfl, OwnK.nil rulC_len, Below.refl _ _⟩
  | some a =>
    have heq := fun W => Lib.run_eql_slice_nil (P := Tryz.prog) W 24 83 (some a) n c 0 0 Tryz.underlying24
    obtain ⟨A3, c3, w3, hrun, ho3, hb3, hg3⟩ := run_append_ks (P := Tryz.prog) (f := rulC) (OwnK.empty rulC_len w 83) 24 24 Tryz.underlying24 info_rul rfl (by omega) (by omega) (A' := some a) (m := n) (c' := c) (hl.below ((Below.refl _ _).alloc (Nat.le_refl _) (.cells #[] 83)) (Nat.le_refl _)) (fun u _ => rulC_one u) (by omega) (by simp)
    rw [Nat.zero_add, List.nil_append] at ho3
    rw [Nat.zero_add] at hrun
    have hb3' : Below w.heap.size w w3 := ((Below.refl _ _).alloc (Nat.le_refl _) _).trans hb3
    have HRUN := Lib.hid hrun
    clear hrun hl hg3 hb3
    go_enter Tryz.func72, Tryz.ntmps72
    go_wp2_with ((with_reducible show wpList _ _ _ (⟨some 7, _, _, _, _, _⟩ :: _) _ _); refine hold ?_)
    refine held (wpList_plain rfl fun K hK => wp_append_ks (s := .tmp 5) (x := .tmp 6) rfl rfl rfl HRUN.out (hK _ _ ?_))
    go_wp2
    go_ret
    exact ⟨_, _, rfl, ho3, hb3'⟩
theorem zCloneRg_any (A : Option Addr) (n c : Nat) (l : List Rg) (w : World) (hl : ColK 2 rgC w w.heap.size A n l) (hn : n ≤ 1000000) :
    Calls Tryz.prog 149 #[.slice A n c] w (GiveO 2 rgC 131 w n l) := by
  cases A with
  | none =>
    have h0 : n = 0 := by
      rcases Nat.eq_zero_or_pos n with h | h
      · exact h
      · obtain ⟨b, o, h', _⟩ := hl.2 h; cases h'
    subst h0
    have hl' : l = [] := List.eq_nil_of_length_eq_zero hl.1
    subst hl'
    have heq := fun W => Lib.run_eql_slice_nil (P := Tryz.prog) W 30 131 none 0 c 0 0 Tryz.underlying30
    go_enter Tryz.func149, Tryz.ntmps149
    go_wp2
    go_ret
    exact ⟨_, _, rfl, OwnK.nil rgC_len14, Below.refl _ _⟩
  | some a =>
    have heq := fun W => Lib.run_eql_slice_nil (P := Tryz.prog) W 30 131 (some a) n c 0 0 Tryz.underlying30
    obtain ⟨A3, c3, w3, hrun, ho3, hb3, hg3⟩ := run_append_ks (P := Tryz.prog) (f := rgC) (OwnK.empty rgC_len14 w 131) 30 30 Tryz.underlying30 info_rgE rfl (by omega) (by omega) (A' := some a) (m := n) (c' := c) (hl.below ((Below.refl _ _).alloc (Nat.le_refl _) (.cells #[] 131)) (Nat.le_refl _)) (fun u _ => rgC_one14 u) (by omega) (by simp)
    rw [Nat.zero_add, List.nil_append] at ho3
    rw [Nat.zero_add] at hrun
    have hb3' : Below w.heap.size w w3 := ((Below.refl _ _).alloc (Nat.le_refl _) _).trans hb3
    have HRUN := Lib.hid hrun
    clear hrun hl hg3 hb3
    go_enter Tryz.func149, Tryz.ntmps149
    go_wp2_with ((with_reducible show wpList _ _ _ (⟨some 7, _, _, _, _, _⟩ :: _) _ _); refine hold ?_)
    refine held (wpList_plain rfl fun K hK => wp_append_ks (s := .tmp 5) (x := .tmp 6) rfl rfl rfl HRUN.out (hK _ _ ?_))
    go_wp2
    go_ret
    exact ⟨_, _, rfl, ho3, hb3'⟩
theorem Bk.put7 {w : World} {b : Nat} {t : TypeId} {v0 v1 v2 v3 v4 v5 v6 : Value} (h : Bk w b t #[v0, v1, v2, v3, v4, v5, v6]) (a0 a1 a2 a3 a4 a5 a6 : Value) :
    Bk (((((((w.setCell ⟨b, 0, none⟩ a0).setCell ⟨b, 1, none⟩ a1).setCell ⟨b, 2, none⟩ a2).setCell ⟨b, 3, none⟩ a3).setCell ⟨b, 4, none⟩ a4).setCell ⟨b, 5, none⟩ a5).setCell ⟨b, 6, none⟩ a6) b t #[a0, a1, a2, a3, a4, a5, a6] := by simpa using ((((((h.put 0 a0).put 1 a1).put 2 a2).put 3 a3).put 4 a4).put 5 a5).put 6 a6
theorem grown_put7 (w : World) (b : Nat) (a0 a1 a2 a3 a4 a5 a6 : Value) : w.grownBy (((((((w.setCell ⟨b, 0, none⟩ a0).setCell ⟨b, 1, none⟩ a1).setCell ⟨b, 2, none⟩ a2).setCell ⟨b, 3, none⟩ a3).setCell ⟨b, 4, none⟩ a4).setCell ⟨b, 5, none⟩ a5).setCell ⟨b, 6, none⟩ a6) (some b) :=
  grown_trans (grown_trans (grown_trans (grown_put4 w b a0 a1 a2 a3) (grownBy_cell _ b 4 a4)) (grownBy_cell _ b 5 a5)) (grownBy_cell _ b 6 a6)
theorem grown_putT (w : World) (b : Nat) (a3 a4 a5 a6 : Value) : w.grownBy ((((w.setCell ⟨b, 3, none⟩ a3).setCell ⟨b, 4, none⟩ a4).setCell ⟨b, 5, none⟩ a5).setCell ⟨b, 6, none⟩ a6) (some b) := grown_put4o w b 3 a3 a4 a5 a6
theorem Bk.put3 {w : World} {b : Nat} {t : TypeId} {v0 v1 v2 : Value} (h : Bk w b t #[v0, v1, v2]) (a0 a1 a2 : Value) :
    Bk (((w.setCell ⟨b, 0, none⟩ a0).setCell ⟨b, 1, none⟩ a1).setCell ⟨b, 2, none⟩ a2) b t #[a0, a1, a2] := by simpa using ((h.put 0 a0).put 1 a1).put 2 a2
theorem grown_put3 (w : World) (b : Nat) (a0 a1 a2 : Value) : w.grownBy (((w.setCell ⟨b, 0, none⟩ a0).setCell ⟨b, 1, none⟩ a1).setCell ⟨b, 2, none⟩ a2) (some b) :=
  grown_trans (grown_trans (grownBy_cell w b 0 a0) (grownBy_cell _ b 1 a1)) (grownBy_cell _ b 2 a2)
theorem below_of' {B : Nat} {w0 w w' : World} {b : Nat} (h : Below B w0 w) (hg : w.grownBy w' (some b)) (hb : B ≤ b) (hs : B ≤ w0.heap.size) : Below B w0 w' := h.grown hg (Nat.le_trans hs h.size) (fun q hq => by injection hq with hq; omega)
theorem Bk.tomb_ {w : World} {b : Nat} {t : TypeId} {u0 u1 u2 u3 u4 u5 u6 : Value} (h : Bk w b t #[u0, u1, u2, u3, u4, u5, u6]) : (loadVar 51 ⟨b, 0, none⟩).run Tryz.prog w = .ok (.agg #[u0, u1, u2, u3, u4, u5, u6]) w := Bk.load h Tryz.underlying51 rfl (by kernel_rfl)
theorem Bk.hold_ {w : World} {b : Nat} {t : TypeId} {u0 u1 u2 : Value} (h : Bk w b t #[u0, u1, u2]) : (loadVar 71 ⟨b, 0, none⟩).run Tryz.prog w = .ok (.agg #[u0, u1, u2]) w := Bk.load h Tryz.underlying71 rfl (by kernel_rfl)
theorem field_box3 (v0 v1 v2 : Value) (A : Option Addr) (n c : Nat) (W : World) : (Instr.field 44 (.agg #[v0, v1, v2, .slice A n c]) 3).run Tryz.prog W = .ok (.slice A n c) W := by
  kernel_rfl
def GiveT (x : Th) (w : World) (e : Ending) (w' : World) : Prop := ∃ A' c', e = .returned (.agg (thA ⟨x.t, A', x.n, c'⟩)) ∧ OwnB w' w.heap.size 5 A' x.n c' x.t.msg.body ∧ Below w.heap.size w w'
def GiveH (x : Hh) (w : World) (e : Ending) (w' : World) : Prop := ∃ A' c', e = .returned (.agg (hhA ⟨x.id, x.box, A', x.n, c', x.set⟩)) ∧ OwnK 2 rgC w' w.heap.size 131 A' x.n c' x.set ∧ Below w.heap.size w w'
theorem Bk.seven {w : World} {b : Nat} {t : TypeId} {v0 v1 v2 v3 v4 v5 v6 : Value} (h : Bk w b t #[v0, v1, v2, v3, v4, v5, v6]) :
    w.cell? ⟨b, 0, none⟩ = some v0 ∧ w.cell? ⟨b, 1, none⟩ = some v1 ∧ w.cell? ⟨b, 2, none⟩ = some v2 ∧ w.cell? ⟨b, 3, none⟩ = some v3 ∧ w.cell? ⟨b, 4, none⟩ = some v4 ∧ w.cell? ⟨b, 5, none⟩ = some v5 ∧ w.cell? ⟨b, 6, none⟩ = some v6 :=
  ⟨h.cell 0, h.cell 1, h.cell 2, h.cell 3, h.cell 4, h.cell 5, h.cell 6⟩
set_option maxRecDepth 20000 in
set_option maxHeartbeats 4000000 in
theorem xsCopyTomb_any (x : Th) (w : World) (hx : ThIn w w.heap.size x) (hn : x.n ≤ 100000) : Calls Tryz.prog 36 #[.agg (thA x)] w (GiveT x w) := by
  obtain ⟨⟨id, nm, a, u, f, d, bl⟩, xA, xn, xc⟩ := x
  replace hx : ThIn w w.heap.size ⟨⟨id, nm, a, ⟨u, f, d, bl⟩⟩, xA, xn, xc⟩ := hx
  have hB : Below w.heap.size w ((w.alloc (.cells #[.int .i64 id, .string nm, .int .i64 a, .int .i64 u, .int .i64 f, .int .i64 d, .slice xA xn xc] 51)).alloc (.cells #[.int .i64 0, .string ⟨#[]⟩, .int .i64 0, .int .i64 0, .int .i64 0, .int .i64 0, .slice none 0 0] 51)) := ((Below.refl _ _).alloc (Nat.le_refl _) _).alloc (by simp) _
  have h1 : Bk ((w.alloc (.cells #[.int .i64 id, .string nm, .int .i64 a, .int .i64 u, .int .i64 f, .int .i64 d, .slice xA xn xc] 51)).alloc (.cells #[.int .i64 0, .string ⟨#[]⟩, .int .i64 0, .int .i64 0, .int .i64 0, .int .i64 0, .slice none 0 0] 51)) w.heap.size 51 #[.int .i64 id, .string nm, .int .i64 a, .int .i64 u, .int .i64 f, .int .i64 d, .slice xA xn xc] := (Bk.new _ _ _).alloc _
  have h2 : Bk ((w.alloc (.cells #[.int .i64 id, .string nm, .int .i64 a, .int .i64 u, .int .i64 f, .int .i64 d, .slice xA xn xc] 51)).alloc (.cells #[.int .i64 0, .string ⟨#[]⟩, .int .i64 0, .int .i64 0, .int .i64 0, .int .i64 0, .slice none 0 0] 51)) (w.heap.size + 1) 51 #[.int .i64 0, .string ⟨#[]⟩, .int .i64 0, .int .i64 0, .int .i64 0, .int .i64 0, .slice none 0 0] := Bk.new2 _ _ _ _
  have HL := Lib.hid (Bytes.later (show Bytes w w.heap.size xA xn bl from hx.1) hB)
  have HXN := Lib.hid (show xn ≤ 100000 from hn)
  have HB := Lib.hid hB
  have H1 := Lib.hid h1
  have H2 := Lib.hid h2
  have HZ : Hid (((w.alloc (.cells #[.int .i64 id, .string nm, .int .i64 a, .int .i64 u, .int .i64 f, .int .i64 d, .slice xA xn xc] 51)).alloc (.cells #[.int .i64 0, .string ⟨#[]⟩, .int .i64 0, .int .i64 0, .int .i64 0, .int .i64 0, .slice none 0 0] 51)).heap.size = w.heap.size + 2) := Lib.hid (by simp)
  have HBL := Lib.hid (show bl.length = xn from hx.1.1)
  clear hx hB h1 h2 hn
  obtain ⟨k0, k1, k2, k3, k4, k5, k6⟩ := H1.out.seven
  show Calls Tryz.prog 36 #[.agg #[.int .i64 id, .string nm, .int .i64 a, .int .i64 u, .int .i64 f, .int .i64 d, .slice xA xn xc]] w _
  go_enter Tryz.func36, Tryz.ntmps36
  go_wp2_with fail
  generalize ((w.alloc (.cells #[.int .i64 id, .string nm, .int .i64 a, .int .i64 u, .int .i64 f, .int .i64 d, .slice xA xn xc] 51)).alloc (.cells #[.int .i64 0, .string ⟨#[]⟩, .int .i64 0, .int .i64 0, .int .i64 0, .int .i64 0, .slice none 0 0] 51)) = W at *
  refine (x11copyMsg_any u f d xA xn xc bl W HL.out (by have := HXN.out; omega)).mono ?_
  rintro e w3 ⟨yA, yc, rfl, ho, hbw⟩
  have HO := Lib.hid (ho.base_le (base' := w.heap.size + 2) (by have := HZ.out; omega))
  clear k0 k1 k2 k3 k4 k5 k6 ho
  have HBW := Lib.hid (HB.out.trans (hbw.mono (by have := HZ.out; omega)))
  have HS := Lib.hid (show w.heap.size + 2 ≤ w3.heap.size by have := hbw.size; have := HZ.out; omega)
  have h1 := H1.out.below hbw (by have := HZ.out; omega)
  have h2 := H2.out.below hbw (by have := HZ.out; omega)
  have H1' := Lib.hid h1
  have H2' := Lib.hid h2
  have z0 := h1.frozen 0
  have z1 := h1.frozen 1
  have z2 := h1.frozen 2
  have z3 := h1.frozen 3
  have z4 := h1.frozen 4
  have z5 := h1.frozen 5
  have z6 := h1.frozen 6
  have y0 := h2.frozen 0
  have y1 := h2.frozen 1
  have y2 := h2.frozen 2
  have y3 := h2.frozen 3
  have y4 := h2.frozen 4
  have y5 := h2.frozen 5
  have y6 := h2.frozen 6
  obtain ⟨k0, k1, k2, k3, k4, k5, k6⟩ := h1.seven
  obtain ⟨j0, j1, j2, j3, j4, j5, j6⟩ := h2.seven
  clear H1 H2 HB h1 h2 hbw
  go_wp2_with fail
  refine bodyPost_ret (results_cell (a := ⟨w.heap.size + 1, 0, none⟩) rfl rfl (Bk.tomb_ (Bk.put7 (H2'.out.grown (grown_putT _ _ _ _ _ _) (show w.heap.size + 1 ≠ w.heap.size by omega)) _ _ _ _ _ _ _))) rfl ⟨yA, yc, rfl, ?_, ?_⟩
  · exact ((HO.out.farG (grown_putT _ _ _ _ _ _) (by omega)).farG (grown_put7 _ _ _ _ _ _ _ _ _) (by omega)).base_le (by omega)
  · exact below_of' (below_of' HBW.out (grown_putT _ _ _ _ _ _) (Nat.le_refl _) (Nat.le_refl _)) (grown_put7 _ _ _ _ _ _ _ _ _) (by omega) (Nat.le_refl _)
set_option maxRecDepth 20000 in
set_option maxHeartbeats 4000000 in
theorem stownTomb_any (x : Th) (w : World) (hx : ThIn w w.heap.size x) (hn : x.n ≤ 100000) : Calls Tryz.prog 60 #[.agg (thA x)] w (GiveT x w) := by
  obtain ⟨⟨id, nm, a, u, f, d, bl⟩, xA, xn, xc⟩ := x
  replace hx : ThIn w w.heap.size ⟨⟨id, nm, a, ⟨u, f, d, bl⟩⟩, xA, xn, xc⟩ := hx
  have hB : Below w.heap.size w ((w.alloc (.cells #[.int .i64 id, .string nm, .int .i64 a, .int .i64 u, .int .i64 f, .int .i64 d, .slice xA xn xc] 51)).alloc (.cells #[.int .i64 0, .string ⟨#[]⟩, .int .i64 0, .int .i64 0, .int .i64 0, .int .i64 0, .slice none 0 0] 51)) := ((Below.refl _ _).alloc (Nat.le_refl _) _).alloc (by simp) _
  have h1 : Bk ((w.alloc (.cells #[.int .i64 id, .string nm, .int .i64 a, .int .i64 u, .int .i64 f, .int .i64 d, .slice xA xn xc] 51)).alloc (.cells #[.int .i64 0, .string ⟨#[]⟩, .int .i64 0, .int .i64 0, .int .i64 0, .int .i64 0, .slice none 0 0] 51)) w.heap.size 51 #[.int .i64 id, .string nm, .int .i64 a, .int .i64 u, .int .i64 f, .int .i64 d, .slice xA xn xc] := (Bk.new _ _ _).alloc _
  have h2 : Bk ((w.alloc (.cells #[.int .i64 id, .string nm, .int .i64 a, .int .i64 u, .int .i64 f, .int .i64 d, .slice xA xn xc] 51)).alloc (.cells #[.int .i64 0, .string ⟨#[]⟩, .int .i64 0, .int .i64 0, .int .i64 0, .int .i64 0, .slice none 0 0] 51)) (w.heap.size + 1) 51 #[.int .i64 0, .string ⟨#[]⟩, .int .i64 0, .int .i64 0, .int .i64 0, .int .i64 0, .slice none 0 0] := Bk.new2 _ _ _ _
  have HL := Lib.hid (Bytes.later (show Bytes w w.heap.size xA xn bl from hx.1) hB)
  have HXN := Lib.hid (show xn ≤ 100000 from hn)
  have HB := Lib.hid hB
  have H1 := Lib.hid h1
  have H2 := Lib.hid h2
  have HZ : Hid (((w.alloc (.cells #[.int .i64 id, .string nm, .int .i64 a, .int .i64 u, .int .i64 f, .int .i64 d, .slice xA xn xc] 51)).alloc (.cells #[.int .i64 0, .string ⟨#[]⟩, .int .i64 0, .int .i64 0, .int .i64 0, .int .i64 0, .slice none 0 0] 51)).heap.size = w.heap.size + 2) := Lib.hid (by simp)
  have HBL := Lib.hid (show bl.length = xn from hx.1.1)
  clear hx hB h1 h2 hn
  obtain ⟨k0, k1, k2, k3, k4, k5, k6⟩ := H1.out.seven
  show Calls Tryz.prog 60 #[.agg #[.int .i64 id, .string nm, .int .i64 a, .int .i64 u, .int .i64 f, .int .i64 d, .slice xA xn xc]] w _
  go_enter Tryz.func60, Tryz.ntmps60
  go_wp2_with fail
  generalize ((w.alloc (.cells #[.int .i64 id, .string nm, .int .i64 a, .int .i64 u, .int .i64 f, .int .i64 d, .slice xA xn xc] 51)).alloc (.cells #[.int .i64 0, .string ⟨#[]⟩, .int .i64 0, .int .i64 0, .int .i64 0, .int .i64 0, .slice none 0 0] 51)) = W at *
  refine (stlone_any u f d xA xn xc bl W HL.out (by have := HXN.out; omega)).mono ?_
  rintro e w1 ⟨g, rfl, hms, hb1⟩
  have HMS := Lib.hid hms
  have HB1 := Lib.hid hb1
  clear k0 k1 k2 k3 k4 k5 k6 hms hb1
  go_wp2_with fail
  refine (copy_any ⟨#[]⟩ 1 4294967296 (some ⟨g, 0, none⟩) 1 1 [⟨u, f, d, bl⟩] w1 HMS.out (by omega) (fun m hm => by rw [List.mem_singleton.1 hm]; show bl.length ≤ _; have := HBL.out; have := HXN.out; omega)).mono ?_
  rintro e w3 ⟨cA, cc, rfl, hom, hb3⟩
  have hbw := HB1.out.trans (hb3.mono HB1.out.size)
  obtain ⟨g2, y, rfl, hg1, hg2, hy, -, hrow, hbody⟩ := hom.at_ (j := 0) (by omega)
  obtain ⟨ym, yA, yn, yc⟩ := y
  have hy' : ym = ⟨u, f, d, bl⟩ := by simpa using hy.symm
  subst hy'
  obtain ⟨r0, r1, r2, r3⟩ := row4 hrow
  have hyn : yn = xn := by have := hbody.len; have := HBL.out; simp only at *; omega
  subst hyn
  simp only [Nat.zero_mul, Nat.zero_add] at r0 r1 r2 r3
  have HO : Hid (OwnB w3 (w.heap.size + 2) 5 yA yn yc bl) := Lib.hid (OwnB.base_le hbody (by have := HZ.out; have := HB1.out.size; omega))
  have HG := Lib.hid (show w.heap.size + 2 ≤ g2 by have := HZ.out; have := HB1.out.size; omega)
  have hg0 : g2 ≠ w.heap.size := by have := HG.out; omega
  have hfd := fun W => field_box3 (.string ⟨#[]⟩) (.int .i64 1) (.int .i64 4294967296) (some ⟨g2, 0, none⟩) 1 cc W
  clear hom hb3 HB1 hrow hy hbody
  have HBW := Lib.hid (HB.out.trans (hbw.mono (by have := HZ.out; omega)))
  have HS := Lib.hid (show w.heap.size + 2 ≤ w3.heap.size by have := hbw.size; have := HZ.out; omega)
  have h1 := H1.out.below hbw (by have := HZ.out; omega)
  have h2 := H2.out.below hbw (by have := HZ.out; omega)
  have H1' := Lib.hid h1
  have H2' := Lib.hid h2
  have z0 := h1.frozen 0
  have z1 := h1.frozen 1
  have z2 := h1.frozen 2
  have z3 := h1.frozen 3
  have z4 := h1.frozen 4
  have z5 := h1.frozen 5
  have z6 := h1.frozen 6
  have y0 := h2.frozen 0
  have y1 := h2.frozen 1
  have y2 := h2.frozen 2
  have y3 := h2.frozen 3
  have y4 := h2.frozen 4
  have y5 := h2.frozen 5
  have y6 := h2.frozen 6
  obtain ⟨k0, k1, k2, k3, k4, k5, k6⟩ := h1.seven
  obtain ⟨j0, j1, j2, j3, j4, j5, j6⟩ := h2.seven
  clear H1 H2 HB h1 h2 hbw
  go_wp2_with fail
  refine bodyPost_ret (results_cell (a := ⟨w.heap.size + 1, 0, none⟩) rfl rfl (Bk.tomb_ (Bk.put7 (H2'.out.grown (grown_putT _ _ _ _ _ _) (show w.heap.size + 1 ≠ w.heap.size by omega)) _ _ _ _ _ _ _))) rfl ⟨yA, yc, rfl, ?_, ?_⟩
  · exact ((HO.out.farG (grown_putT _ _ _ _ _ _) (by omega)).farG (grown_put7 _ _ _ _ _ _ _ _ _) (by omega)).base_le (by omega)
  · exact below_of' (below_of' HBW.out (grown_putT _ _ _ _ _ _) (Nat.le_refl _) (Nat.le_refl _)) (grown_put7 _ _ _ _ _ _ _ _ _) (by omega) (Nat.le_refl _)
set_option maxRecDepth 20000 in
set_option maxHeartbeats 4000000 in
theorem stownHold_any (x : Hh) (w : World) (hx : HhIn w w.heap.size x) (hn : x.n ≤ 100000) : Calls Tryz.prog 75 #[.agg (hhA x)] w (GiveH x w) := by
  obtain ⟨id, nm, xA, xn, xc, st⟩ := x
  have hB : Below w.heap.size w ((w.alloc (.cells #[.int .i64 id, .string nm, .slice xA xn xc] 71)).alloc (.cells #[.int .i64 0, .string ⟨#[]⟩, .slice none 0 0] 71)) := ((Below.refl _ _).alloc (Nat.le_refl _) _).alloc (by simp) _
  have h1 : Bk ((w.alloc (.cells #[.int .i64 id, .string nm, .slice xA xn xc] 71)).alloc (.cells #[.int .i64 0, .string ⟨#[]⟩, .slice none 0 0] 71)) w.heap.size 71 #[.int .i64 id, .string nm, .slice xA xn xc] := (Bk.new _ _ _).alloc _
  have h2 : Bk ((w.alloc (.cells #[.int .i64 id, .string nm, .slice xA xn xc] 71)).alloc (.cells #[.int .i64 0, .string ⟨#[]⟩, .slice none 0 0] 71)) (w.heap.size + 1) 71 #[.int .i64 0, .string ⟨#[]⟩, .slice none 0 0] := Bk.new2 _ _ _ _
  have HL := Lib.hid (ColK.later (show ColK 2 rgC w w.heap.size xA xn st from hx.1) hB)
  have HXN := Lib.hid (show xn ≤ 100000 from hn)
  have HB := Lib.hid hB
  have H1 := Lib.hid h1
  have H2 := Lib.hid h2
  have HZ : Hid (((w.alloc (.cells #[.int .i64 id, .string nm, .slice xA xn xc] 71)).alloc (.cells #[.int .i64 0, .string ⟨#[]⟩, .slice none 0 0] 71)).heap.size = w.heap.size + 2) := Lib.hid (by simp)
  have k2 := h1.cell 2
  clear hx hB h1 h2 hn
  show Calls Tryz.prog 75 #[.agg #[.int .i64 id, .string nm, .slice xA xn xc]] w _
  go_enter Tryz.func75, Tryz.ntmps75
  go_wp2_with fail
  generalize ((w.alloc (.cells #[.int .i64 id, .string nm, .slice xA xn xc] 71)).alloc (.cells #[.int .i64 0, .string ⟨#[]⟩, .slice none 0 0] 71)) = W at *
  refine (zCloneRg_any xA xn xc st W HL.out (by have := HXN.out; omega)).mono ?_
  rintro e w3 ⟨yA, yc, rfl, ho, hbw⟩
  have HO := Lib.hid (ho.from_ (base' := w.heap.size + 2) (by have := HZ.out; omega))
  have HBW := Lib.hid (HB.out.trans (hbw.mono (by have := HZ.out; omega)))
  have h1 := H1.out.below hbw (by have := HZ.out; omega)
  have h2 := H2.out.below hbw (by have := HZ.out; omega)
  have H2' := Lib.hid h2
  have k0 := h1.cell 0
  have k1 := h1.cell 1
  have k2' := h1.cell 2
  have z2 := h1.frozen 2
  have j0 := h2.cell 0
  have j1 := h2.cell 1
  have j2 := h2.cell 2
  have y0 := h2.frozen 0
  have y1 := h2.frozen 1
  have y2 := h2.frozen 2
  clear H1 H2 HB h1 h2 hbw ho k2
  go_wp2_with fail
  refine bodyPost_ret (results_cell (a := ⟨w.heap.size + 1, 0, none⟩) rfl rfl (Bk.hold_ (Bk.put3 (H2'.out.grown (grownBy_cell _ _ _ _) (show w.heap.size + 1 ≠ w.heap.size by omega)) _ _ _))) rfl ⟨yA, yc, rfl, ?_, ?_⟩
  · exact (OwnK.from_ (base := w.heap.size + 2) ⟨ownsB_kept (ownsB_kept HO.out.1 (grownBy_cell _ _ _ _) (fun b cs fr q hb => by injection q with q; omega)) (grown_put3 _ _ _ _ _) (fun b cs fr q hb => by injection q with q; omega), HO.out.2⟩ (by omega))
  · exact below_of' (below_of' HBW.out (grownBy_cell _ _ _ _) (Nat.le_refl _) (Nat.le_refl _)) (grown_put3 _ _ _ _ _) (by omega) (Nat.le_refl _)
end Go.Proofs.YtbogjfbfgbhdbaaGreatDoor
namespace Go.Proofs.YtbogjfbfgbhdbaaGreatDoor
set_option linter.unusedVariables false
set_option linter.unusedSimpArgs false
open Go.RowKit
set_option linter.unusedVariables false
set_option linter.unusedSimpArgs false
theorem set_dropG {α : Type} {gs hs : List α} {k : Nat} {a a' : α} (hg : gs.length = k) (ha : hs[k]? = some a) : (gs ++ hs.drop k).set k a' = (gs ++ [a']) ++ hs.drop (k + 1) := by
  have hk : k < hs.length := (List.getElem?_eq_some_iff.1 ha).1
  rw [List.set_append_right _ _ (by omega), hg, Nat.sub_self, List.drop_eq_getElem_cons hk, List.set_cons_zero, List.append_assoc]
  rfl
theorem get_dropG {α : Type} {gs hs : List α} {k : Nat} {a : α} (hg : gs.length = k) (ha : hs[k]? = some a) : (gs ++ hs.drop k)[k]? = some a := by
  rw [List.getElem?_append_right (by omega), hg, Nat.sub_self, List.getElem?_drop]
  simpa using ha
def CallO (P : Program) {α β : Type} (g : Nat) (v : α → Value) (Pr Q : World → Nat → α → Prop) (G : α → β) (l : List β) : Prop :=
  ∀ (W : World) (x : α), G x ∈ l → Pr W W.heap.size x → Calls P g #[v x] W fun e W' => ∃ y, e = .returned (v y) ∧ G y = G x ∧ Q W' W.heap.size y ∧ Below W.heap.size W W'
def OwnedAt {α β : Type} (k : Nat) (f : α → List Value) (t : TypeId) (Q : World → Nat → α → Prop) (G : α → β) (w : World) (A : Option Addr) (n c : Nat) (hs : List α) (j : Nat) (wr : World) : Prop :=
  ∃ gs : List α, OwnK k f wr w.heap.size t A n c (gs ++ hs.drop j) ∧ gs.length = j ∧ (∀ h ∈ gs, Q wr w.heap.size h) ∧ gs.map G = (hs.take j).map G ∧ Below w.heap.size w wr
def GiveNest {α β : Type} (k : Nat) (f : α → List Value) (t : TypeId) (Q : World → Nat → α → Prop) (G : α → β) (w : World) (n : Nat) (l : List β) (e : Ending) (w' : World) : Prop := ∃ A' c', e = .returned (.slice A' n c') ∧ NestO k f t Q G w' w.heap.size A' n c' l ∧ Below w.heap.size w w'
set_option maxRecDepth 20000 in
set_option maxHeartbeats 8000000 in
theorem zownedBx_any (g : Nat) (A : Option Addr) (n c : Nat) (l : List Bx) (w : World) (hl : BoxesIn w w.heap.size A n l) (hn : n ≤ 1000000) (hg : Enters Tryz.prog g) (hc : CallO Tryz.prog g (fun x => .agg (bhA x)) BhIn BhO Bh.b l) :
    Calls Tryz.prog 70 #[.slice A n c, .func (.func g) #[] #[]] w (GiveNest 4 bhC 44 BhO Bh.b w n l) := by
  obtain ⟨hs, h1, h2, rfl⟩ := hl
  have HS := Lib.hid h2
  have HLN := Lib.hid h1.1
  have HG := Lib.hid hg
  have HC := Lib.hid hc
  have CC := Lib.hid (zCloneBx_any A n c hs w h1 hn)
  clear h1 h2 hg hc
  go_enter Tryz.func70, Tryz.ntmps70
  go_wp2_with fail
  refine CC.out.mono ?_
  rintro e w1 ⟨A1, c1, rfl, ho, hb⟩
  have HO := Lib.hid ho
  have HB := Lib.hid hb
  clear ho hb CC
  go_wp2_with fail
  go_loopw [12] (fun i wx => ∃ j : Nat, j ≤ n ∧ i = .int .i64 (j : Int) ∧ OwnedAt 4 bhC 44 BhO Bh.b w A1 n c1 hs j wx) (fun i _ => n - (intOf i).toNat)
  case atStart => exact ⟨0, Nat.zero_le _, rfl, [], by simpa using HO.out, rfl, (fun h hh => by simp at hh), rfl, HB.out⟩
  case round =>
    obtain ⟨j, hj, rfl, hat⟩ := hrel
    have HAT := Lib.hid hat
    clear hat
    by_cases hlt : j < n
    · obtain ⟨gs, a1, a2, a3, a4, a5⟩ := HAT.out
      obtain ⟨x, hx⟩ : ∃ x, hs[j]? = some x := ⟨_, List.getElem?_eq_getElem (by have := HLN.out; omega)⟩
      obtain ⟨⟨nm, v, nx, ms⟩, xA, xn, xc⟩ := x
      have hxm := List.mem_of_getElem? hx
      obtain ⟨q, rfl, hqb, hR⟩ := a1.rows (by omega)
      have hrow := hR.range (get_dropG a2 hx)
      have HROW := Lib.hid hrow
      have hk0 : (0 : Int) ≤ (j : Int) := by omega
      have hkn : (j : Int) < (n : Int) := by omega
      have hb2 : Below wr.heap.size wr (wr.alloc (.cells #[.string nm, .int .i64 v, .int .i64 nx, .slice xA xn xc] 44)) := (Below.refl _ _).alloc (Nat.le_refl _) _
      have CI : Hid (Calls Tryz.prog g #[.agg #[.string nm, .int .i64 v, .int .i64 nx, .slice xA xn xc]] (wr.alloc (.cells #[.string nm, .int .i64 v, .int .i64 nx, .slice xA xn xc] 44)) fun e W' => ∃ y, e = .returned (.agg (bhA y)) ∧ Bh.b y = Bh.b (⟨⟨nm, v, nx, ms⟩, xA, xn, xc⟩ : Bh) ∧ BhO W' (wr.alloc (.cells #[.string nm, .int .i64 v, .int .i64 nx, .slice xA xn xc] 44)).heap.size y ∧ Below (wr.alloc (.cells #[.string nm, .int .i64 v, .int .i64 nx, .slice xA xn xc] 44)).heap.size (wr.alloc (.cells #[.string nm, .int .i64 v, .int .i64 nx, .slice xA xn xc] 44)) W') := Lib.hid (HC.out (wr.alloc (.cells #[.string nm, .int .i64 v, .int .i64 nx, .slice xA xn xc] 44)) _ (List.mem_map_of_mem hxm) (bhStays.later_ (HS.out _ hxm) (a5.trans (hb2.mono a5.size))))
      have m0 := (Bk.new wr 44 #[.string nm, .int .i64 v, .int .i64 nx, .slice xA xn xc]).cell 0
      have m1 := (Bk.new wr 44 #[.string nm, .int .i64 v, .int .i64 nx, .slice xA xn xc]).cell 1
      have m2 := (Bk.new wr 44 #[.string nm, .int .i64 v, .int .i64 nx, .slice xA xn xc]).cell 2
      have m3 := (Bk.new wr 44 #[.string nm, .int .i64 v, .int .i64 nx, .slice xA xn xc]).cell 3
      have HB2 := Lib.hid hb2
      have HX := Lib.hid hx
      have HB5 := Lib.hid a5
      clear hrow a1 a2 a3 a4 a5 hx hxm hR hb2
      go_wp2_with ((with_reducible show wpList _ _ _ (⟨some 16, _, _, _, _, _⟩ :: _) _ _); refine hold ?_)
      refine held (wpList_load_mid rfl 44 (.tmp 15) rfl q (j * 4) rfl (bhC ⟨⟨nm, v, nx, ms⟩, xA, xn, xc⟩) _ HROW.out Tryz.underlying44 rfl (by kernel_rfl) ?_)
      unfold bhC
      go_wp2_with fail
      rw [HG.out]
      refine CI.out.mono ?_
      generalize wr.alloc (.cells #[.string nm, .int .i64 v, .int .i64 nx, .slice xA xn xc] 44) = W1 at *
      rintro e W2 ⟨y, rfl, hyx, hq, hbw⟩
      have HBW := Lib.hid (HB2.out.trans (hbw.mono HB2.out.size))
      have HQ := Lib.hid (bhOwns.from_ hq (Nat.le_trans HB5.out.size HB2.out.size))
      have HYX := Lib.hid hyx
      clear hq hbw hyx CI m0 m1 m2 m3
      go_wp2_with ((with_reducible show wpList _ _ _ (⟨none, Op.store _ _ _, _, _, _, _⟩ :: _) _ _); refine hold ?_)
      obtain ⟨gs, a1, a2, a3, a4, a5⟩ := HAT.out
      obtain ⟨q', hqe, hqb', hR⟩ := a1.rows (by omega)
      injection hqe with hqe
      injection hqe with hqe
      subst hqe
      have hR2 := hR.below HBW.out
      have hlen : (gs ++ hs.drop j).length = n := a1.len
      refine held (wpList_store_row rfl 44 (.tmp 22) (.tmp 21) rfl hR2 j (by omega) y rfl (by rw [bhC_A]; rfl) (by kernel_rfl) (bhC_one y) ?_)
      intro W3 hR3 hg3
      obtain ⟨cur, rest', hbk, _, _⟩ := hR2.2.2.2
      have hb3 : Below w.heap.size W2 W3 := (Below.refl _ W2).grown hg3 (Nat.le_trans HB5.out.size HBW.out.size) (fun z hz => by injection hz with hz; omega)
      have hch : Chg 44 w.heap.size W2 W3 := Chg.of hbk hg3 hb3
      have HN : Hid (OwnedAt 4 bhC 44 BhO Bh.b w (some ⟨q, 0, none⟩) n c1 hs (j + 1) W3) := Lib.hid (by
        refine ⟨gs ++ [y], ?_, by simp [a2], fun h hh => ?_, ?_, (HB5.out.trans (HBW.out.mono HB5.out.size)).trans hb3⟩
        · have h8 := hR3.own hqb
          rw [List.length_set, hlen, set_dropG a2 HX.out] at h8
          exact h8
        · rcases List.mem_append.1 hh with hh | hh
          · exact bhOwns.chg (bhOwns.below (a3 h hh) HBW.out) hch (by simp)
          · rw [List.mem_singleton.1 hh]; exact bhOwns.chg HQ.out hch (by simp)
        · rw [List.map_append, a4, take_snocG HX.out, List.map_append]
          show _ ++ [Bh.b y] = _ ++ [Bh.b (⟨⟨nm, v, nx, ms⟩, xA, xn, xc⟩ : Bh)]
          rw [HYX.out])
      clear hb3 hch hg3 hR3 hR2 hR a1 a2 a3 a4 a5 hbk HB5 HB2 HBW HROW
      go_wp2_with fail
      go_roundw
      case rel => exact ⟨j + 1, by omega, by go_num, HN.out⟩
      case measure => simp [intOf]; omega
    · have hkn : ¬ (j : Int) < (n : Int) := by omega
      obtain rfl : j = n := by omega
      go_wp2_with fail
      go_ret
      obtain ⟨gs, a1, a2, a3, a4, a5⟩ := HAT.out
      rw [List.drop_of_length_le (by rw [HLN.out]; exact Nat.le_refl _), List.append_nil] at a1
      rw [List.take_of_length_le (by rw [HLN.out]; exact Nat.le_refl _)] at a4
      exact ⟨A1, c1, rfl, ⟨gs, a1, a3, a4⟩, a5⟩
set_option maxRecDepth 20000 in
set_option maxHeartbeats 8000000 in
theorem zownedTb_any (g : Nat) (A : Option Addr) (n c : Nat) (l : List Tmb) (w : World) (hl : TombsIn w w.heap.size A n l) (hn : n ≤ 1000000) (hg : Enters Tryz.prog g) (hc : CallO Tryz.prog g (fun x => .agg (thA x)) ThIn ThO Th.t l) :
    Calls Tryz.prog 73 #[.slice A n c, .func (.func g) #[] #[]] w (GiveNest 7 thC 51 ThO Th.t w n l) := by
  obtain ⟨hs, h1, h2, rfl⟩ := hl
  have HS := Lib.hid h2
  have HLN := Lib.hid h1.1
  have HG := Lib.hid hg
  have HC := Lib.hid hc
  have CC := Lib.hid (zCloneTb_any A n c hs w h1 hn)
  clear h1 h2 hg hc
  go_enter Tryz.func73, Tryz.ntmps73
  go_wp2_with fail
  refine CC.out.mono ?_
  rintro e w1 ⟨A1, c1, rfl, ho, hb⟩
  have HO := Lib.hid ho
  have HB := Lib.hid hb
  clear ho hb CC
  go_wp2_with fail
  go_loopw [12] (fun i wx => ∃ j : Nat, j ≤ n ∧ i = .int .i64 (j : Int) ∧ OwnedAt 7 thC 51 ThO Th.t w A1 n c1 hs j wx) (fun i _ => n - (intOf i).toNat)
  case atStart => exact ⟨0, Nat.zero_le _, rfl, [], by simpa using HO.out, rfl, (fun h hh => by simp at hh), rfl, HB.out⟩
  case round =>
    obtain ⟨j, hj, rfl, hat⟩ := hrel
    have HAT := Lib.hid hat
    clear hat
    by_cases hlt : j < n
    · obtain ⟨gs, a1, a2, a3, a4, a5⟩ := HAT.out
      obtain ⟨x, hx⟩ : ∃ x, hs[j]? = some x := ⟨_, List.getElem?_eq_getElem (by have := HLN.out; omega)⟩
      obtain ⟨⟨id, nm, a, ⟨u, f, d, bl⟩⟩, xA, xn, xc⟩ := x
      have hxm := List.mem_of_getElem? hx
      obtain ⟨q, rfl, hqb, hR⟩ := a1.rows (by omega)
      have hrow := hR.range (get_dropG a2 hx)
      have HROW := Lib.hid hrow
      have hk0 : (0 : Int) ≤ (j : Int) := by omega
      have hkn : (j : Int) < (n : Int) := by omega
      have hb2 : Below wr.heap.size wr (wr.alloc (.cells #[.int .i64 id, .string nm, .int .i64 a, .int .i64 u, .int .i64 f, .int .i64 d, .slice xA xn xc] 51)) := (Below.refl _ _).alloc (Nat.le_refl _) _
      have CI : Hid (Calls Tryz.prog g #[.agg #[.int .i64 id, .string nm, .int .i64 a, .int .i64 u, .int .i64 f, .int .i64 d, .slice xA xn xc]] (wr.alloc (.cells #[.int .i64 id, .string nm, .int .i64 a, .int .i64 u, .int .i64 f, .int .i64 d, .slice xA xn xc] 51)) fun e W' => ∃ y, e = .returned (.agg (thA y)) ∧ Th.t y = Th.t (⟨⟨id, nm, a, ⟨u, f, d, bl⟩⟩, xA, xn, xc⟩ : Th) ∧ ThO W' (wr.alloc (.cells #[.int .i64 id, .string nm, .int .i64 a, .int .i64 u, .int .i64 f, .int .i64 d, .slice xA xn xc] 51)).heap.size y ∧ Below (wr.alloc (.cells #[.int .i64 id, .string nm, .int .i64 a, .int .i64 u, .int .i64 f, .int .i64 d, .slice xA xn xc] 51)).heap.size (wr.alloc (.cells #[.int .i64 id, .string nm, .int .i64 a, .int .i64 u, .int .i64 f, .int .i64 d, .slice xA xn xc] 51)) W') := Lib.hid (HC.out (wr.alloc (.cells #[.int .i64 id, .string nm, .int .i64 a, .int .i64 u, .int .i64 f, .int .i64 d, .slice xA xn xc] 51)) _ (List.mem_map_of_mem hxm) (thStays.later_ (HS.out _ hxm) (a5.trans (hb2.mono a5.size))))
      have m0 := (Bk.new wr 51 #[.int .i64 id, .string nm, .int .i64 a, .int .i64 u, .int .i64 f, .int .i64 d, .slice xA xn xc]).cell 0
      have m1 := (Bk.new wr 51 #[.int .i64 id, .string nm, .int .i64 a, .int .i64 u, .int .i64 f, .int .i64 d, .slice xA xn xc]).cell 1
      have m2 := (Bk.new wr 51 #[.int .i64 id, .string nm, .int .i64 a, .int .i64 u, .int .i64 f, .int .i64 d, .slice xA xn xc]).cell 2
      have m3 := (Bk.new wr 51 #[.int .i64 id, .string nm, .int .i64 a, .int .i64 u, .int .i64 f, .int .i64 d, .slice xA xn xc]).cell 3
      have m4 := (Bk.new wr 51 #[.int .i64 id, .string nm, .int .i64 a, .int .i64 u, .int .i64 f, .int .i64 d, .slice xA xn xc]).cell 4
      have m5 := (Bk.new wr 51 #[.int .i64 id, .string nm, .int .i64 a, .int .i64 u, .int .i64 f, .int .i64 d, .slice xA xn xc]).cell 5
      have m6 := (Bk.new wr 51 #[.int .i64 id, .string nm, .int .i64 a, .int .i64 u, .int .i64 f, .int .i64 d, .slice xA xn xc]).cell 6
      have HB2 := Lib.hid hb2
      have HX := Lib.hid hx
      have HB5 := Lib.hid a5
      clear hrow a1 a2 a3 a4 a5 hx hxm hR hb2
      go_wp2_with ((with_reducible show wpList _ _ _ (⟨some 16, _, _, _, _, _⟩ :: _) _ _); refine hold ?_)
      refine held (wpList_load_mid rfl 51 (.tmp 15) rfl q (j * 7) rfl (thC ⟨⟨id, nm, a, ⟨u, f, d, bl⟩⟩, xA, xn, xc⟩) _ HROW.out Tryz.underlying51 rfl (by kernel_rfl) ?_)
      unfold thC
      go_wp2_with fail
      rw [HG.out]
      refine CI.out.mono ?_
      generalize wr.alloc (.cells #[.int .i64 id, .string nm, .int .i64 a, .int .i64 u, .int .i64 f, .int .i64 d, .slice xA xn xc] 51) = W1 at *
      rintro e W2 ⟨y, rfl, hyx, hq, hbw⟩
      have HBW := Lib.hid (HB2.out.trans (hbw.mono HB2.out.size))
      have HQ := Lib.hid (thOwns.from_ hq (Nat.le_trans HB5.out.size HB2.out.size))
      have HYX := Lib.hid hyx
      clear hq hbw hyx CI m0 m1 m2 m3 m4 m5 m6
      go_wp2_with ((with_reducible show wpList _ _ _ (⟨none, Op.store _ _ _, _, _, _, _⟩ :: _) _ _); refine hold ?_)
      obtain ⟨gs, a1, a2, a3, a4, a5⟩ := HAT.out
      obtain ⟨q', hqe, hqb', hR⟩ := a1.rows (by omega)
      injection hqe with hqe
      injection hqe with hqe
      subst hqe
      have hR2 := hR.below HBW.out
      have hlen : (gs ++ hs.drop j).length = n := a1.len
      refine held (wpList_store_row rfl 51 (.tmp 22) (.tmp 21) rfl hR2 j (by omega) y rfl (by rw [thC_A]; rfl) (by kernel_rfl) (thC_one y) ?_)
      intro W3 hR3 hg3
      obtain ⟨cur, rest', hbk, _, _⟩ := hR2.2.2.2
      have hb3 : Below w.heap.size W2 W3 := (Below.refl _ W2).grown hg3 (Nat.le_trans HB5.out.size HBW.out.size) (fun z hz => by injection hz with hz; omega)
      have hch : Chg 51 w.heap.size W2 W3 := Chg.of hbk hg3 hb3
      have HN : Hid (OwnedAt 7 thC 51 ThO Th.t w (some ⟨q, 0, none⟩) n c1 hs (j + 1) W3) := Lib.hid (by
        refine ⟨gs ++ [y], ?_, by simp [a2], fun h hh => ?_, ?_, (HB5.out.trans (HBW.out.mono HB5.out.size)).trans hb3⟩
        · have h8 := hR3.own hqb
          rw [List.length_set, hlen, set_dropG a2 HX.out] at h8
          exact h8
        · rcases List.mem_append.1 hh with hh | hh
          · exact thOwns.chg (thOwns.below (a3 h hh) HBW.out) hch (by simp)
          · rw [List.mem_singleton.1 hh]; exact thOwns.chg HQ.out hch (by simp)
        · rw [List.map_append, a4, take_snocG HX.out, List.map_append]
          show _ ++ [Th.t y] = _ ++ [Th.t (⟨⟨id, nm, a, ⟨u, f, d, bl⟩⟩, xA, xn, xc⟩ : Th)]
          rw [HYX.out])
      clear hb3 hch hg3 hR3 hR2 hR a1 a2 a3 a4 a5 hbk HB5 HB2 HBW HROW
      go_wp2_with fail
      go_roundw
      case rel => exact ⟨j + 1, by omega, by go_num, HN.out⟩
      case measure => simp [intOf]; omega
    · have hkn : ¬ (j : Int) < (n : Int) := by omega
      obtain rfl : j = n := by omega
      go_wp2_with fail
      go_ret
      obtain ⟨gs, a1, a2, a3, a4, a5⟩ := HAT.out
      rw [List.drop_of_length_le (by rw [HLN.out]; exact Nat.le_refl _), List.append_nil] at a1
      rw [List.take_of_length_le (by rw [HLN.out]; exact Nat.le_refl _)] at a4
      exact ⟨A1, c1, rfl, ⟨gs, a1, a3, a4⟩, a5⟩
set_option maxRecDepth 20000 in
set_option maxHeartbeats 8000000 in
theorem zownedHo_any (g : Nat) (A : Option Addr) (n c : Nat) (l : List Hol) (w : World) (hl : HolsIn w w.heap.size A n l) (hn : n ≤ 1000000) (hg : Enters Tryz.prog g) (hc : CallO Tryz.prog g (fun x => .agg (hhA x)) HhIn HhO Hh.hol l) :
    Calls Tryz.prog 74 #[.slice A n c, .func (.func g) #[] #[]] w (GiveNest 3 hhC 71 HhO Hh.hol w n l) := by
  obtain ⟨hs, h1, h2, rfl⟩ := hl
  have HS := Lib.hid h2
  have HLN := Lib.hid h1.1
  have HG := Lib.hid hg
  have HC := Lib.hid hc
  have CC := Lib.hid (zCloneHo_any A n c hs w h1 hn)
  clear h1 h2 hg hc
  go_enter Tryz.func74, Tryz.ntmps74
  go_wp2_with fail
  refine CC.out.mono ?_
  rintro e w1 ⟨A1, c1, rfl, ho, hb⟩
  have HO := Lib.hid ho
  have HB := Lib.hid hb
  clear ho hb CC
  go_wp2_with fail
  go_loopw [12] (fun i wx => ∃ j : Nat, j ≤ n ∧ i = .int .i64 (j : Int) ∧ OwnedAt 3 hhC 71 HhO Hh.hol w A1 n c1 hs j wx) (fun i _ => n - (intOf i).toNat)
  case atStart => exact ⟨0, Nat.zero_le _, rfl, [], by simpa using HO.out, rfl, (fun h hh => by simp at hh), rfl, HB.out⟩
  case round =>
    obtain ⟨j, hj, rfl, hat⟩ := hrel
    have HAT := Lib.hid hat
    clear hat
    by_cases hlt : j < n
    · obtain ⟨gs, a1, a2, a3, a4, a5⟩ := HAT.out
      obtain ⟨x, hx⟩ : ∃ x, hs[j]? = some x := ⟨_, List.getElem?_eq_getElem (by have := HLN.out; omega)⟩
      obtain ⟨id, nm, xA, xn, xc, st⟩ := x
      have hxm := List.mem_of_getElem? hx
      obtain ⟨q, rfl, hqb, hR⟩ := a1.rows (by omega)
      have hrow := hR.range (get_dropG a2 hx)
      have HROW := Lib.hid hrow
      have hk0 : (0 : Int) ≤ (j : Int) := by omega
      have hkn : (j : Int) < (n : Int) := by omega
      have hb2 : Below wr.heap.size wr (wr.alloc (.cells #[.int .i64 id, .string nm, .slice xA xn xc] 71)) := (Below.refl _ _).alloc (Nat.le_refl _) _
      have CI : Hid (Calls Tryz.prog g #[.agg #[.int .i64 id, .string nm, .slice xA xn xc]] (wr.alloc (.cells #[.int .i64 id, .string nm, .slice xA xn xc] 71)) fun e W' => ∃ y, e = .returned (.agg (hhA y)) ∧ Hh.hol y = Hh.hol (⟨id, nm, xA, xn, xc, st⟩ : Hh) ∧ HhO W' (wr.alloc (.cells #[.int .i64 id, .string nm, .slice xA xn xc] 71)).heap.size y ∧ Below (wr.alloc (.cells #[.int .i64 id, .string nm, .slice xA xn xc] 71)).heap.size (wr.alloc (.cells #[.int .i64 id, .string nm, .slice xA xn xc] 71)) W') := Lib.hid (HC.out (wr.alloc (.cells #[.int .i64 id, .string nm, .slice xA xn xc] 71)) _ (List.mem_map_of_mem hxm) (hhStays.later_ (HS.out _ hxm) (a5.trans (hb2.mono a5.size))))
      have m0 := (Bk.new wr 71 #[.int .i64 id, .string nm, .slice xA xn xc]).cell 0
      have m1 := (Bk.new wr 71 #[.int .i64 id, .string nm, .slice xA xn xc]).cell 1
      have m2 := (Bk.new wr 71 #[.int .i64 id, .string nm, .slice xA xn xc]).cell 2
      have HB2 := Lib.hid hb2
      have HX := Lib.hid hx
      have HB5 := Lib.hid a5
      clear hrow a1 a2 a3 a4 a5 hx hxm hR hb2
      go_wp2_with ((with_reducible show wpList _ _ _ (⟨some 16, _, _, _, _, _⟩ :: _) _ _); refine hold ?_)
      refine held (wpList_load_mid rfl 71 (.tmp 15) rfl q (j * 3) rfl (hhC ⟨id, nm, xA, xn, xc, st⟩) _ HROW.out Tryz.underlying71 rfl (by kernel_rfl) ?_)
      unfold hhC
      go_wp2_with fail
      rw [HG.out]
      refine CI.out.mono ?_
      generalize wr.alloc (.cells #[.int .i64 id, .string nm, .slice xA xn xc] 71) = W1 at *
      rintro e W2 ⟨y, rfl, hyx, hq, hbw⟩
      have HBW := Lib.hid (HB2.out.trans (hbw.mono HB2.out.size))
      have HQ := Lib.hid (hhOwns.from_ hq (Nat.le_trans HB5.out.size HB2.out.size))
      have HYX := Lib.hid hyx
      clear hq hbw hyx CI m0 m1 m2
      go_wp2_with ((with_reducible show wpList _ _ _ (⟨none, Op.store _ _ _, _, _, _, _⟩ :: _) _ _); refine hold ?_)
      obtain ⟨gs, a1, a2, a3, a4, a5⟩ := HAT.out
      obtain ⟨q', hqe, hqb', hR⟩ := a1.rows (by omega)
      injection hqe with hqe
      injection hqe with hqe
      subst hqe
      have hR2 := hR.below HBW.out
      have hlen : (gs ++ hs.drop j).length = n := a1.len
      refine held (wpList_store_row rfl 71 (.tmp 22) (.tmp 21) rfl hR2 j (by omega) y rfl (by rw [hhC_A]; rfl) (by kernel_rfl) (hhC_one y) ?_)
      intro W3 hR3 hg3
      obtain ⟨cur, rest', hbk, _, _⟩ := hR2.2.2.2
      have hb3 : Below w.heap.size W2 W3 := (Below.refl _ W2).grown hg3 (Nat.le_trans HB5.out.size HBW.out.size) (fun z hz => by injection hz with hz; omega)
      have hch : Chg 71 w.heap.size W2 W3 := Chg.of hbk hg3 hb3
      have HN : Hid (OwnedAt 3 hhC 71 HhO Hh.hol w (some ⟨q, 0, none⟩) n c1 hs (j + 1) W3) := Lib.hid (by
        refine ⟨gs ++ [y], ?_, by simp [a2], fun h hh => ?_, ?_, (HB5.out.trans (HBW.out.mono HB5.out.size)).trans hb3⟩
        · have h8 := hR3.own hqb
          rw [List.length_set, hlen, set_dropG a2 HX.out] at h8
          exact h8
        · rcases List.mem_append.1 hh with hh | hh
          · exact hhOwns.chg (hhOwns.below (a3 h hh) HBW.out) hch (by simp)
          · rw [List.mem_singleton.1 hh]; exact hhOwns.chg HQ.out hch (by simp)
        · rw [List.map_append, a4, take_snocG HX.out, List.map_append]
          show _ ++ [Hh.hol y] = _ ++ [Hh.hol (⟨id, nm, xA, xn, xc, st⟩ : Hh)]
          rw [HYX.out])
      clear hb3 hch hg3 hR3 hR2 hR a1 a2 a3 a4 a5 hbk HB5 HB2 HBW HROW
      go_wp2_with fail
      go_roundw
      case rel => exact ⟨j + 1, by omega, by go_num, HN.out⟩
      case measure => simp [intOf]; omega
    · have hkn : ¬ (j : Int) < (n : Int) := by omega
      obtain rfl : j = n := by omega
      go_wp2_with fail
      go_ret
      obtain ⟨gs, a1, a2, a3, a4, a5⟩ := HAT.out
      rw [List.drop_of_length_le (by rw [HLN.out]; exact Nat.le_refl _), List.append_nil] at a1
      rw [List.take_of_length_le (by rw [HLN.out]; exact Nat.le_refl _)] at a4
      exact ⟨A1, c1, rfl, ⟨gs, a1, a3, a4⟩, a5⟩
end Go.Proofs.YtbogjfbfgbhdbaaGreatDoor
namespace Go.Proofs.YtbogjfbfgbhdbaaGreatDoor
set_option linter.unusedVariables false
set_option linter.unusedSimpArgs false
open Go.RowKit
set_option linter.unusedVariables false
set_option linter.unusedSimpArgs false
theorem OwnM.putF {w : World} {base n c g i : Nat} {L : List Mg} {a : Mg} (h : OwnM w base (some ⟨g, 0, none⟩) n c L) (hi : L[i]? = some a) (z : Int) :
    base ≤ g ∧ g < w.heap.size ∧ w.frozen? ⟨g, i * 4 + 1, none⟩ = false ∧ w.cell? ⟨g, i * 4 + 1, none⟩ = some (.int .i64 a.flags) ∧ OwnM (w.setCell ⟨g, i * 4 + 1, none⟩ (.int .i64 z)) base (some ⟨g, 0, none⟩) n c (L.set i { a with flags := z }) := by
  obtain ⟨hs, h1, h2, rfl⟩ := h
  rw [List.getElem?_map] at hi
  cases hx : hs[i]? with
  | none => rw [hx] at hi; cases hi
  | some x =>
    rw [hx] at hi
    obtain rfl : x.m = a := Option.some.inj hi
    obtain ⟨g', e, hg, hl, hf, hc, ho⟩ := OwnK.putX h1 hx (j := 1) (a' := ({ x with m := { x.m with flags := z } } : Hd)) (by omega) (.int .i64 z) (by unfold hdC; rfl)
    injection e with e
    injection e with e
    subst e
    refine ⟨hg, hl, hf, hc, hs.set i { x with m := { x.m with flags := z } }, ho, fun y hy => ?_, ?_⟩
    · have hall : OwnB w base 5 y.A y.n y.c y.m.body := by
        rcases List.mem_or_eq_of_mem_set hy with hy | rfl
        · exact h2 y hy
        · exact h2 x (List.mem_of_getElem? hx)
      exact ⟨ownsB_kept hall.1 (grownBy_cell w g _ _) (fun b cs fr e _ => ownsB_type h1.1 (show 49 ≠ 5 by decide) b cs fr e), hall.2⟩
    · rw [List.map_set]
end Go.Proofs.YtbogjfbfgbhdbaaGreatDoor
