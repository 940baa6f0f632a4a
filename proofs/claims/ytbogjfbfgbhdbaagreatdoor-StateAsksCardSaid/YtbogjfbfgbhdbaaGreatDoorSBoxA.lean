/-
  A part of the proof: see the last text.
-/
import Derived.Test.YtbogjfbfgbhdbaaGreatDoorSAppK
import Derived.Lib.SliceRun
import Derived.Laws.EntriesVeiled
import Derived.Test.YtbogjfbfgbhdbaaGreatDoorSBytesOwn
import Derived.Deep.RegionHeld3
import Derived.BigQuiet
import Derived.Deep.QuietTactic
namespace Go.Proofs.YtbogjfbfgbhdbaaGreatDoor
set_option linter.unusedVariables false
set_option linter.unusedSimpArgs false
open Go.RowKit
set_option linter.unusedVariables false
set_option linter.unusedSimpArgs false
theorem OwnB.farG {w w' : World} {base n c b : Nat} {e : TypeId} {A : Option Addr} {l : List Nat} (h : OwnB w base e A n c l) (hg : w.grownBy w' (some b)) (hb : b < base) : OwnB w' base e A n c l :=
  ⟨ownsB_kept h.1 hg (fun b' cs fr q hb' => by injection q with q; omega), h.2⟩
theorem Bk.put4 {w : World} {b : Nat} {t : TypeId} {u0 u1 u2 u3 : Value} (h : Bk w b t #[u0, u1, u2, u3]) (a0 a1 a2 a3 : Value) :
    Bk ((((w.setCell ⟨b, 0, none⟩ a0).setCell ⟨b, 1, none⟩ a1).setCell ⟨b, 2, none⟩ a2).setCell ⟨b, 3, none⟩ a3) b t #[a0, a1, a2, a3] := by
  simpa using (((h.put 0 a0).put 1 a1).put 2 a2).put 3 a3
theorem below_put4 {B : Nat} {w0 w : World} (h : Below B w0 w) {b : Nat} (hb : B ≤ b) (a0 a1 a2 a3 : Value) :
    Below B w0 ((((w.setCell ⟨b, 0, none⟩ a0).setCell ⟨b, 1, none⟩ a1).setCell ⟨b, 2, none⟩ a2).setCell ⟨b, 3, none⟩ a3) :=
  (((h.setCell hb a0).setCell hb a1).setCell hb a2).setCell hb a3
theorem grown_trans {a b c : World} {row : Option Nat} (h : a.grownBy b row) (k : b.grownBy c row) : a.grownBy c row := grownBy_trans h k
theorem grown_put4 (w : World) (b : Nat) (a0 a1 a2 a3 : Value) : w.grownBy ((((w.setCell ⟨b, 0, none⟩ a0).setCell ⟨b, 1, none⟩ a1).setCell ⟨b, 2, none⟩ a2).setCell ⟨b, 3, none⟩ a3) (some b) :=
  grown_trans (grown_trans (grown_trans (grownBy_cell w b 0 a0) (grownBy_cell _ b 1 a1)) (grownBy_cell _ b 2 a2)) (grownBy_cell _ b 3 a3)
theorem size_msg : (Tryz.prog.info? 49).map (·.size) = some 4 := by kernel_rfl
theorem size_box : (Tryz.prog.info? 44).map (·.size) = some 4 := by kernel_rfl
theorem Bk.msg {w : World} {b : Nat} {t : TypeId} {u0 u1 u2 u3 : Value} (h : Bk w b t #[u0, u1, u2, u3]) : (loadVar 49 ⟨b, 0, none⟩).run Tryz.prog w = .ok (.agg #[u0, u1, u2, u3]) w :=
  h.load Tryz.underlying49 rfl size_msg
theorem Bk.box_ {w : World} {b : Nat} {t : TypeId} {u0 u1 u2 u3 : Value} (h : Bk w b t #[u0, u1, u2, u3]) : (loadVar 44 ⟨b, 0, none⟩).run Tryz.prog w = .ok (.agg #[u0, u1, u2, u3]) w :=
  h.load Tryz.underlying44 rfl size_box
theorem isUID_any (n : Int) (w : World) : Calls Tryz.prog 193 #[.int .i64 n] w fun e w' => e = .returned (.bool (okUID n)) ∧ w = w' := by
  by_cases h1 : 1 ≤ n
  · by_cases h2 : n ≤ 4294967295
    · have HR : Hid (okUID n = true) := Lib.hid (decide_eq_true ⟨h1, h2⟩)
      go_enter Tryz.func193, Tryz.ntmps193
      go_wp2
      go_ret
      exact ⟨by rw [HR.out] <;> rfl, rfl⟩
    · have HR : Hid (okUID n = false) := Lib.hid (decide_eq_false (fun h => h2 h.2))
      go_enter Tryz.func193, Tryz.ntmps193
      go_wp2
      go_ret
      exact ⟨by rw [HR.out] <;> rfl, rfl⟩
  · have HR : Hid (okUID n = false) := Lib.hid (decide_eq_false (fun h => h1 h.1))
    go_enter Tryz.func193, Tryz.ntmps193
    go_wp2
    go_ret
    exact ⟨by rw [HR.out] <;> rfl, rfl⟩
theorem info_by : (Tryz.prog.info? 5).map (fun i => (i.zero, i.size, i.bytes)) = some (some (.int .u8 0), 1, 1) := by kernel_rfl
def GiveB (w0 : World) (n : Nat) (l : List Nat) (e : Ending) (w' : World) : Prop :=
  ∃ A' c', e = .returned (.slice A' n c') ∧ OwnB w' w0.heap.size 5 A' n c' l ∧ Below w0.heap.size w0 w'
theorem byClone_any (A : Option Addr) (n c : Nat) (l : List Nat) (w : World) (hl : Bytes w w.heap.size A n l) (hn : n ≤ 100000000) :
    Calls Tryz.prog 208 #[.slice A n c] w (GiveB w n l) := by
  cases A with
  | none =>
    have h0 : n = 0 := by
      rcases Nat.eq_zero_or_pos n with h | h
      · exact h
      · obtain ⟨b, o, h', _⟩ := hl.2.2 h; cases h'
    subst h0
    have hl' : l = [] := List.eq_nil_of_length_eq_zero hl.1
    subst hl'
    have heq := fun W => Lib.run_eql_slice_nil (P := Tryz.prog) W 31 5 none 0 c 0 0 Tryz.underlying31
    go_enter Tryz.func208, Tryz.ntmps208
    go_wp2
    go_ret
    exact ⟨_, _, rfl, OwnB.nil, Below.refl _ _⟩
  | some a =>
    have heq := fun W => Lib.run_eql_slice_nil (P := Tryz.prog) W 31 5 (some a) n c 0 0 Tryz.underlying31
    go_enter Tryz.func208, Tryz.ntmps208
    go_wp2_with ((with_reducible show wpList _ _ _ (⟨some 7, _, _, _, _, _⟩ :: _) _ _); refine hold ?_)
    refine held (wpList_append_bytes rfl (.tmp 5) (.tmp 6) 31 rfl Tryz.underlying31 info_by w.heap.size (some ⟨w.heap.size, 0, none⟩) 0 0 [] rfl (OwnB.empty w 5) w.heap.size (some a) n c l rfl
      (hl.below ((Below.refl _ _).alloc (Nat.le_refl _) _) (Nat.le_refl _)) (by omega) (by simp) ?_)
    intro A3 c3 w3 ho3 hb3 hg3
    clear hg3
    have hb3' : Below w.heap.size w w3 := ((Below.refl _ _).alloc (Nat.le_refl _) _).trans hb3
    rw [Nat.zero_add, List.nil_append] at ho3
    rw [Nat.zero_add]
    go_wp2
    go_ret
    exact ⟨_, _, rfl, ho3, hb3'⟩
theorem byEqual_any (A : Option Addr) (n c B : Nat) (l : List Nat) (A' : Option Addr) (n' c' B' : Nat) (l' : List Nat) (w : World) (hl : Bytes w B A n l) (hl' : Bytes w B' A' n' l') :
    Calls Tryz.prog 156 #[.slice A n c, .slice A' n' c'] w fun e w' => e = .returned (.bool (decide (l = l'))) ∧ w = w' := by
  have h1 := run_str_of_bytes (P := Tryz.prog) (c := c) hl Tryz.underlying31 Tryz.underlying5 Tryz.underlying9
  have h2 := run_str_of_bytes (P := Tryz.prog) (c := c') hl' Tryz.underlying31 Tryz.underlying5 Tryz.underlying9
  have he := strOf_eqb l l' hl.2.1 hl'.2.1
  generalize decide (l = l') = b at *
  go_enter Tryz.func156, Tryz.ntmps156
  go_wp2
  go_ret
  exact ⟨rfl, rfl⟩
theorem x3same11_any (A : Option Addr) (n c B : Nat) (l : List Nat) (A' : Option Addr) (n' c' B' : Nat) (l' : List Nat) (w : World) (hl : Bytes w B A n l) (hl' : Bytes w B' A' n' l') :
    Calls Tryz.prog 61 #[.slice A n c, .slice A' n' c'] w fun e w' => e = .returned (.bool (decide (l = l'))) ∧ w = w' := by
  have h1 := run_str_of_bytes (P := Tryz.prog) (c := c) hl Tryz.underlying31 Tryz.underlying5 Tryz.underlying9
  have h2 := run_str_of_bytes (P := Tryz.prog) (c := c') hl' Tryz.underlying31 Tryz.underlying5 Tryz.underlying9
  have he := strOf_eqb l l' hl.2.1 hl'.2.1
  generalize decide (l = l') = b at *
  go_enter Tryz.func61, Tryz.ntmps61
  go_wp2
  go_ret
  exact ⟨rfl, rfl⟩
def GiveM (w0 : World) (u f d : Int) (n : Nat) (l : List Nat) (e : Ending) (w' : World) : Prop :=
  ∃ A' c', e = .returned (.agg #[.int .i64 u, .int .i64 f, .int .i64 d, .slice A' n c']) ∧ OwnB w' w0.heap.size 5 A' n c' l ∧ Below w0.heap.size w0 w'
set_option maxRecDepth 20000 in
set_option maxHeartbeats 2000000 in
theorem ownMsg_any (u f d : Int) (A : Option Addr) (n c : Nat) (l : List Nat) (w : World) (hl : Bytes w w.heap.size A n l) (hn : n ≤ 100000000) :
    Calls Tryz.prog 140 #[.agg #[.int .i64 u, .int .i64 f, .int .i64 d, .slice A n c]] w (GiveM w u f d n l) := by
  have hB : Below w.heap.size w ((w.alloc (.cells #[.int .i64 u, .int .i64 f, .int .i64 d, .slice A n c] 49)).alloc (.cells #[.int .i64 0, .int .i64 0, .int .i64 0, .slice none 0 0] 49)) := ((Below.refl _ _).alloc (Nat.le_refl _) _).alloc (by simp) _
  have h1 : Bk ((w.alloc (.cells #[.int .i64 u, .int .i64 f, .int .i64 d, .slice A n c] 49)).alloc (.cells #[.int .i64 0, .int .i64 0, .int .i64 0, .slice none 0 0] 49)) w.heap.size 49 #[.int .i64 u, .int .i64 f, .int .i64 d, .slice A n c] := (Bk.new _ _ _).alloc _
  have h2 : Bk ((w.alloc (.cells #[.int .i64 u, .int .i64 f, .int .i64 d, .slice A n c] 49)).alloc (.cells #[.int .i64 0, .int .i64 0, .int .i64 0, .slice none 0 0] 49)) (w.heap.size + 1) 49 #[.int .i64 0, .int .i64 0, .int .i64 0, .slice none 0 0] := Bk.new2 _ _ _ _
  have HC := Lib.hid (byClone_any A n c l _ (hl.later hB) hn)
  have c3 := h1.cell 3
  have HB := Lib.hid hB
  have H1 := Lib.hid h1
  have H2 := Lib.hid h2
  clear hl hB h1 h2
  go_enter Tryz.func140, Tryz.ntmps140
  go_wp2_with fail
  refine HC.out.mono ?_
  rintro e w1 ⟨A', c', rfl, ho, hb⟩
  have hs : w.heap.size + 1 < ((w.alloc (.cells #[.int .i64 u, .int .i64 f, .int .i64 d, .slice A n c] 49)).alloc (.cells #[.int .i64 0, .int .i64 0, .int .i64 0, .slice none 0 0] 49)).heap.size := by simp
  have h1 := H1.out.below hb (by omega)
  have h2 := H2.out.below hb hs
  obtain ⟨⟨d0, d1, d2, d3⟩, g0, g1, g2, g3⟩ := h1.four
  obtain ⟨⟨e0, e1, e2, e3⟩, f0, f1, f2, f3⟩ := h2.four
  have HO : Hid (OwnB w1 (w.heap.size + 2) 5 A' n c' l) := Lib.hid (ho.base_le (by simp))
  have HB1 := Lib.hid (HB.out.trans (hb.mono (by simp; omega)))
  have H1' := Lib.hid h1
  have H2' := Lib.hid h2
  clear c3 HC H1 H2 HB ho hb h1 h2 hs
  go_wp2_with fail
  refine bodyPost_ret (results_cell (a := ⟨w.heap.size + 1, 0, none⟩) rfl rfl (Bk.msg (Bk.put4 (H2'.out.far (show w.heap.size + 1 ≠ w.heap.size by omega) _) _ _ _ _))) rfl ⟨A', c', rfl, ?_, ?_⟩
  · exact (((HO.out.farG (grownBy_cell _ _ _ _) (by omega)).farG (grown_put4 _ _ _ _ _ _) (by omega)).base_le (by omega))
  · exact below_put4 (HB1.out.setCell (Nat.le_refl _) _) (by omega) _ _ _ _
set_option maxRecDepth 20000 in
set_option maxHeartbeats 2000000 in
theorem x11copyMsg_any (u f d : Int) (A : Option Addr) (n c : Nat) (l : List Nat) (w : World) (hl : Bytes w w.heap.size A n l) (hn : n ≤ 100000000) :
    Calls Tryz.prog 86 #[.agg #[.int .i64 u, .int .i64 f, .int .i64 d, .slice A n c]] w (GiveM w u f d n l) := by
  have hB : Below w.heap.size w ((w.alloc (.cells #[.int .i64 u, .int .i64 f, .int .i64 d, .slice A n c] 49)).alloc (.cells #[.int .i64 0, .int .i64 0, .int .i64 0, .slice none 0 0] 49)) := ((Below.refl _ _).alloc (Nat.le_refl _) _).alloc (by simp) _
  have h1 : Bk ((w.alloc (.cells #[.int .i64 u, .int .i64 f, .int .i64 d, .slice A n c] 49)).alloc (.cells #[.int .i64 0, .int .i64 0, .int .i64 0, .slice none 0 0] 49)) w.heap.size 49 #[.int .i64 u, .int .i64 f, .int .i64 d, .slice A n c] := (Bk.new _ _ _).alloc _
  have h2 : Bk ((w.alloc (.cells #[.int .i64 u, .int .i64 f, .int .i64 d, .slice A n c] 49)).alloc (.cells #[.int .i64 0, .int .i64 0, .int .i64 0, .slice none 0 0] 49)) (w.heap.size + 1) 49 #[.int .i64 0, .int .i64 0, .int .i64 0, .slice none 0 0] := Bk.new2 _ _ _ _
  have c3 := h1.cell 3
  have hsz : ((w.alloc (.cells #[.int .i64 u, .int .i64 f, .int .i64 d, .slice A n c] 49)).alloc (.cells #[.int .i64 0, .int .i64 0, .int .i64 0, .slice none 0 0] 49)).heap.size = w.heap.size + 2 := by simp
  have HB := Lib.hid hB
  have H1 := Lib.hid h1
  have H2 := Lib.hid h2
  have HL := Lib.hid (hl.later hB)
  have HZ := Lib.hid hsz
  clear hl hB h1 h2 hsz
  go_enter Tryz.func86, Tryz.ntmps86
  go_wp2_with ((with_reducible show wpList _ _ _ (⟨some 6, _, _, _, _, _⟩ :: _) _ _); refine hold ?_)
  generalize (w.alloc (.cells #[.int .i64 u, .int .i64 f, .int .i64 d, .slice A n c] 49)).alloc (.cells #[.int .i64 0, .int .i64 0, .int .i64 0, .slice none 0 0] 49) = W at *
  have hoe : OwnB (W.alloc (.cells #[] 5)) (w.heap.size + 2) 5 (some ⟨w.heap.size + 2, 0, none⟩) 0 0 [] := by
    have := OwnB.empty W 5
    rwa [HZ.out] at this
  refine held (wpList_append_bytes rfl (.tmp 3) (.tmp 5) 31 rfl Tryz.underlying31 info_by (w.heap.size + 2) (some ⟨w.heap.size + 2, 0, none⟩) 0 0 [] rfl hoe W.heap.size A n c l rfl
    (HL.out.below ((Below.refl _ _).alloc (Nat.le_refl _) _) (Nat.le_refl _)) (by omega) (by simp; rw [HZ.out]; omega) ?_)
  intro A' c' w1 ho hb hg
  rw [Nat.zero_add, List.nil_append] at ho
  rw [Nat.zero_add]
  have hb' : Below (w.heap.size + 2) W w1 := ((Below.refl _ _).alloc (by rw [HZ.out]; exact Nat.le_refl _) _).trans hb
  have h1 := H1.out.below hb' (by omega)
  have h2 := H2.out.below hb' (by omega)
  obtain ⟨⟨d0, d1, d2, d3⟩, g0, g1, g2, g3⟩ := h1.four
  obtain ⟨⟨e0, e1, e2, e3⟩, f0, f1, f2, f3⟩ := h2.four
  have HO := Lib.hid ho
  have HB1 := Lib.hid (HB.out.trans (hb'.mono (by omega)))
  have H1' := Lib.hid h1
  have H2' := Lib.hid h2
  clear c3 H1 H2 HB ho hb hb' h1 h2 hg hoe HL HZ
  go_wp2_with fail
  refine bodyPost_ret (results_cell (a := ⟨w.heap.size + 1, 0, none⟩) rfl rfl (Bk.msg (Bk.put4 (H2'.out.far (show w.heap.size + 1 ≠ w.heap.size by omega) _) _ _ _ _))) rfl ⟨A', c', rfl, ?_, ?_⟩
  · exact (((HO.out.farG (grownBy_cell _ _ _ _) (by omega)).farG (grown_put4 _ _ _ _ _ _) (by omega)).base_le (by omega))
  · exact below_put4 (HB1.out.setCell (Nat.le_refl _) _) (by omega) _ _ _ _
theorem okMg_1 {u f d : Int} {l : List Nat} (h : okUID u = false) : okMg ⟨u, f, d, l⟩ = false := okMg_no (fun q => by
  have e : okUID u = true := decide_eq_true ⟨q.1, q.2.1⟩
  rw [h] at e; cases e)
theorem okMg_2 {u f d : Int} {l : List Nat} (h : okF f = false) : okMg ⟨u, f, d, l⟩ = false := okMg_no (fun q => by
  have e := q.2.2.1
  simp only at e
  rw [h] at e; cases e)
theorem okMg_3 {u f d : Int} {l : List Nat} (h : ¬ 0 ≤ d) : okMg ⟨u, f, d, l⟩ = false := okMg_no (fun q => h q.2.2.2.1)
theorem okMg_4 {u f d : Int} {l : List Nat} (h : ¬ d ≤ 1099511627776) : okMg ⟨u, f, d, l⟩ = false := okMg_no (fun q => h q.2.2.2.2.1)
theorem okMg_5 {u f d : Int} {l : List Nat} {n : Nat} (hn : l.length = n) (h : ¬ n ≤ 2000) : okMg ⟨u, f, d, l⟩ = false := okMg_no (fun q => h (by have := q.2.2.2.2.2; simp only at this; omega))
theorem okMg_6 {u f d : Int} {l : List Nat} {n : Nat} (h1 : okUID u = true) (h2 : okF f = true) (h3 : 0 ≤ d) (h4 : d ≤ 1099511627776) (hn : l.length = n) (h : n ≤ 2000) : okMg ⟨u, f, d, l⟩ = true := by
  have e : 1 ≤ u ∧ u ≤ 4294967295 := of_decide_eq_true h1
  exact okMg_yes ⟨e.1, e.2, h2, h3, h4, by simp only; omega⟩
set_option maxRecDepth 20000 in
set_option maxHeartbeats 2000000 in
theorem mayBe_any (u f d : Int) (A : Option Addr) (n c : Nat) (l : List Nat) (w : World) (hl : l.length = n) (hn : n ≤ 140737488355328) :
    Calls Tryz.prog 194 #[.agg #[.int .i64 u, .int .i64 f, .int .i64 d, .slice A n c]] w fun e w' => e = .returned (.bool (okMg ⟨u, f, d, l⟩)) ∧ w' = w.alloc (.cells #[.int .i64 u, .int .i64 f, .int .i64 d, .slice A n c] 49) := by
  have h1 : Bk (w.alloc (.cells #[.int .i64 u, .int .i64 f, .int .i64 d, .slice A n c] 49)) w.heap.size 49 #[.int .i64 u, .int .i64 f, .int .i64 d, .slice A n c] := Bk.new _ _ _
  obtain ⟨⟨c0, c1, c2, c3⟩, -, -, -, -⟩ := h1.four
  clear h1
  have HL := Lib.hid hl
  clear hl
  cases hu : okUID u
  · have HR : Hid (okMg ⟨u, f, d, l⟩ = false) := Lib.hid (okMg_1 hu)
    have HU := Lib.hid hu
    clear hu
    go_enter Tryz.func194, Tryz.ntmps194
    go_wp2_with fail
    refine (isUID_any u _).mono ?_
    rintro e w' ⟨rfl, rfl⟩
    rw [HU.out]
    go_wp2_with fail
    go_ret
    exact ⟨by rw [HR.out] <;> rfl, rfl⟩
  cases hf : okF f
  · have HR : Hid (okMg ⟨u, f, d, l⟩ = false) := Lib.hid (okMg_2 hf)
    have HU := Lib.hid hu
    have HF := Lib.hid hf
    clear hu hf
    go_enter Tryz.func194, Tryz.ntmps194
    go_wp2_with fail
    refine (isUID_any u _).mono ?_
    rintro e w' ⟨rfl, rfl⟩
    rw [HU.out]
    go_wp2_with fail
    refine (fright_any f _).mono ?_
    rintro e w' ⟨rfl, rfl⟩
    rw [HF.out]
    go_wp2_with fail
    go_ret
    exact ⟨by rw [HR.out] <;> rfl, rfl⟩
  have HU := Lib.hid hu
  have HF := Lib.hid hf
  by_cases h3 : 0 ≤ d
  · by_cases h4 : d ≤ 1099511627776
    · by_cases h5 : n ≤ 2000
      · have HR : Hid (okMg ⟨u, f, d, l⟩ = true) := Lib.hid (okMg_6 hu hf h3 h4 HL.out h5)
        have h5' : (n : Int) ≤ 2000 := by omega
        clear hu hf
        go_enter Tryz.func194, Tryz.ntmps194
        go_wp2_with fail
        refine (isUID_any u _).mono ?_
        rintro e w' ⟨rfl, rfl⟩
        rw [HU.out]
        go_wp2_with fail
        refine (fright_any f _).mono ?_
        rintro e w' ⟨rfl, rfl⟩
        rw [HF.out]
        go_wp2_with fail
        go_ret
        exact ⟨by rw [HR.out] <;> rfl, rfl⟩
      · have HR : Hid (okMg ⟨u, f, d, l⟩ = false) := Lib.hid (okMg_5 HL.out h5)
        have h5' : decide ((n : Int) ≤ 2000) = false := decide_eq_false (by omega)
        clear hu hf
        go_enter Tryz.func194, Tryz.ntmps194
        go_wp2_with fail
        refine (isUID_any u _).mono ?_
        rintro e w' ⟨rfl, rfl⟩
        rw [HU.out]
        go_wp2_with fail
        refine (fright_any f _).mono ?_
        rintro e w' ⟨rfl, rfl⟩
        rw [HF.out]
        go_wp2_with fail
        go_ret
        exact ⟨by rw [HR.out] <;> rfl, rfl⟩
    · have HR : Hid (okMg ⟨u, f, d, l⟩ = false) := Lib.hid (okMg_4 h4)
      clear hu hf
      go_enter Tryz.func194, Tryz.ntmps194
      go_wp2_with fail
      refine (isUID_any u _).mono ?_
      rintro e w' ⟨rfl, rfl⟩
      rw [HU.out]
      go_wp2_with fail
      refine (fright_any f _).mono ?_
      rintro e w' ⟨rfl, rfl⟩
      rw [HF.out]
      go_wp2_with fail
      go_ret
      exact ⟨by rw [HR.out] <;> rfl, rfl⟩
  · have HR : Hid (okMg ⟨u, f, d, l⟩ = false) := Lib.hid (okMg_3 h3)
    clear hu hf
    go_enter Tryz.func194, Tryz.ntmps194
    go_wp2_with fail
    refine (isUID_any u _).mono ?_
    rintro e w' ⟨rfl, rfl⟩
    rw [HU.out]
    go_wp2_with fail
    refine (fright_any f _).mono ?_
    rintro e w' ⟨rfl, rfl⟩
    rw [HF.out]
    go_wp2_with fail
    go_ret
    exact ⟨by rw [HR.out] <;> rfl, rfl⟩
end Go.Proofs.YtbogjfbfgbhdbaaGreatDoor
namespace Go.Proofs.YtbogjfbfgbhdbaaGreatDoor
set_option linter.unusedVariables false
set_option linter.unusedSimpArgs false
open Go.RowKit
set_option linter.unusedVariables false
set_option linter.unusedSimpArgs false
theorem row4 {w : World} {b o : Nat} {x : Hd} (h : w.rangeAt b o (hdC x)) : w.cell? ⟨b, o, none⟩ = some (.int .i64 x.m.uid) ∧ w.cell? ⟨b, o + 1, none⟩ = some (.int .i64 x.m.flags) ∧ w.cell? ⟨b, o + 2, none⟩ = some (.int .i64 x.m.date) ∧ w.cell? ⟨b, o + 3, none⟩ = some (.slice x.A x.n x.c) :=
  ⟨h 0 _ rfl, h 1 _ rfl, h 2 _ rfl, h 3 _ rfl⟩
theorem missed2 {l : List Mg} {u : Int} {k : Nat} {a : Mg} (h : ∀ m ∈ l.take k, m.uid ≠ u) (ht : l.take (k + 1) = l.take k ++ [a]) (he : (a.uid == u) = false) : ∀ m ∈ l.take (k + 1), m.uid ≠ u := missed h ht (fun e => by rw [e] at he; simp at he)
theorem all_missed {l : List Mg} {u : Int} {k n : Nat} (h : ∀ m ∈ l.take k, m.uid ≠ u) (hl : l.length = n) (hk : ¬ k < n) : placeN l u = 0 := placeN_none (by rwa [List.take_of_length_le (by omega)] at h)
theorem place1_any (bu : Nat) (uid u f d : Int) (A : Option Addr) (n c : Nat) (w : World) (hu : w.cell? ⟨bu, 0, none⟩ = some (.int .i64 uid)) :
    Calls Tryz.prog 248 #[.agg #[.int .i64 u, .int .i64 f, .int .i64 d, .slice A n c], .pointer (some ⟨bu, 0, none⟩)] w fun e w' => e = .returned (.bool (u == uid)) ∧ w' = w.alloc (.cells #[.int .i64 u, .int .i64 f, .int .i64 d, .slice A n c] 49) := by
  have h1 : Bk (w.alloc (.cells #[.int .i64 u, .int .i64 f, .int .i64 d, .slice A n c] 49)) w.heap.size 49 #[.int .i64 u, .int .i64 f, .int .i64 d, .slice A n c] := Bk.new _ _ _
  have hB : Below w.heap.size w (w.alloc (.cells #[.int .i64 u, .int .i64 f, .int .i64 d, .slice A n c] 49)) := (Below.refl _ _).alloc (Nat.le_refl _) _
  have c0 := h1.cell 0
  have cu := (hB.cell (p := ⟨bu, 0, none⟩) (World.block_lt_of_cell? _ _ hu)).trans hu
  clear h1 hB hu
  go_enter Tryz.func248, Tryz.ntmps248
  go_wp2_with fail
  go_ret
  exact ⟨rfl, rfl⟩
def IsPlace (l : List Mg) (uid : Int) (w : World) (e : Ending) (w' : World) : Prop := ∃ z : Int, e = .returned (.int .i64 z) ∧ z + 1 = (placeN l uid : Int) ∧ -1 ≤ z ∧ z ≤ 1000000 ∧ Below w.heap.size w w'
set_option maxRecDepth 20000 in
set_option maxHeartbeats 2000000 in
theorem indexM_any (A : Option Addr) (n c bu : Nat) (uid : Int) (l : List Mg) (w : World) (hl : MsgsIn w w.heap.size A n l) (hn : n ≤ 1000000) (hu : w.cell? ⟨bu, 0, none⟩ = some (.int .i64 uid)) :
    Calls Tryz.prog 247 #[.slice A n c, .func (.func 248) #[] #[.pointer (some ⟨bu, 0, none⟩)]] w (IsPlace l uid w) := by
  have HL := Lib.hid hl
  have HU := Lib.hid hu
  have HLU := Lib.hid (World.block_lt_of_cell? _ _ hu)
  clear hl hu
  go_enter Tryz.func247, Tryz.ntmps247
  go_wp2_with fail
  go_loopw [8] (fun i wx => ∃ k : Nat, k ≤ n ∧ i = .int .i64 (k : Int) ∧ (∀ m ∈ l.take k, m.uid ≠ uid) ∧ Below w.heap.size w wx) (fun i _ => n - (intOf i).toNat)
  case atStart => exact ⟨0, Nat.zero_le _, rfl, fun m hm => (by cases hm), Below.refl _ _⟩
  case round =>
    obtain ⟨k, hk, rfl, ha, hb⟩ := hrel
    have HB := Lib.hid hb
    have HA := Lib.hid ha
    clear ha hb
    by_cases hlt : k < n
    · obtain ⟨b, o, x, rfl, hbb, hla, htk, hrow, hin⟩ := (HL.out.below HB.out (Nat.le_refl _)).at_ hlt
      have HLA := Lib.hid hla
      have HTK := Lib.hid htk
      have HROW := Lib.hid hrow
      have hk0 : (0 : Int) ≤ (k : Int) := by omega
      have hkn : (k : Int) < (n : Int) := by omega
      obtain ⟨⟨u, f, d, bl⟩, xA, xn, xc⟩ := x
      have CI := Lib.hid (place1_any bu uid u f d xA xn xc wr ((HB.out.cell (p := ⟨bu, 0, none⟩) HLU.out).trans HU.out))
      clear hla htk hrow hin
      go_wp2_with ((with_reducible show wpList _ _ _ (⟨some 15, _, _, _, _, _⟩ :: _) _ _); refine hold ?_)
      refine held (wpList_load_mid rfl 49 (.tmp 14) rfl b (o + k * 4) rfl _ _ HROW.out Tryz.underlying49 rfl (by kernel_rfl) ?_)
      unfold hdC
      go_wp2_with fail
      refine CI.out.mono ?_
      rintro e w' ⟨rfl, rfl⟩
      have HB2 := Lib.hid (HB.out.alloc HB.out.size (.cells #[.int .i64 u, .int .i64 f, .int .i64 d, .slice xA xn xc] 49))
      cases hok : (u == uid)
      · have HS := Lib.hid (missed2 HA.out HTK.out hok)
        clear hok
        go_wp2_with fail
        go_roundw
        case rel => exact ⟨k + 1, by omega, by go_num, HS.out, HB2.out⟩
        case measure => simp [intOf]; omega
      · have HS := Lib.hid (placeN_hit HA.out HLA.out (beq_iff_eq.1 hok))
        clear hok
        go_wp2_with fail
        go_ret
        exact ⟨(k : Int), rfl, by rw [HS.out]; omega, by omega, by omega, HB2.out⟩
    · have hkn : ¬ (k : Int) < (n : Int) := by omega
      have HS := Lib.hid (all_missed HA.out HL.out.len hlt)
      go_wp2_with fail
      go_ret
      exact ⟨-1, rfl, by rw [HS.out]; rfl, by omega, by omega, HB.out⟩
def SaysN (k : Nat) (w : World) (e : Ending) (w' : World) : Prop := e = .returned (.int .i64 (k : Int)) ∧ Below w.heap.size w w'
set_option maxRecDepth 20000 in
set_option maxHeartbeats 2000000 in
theorem place_any (nm : ByteArray) (v nx uid : Int) (A : Option Addr) (n c : Nat) (l : List Mg) (w : World) (hl : MsgsIn w w.heap.size A n l) (hn : n ≤ 1000000) :
    Calls Tryz.prog 223 #[.agg #[.string nm, .int .i64 v, .int .i64 nx, .slice A n c], .int .i64 uid] w (SaysN (placeN l uid) w) := by
  have h1 : Bk ((w.alloc (.cells #[.string nm, .int .i64 v, .int .i64 nx, .slice A n c] 44)).alloc (.cells #[.int .i64 uid] 3)) w.heap.size 44 #[.string nm, .int .i64 v, .int .i64 nx, .slice A n c] := (Bk.new _ _ _).alloc _
  have h2 : Bk ((w.alloc (.cells #[.string nm, .int .i64 v, .int .i64 nx, .slice A n c] 44)).alloc (.cells #[.int .i64 uid] 3)) (w.heap.size + 1) 3 #[.int .i64 uid] := Bk.new2 _ _ _ _
  have hB : Below w.heap.size w ((w.alloc (.cells #[.string nm, .int .i64 v, .int .i64 nx, .slice A n c] 44)).alloc (.cells #[.int .i64 uid] 3)) := ((Below.refl _ _).alloc (Nat.le_refl _) _).alloc (by simp) _
  have HC := Lib.hid (indexM_any A n c (w.heap.size + 1) uid l _ (hl.later hB) hn (h2.cell 0))
  have c3 := h1.cell 3
  have HB := Lib.hid hB
  clear h1 h2 hB hl
  go_enter Tryz.func223, Tryz.ntmps223
  go_wp2_with fail
  refine HC.out.mono ?_
  rintro e w' ⟨z, rfl, hz, h0, h1, hb⟩
  have HZ := Lib.hid hz
  have HB2 := Lib.hid (HB.out.trans (hb.mono (by simp; omega)))
  clear hz hb HC c3
  go_wp2_with fail
  go_ret
  exact ⟨ret_int HZ.out, HB2.out⟩
end Go.Proofs.YtbogjfbfgbhdbaaGreatDoor
namespace Go.Proofs.YtbogjfbfgbhdbaaGreatDoor
set_option linter.unusedVariables false
set_option linter.unusedSimpArgs false
open Go.RowKit
set_option linter.unusedVariables false
set_option linter.unusedSimpArgs false
theorem not_in {l : List Int} {k n : Nat} {u : Int} (h : ∀ z ∈ l.take k, z ≠ u) (hl : l.length = n) (hk : ¬ k < n) : decide (u ∈ l) = false := decide_eq_false (fun e => by
  rw [List.take_of_length_le (by omega)] at h
  exact h u e rfl)
theorem is_in {l : List Int} {k : Nat} {a u : Int} (hk : l[k]? = some a) (h : (u == a) = true) : decide (u ∈ l) = true := decide_eq_true (by rw [beq_iff_eq.1 h]; exact List.mem_of_getElem? hk)
theorem not_yet {l : List Int} {k : Nat} {a u : Int} (h : ∀ z ∈ l.take k, z ≠ u) (ht : l.take (k + 1) = l.take k ++ [a]) (ha : (u == a) = false) : ∀ z ∈ l.take (k + 1), z ≠ u := by
  intro z hz
  rw [ht] at hz
  rcases List.mem_append.1 hz with hz | hz
  · exact h z hz
  · rw [List.mem_singleton.1 hz]
    intro e
    rw [e] at ha
    simp at ha
def IsIdx (l : List Int) (u : Int) (w : World) (e : Ending) (w' : World) : Prop := ∃ z : Int, e = .returned (.int .i64 z) ∧ decide (0 ≤ z) = decide (u ∈ l) ∧ w = w'
theorem indexI_any (A : Option Addr) (n c : Nat) (l : List Int) (u : Int) (w : World) (hl : Col ints w w.heap.size A n l) (hn : n ≤ 140737488355328) :
    Calls Tryz.prog 231 #[.slice A n c, .int .i64 u] w (IsIdx l u w) := by
  have HL := Lib.hid hl
  clear hl
  go_enter Tryz.func231, Tryz.ntmps231
  go_wp2_with fail
  go_loop [8] (fun i => ∃ k : Nat, k ≤ n ∧ i = .int .i64 (k : Int) ∧ ∀ z ∈ l.take k, z ≠ u) (fun i => n - (intOf i).toNat)
  case atStart => exact ⟨0, Nat.zero_le _, rfl, fun z hz => (by cases hz)⟩
  case round =>
    obtain ⟨k, hk, rfl, ha⟩ := hrel
    have HA := Lib.hid ha
    clear ha
    by_cases hlt : k < n
    · obtain ⟨b, o, a, rfl, hbb, hla, htk, hc⟩ := HL.out.at_ hlt
      have HLA := Lib.hid hla
      have HTK := Lib.hid htk
      have hk0 : (0 : Int) ≤ (k : Int) := by omega
      have hkn : (k : Int) < (n : Int) := by omega
      replace hc : w.cell? ⟨b, o + k, none⟩ = some (.int .i64 a) := hc
      clear hla htk
      cases hok : (u == a)
      · have HS := Lib.hid (not_yet HA.out HTK.out hok)
        go_wp2_with fail
        go_round
        case rel => exact ⟨k + 1, by omega, by go_num, HS.out⟩
        case measure => simp [intOf]; omega
      · have HS := Lib.hid (is_in HLA.out hok)
        go_wp2_with fail
        go_ret
        exact ⟨(k : Int), rfl, by rw [HS.out, decide_eq_true hk0], rfl⟩
    · have hkn : ¬ (k : Int) < (n : Int) := by omega
      have HS := Lib.hid (not_in HA.out HL.out.1 hlt)
      go_wp2_with fail
      go_ret
      exact ⟨-1, rfl, by rw [HS.out]; rfl, rfl⟩
theorem containsI_any (A : Option Addr) (n c : Nat) (l : List Int) (u : Int) (w : World) (hl : Col ints w w.heap.size A n l) (hn : n ≤ 140737488355328) :
    Calls Tryz.prog 180 #[.slice A n c, .int .i64 u] w fun e w' => e = .returned (.bool (decide (u ∈ l))) ∧ w = w' := by
  have hc := indexI_any A n c l u w hl hn
  unfold IsIdx at hc
  have HC := Lib.hid hc
  clear hl hc
  generalize decide (u ∈ l) = q at *
  go_enter Tryz.func180, Tryz.ntmps180
  go_wp2_with fail
  refine HC.out.mono ?_
  rintro e w' ⟨z, rfl, hz, rfl⟩
  have HZ := Lib.hid hz
  clear hz
  by_cases h0 : 0 ≤ z
  · have HR : Hid (q = true) := Lib.hid (by rw [← HZ.out]; exact decide_eq_true h0)
    go_wp2_with fail
    go_ret
    exact ⟨by rw [HR.out] <;> rfl, rfl⟩
  · have HR : Hid (q = false) := Lib.hid (by rw [← HZ.out]; exact decide_eq_false h0)
    go_wp2_with fail
    go_ret
    exact ⟨by rw [HR.out] <;> first | rfl | exact congrArg (fun b => Ending.returned (.bool b)) (decide_eq_false (by omega)), rfl⟩
theorem meant1_any (bi : Nat) (u f d : Int) (xA : Option Addr) (xn xc : Nat) (A : Option Addr) (n c : Nat) (ids : List Int) (w : World) (hi : w.cell? ⟨bi, 0, none⟩ = some (.slice A n c)) (hl : Col ints w w.heap.size A n ids) (hn : n ≤ 140737488355328) :
    Calls Tryz.prog 246 #[.agg #[.int .i64 u, .int .i64 f, .int .i64 d, .slice xA xn xc], .pointer (some ⟨bi, 0, none⟩)] w fun e w' => e = .returned (.bool (decide (u ∈ ids))) ∧ w' = w.alloc (.cells #[.int .i64 u, .int .i64 f, .int .i64 d, .slice xA xn xc] 49) := by
  have h1 : Bk (w.alloc (.cells #[.int .i64 u, .int .i64 f, .int .i64 d, .slice xA xn xc] 49)) w.heap.size 49 #[.int .i64 u, .int .i64 f, .int .i64 d, .slice xA xn xc] := Bk.new _ _ _
  have hB : Below w.heap.size w (w.alloc (.cells #[.int .i64 u, .int .i64 f, .int .i64 d, .slice xA xn xc] 49)) := (Below.refl _ _).alloc (Nat.le_refl _) _
  have c0 := h1.cell 0
  have cu := (hB.cell (p := ⟨bi, 0, none⟩) (World.block_lt_of_cell? _ _ hi)).trans hi
  have HC := Lib.hid (containsI_any A n c ids u _ (hl.later hB) hn)
  clear h1 hB hi hl
  generalize decide (u ∈ ids) = q at *
  go_enter Tryz.func246, Tryz.ntmps246
  go_wp2_with fail
  refine HC.out.mono ?_
  rintro e w' ⟨rfl, rfl⟩
  go_wp2_with fail
  go_ret
  exact ⟨rfl, rfl⟩
def MeantIs (w : World) (ok : Bool) (A : Option Addr) (n c : Nat) (e : Ending) (w' : World) : Prop :=
  ∃ (fv : Value) (z : Int), e = .returned (.tuple #[fv, .int .i64 z]) ∧ Below w.heap.size w w' ∧ ((ok = false ∧ z = 6) ∨ (ok = true ∧ z = 0 ∧ ∃ bi, w.heap.size ≤ bi ∧ fv = .func (.func 246) #[] #[.pointer (some ⟨bi, 0, none⟩)] ∧ Bk w' bi 29 #[.slice A n c]))
theorem there_next {l : List Mg} {ids : List Int} {k : Nat} {u : Int} (h : thereU l (ids.take k) = true) (ht : ids.take (k + 1) = ids.take k ++ [u]) (hu : placeN l u ≠ 0) : thereU l (ids.take (k + 1)) = true := by rw [ht]; exact thereU_snoc h hu
theorem there_all {l : List Mg} {ids : List Int} {k n : Nat} (h : thereU l (ids.take k) = true) (hl : ids.length = n) (hk : ¬ k < n) : thereU l ids = true := by rwa [List.take_of_length_le (by omega)] at h
set_option maxRecDepth 20000 in
set_option maxHeartbeats 2000000 in
theorem meant_any (nm : ByteArray) (v nx : Int) (A : Option Addr) (n c : Nat) (l : List Mg) (B : Option Addr) (m d : Nat) (ids : List Int) (w : World) (hl : MsgsIn w w.heap.size A n l) (hn : n ≤ 1000000) (hi : Col ints w w.heap.size B m ids) (hm : m ≤ 140737488355328) :
    Calls Tryz.prog 222 #[.agg #[.string nm, .int .i64 v, .int .i64 nx, .slice A n c], .slice B m d] w (MeantIs w (thereU l ids) B m d) := by
  have h1 : Bk ((w.alloc (.cells #[.string nm, .int .i64 v, .int .i64 nx, .slice A n c] 44)).alloc (.cells #[.slice B m d] 29)) w.heap.size 44 #[.string nm, .int .i64 v, .int .i64 nx, .slice A n c] := (Bk.new _ _ _).alloc _
  have h2 : Bk ((w.alloc (.cells #[.string nm, .int .i64 v, .int .i64 nx, .slice A n c] 44)).alloc (.cells #[.slice B m d] 29)) (w.heap.size + 1) 29 #[.slice B m d] := Bk.new2 _ _ _ _
  have hB : Below w.heap.size w ((w.alloc (.cells #[.string nm, .int .i64 v, .int .i64 nx, .slice A n c] 44)).alloc (.cells #[.slice B m d] 29)) := ((Below.refl _ _).alloc (Nat.le_refl _) _).alloc (by simp) _
  have HL := Lib.hid hl
  have HI := Lib.hid hi
  have HB := Lib.hid hB
  have H1 := Lib.hid h1
  have H2 := Lib.hid h2
  have HZ : Hid (((w.alloc (.cells #[.string nm, .int .i64 v, .int .i64 nx, .slice A n c] 44)).alloc (.cells #[.slice B m d] 29)).heap.size = w.heap.size + 2) := Lib.hid (by simp)
  have c0 := h2.cell 0
  clear h1 h2 hB hl hi
  go_enter Tryz.func222, Tryz.ntmps222
  go_wp2_with fail
  generalize (w.alloc (.cells #[.string nm, .int .i64 v, .int .i64 nx, .slice A n c] 44)).alloc (.cells #[.slice B m d] 29) = w1 at *
  go_loopw [10] (fun i wx => ∃ k : Nat, k ≤ m ∧ i = .int .i64 (k : Int) ∧ thereU l (ids.take k) = true ∧ Below (w.heap.size + 2) w1 wx) (fun i _ => m - (intOf i).toNat)
  case atStart => exact ⟨0, Nat.zero_le _, rfl, rfl, Below.refl _ _⟩
  case round =>
    obtain ⟨k, hk, rfl, ha, hb⟩ := hrel
    have HA := Lib.hid ha
    have HBR := Lib.hid hb
    have HB2 := Lib.hid (HB.out.trans (hb.mono (by omega)))
    obtain ⟨⟨e0, e1, e2, e3⟩, -, -, -, -⟩ := (H1.out.below hb (by omega)).four
    clear ha hb c0
    by_cases hlt : k < m
    · obtain ⟨b, o, u, rfl, hbb, hla, htk, hc⟩ := (HI.out.below HB2.out (Nat.le_refl _)).at_ hlt
      have HLA := Lib.hid hla
      have HTK := Lib.hid htk
      have hk0 : (0 : Int) ≤ (k : Int) := by omega
      have hkn : (k : Int) < (m : Int) := by omega
      replace hc : wr.cell? ⟨b, o + k, none⟩ = some (.int .i64 u) := hc
      have HP := Lib.hid (place_any nm v nx u A n c l wr (HL.out.later HB2.out) hn)
      clear hla htk
      go_wp2_with fail
      refine HP.out.mono ?_
      rintro e w2 ⟨rfl, hb2⟩
      have HBR2 := Lib.hid (HBR.out.trans (hb2.mono (by have := HBR.out.size; rw [HZ.out] at this; exact this)))
      have HB3 := Lib.hid (HB2.out.trans (hb2.mono HB2.out.size))
      clear hb2 e0 e1 e2 e3 hc HP
      by_cases hp : placeN l u = 0
      · have HR := Lib.hid (thereU_no (List.mem_of_getElem? HLA.out) hp)
        rw [hp]
        clear hp
        go_wp2_with fail
        go_ret2
        exact ⟨_, _, rfl, HB3.out, .inl ⟨HR.out, rfl⟩⟩
      · have HR := Lib.hid (there_next HA.out HTK.out hp)
        have hpb : ((placeN l u : Int) == 0) = false := by simp; omega
        clear hp
        go_wp2_with fail
        go_roundw
        case rel => exact ⟨k + 1, by omega, by go_num, HR.out, HBR2.out⟩
        case measure => simp [intOf]; omega
    · have hkn : ¬ (k : Int) < (m : Int) := by omega
      have HR := Lib.hid (there_all HA.out HI.out.1 hlt)
      have HK := Lib.hid (H2.out.below HBR.out (by omega))
      go_wp2_with fail
      go_ret2
      exact ⟨_, _, rfl, HB2.out, .inr ⟨HR.out, rfl, _, by omega, rfl, HK.out⟩⟩
end Go.Proofs.YtbogjfbfgbhdbaaGreatDoor
namespace Go.Proofs.YtbogjfbfgbhdbaaGreatDoor
set_option linter.unusedVariables false
set_option linter.unusedSimpArgs false
open Go.RowKit
set_option linter.unusedVariables false
set_option linter.unusedSimpArgs false
theorem msgs_one (hs : List Hd) : ∀ u ∈ hs, ∀ v ∈ hdC u, v.oneCell' = true := fun u _ => hdC_one u
def GiveK (w0 : World) (n : Nat) (hs : List Hd) (e : Ending) (w' : World) : Prop :=
  ∃ A' c', e = .returned (.slice A' n c') ∧ OwnK 4 hdC w' w0.heap.size 49 A' n c' hs ∧ Below w0.heap.size w0 w'
theorem cloneM_any (A : Option Addr) (n c : Nat) (hs : List Hd) (w : World) (hl : ColK 4 hdC w w.heap.size A n hs) (hn : n ≤ 1000000) :
    Calls Tryz.prog 139 #[.slice A n c] w (GiveK w n hs) := by
  cases A with
  | none =>
    have h0 : n = 0 := by
      rcases Nat.eq_zero_or_pos n with h | h
      · exact h
      · obtain ⟨b, o, h', _⟩ := hl.2 h; cases h'
    subst h0
    have hl' : hs = [] := List.eq_nil_of_length_eq_zero hl.1
    subst hl'
    have heq := fun W => Lib.run_eql_slice_nil (P := Tryz.prog) W 42 49 none 0 c 0 0 Tryz.underlying42
    go_enter Tryz.func139, Tryz.ntmps139
    go_wp2
    go_ret
    exact ⟨_, _, rfl, OwnK.nil hdC_len, Below.refl _ _⟩
  | some a =>
    have heq := fun W => Lib.run_eql_slice_nil (P := Tryz.prog) W 42 49 (some a) n c 0 0 Tryz.underlying42
    obtain ⟨A3, c3, w3, hrun, ho3, hb3, hg3⟩ := run_append_ks (P := Tryz.prog) (f := hdC) (OwnK.empty hdC_len w 49) 42 42 Tryz.underlying42 info_msg rfl (by omega) (by omega) (A' := some a) (m := n) (c' := c) (hl.below ((Below.refl _ _).alloc (Nat.le_refl _) (.cells #[] 49)) (Nat.le_refl _)) (msgs_one hs) (by omega) (by simp)
    rw [Nat.zero_add, List.nil_append] at ho3
    rw [Nat.zero_add] at hrun
    have hb3' : Below w.heap.size w w3 := ((Below.refl _ _).alloc (Nat.le_refl _) _).trans hb3
    have HRUN := Lib.hid hrun
    clear hrun hl hg3 hb3
    go_enter Tryz.func139, Tryz.ntmps139
    go_wp2_with ((with_reducible show wpList _ _ _ (⟨some 7, _, _, _, _, _⟩ :: _) _ _); refine hold ?_)
    refine held (wpList_plain rfl fun K hK => wp_append_ks (s := .tmp 5) (x := .tmp 6) rfl rfl rfl HRUN.out (hK _ _ ?_))
    go_wp2
    go_ret
    exact ⟨_, _, rfl, ho3, hb3'⟩
def GiveX (w0 : World) (nm : ByteArray) (v nx : Int) (n : Nat) (l : List Mg) (e : Ending) (w' : World) : Prop :=
  ∃ A' c', e = .returned (.agg #[.string nm, .int .i64 v, .int .i64 nx, .slice A' n c']) ∧ OwnM w' w0.heap.size A' n c' l ∧ Below w0.heap.size w0 w'
theorem len_le_of {l : List Mg} {k : Nat} {a : Mg} (h : ∀ m ∈ l, m.body.length ≤ 1000000) (ha : l[k]? = some a) : a.body.length ≤ 1000000 := h a (List.mem_of_getElem? ha)
set_option maxRecDepth 20000 in
set_option maxHeartbeats 4000000 in
theorem x11copy_any (nm : ByteArray) (v nx : Int) (A : Option Addr) (n c : Nat) (l : List Mg) (w : World) (hl : MsgsIn w w.heap.size A n l) (hn : n ≤ 1000000) (hsm : ∀ m ∈ l, m.body.length ≤ 1000000) :
    Calls Tryz.prog 35 #[.agg #[.string nm, .int .i64 v, .int .i64 nx, .slice A n c]] w (GiveX w nm v nx n l) := by
  have h1 : Bk ((w.alloc (.cells #[.string nm, .int .i64 v, .int .i64 nx, .slice A n c] 44)).alloc (.cells #[.string ⟨#[]⟩, .int .i64 0, .int .i64 0, .slice none 0 0] 44)) w.heap.size 44 #[.string nm, .int .i64 v, .int .i64 nx, .slice A n c] := (Bk.new _ _ _).alloc _
  have h2 : Bk ((w.alloc (.cells #[.string nm, .int .i64 v, .int .i64 nx, .slice A n c] 44)).alloc (.cells #[.string ⟨#[]⟩, .int .i64 0, .int .i64 0, .slice none 0 0] 44)) (w.heap.size + 1) 44 #[.string ⟨#[]⟩, .int .i64 0, .int .i64 0, .slice none 0 0] := Bk.new2 _ _ _ _
  have hB : Below w.heap.size w ((w.alloc (.cells #[.string nm, .int .i64 v, .int .i64 nx, .slice A n c] 44)).alloc (.cells #[.string ⟨#[]⟩, .int .i64 0, .int .i64 0, .slice none 0 0] 44)) := ((Below.refl _ _).alloc (Nat.le_refl _) _).alloc (by simp) _
  have HL := Lib.hid hl
  have HB := Lib.hid hB
  have H1 := Lib.hid h1
  have H2 := Lib.hid h2
  have HSM := Lib.hid hsm
  have HZ : Hid (((w.alloc (.cells #[.string nm, .int .i64 v, .int .i64 nx, .slice A n c] 44)).alloc (.cells #[.string ⟨#[]⟩, .int .i64 0, .int .i64 0, .slice none 0 0] 44)).heap.size = w.heap.size + 2) := Lib.hid (by simp)
  clear h1 h2 hB hl hsm
  go_enter Tryz.func35, Tryz.ntmps35
  go_wp2_with fail
  generalize (w.alloc (.cells #[.string nm, .int .i64 v, .int .i64 nx, .slice A n c] 44)).alloc (.cells #[.string ⟨#[]⟩, .int .i64 0, .int .i64 0, .slice none 0 0] 44) = w1 at *
  go_loopw [3, 4] (fun t i wx => ∃ (k c2 : Nat) (A2 : Option Addr), k ≤ n ∧ i = .int .i64 (k : Int) ∧ t = .slice A2 k c2 ∧ OwnM wx (w.heap.size + 2) A2 k c2 (l.take k) ∧ Below (w.heap.size + 2) w1 wx) (fun _ i _ => n - (intOf i).toNat)
  case atStart => exact ⟨0, 0, none, Nat.zero_le _, rfl, rfl, OwnM.nil, Below.refl _ _⟩
  case round =>
    obtain ⟨k, c2, A2, hk, rfl, rfl, ho, hb⟩ := hrel
    have HO := Lib.hid ho
    have HBR := Lib.hid hb
    have HB2 := Lib.hid (HB.out.trans (hb.mono (by omega)))
    have HS1 := Lib.hid (show w.heap.size + 2 ≤ wr.heap.size by have := hb.size; rw [HZ.out] at this; exact this)
    have he1 := H1.out.below hb (by omega)
    have HE1 := Lib.hid he1
    have HE2 := Lib.hid (H2.out.below hb (by omega))
    have e3 := he1.cell 3
    clear ho hb he1
    by_cases hlt : k < n
    · obtain ⟨b, o, x, rfl, hbb, hla, htk, hrow, hin⟩ := (HL.out.below HB2.out (Nat.le_refl _)).at_ hlt
      have hbl := len_le_of HSM.out hla
      have HTK := Lib.hid htk
      have HROW := Lib.hid hrow
      have hk0 : (0 : Int) ≤ (k : Int) := by omega
      have hkn : (k : Int) < (n : Int) := by omega
      obtain ⟨⟨u, f, d, bl⟩, xA, xn, xc⟩ := x
      have hxn : xn ≤ 1000000 := by have := hin.1.1; simp only at this hbl; omega
      have CM := Lib.hid (x11copyMsg_any u f d xA xn xc bl wr (hin.1.more HB2.out.size) (by omega))
      clear hla htk hrow hin
      go_wp2_with ((with_reducible show wpList _ _ _ (⟨some 17, _, _, _, _, _⟩ :: _) _ _); refine hold ?_)
      refine held (wpList_load_mid rfl 49 (.tmp 16) rfl b (o + k * 4) rfl _ _ HROW.out Tryz.underlying49 rfl (by kernel_rfl) ?_)
      unfold hdC
      go_wp2_with fail
      refine CM.out.mono ?_
      rintro e w2 ⟨yA, yc, rfl, hy, hb2⟩
      have hws := hb2.size
      have HS2 := Lib.hid (show w.heap.size + 2 ≤ w2.heap.size by have := HS1.out; omega)
      have HY := Lib.hid ((hy.base_le HS1.out).below ((Below.refl w2.heap.size w2).alloc (Nat.le_refl _) (.cells #[.int .i64 u, .int .i64 f, .int .i64 d, .slice yA xn yc] 49)))
      have HO2 := Lib.hid ((HO.out.below hb2).below ((Below.refl w2.heap.size w2).alloc (Nat.le_refl _) (.cells #[.int .i64 u, .int .i64 f, .int .i64 d, .slice yA xn yc] 49)))
      have HBR2 := Lib.hid ((HBR.out.trans (hb2.mono HS1.out)).alloc HS2.out (.cells #[.int .i64 u, .int .i64 f, .int .i64 d, .slice yA xn yc] 49))
      have HN : Hid ((w2.alloc (.cells #[.int .i64 u, .int .i64 f, .int .i64 d, .slice yA xn yc] 49)).rangeAt w2.heap.size 0 (hdC ⟨⟨u, f, d, bl⟩, yA, xn, yc⟩)) := Lib.hid (Bk.new w2 49 #[.int .i64 u, .int .i64 f, .int .i64 d, .slice yA xn yc]).range
      clear hy hb2 e3 CM hws
      go_wp2_with ((with_reducible show wpList _ _ _ (⟨some 20, _, _, _, _, _⟩ :: _) _ _); refine hold ?_)
      refine held (wpList_append_m rfl (.tmp 12) (.tmp 19) rfl (w.heap.size + 2) A2 k c2 _ rfl HO2.out w2.heap.size 0 ⟨⟨u, f, d, bl⟩, yA, xn, yc⟩ rfl HN.out HY.out (by omega) (by have := HS2.out; simp; omega) ?_)
      intro A4 c4 w4 ho4 hb4 hg4
      have HO4 : Hid (OwnM w4 (w.heap.size + 2) A4 (k + 1) c4 (l.take (k + 1))) := Lib.hid (by rw [HTK.out]; exact ho4)
      have HB4 := Lib.hid (HBR2.out.trans hb4)
      clear ho4 hb4 hg4 HN HY HO2 HBR2
      go_wp2_with fail
      go_roundw
      case rel => exact ⟨k + 1, c4, A4, by omega, by go_num, rfl, HO4.out, HB4.out⟩
      case measure => simp [intOf]; omega
    · have hkn : ¬ (k : Int) < (n : Int) := by omega
      obtain rfl : n = k := by omega
      have HO4 : Hid (OwnM wr (w.heap.size + 2) A2 n c2 l) := Lib.hid (by have := HO.out; rwa [List.take_of_length_le (by rw [HL.out.len]; omega)] at this)
      obtain ⟨⟨d0, d1, d2, d3⟩, g0, g1, g2, g3⟩ := HE1.out.four
      obtain ⟨⟨p0, p1, p2, p3⟩, q0, q1, q2, q3⟩ := HE2.out.four
      clear e3
      go_wp2_with fail
      refine bodyPost_ret (results_cell (a := ⟨w.heap.size + 1, 0, none⟩) rfl rfl (Bk.box_ (Bk.put4 (HE2.out.far (show w.heap.size + 1 ≠ w.heap.size by omega) _) _ _ _ _))) rfl ⟨A2, c2, rfl, ?_, ?_⟩
      · exact ((HO4.out.far (grownBy_cell _ _ _ _) (by omega)).far (grown_put4 _ _ _ _ _ _) (by omega)).from_ (by omega)
      · exact below_put4 (HB2.out.setCell (Nat.le_refl _) _) (by omega) _ _ _ _
end Go.Proofs.YtbogjfbfgbhdbaaGreatDoor
