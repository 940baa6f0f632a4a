/-
  Contracts over package box and the document's own: numbers that may be, bytes cloned and compared, messages that may be, one's own, the same.
-/
import Derived.Test.YthmlgbeonmpbjaaQBoxRows
import Derived.Test.YthmlgbeonmpbjaaQBoxFlag
import Derived.Lib.SliceRun
namespace Go.Proofs.Ythmlgbeonmpbjaa
set_option linter.unusedVariables false
set_option linter.unusedSimpArgs false
open Go.RowKit
set_option linter.unusedVariables false
set_option linter.unusedSimpArgs false

theorem OwnB.farG {w w' : World} {base n c b : Nat} {e : TypeId} {A : Option Addr} {l : List Nat} (h : OwnB w base e A n c l) (hg : w.grownBy w' (some b)) (hb : b < base) : OwnB w' base e A n c l :=
  ⟨ownsB_kept h.1 hg (fun b' cs fr q hb' => by injection q with q; omega), h.2⟩
theorem Bk.put4 {w : World} {b : Nat} {t : TypeId} {u0 u1 u2 u3 : Value} (h : Bk w b t #[u0, u1, u2, u3]) (a0 a1 a2 a3 : Value) :
    Bk ((((w.setCell ⟨b, 0, none⟩ a0).setCell ⟨b, 1, none⟩ a1).setCell ⟨b, 2, none⟩ a2).setCell ⟨b, 3, none⟩ a3) b t #[a0, a1, a2, a3] := by
  simpa using (((h.put 0 a0).put 1 a1).put 2 a2).put 3 a3
theorem below_put4 {B : Nat} {w0 w : World} (h : Below B w0 w) {b : Nat} (hb : B ≤ b) (a0 a1 a2 a3 : Value) :
    Below B w0 ((((w.setCell ⟨b, 0, none⟩ a0).setCell ⟨b, 1, none⟩ a1).setCell ⟨b, 2, none⟩ a2).setCell ⟨b, 3, none⟩ a3) :=
  (((h.setCell hb a0).setCell hb a1).setCell hb a2).setCell hb a3
theorem grown_trans {a b c : World} {row : Option Nat} (h : a.grownBy b row) (k : b.grownBy c row) : a.grownBy c row := grownBy_trans h k
theorem grown_put4 (w : World) (b : Nat) (a0 a1 a2 a3 : Value) : w.grownBy ((((w.setCell ⟨b, 0, none⟩ a0).setCell ⟨b, 1, none⟩ a1).setCell ⟨b, 2, none⟩ a2).setCell ⟨b, 3, none⟩ a3) (some b) :=
  grown_trans (grown_trans (grown_trans (grownBy_cell w b 0 a0) (grownBy_cell _ b 1 a1)) (grownBy_cell _ b 2 a2)) (grownBy_cell _ b 3 a3)
theorem msg_row : ∃ d, Try.prog.underlying 27 = some d ∧ d.isRow = true := ⟨_, Try.underlying27, rfl⟩
theorem size_msg : (Try.prog.info? 27).map (·.size) = some 4 := by kernel_rfl
theorem size_box : (Try.prog.info? 24).map (·.size) = some 4 := by kernel_rfl
theorem Bk.msg {w : World} {b : Nat} {t : TypeId} {u0 u1 u2 u3 : Value} (h : Bk w b t #[u0, u1, u2, u3]) : (loadVar 27 ⟨b, 0, none⟩).run Try.prog w = .ok (.agg #[u0, u1, u2, u3]) w :=
  h.load Try.underlying27 rfl size_msg
theorem Bk.box_ {w : World} {b : Nat} {t : TypeId} {u0 u1 u2 u3 : Value} (h : Bk w b t #[u0, u1, u2, u3]) : (loadVar 24 ⟨b, 0, none⟩).run Try.prog w = .ok (.agg #[u0, u1, u2, u3]) w :=
  h.load Try.underlying24 rfl size_box

theorem isUID_any (n : Int) (w : World) : Calls Try.prog 38 #[.int .i64 n] w fun e w' => e = .returned (.bool (okUID n)) ∧ w = w' := by
  by_cases h1 : 1 ≤ n
  · by_cases h2 : n ≤ 4294967295
    · have HR : Hid (okUID n = true) := Lib.hid (decide_eq_true ⟨h1, h2⟩)
      go_enter Try.func38, Try.ntmps38
      go_wp2
      go_ret
      exact ⟨by rw [HR.out] <;> rfl, rfl⟩
    · have HR : Hid (okUID n = false) := Lib.hid (decide_eq_false (fun h => h2 h.2))
      go_enter Try.func38, Try.ntmps38
      go_wp2
      go_ret
      exact ⟨by rw [HR.out] <;> rfl, rfl⟩
  · have HR : Hid (okUID n = false) := Lib.hid (decide_eq_false (fun h => h1 h.1))
    go_enter Try.func38, Try.ntmps38
    go_wp2
    go_ret
    exact ⟨by rw [HR.out] <;> rfl, rfl⟩

theorem info_by : (Try.prog.info? 5).map (fun i => (i.zero, i.size, i.bytes)) = some (some (.int .u8 0), 1, 1) := by kernel_rfl
/-- bytes of one's own are answered -/
def GiveB (w0 : World) (n : Nat) (l : List Nat) (e : Ending) (w' : World) : Prop :=
  ∃ A' c', e = .returned (.slice A' n c') ∧ OwnB w' w0.heap.size 5 A' n c' l ∧ Below w0.heap.size w0 w'
theorem byClone_any (A : Option Addr) (n c : Nat) (l : List Nat) (w : World) (hl : Bytes w w.heap.size A n l) (hn : n ≤ 100000000) :
    Calls Try.prog 50 #[.slice A n c] w (GiveB w n l) := by
  cases A with
  | none =>
    have h0 : n = 0 := by
      rcases Nat.eq_zero_or_pos n with h | h
      · exact h
      · obtain ⟨b, o, h', _⟩ := hl.2.2 h; cases h'
    subst h0
    have hl' : l = [] := List.eq_nil_of_length_eq_zero hl.1
    subst hl'
    have heq := fun W => Lib.run_eql_slice_nil (P := Try.prog) W 25 5 none 0 c 0 0 Try.underlying25
    go_enter Try.func50, Try.ntmps50
    go_wp2
    go_ret
    exact ⟨_, _, rfl, OwnB.nil, Below.refl _ _⟩
  | some a =>
    have heq := fun W => Lib.run_eql_slice_nil (P := Try.prog) W 25 5 (some a) n c 0 0 Try.underlying25
    go_enter Try.func50, Try.ntmps50
    go_wp2_with ((with_reducible show wpList _ _ _ (⟨some 7, _, _, _, _, _⟩ :: _) _ _); refine hold ?_)
    refine held (wpList_append_bytes rfl (.tmp 5) (.tmp 6) 25 rfl Try.underlying25 info_by w.heap.size (some ⟨w.heap.size, 0, none⟩) 0 0 [] rfl (OwnB.empty w 5) w.heap.size (some a) n c l rfl
      (hl.below ((Below.refl _ _).alloc (Nat.le_refl _) _) (Nat.le_refl _)) (by omega) (by simp) ?_)
    intro A3 c3 w3 ho3 hb3 hg3
    clear hg3
    have hb3' : Below w.heap.size w w3 := ((Below.refl _ _).alloc (Nat.le_refl _) _).trans hb3
    rw [Nat.zero_add, List.nil_append] at ho3
    rw [Nat.zero_add]
    go_wp2
    go_ret
    exact ⟨_, _, rfl, ho3, hb3'⟩
theorem byEqual_any (A : Option Addr) (n c B : Nat) (l : List Nat) (A' : Option Addr) (n' c' B' : Nat) (l' : List Nat) (w : World) (hl : Bytes w B A n l) (hl' : Bytes w B' A' n' l') :
    Calls Try.prog 54 #[.slice A n c, .slice A' n' c'] w fun e w' => e = .returned (.bool (decide (l = l'))) ∧ w = w' := by
  have h1 := run_str_of_bytes (P := Try.prog) (c := c) hl Try.underlying25 Try.underlying5 Try.underlying9
  have h2 := run_str_of_bytes (P := Try.prog) (c := c') hl' Try.underlying25 Try.underlying5 Try.underlying9
  have he := strOf_eqb l l' hl.2.1 hl'.2.1
  generalize decide (l = l') = b at *
  go_enter Try.func54, Try.ntmps54
  go_wp2
  go_ret
  exact ⟨rfl, rfl⟩
theorem x3same11_any (A : Option Addr) (n c B : Nat) (l : List Nat) (A' : Option Addr) (n' c' B' : Nat) (l' : List Nat) (w : World) (hl : Bytes w B A n l) (hl' : Bytes w B' A' n' l') :
    Calls Try.prog 44 #[.slice A n c, .slice A' n' c'] w fun e w' => e = .returned (.bool (decide (l = l'))) ∧ w = w' := by
  have h1 := run_str_of_bytes (P := Try.prog) (c := c) hl Try.underlying25 Try.underlying5 Try.underlying9
  have h2 := run_str_of_bytes (P := Try.prog) (c := c') hl' Try.underlying25 Try.underlying5 Try.underlying9
  have he := strOf_eqb l l' hl.2.1 hl'.2.1
  generalize decide (l = l') = b at *
  go_enter Try.func44, Try.ntmps44
  go_wp2
  go_ret
  exact ⟨rfl, rfl⟩

/-- a message of one's own is answered -/
def GiveM (w0 : World) (u f d : Int) (n : Nat) (l : List Nat) (e : Ending) (w' : World) : Prop :=
  ∃ A' c', e = .returned (.agg #[.int .i64 u, .int .i64 f, .int .i64 d, .slice A' n c']) ∧ OwnB w' w0.heap.size 5 A' n c' l ∧ Below w0.heap.size w0 w'
set_option maxRecDepth 20000 in
set_option maxHeartbeats 2000000 in
theorem ownMsg_any (u f d : Int) (A : Option Addr) (n c : Nat) (l : List Nat) (w : World) (hl : Bytes w w.heap.size A n l) (hn : n ≤ 100000000) :
    Calls Try.prog 36 #[.agg #[.int .i64 u, .int .i64 f, .int .i64 d, .slice A n c]] w (GiveM w u f d n l) := by
  have hB : Below w.heap.size w ((w.alloc (.cells #[.int .i64 u, .int .i64 f, .int .i64 d, .slice A n c] 27)).alloc (.cells #[.int .i64 0, .int .i64 0, .int .i64 0, .slice none 0 0] 27)) := ((Below.refl _ _).alloc (Nat.le_refl _) _).alloc (by simp) _
  have h1 : Bk ((w.alloc (.cells #[.int .i64 u, .int .i64 f, .int .i64 d, .slice A n c] 27)).alloc (.cells #[.int .i64 0, .int .i64 0, .int .i64 0, .slice none 0 0] 27)) w.heap.size 27 #[.int .i64 u, .int .i64 f, .int .i64 d, .slice A n c] := (Bk.new _ _ _).alloc _
  have h2 : Bk ((w.alloc (.cells #[.int .i64 u, .int .i64 f, .int .i64 d, .slice A n c] 27)).alloc (.cells #[.int .i64 0, .int .i64 0, .int .i64 0, .slice none 0 0] 27)) (w.heap.size + 1) 27 #[.int .i64 0, .int .i64 0, .int .i64 0, .slice none 0 0] := Bk.new2 _ _ _ _
  have HC := Lib.hid (byClone_any A n c l _ (hl.later hB) hn)
  have c3 := h1.cell 3
  have HB := Lib.hid hB
  have H1 := Lib.hid h1
  have H2 := Lib.hid h2
  clear hl hB h1 h2
  go_enter Try.func36, Try.ntmps36
  go_wp2_with fail
  refine HC.out.mono ?_
  rintro e w1 ⟨A', c', rfl, ho, hb⟩
  have hs : w.heap.size + 1 < ((w.alloc (.cells #[.int .i64 u, .int .i64 f, .int .i64 d, .slice A n c] 27)).alloc (.cells #[.int .i64 0, .int .i64 0, .int .i64 0, .slice none 0 0] 27)).heap.size := by simp
  have h1 := H1.out.below hb (by omega)
  have h2 := H2.out.below hb hs
  obtain ⟨⟨d0, d1, d2, d3⟩, g0, g1, g2, g3⟩ := h1.four
  obtain ⟨⟨e0, e1, e2, e3⟩, f0, f1, f2, f3⟩ := h2.four
  have HO : Hid (OwnB w1 (w.heap.size + 2) 5 A' n c' l) := Lib.hid (ho.base_le (by simp))
  have HB1 := Lib.hid (HB.out.trans (hb.mono (by simp; omega)))
  have H1' := Lib.hid h1
  have H2' := Lib.hid h2
  clear c3 HC H1 H2 HB ho hb h1 h2 hs
  go_wp2_with fail
  refine bodyPost_ret (results_cell (a := ⟨w.heap.size + 1, 0, none⟩) rfl rfl (Bk.msg (Bk.put4 (H2'.out.far (show w.heap.size + 1 ≠ w.heap.size by omega) _) _ _ _ _))) rfl ⟨A', c', rfl, ?_, ?_⟩
  · exact (((HO.out.farG (grownBy_cell _ _ _ _) (by omega)).farG (grown_put4 _ _ _ _ _ _) (by omega)).base_le (by omega))
  · exact below_put4 (HB1.out.setCell (Nat.le_refl _) _) (by omega) _ _ _ _
set_option maxRecDepth 20000 in
set_option maxHeartbeats 2000000 in
theorem x11copyMsg_any (u f d : Int) (A : Option Addr) (n c : Nat) (l : List Nat) (w : World) (hl : Bytes w w.heap.size A n l) (hn : n ≤ 100000000) :
    Calls Try.prog 34 #[.agg #[.int .i64 u, .int .i64 f, .int .i64 d, .slice A n c]] w (GiveM w u f d n l) := by
  have hB : Below w.heap.size w ((w.alloc (.cells #[.int .i64 u, .int .i64 f, .int .i64 d, .slice A n c] 27)).alloc (.cells #[.int .i64 0, .int .i64 0, .int .i64 0, .slice none 0 0] 27)) := ((Below.refl _ _).alloc (Nat.le_refl _) _).alloc (by simp) _
  have h1 : Bk ((w.alloc (.cells #[.int .i64 u, .int .i64 f, .int .i64 d, .slice A n c] 27)).alloc (.cells #[.int .i64 0, .int .i64 0, .int .i64 0, .slice none 0 0] 27)) w.heap.size 27 #[.int .i64 u, .int .i64 f, .int .i64 d, .slice A n c] := (Bk.new _ _ _).alloc _
  have h2 : Bk ((w.alloc (.cells #[.int .i64 u, .int .i64 f, .int .i64 d, .slice A n c] 27)).alloc (.cells #[.int .i64 0, .int .i64 0, .int .i64 0, .slice none 0 0] 27)) (w.heap.size + 1) 27 #[.int .i64 0, .int .i64 0, .int .i64 0, .slice none 0 0] := Bk.new2 _ _ _ _
  have c3 := h1.cell 3
  have hsz : ((w.alloc (.cells #[.int .i64 u, .int .i64 f, .int .i64 d, .slice A n c] 27)).alloc (.cells #[.int .i64 0, .int .i64 0, .int .i64 0, .slice none 0 0] 27)).heap.size = w.heap.size + 2 := by simp
  have HB := Lib.hid hB
  have H1 := Lib.hid h1
  have H2 := Lib.hid h2
  have HL := Lib.hid (hl.later hB)
  have HZ := Lib.hid hsz
  clear hl hB h1 h2 hsz
  go_enter Try.func34, Try.ntmps34
  go_wp2_with ((with_reducible show wpList _ _ _ (⟨some 6, _, _, _, _, _⟩ :: _) _ _); refine hold ?_)
  generalize (w.alloc (.cells #[.int .i64 u, .int .i64 f, .int .i64 d, .slice A n c] 27)).alloc (.cells #[.int .i64 0, .int .i64 0, .int .i64 0, .slice none 0 0] 27) = W at *
  have hoe : OwnB (W.alloc (.cells #[] 5)) (w.heap.size + 2) 5 (some ⟨w.heap.size + 2, 0, none⟩) 0 0 [] := by
    have := OwnB.empty W 5
    rwa [HZ.out] at this
  refine held (wpList_append_bytes rfl (.tmp 3) (.tmp 5) 25 rfl Try.underlying25 info_by (w.heap.size + 2) (some ⟨w.heap.size + 2, 0, none⟩) 0 0 [] rfl hoe W.heap.size A n c l rfl
    (HL.out.below ((Below.refl _ _).alloc (Nat.le_refl _) _) (Nat.le_refl _)) (by omega) (by simp; rw [HZ.out]; omega) ?_)
  intro A' c' w1 ho hb hg
  rw [Nat.zero_add, List.nil_append] at ho
  rw [Nat.zero_add]
  have hb' : Below (w.heap.size + 2) W w1 := ((Below.refl _ _).alloc (by rw [HZ.out]; exact Nat.le_refl _) _).trans hb
  have h1 := H1.out.below hb' (by omega)
  have h2 := H2.out.below hb' (by omega)
  obtain ⟨⟨d0, d1, d2, d3⟩, g0, g1, g2, g3⟩ := h1.four
  obtain ⟨⟨e0, e1, e2, e3⟩, f0, f1, f2, f3⟩ := h2.four
  have HO := Lib.hid ho
  have HB1 := Lib.hid (HB.out.trans (hb'.mono (by omega)))
  have H1' := Lib.hid h1
  have H2' := Lib.hid h2
  clear c3 H1 H2 HB ho hb hb' h1 h2 hg hoe HL HZ
  go_wp2_with fail
  refine bodyPost_ret (results_cell (a := ⟨w.heap.size + 1, 0, none⟩) rfl rfl (Bk.msg (Bk.put4 (H2'.out.far (show w.heap.size + 1 ≠ w.heap.size by omega) _) _ _ _ _))) rfl ⟨A', c', rfl, ?_, ?_⟩
  · exact (((HO.out.farG (grownBy_cell _ _ _ _) (by omega)).farG (grown_put4 _ _ _ _ _ _) (by omega)).base_le (by omega))
  · exact below_put4 (HB1.out.setCell (Nat.le_refl _) _) (by omega) _ _ _ _

/-! ### May a message be -/
theorem okMg_1 {u f d : Int} {l : List Nat} (h : okUID u = false) : okMg ⟨u, f, d, l⟩ = false := okMg_no (fun q => by
  have e : okUID u = true := decide_eq_true ⟨q.1, q.2.1⟩
  rw [h] at e; cases e)
theorem okMg_2 {u f d : Int} {l : List Nat} (h : okF f = false) : okMg ⟨u, f, d, l⟩ = false := okMg_no (fun q => by
  have e := q.2.2.1
  simp only at e
  rw [h] at e; cases e)
theorem okMg_3 {u f d : Int} {l : List Nat} (h : ¬ 0 ≤ d) : okMg ⟨u, f, d, l⟩ = false := okMg_no (fun q => h q.2.2.2.1)
theorem okMg_4 {u f d : Int} {l : List Nat} (h : ¬ d ≤ 1099511627776) : okMg ⟨u, f, d, l⟩ = false := okMg_no (fun q => h q.2.2.2.2.1)
theorem okMg_5 {u f d : Int} {l : List Nat} {n : Nat} (hn : l.length = n) (h : ¬ n ≤ 2000) : okMg ⟨u, f, d, l⟩ = false := okMg_no (fun q => h (by have := q.2.2.2.2.2; simp only at this; omega))
theorem okMg_6 {u f d : Int} {l : List Nat} {n : Nat} (h1 : okUID u = true) (h2 : okF f = true) (h3 : 0 ≤ d) (h4 : d ≤ 1099511627776) (hn : l.length = n) (h : n ≤ 2000) : okMg ⟨u, f, d, l⟩ = true := by
  have e : 1 ≤ u ∧ u ≤ 4294967295 := of_decide_eq_true h1
  exact okMg_yes ⟨e.1, e.2, h2, h3, h4, by simp only; omega⟩
set_option maxRecDepth 20000 in
set_option maxHeartbeats 2000000 in
theorem mayBe_any (u f d : Int) (A : Option Addr) (n c : Nat) (l : List Nat) (w : World) (hl : l.length = n) (hn : n ≤ 140737488355328) :
    Calls Try.prog 35 #[.agg #[.int .i64 u, .int .i64 f, .int .i64 d, .slice A n c]] w fun e w' => e = .returned (.bool (okMg ⟨u, f, d, l⟩)) ∧ w' = w.alloc (.cells #[.int .i64 u, .int .i64 f, .int .i64 d, .slice A n c] 27) := by
  have h1 : Bk (w.alloc (.cells #[.int .i64 u, .int .i64 f, .int .i64 d, .slice A n c] 27)) w.heap.size 27 #[.int .i64 u, .int .i64 f, .int .i64 d, .slice A n c] := Bk.new _ _ _
  obtain ⟨⟨c0, c1, c2, c3⟩, -, -, -, -⟩ := h1.four
  clear h1
  have HL := Lib.hid hl
  clear hl
  cases hu : okUID u
  · have HR : Hid (okMg ⟨u, f, d, l⟩ = false) := Lib.hid (okMg_1 hu)
    have HU := Lib.hid hu
    clear hu
    go_enter Try.func35, Try.ntmps35
    go_wp2_with fail
    refine (isUID_any u _).mono ?_
    rintro e w' ⟨rfl, rfl⟩
    rw [HU.out]
    go_wp2_with fail
    go_ret
    exact ⟨by rw [HR.out] <;> rfl, rfl⟩
  cases hf : okF f
  · have HR : Hid (okMg ⟨u, f, d, l⟩ = false) := Lib.hid (okMg_2 hf)
    have HU := Lib.hid hu
    have HF := Lib.hid hf
    clear hu hf
    go_enter Try.func35, Try.ntmps35
    go_wp2_with fail
    refine (isUID_any u _).mono ?_
    rintro e w' ⟨rfl, rfl⟩
    rw [HU.out]
    go_wp2_with fail
    refine (fright_any f _).mono ?_
    rintro e w' ⟨rfl, rfl⟩
    rw [HF.out]
    go_wp2_with fail
    go_ret
    exact ⟨by rw [HR.out] <;> rfl, rfl⟩
  have HU := Lib.hid hu
  have HF := Lib.hid hf
  by_cases h3 : 0 ≤ d
  · by_cases h4 : d ≤ 1099511627776
    · by_cases h5 : n ≤ 2000
      · have HR : Hid (okMg ⟨u, f, d, l⟩ = true) := Lib.hid (okMg_6 hu hf h3 h4 HL.out h5)
        have h5' : (n : Int) ≤ 2000 := by omega
        clear hu hf
        go_enter Try.func35, Try.ntmps35
        go_wp2_with fail
        refine (isUID_any u _).mono ?_
        rintro e w' ⟨rfl, rfl⟩
        rw [HU.out]
        go_wp2_with fail
        refine (fright_any f _).mono ?_
        rintro e w' ⟨rfl, rfl⟩
        rw [HF.out]
        go_wp2_with fail
        go_ret
        exact ⟨by rw [HR.out] <;> rfl, rfl⟩
      · have HR : Hid (okMg ⟨u, f, d, l⟩ = false) := Lib.hid (okMg_5 HL.out h5)
        have h5' : decide ((n : Int) ≤ 2000) = false := decide_eq_false (by omega)
        clear hu hf
        go_enter Try.func35, Try.ntmps35
        go_wp2_with fail
        refine (isUID_any u _).mono ?_
        rintro e w' ⟨rfl, rfl⟩
        rw [HU.out]
        go_wp2_with fail
        refine (fright_any f _).mono ?_
        rintro e w' ⟨rfl, rfl⟩
        rw [HF.out]
        go_wp2_with fail
        go_ret
        exact ⟨by rw [HR.out] <;> rfl, rfl⟩
    · have HR : Hid (okMg ⟨u, f, d, l⟩ = false) := Lib.hid (okMg_4 h4)
      clear hu hf
      go_enter Try.func35, Try.ntmps35
      go_wp2_with fail
      refine (isUID_any u _).mono ?_
      rintro e w' ⟨rfl, rfl⟩
      rw [HU.out]
      go_wp2_with fail
      refine (fright_any f _).mono ?_
      rintro e w' ⟨rfl, rfl⟩
      rw [HF.out]
      go_wp2_with fail
      go_ret
      exact ⟨by rw [HR.out] <;> rfl, rfl⟩
  · have HR : Hid (okMg ⟨u, f, d, l⟩ = false) := Lib.hid (okMg_3 h3)
    clear hu hf
    go_enter Try.func35, Try.ntmps35
    go_wp2_with fail
    refine (isUID_any u _).mono ?_
    rintro e w' ⟨rfl, rfl⟩
    rw [HU.out]
    go_wp2_with fail
    refine (fright_any f _).mono ?_
    rintro e w' ⟨rfl, rfl⟩
    rw [HF.out]
    go_wp2_with fail
    go_ret
    exact ⟨by rw [HR.out] <;> rfl, rfl⟩
set_option maxRecDepth 20000 in
set_option maxHeartbeats 2000000 in
theorem x11Msg_any (u f d : Int) (A : Option Addr) (n c : Nat) (l : List Nat) (w : World) (hl : l.length = n) (hn : n ≤ 140737488355328) :
    Calls Try.prog 37 #[.agg #[.int .i64 u, .int .i64 f, .int .i64 d, .slice A n c]] w fun e w' => e = .returned (.bool (okMg ⟨u, f, d, l⟩)) ∧ w' = w.alloc (.cells #[.int .i64 u, .int .i64 f, .int .i64 d, .slice A n c] 27) := by
  have h1 : Bk (w.alloc (.cells #[.int .i64 u, .int .i64 f, .int .i64 d, .slice A n c] 27)) w.heap.size 27 #[.int .i64 u, .int .i64 f, .int .i64 d, .slice A n c] := Bk.new _ _ _
  obtain ⟨⟨c0, c1, c2, c3⟩, -, -, -, -⟩ := h1.four
  clear h1
  have HL := Lib.hid hl
  clear hl
  by_cases hu1' : u < 1
  · have hu1 : ¬ 1 ≤ u := by omega
    have HR : Hid (okMg ⟨u, f, d, l⟩ = false) := Lib.hid (okMg_1 (decide_eq_false (fun h => hu1 h.1)))
    go_enter Try.func37, Try.ntmps37
    go_wp2_with fail
    go_ret
    exact ⟨by rw [HR.out] <;> rfl, rfl⟩
  have hu1 : 1 ≤ u := by omega
  by_cases hu2' : 4294967295 < u
  · have hu2 : ¬ u ≤ 4294967295 := by omega
    have HR : Hid (okMg ⟨u, f, d, l⟩ = false) := Lib.hid (okMg_1 (decide_eq_false (fun h => hu2 h.2)))
    go_enter Try.func37, Try.ntmps37
    go_wp2_with fail
    go_ret
    exact ⟨by rw [HR.out] <;> rfl, rfl⟩
  have hu2 : u ≤ 4294967295 := by omega
  clear hu1' hu2'
  have HU : Hid (okUID u = true) := Lib.hid (decide_eq_true ⟨hu1, hu2⟩)
  cases hf : okF f
  · have HR : Hid (okMg ⟨u, f, d, l⟩ = false) := Lib.hid (okMg_2 hf)
    have HF := Lib.hid hf
    clear hf
    go_enter Try.func37, Try.ntmps37
    go_wp2_with fail
    refine (x8fright_any f _).mono ?_
    rintro e w' ⟨rfl, rfl⟩
    rw [HF.out]
    go_wp2_with fail
    go_ret
    exact ⟨by rw [HR.out] <;> rfl, rfl⟩
  have HF := Lib.hid hf
  by_cases h3 : 0 ≤ d
  · by_cases h4 : d ≤ 1099511627776
    · by_cases h5 : n ≤ 2000
      · have HR : Hid (okMg ⟨u, f, d, l⟩ = true) := Lib.hid (okMg_6 HU.out hf h3 h4 HL.out h5)
        have h5' : (n : Int) ≤ 2000 := by omega
        clear hf
        go_enter Try.func37, Try.ntmps37
        go_wp2_with fail
        refine (x8fright_any f _).mono ?_
        rintro e w' ⟨rfl, rfl⟩
        rw [HF.out]
        go_wp2_with fail
        go_ret
        exact ⟨by rw [HR.out] <;> rfl, rfl⟩
      · have HR : Hid (okMg ⟨u, f, d, l⟩ = false) := Lib.hid (okMg_5 HL.out h5)
        have h5' : decide ((n : Int) ≤ 2000) = false := decide_eq_false (by omega)
        clear hf
        go_enter Try.func37, Try.ntmps37
        go_wp2_with fail
        refine (x8fright_any f _).mono ?_
        rintro e w' ⟨rfl, rfl⟩
        rw [HF.out]
        go_wp2_with fail
        go_ret
        exact ⟨by rw [HR.out] <;> rfl, rfl⟩
    · have HR : Hid (okMg ⟨u, f, d, l⟩ = false) := Lib.hid (okMg_4 h4)
      clear hf
      go_enter Try.func37, Try.ntmps37
      go_wp2_with fail
      refine (x8fright_any f _).mono ?_
      rintro e w' ⟨rfl, rfl⟩
      rw [HF.out]
      go_wp2_with fail
      go_ret
      exact ⟨by rw [HR.out] <;> rfl, rfl⟩
  · have HR : Hid (okMg ⟨u, f, d, l⟩ = false) := Lib.hid (okMg_3 h3)
    clear hf
    go_enter Try.func37, Try.ntmps37
    go_wp2_with fail
    refine (x8fright_any f _).mono ?_
    rintro e w' ⟨rfl, rfl⟩
    rw [HF.out]
    go_wp2_with fail
    go_ret
    exact ⟨by rw [HR.out] <;> rfl, rfl⟩
end Go.Proofs.Ythmlgbeonmpbjaa
