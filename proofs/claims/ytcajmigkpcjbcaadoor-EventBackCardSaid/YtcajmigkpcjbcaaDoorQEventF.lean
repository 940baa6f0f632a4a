/-
  Contracts over package event: may an event be?
-/
import Derived.Test.YtcajmigkpcjbcaaDoorQEventE
import Derived.Test.YtcajmigkpcjbcaaDoorQEventOut
import Derived.Test.YtcajmigkpcjbcaaDoorQEventC
namespace Go.Proofs.YtcajmigkpcjbcaaDoor
set_option linter.unusedVariables false
set_option linter.unusedSimpArgs false
open Go.RowKit
set_option linter.unusedVariables false
set_option linter.unusedSimpArgs false

/-! ### Ranging over the letters of a text -/
def It (w : World) (g : Nat) (p : List Nat) (pos : Nat) : Prop := w.heap[g]? = some (.stringIter (strOf p) pos)
theorem It.lt {w : World} {g pos : Nat} {p : List Nat} (h : It w g p pos) : g < w.heap.size := (Array.getElem?_eq_some_iff.1 h).1
theorem It.below {w w' : World} {g pos : Nat} {p : List Nat} (h : It w g p pos) (hb : Below w.heap.size w w') : It w' g p pos := (hb.block _ h.lt).trans h
theorem It.far {w : World} {g pos b : Nat} {p : List Nat} (h : It w g p pos) {cs : Array Value} {t : TypeId} {cur : Array Value} (hb : Bk w b t cur) : It (w.setRow b cs) g p pos := by
  have hne : g ≠ b := by
    intro e
    subst e
    rw [It, hb] at h
    cases h
  exact (setRow_other' w b g cs hne).trans h
theorem It.iter {w : World} {g pos : Nat} {p : List Nat} (h : It w g p pos) (pos' : Nat) : It (w.iterAt g (strOf p) pos') g p pos' := Lib.iterAt_heap w g (strOf p) pos pos' h
theorem Bk.iter {w : World} {g pos b : Nat} {p : List Nat} (h : It w g p pos) {t : TypeId} {cs : Array Value} (hb : Bk w b t cs) (pos' : Nat) : Bk (w.iterAt g (strOf p) pos') b t cs := by
  have hne : b ≠ g := by
    intro e
    subst e
    rw [It, hb] at h
    cases h
  exact (Lib.iterAt_other w g b (strOf p) pos' hne).trans hb
theorem letter_at {p : List Nat} (hp : ∀ x ∈ p, x < 128) {pos c : Nat} (hc : p[pos]? = some c) : ∃ h : pos < (strOf p).size, ((strOf p)[pos]'h).toNat = c := by
  have hlt : pos < p.length := (List.getElem?_eq_some_iff.1 hc).1
  have h : pos < (strOf p).size := by rw [strOf_size]; exact hlt
  refine ⟨h, ?_⟩
  have e : (nats (strOf p))[pos]? = some ((strOf p)[pos]'h).toNat := by
    unfold nats
    rw [List.getElem?_map, Lib.data_getElem? _ pos h]
    rfl
  rw [nats_strOf p (fun x hx => Nat.lt_trans (hp x hx) (by decide)), hc] at e
  exact (Option.some.inj e).symm
theorem next_letter {P : Program} {w : World} {g pos c : Nat} {p : List Nat} (hp : ∀ x ∈ p, x < 128) (h : It w g p pos) (hc : p[pos]? = some c) (ty : TypeId) :
    (Instr.next (.pointer (some ⟨g, 0, none⟩)) true ty).run P w = .ok (.tuple #[.bool true, .int .i64 (pos : Int), .int .i32 (c : Int)]) (w.iterAt g (strOf p) (pos + 1)) := by
  obtain ⟨hlt, e⟩ := letter_at hp hc
  have hc128 := hp c (List.mem_of_getElem? hc)
  have := Lib.run_next_ascii_at (P := P) w g (strOf p) pos ty h hlt (by rw [e]; exact hc128)
  rw [e] at this
  exact this
theorem next_none {P : Program} {w : World} {g pos : Nat} {p : List Nat} (h : It w g p pos) (hl : p.length ≤ pos) (ty : TypeId) :
    (Instr.next (.pointer (some ⟨g, 0, none⟩)) true ty).run P w = .ok (.tuple #[.bool false]) w :=
  Lib.run_next_end_at (P := P) w g (strOf p) pos ty h (by rw [strOf_size]; omega)

/-! ### Right -/
theorem right_empty {e : Ev} (h : partsN e.kind = []) : rightE e = false := by unfold rightE; rw [h]; rfl
theorem right_time {e : Ev} (h : tmB e.at_ = false) : rightE e = false := by unfold rightE; rw [h, Bool.false_and, Bool.and_false]
theorem right_part {e : Ev} {c : Nat} (hc : c ∈ partsN e.kind) (h : okQ e c = false) : rightE e = false := by
  unfold rightE
  have : (partsN e.kind).all (okQ e) = false := by
    rw [List.all_eq_false]
    exact ⟨c, hc, by rw [h]; decide⟩
  rw [this, Bool.false_and, Bool.and_false, Bool.and_false]
theorem right_last {e : Ev} (h0 : ¬ partsN e.kind = []) (h1 : tmB e.at_ = true) (h2 : ∀ c ∈ partsN e.kind, okQ e c = true) : rightE e = evEq ((partsN e.kind).foldl outP e) (bare e.kind e.at_) := by
  unfold rightE
  have : (partsN e.kind).isEmpty = false := by simpa using h0
  rw [this, h1, List.all_eq_true.2 h2, Bool.true_and]
  rfl
theorem strs_empty (p : List Nat) : (strOf p).toList.isEmpty = decide (p = []) := by
  rw [ByteArray.toList_eq, strOf_data]
  cases p <;> simp
theorem fold_out {p : List Nat} {k c : Nat} (hc : p[k]? = some c) (e : Ev) : (p.take (k + 1)).foldl outP e = outP ((p.take k).foldl outP e) c := by
  rw [take_snoc_n p k c hc, List.foldl_append]; rfl
theorem ok_snoc {e : Ev} {p : List Nat} {k c : Nat} (h : ∀ x ∈ p.take k, okQ e x = true) (hc : p[k]? = some c) (hx : okQ e c = true) : ∀ x ∈ p.take (k + 1), okQ e x = true := by
  intro x hm
  rw [take_snoc_n p k c hc] at hm
  rcases List.mem_append.1 hm with hm | hm
  · exact h x hm
  · rw [List.mem_singleton.1 hm]; exact hx
/-- what holds at the head of a round -/
structure RtAt (w : World) (h : Eh) (b1 b4 g : Nat) (p : List Nat) (pos : Nat) (H : Eh) (wx : World) : Prop where
  it : It wx g p pos
  bx : Bk wx b1 26 (evC h)
  left : Bk wx b4 26 (evC H)
  val : H.e = (p.take pos).foldl outP h.e
  inn : EvIn w w.heap.size H
  ok : ∀ c ∈ p.take pos, okQ h.e c = true
  below : Below w.heap.size w wx
theorem It.pos {w : World} {g pos : Nat} {p : List Nat} (h : It w g p pos) : w.iterPos g = pos := by unfold World.iterPos; rw [show w.heap[g]? = some (.stringIter (strOf p) pos) from h]
def RightIs (h : Eh) (w : World) (e : Ending) (w' : World) : Prop := e = .returned (.bool (rightE h.e)) ∧ Below w.heap.size w w'
set_option maxRecDepth 20000 in
set_option maxHeartbeats 4000000 in
theorem evRight_any (h : Eh) (w : World) (Hh : EvIn w w.heap.size h) (hK : Kinds w) : Calls Tryd.prog 12 #[.agg (evC h)] w (RightIs h w) := by
  have HH := Lib.hid Hh
  have HK := Lib.hid hK
  clear Hh hK
  go_enter Tryd.func12, Tryd.ntmps12
  go_wp2_with ((with_reducible show wpList _ _ _ (⟨some 7, _, _, _, _, _⟩ :: _) _ _); refine hold ?_)
  refine held (list_overE (fun W => Bk W w.heap.size 26 (evC h) ∧ Below w.heap.size w W) ⟨Bk.new _ _ _, (Below.refl _ _).alloc (Nat.le_refl _) _⟩ ?_)
  rintro W ⟨q1, q2⟩
  have Q1 := Lib.hid q1
  have Q2 := Lib.hid q2
  have c0 : W.cell? ⟨w.heap.size, 0, none⟩ = some (.int .i64 h.e.kind) := q1.cell 0
  clear q1 q2
  go_wp2_with fail
  refine (evParts_any h.e.kind W (HK.out.below Q2.out)).mono ?_
  rintro e W1 ⟨rfl, hb⟩
  have R1 := Lib.hid (Q1.out.below hb Q1.out.lt)
  have R2 := Lib.hid (Q2.out.trans (hb.mono Q2.out.size))
  have c1 : W1.cell? ⟨w.heap.size, 1, none⟩ = some (.int .i64 h.e.at_) := R1.out.cell 1
  clear hb c0 Q1 Q2
  by_cases hp0 : partsN h.e.kind = []
  · have HR := Lib.hid (right_empty hp0)
    have he : (strOf (partsN h.e.kind)).toList.isEmpty = true := by rw [strs_empty]; exact decide_eq_true hp0
    clear hp0
    go_wp2_with fail
    go_ret
    exact ⟨by rw [HR.out] <;> rfl, R2.out⟩
  have he : (strOf (partsN h.e.kind)).toList.isEmpty = false := by rw [strs_empty]; exact decide_eq_false hp0
  have HP0 := Lib.hid hp0
  clear hp0
  go_wp2_with fail
  refine (evisTime_any h.e.at_ W1).mono ?_
  rintro e w' ⟨rfl, rfl⟩
  cases ht : tmB h.e.at_
  · have HR := Lib.hid (right_time ht)
    clear ht
    go_wp2_with fail
    go_ret
    exact ⟨by rw [HR.out] <;> rfl, R2.out⟩
  have HT := Lib.hid ht
  clear ht c1
  obtain ⟨p, hp⟩ : ∃ p, partsN h.e.kind = p := ⟨_, rfl⟩
  rw [hp] at HP0 he ⊢
  have hp128 : ∀ x ∈ p, x < 128 := by rw [← hp]; exact partsN_lt _
  have hp9 : ∀ x ∈ p, x ∈ nineL := by rw [← hp]; exact (partsN_nine _).1
  have H128 := Lib.hid hp128
  have H9 := Lib.hid hp9
  have HP := Lib.hid hp
  clear hp hp128 hp9
  go_wp2_with ((with_reducible show wpList _ _ _ (⟨some 18, _, _, _, _, _⟩ :: _) _ _); refine hold ?_)
  refine held (wpList_load_mid rfl 26 (.tmp 1) rfl w.heap.size 0 rfl _ _ R1.out.range Tryd.underlying26 rfl (by kernel_rfl) ?_)
  go_wp2_with ((with_reducible show wpList _ _ _ (⟨none, _, _, _, _, _⟩ :: _) _ _); refine hold ?_)
  refine held (wpList_store_wide rfl 26 (.tmp 4) (.tmp 18) rfl W1.heap.size 0 (evC h) rfl rfl 26 (evC (bareH 0 0)) (Bk.new W1 26 (evC (bareH 0 0))) (by rw [evC_size, evC_size]; decide) (by rw [evC_size]; exact info_ev) (evC_one h) ?_)
  intro W2 hW2
  have hw2 := w_setRow_all hW2 (by rw [evC_size, evC_size])
  have S1 : Hid (Bk W2 w.heap.size 26 (evC h)) := Lib.hid (by
    rw [hw2]
    exact (R1.out.alloc _).setRow_other (by have := R1.out.lt; omega) _)
  have S4 : Hid (Bk W2 W1.heap.size 26 (evC h)) := Lib.hid (by rw [hw2]; exact (Bk.new W1 26 (evC (bareH 0 0))).setRow_same _)
  have SB : Hid (Below w.heap.size w W2) := Lib.hid (by rw [hw2]; exact below_setRow (R2.out.alloc R2.out.size _) R2.out.size _)
  clear hw2 hW2
  go_wp2_with fail
  go_loopw [6] (fun _ wx => ∃ (pos : Nat) (H : Eh), pos ≤ p.length ∧ RtAt w h w.heap.size W1.heap.size W2.heap.size p pos H wx) (fun _ wx => p.length - wx.iterPos W2.heap.size)
  case atStart =>
    refine ⟨0, h, Nat.zero_le _, ?_⟩
    exact { it := World.iter_heap W2 (strOf p) 0, bx := S1.out.alloc _, left := S4.out.alloc _, val := rfl, inn := HH.out, ok := (by intro c hc; simp at hc), below := SB.out.alloc SB.out.size _ }
  case round =>
    obtain ⟨pos, H, hpos, hr⟩ := hrel
    have HR := Lib.hid hr
    have HM : Hid (wr.iterPos W2.heap.size = pos) := Lib.hid hr.it.pos
    clear hr
    by_cases hlt : pos < p.length
    · obtain ⟨c, hc⟩ : ∃ c, p[pos]? = some c := ⟨_, List.getElem?_eq_getElem hlt⟩
      have hnx := fun ty => next_letter (P := Tryd.prog) H128.out HR.out.it hc ty
      have T1 : Hid (Bk (wr.iterAt W2.heap.size (strOf p) (pos + 1)) w.heap.size 26 (evC h)) := Lib.hid (Bk.iter HR.out.it HR.out.bx _)
      have T4 : Hid (Bk (wr.iterAt W2.heap.size (strOf p) (pos + 1)) W1.heap.size 26 (evC H)) := Lib.hid (Bk.iter HR.out.it HR.out.left _)
      have TI : Hid (It (wr.iterAt W2.heap.size (strOf p) (pos + 1)) W2.heap.size p (pos + 1)) := Lib.hid (HR.out.it.iter _)
      have TB : Hid (Below w.heap.size w (wr.iterAt W2.heap.size (strOf p) (pos + 1))) := Lib.hid (Lib.below_iterAt HR.out.below SB.out.size _ _)
      have HC := Lib.hid hc
      have hc9 := H9.out c (List.mem_of_getElem? hc)
      have HC9 := Lib.hid hc9
      clear hc hc9
      go_wp2_with ((with_reducible show wpList _ _ _ (⟨some 24, _, _, _, _, _⟩ :: _) _ _); refine hold ?_)
      refine held (list_overE (fun W => Bk W w.heap.size 26 (evC h) ∧ Bk W W1.heap.size 26 (evC H) ∧ It W W2.heap.size p (pos + 1) ∧ Below w.heap.size w W) ⟨T1.out, T4.out, TI.out, TB.out⟩ ?_)
      rintro W3 ⟨q1, q2, q3, q4⟩
      have U1 := Lib.hid q1
      have U4 := Lib.hid q2
      have UI := Lib.hid q3
      have UB := Lib.hid q4
      clear q1 q2 q3 q4 hnx T1 T4 TI TB
      refine wpList_load_mid rfl 26 (.tmp 1) rfl w.heap.size 0 rfl _ _ U1.out.range Tryd.underlying26 rfl (by kernel_rfl) ?_
      go_wp2_with fail
      refine (evmayBe_any h HC9.out W3 (HH.out.later UB.out)).mono ?_
      rintro e W4 ⟨rfl, hb⟩
      have V1 := Lib.hid (U1.out.below hb U1.out.lt)
      have V4 := Lib.hid (U4.out.below hb U4.out.lt)
      have VI := Lib.hid (UI.out.below hb)
      have VB := Lib.hid (UB.out.trans (hb.mono UB.out.size))
      clear hb U1 U4 UI UB
      cases hok : okQ h.e c
      · have HF := Lib.hid (right_part (by rw [HP.out]; exact List.mem_of_getElem? HC.out) hok)
        clear hok
        go_wp2_with fail
        go_ret
        exact ⟨by rw [HF.out] <;> rfl, VB.out⟩
      · have HOK := Lib.hid hok
        clear hok
        go_wp2_with ((with_reducible show wpList _ _ _ (⟨some 28, _, _, _, _, _⟩ :: _) _ _); refine hold ?_)
        refine held (wpList_load_mid rfl 26 (.tmp 4) rfl W1.heap.size 0 rfl _ _ V4.out.range Tryd.underlying26 rfl (by kernel_rfl) ?_)
        go_wp2_with fail
        refine (evwithout_any H HC9.out W4).mono ?_
        rintro e W5 ⟨rfl, hb⟩
        have X1 := Lib.hid (V1.out.below hb V1.out.lt)
        have X4 := Lib.hid (V4.out.below hb V4.out.lt)
        have XI := Lib.hid (VI.out.below hb)
        have XB := Lib.hid (VB.out.trans (hb.mono VB.out.size))
        clear hb V1 V4 VI VB
        go_wp2_with ((with_reducible show wpList _ _ _ (⟨none, _, _, _, _, _⟩ :: _) _ _); refine hold ?_)
        refine held (wpList_store_wide rfl 26 (.tmp 4) (.tmp 30) rfl W1.heap.size 0 (evC (outH H c)) rfl rfl 26 (evC H) X4.out (by rw [evC_size, evC_size]; decide) (by rw [evC_size]; exact info_ev) (evC_one _) ?_)
        intro W6 hW6
        simp only [Act.put]
        have hw6 := w_setRow_all hW6 (by rw [evC_size, evC_size])
        have R : Hid (RtAt w h w.heap.size W1.heap.size W2.heap.size p (pos + 1) (outH H c) W6) := Lib.hid (by
          rw [hw6]
          exact { it := XI.out.far X4.out, bx := X1.out.setRow_other (by have := R1.out.lt; omega) _, left := X4.out.setRow_same _, val := by rw [outH_e, HR.out.val, fold_out HC.out], inn := HR.out.inn.out HC9.out, ok := ok_snoc HR.out.ok HC.out HOK.out, below := below_setRow XB.out R2.out.size _ })
        clear hw6 hW6 HR
        go_wp2_with fail
        go_roundw
        case rel => exact ⟨pos + 1, outH H c, by omega, R.out⟩
        case measure => rw [R.out.it.pos]; rw [HM.out]; omega
    · have hnx := fun ty => next_none (P := Tryd.prog) HR.out.it (by omega) ty
      obtain rfl : pos = p.length := by omega
      have T1 := Lib.hid HR.out.bx
      have T4 := Lib.hid HR.out.left
      have TB := Lib.hid HR.out.below
      have TV : Hid (rightE h.e = evEq H.e (bare h.e.kind h.e.at_)) := Lib.hid (by
        have h1 := HR.out.val
        have h2 := HR.out.ok
        rw [List.take_of_length_le (Nat.le_refl _)] at h1 h2
        rw [right_last (by rw [HP.out]; exact HP0.out) HT.out (by rw [HP.out]; exact h2), HP.out, h1])
      have TN := Lib.hid HR.out.inn
      have d0 : wr.cell? ⟨w.heap.size, 0, none⟩ = some (.int .i64 h.e.kind) := HR.out.bx.cell 0
      have d1 : wr.cell? ⟨w.heap.size, 1, none⟩ = some (.int .i64 h.e.at_) := HR.out.bx.cell 1
      clear HR
      go_wp2_with ((with_reducible show wpList _ _ _ (⟨some 31, _, _, _, _, _⟩ :: _) _ _); refine hold ?_)
      refine held (wpList_load_mid rfl 26 (.tmp 4) rfl W1.heap.size 0 rfl _ _ T4.out.range Tryd.underlying26 rfl (by kernel_rfl) ?_)
      go_wp2_with fail
      refine (evSame_any H (bareH h.e.kind h.e.at_) wr (TN.out.later TB.out) (EvIn.bare _ _ _ _)).mono ?_
      rintro e W4 ⟨rfl, hb⟩
      have VB := Lib.hid (TB.out.trans (hb.mono TB.out.size))
      clear hb d0 d1
      go_wp2_with fail
      go_ret
      exact ⟨by rw [TV.out] <;> rfl, VB.out⟩
end Go.Proofs.YtcajmigkpcjbcaaDoor
