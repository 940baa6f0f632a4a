/-
  Contracts over package event: may an event be?
-/
import Derived.Test.YtoiffchhfnbooaaDoorQEventB
import Derived.Test.YtoiffchhfnbooaaDoorQEventC
import Derived.Test.YtoiffchhfnbooaaDoorQRowRel
namespace Go.Proofs.YtoiffchhfnbooaaDoor
set_option linter.unusedVariables false
set_option linter.unusedSimpArgs false
open Go.RowKit
set_option linter.unusedVariables false
set_option linter.unusedSimpArgs false

/-! ### Ranging over the letters of a text -/
def It (w : World) (g : Nat) (p : List Nat) (pos : Nat) : Prop := w.heap[g]? = some (.stringIter (strOf p) pos)
theorem It.lt {w : World} {g pos : Nat} {p : List Nat} (h : It w g p pos) : g < w.heap.size := (Array.getElem?_eq_some_iff.1 h).1
theorem It.below {w w' : World} {g pos : Nat} {p : List Nat} (h : It w g p pos) (hb : Below w.heap.size w w') : It w' g p pos := (hb.block _ h.lt).trans h
theorem It.far {w : World} {g pos b : Nat} {p : List Nat} (h : It w g p pos) {cs : Array Value} {t : TypeId} {cur : Array Value} (hb : Bk w b t cur) : It (w.setRow b cs) g p pos := by
  have hne : g ≠ b := by
    intro e
    subst e
    rw [It, hb] at h
    cases h
  exact (setRow_other' w b g cs hne).trans h
theorem It.iter {w : World} {g pos : Nat} {p : List Nat} (h : It w g p pos) (pos' : Nat) : It (w.iterAt g (strOf p) pos') g p pos' := Lib.iterAt_heap w g (strOf p) pos pos' h
theorem Bk.iter {w : World} {g pos b : Nat} {p : List Nat} (h : It w g p pos) {t : TypeId} {cs : Array Value} (hb : Bk w b t cs) (pos' : Nat) : Bk (w.iterAt g (strOf p) pos') b t cs := by
  have hne : b ≠ g := by
    intro e
    subst e
    rw [It, hb] at h
    cases h
  exact (Lib.iterAt_other w g b (strOf p) pos' hne).trans hb
theorem letter_at {p : List Nat} (hp : ∀ x ∈ p, x < 128) {pos c : Nat} (hc : p[pos]? = some c) : ∃ h : pos < (strOf p).size, ((strOf p)[pos]'h).toNat = c := by
  have hlt : pos < p.length := (List.getElem?_eq_some_iff.1 hc).1
  have h : pos < (strOf p).size := by rw [strOf_size]; exact hlt
  refine ⟨h, ?_⟩
  have e : (nats (strOf p))[pos]? = some ((strOf p)[pos]'h).toNat := by
    unfold nats
    rw [List.getElem?_map, Lib.data_getElem? _ pos h]
    rfl
  rw [nats_strOf p (fun x hx => Nat.lt_trans (hp x hx) (by decide)), hc] at e
  exact (Option.some.inj e).symm
theorem next_letter {P : Program} {w : World} {g pos c : Nat} {p : List Nat} (hp : ∀ x ∈ p, x < 128) (h : It w g p pos) (hc : p[pos]? = some c) (ty : TypeId) :
    (Instr.next (.pointer (some ⟨g, 0, none⟩)) true ty).run P w = .ok (.tuple #[.bool true, .int .i64 (pos : Int), .int .i32 (c : Int)]) (w.iterAt g (strOf p) (pos + 1)) := by
  obtain ⟨hlt, e⟩ := letter_at hp hc
  have hc128 := hp c (List.mem_of_getElem? hc)
  have := Lib.run_next_ascii_at (P := P) w g (strOf p) pos ty h hlt (by rw [e]; exact hc128)
  rw [e] at this
  exact this
theorem next_none {P : Program} {w : World} {g pos : Nat} {p : List Nat} (h : It w g p pos) (hl : p.length ≤ pos) (ty : TypeId) :
    (Instr.next (.pointer (some ⟨g, 0, none⟩)) true ty).run P w = .ok (.tuple #[.bool false]) w :=
  Lib.run_next_end_at (P := P) w g (strOf p) pos ty h (by rw [strOf_size]; omega)

/-! ### Right -/
theorem right_empty {e : Ev} (h : partsN e.kind = []) : rightE e = false := by unfold rightE; rw [h]; rfl
theorem right_time {e : Ev} (h : tmB e.at_ = false) : rightE e = false := by unfold rightE; rw [h, Bool.false_and, Bool.and_false]
theorem right_part {e : Ev} {c : Nat} (hc : c ∈ partsN e.kind) (h : okQ e c = false) : rightE e = false := by
  unfold rightE
  have : (partsN e.kind).all (okQ e) = false := by
    rw [List.all_eq_false]
    exact ⟨c, hc, by rw [h]; decide⟩
  rw [this, Bool.false_and, Bool.and_false, Bool.and_false]
theorem right_last {e : Ev} (h0 : ¬ partsN e.kind = []) (h1 : tmB e.at_ = true) (h2 : ∀ c ∈ partsN e.kind, okQ e c = true) : rightE e = evEq ((partsN e.kind).foldl outP e) (bare e.kind e.at_) := by
  unfold rightE
  have : (partsN e.kind).isEmpty = false := by simpa using h0
  rw [this, h1, List.all_eq_true.2 h2, Bool.true_and]
  rfl
theorem strs_empty (p : List Nat) : (strOf p).toList.isEmpty = decide (p = []) := by
  rw [ByteArray.toList_eq, strOf_data]
  cases p <;> simp
theorem fold_out {p : List Nat} {k c : Nat} (hc : p[k]? = some c) (e : Ev) : (p.take (k + 1)).foldl outP e = outP ((p.take k).foldl outP e) c := by
  rw [take_snoc_n p k c hc, List.foldl_append]; rfl
theorem ok_snoc {e : Ev} {p : List Nat} {k c : Nat} (h : ∀ x ∈ p.take k, okQ e x = true) (hc : p[k]? = some c) (hx : okQ e c = true) : ∀ x ∈ p.take (k + 1), okQ e x = true := by
  intro x hm
  rw [take_snoc_n p k c hc] at hm
  rcases List.mem_append.1 hm with hm | hm
  · exact h x hm
  · rw [List.mem_singleton.1 hm]; exact hx
/-- what holds at the head of a round -/
structure RtAt (w : World) (h : Eh) (b1 b4 g : Nat) (p : List Nat) (pos : Nat) (H : Eh) (wx : World) : Prop where
  it : It wx g p pos
  bx : Bk wx b1 34 (evC h)
  left : Bk wx b4 34 (evC H)
  val : H.e = (p.take pos).foldl outP h.e
  inn : EvIn w w.heap.size H
  ok : ∀ c ∈ p.take pos, okQ h.e c = true
  below : Below w.heap.size w wx
theorem It.pos {w : World} {g pos : Nat} {p : List Nat} (h : It w g p pos) : w.iterPos g = pos := by unfold World.iterPos; rw [show w.heap[g]? = some (.stringIter (strOf p) pos) from h]
def RightIs (h : Eh) (w : World) (e : Ending) (w' : World) : Prop := e = .returned (.bool (rightE h.e)) ∧ Below w.heap.size w w'
set_option maxRecDepth 20000 in
set_option maxHeartbeats 4000000 in
theorem evRight_any (h : Eh) (w : World) (Hh : EvIn w w.heap.size h) (hK : Kinds w) : Calls Tryd.prog 17 #[.agg (evC h)] w (RightIs h w) := by
  have HH := Lib.hid Hh
  have HK := Lib.hid hK
  clear Hh hK
  go_enter Tryd.func17, Tryd.ntmps17
  go_wp2_with ((with_reducible show wpList _ _ _ (⟨some 7, _, _, _, _, _⟩ :: _) _ _); refine hold ?_)
  refine held (list_overE (fun W => Bk W w.heap.size 34 (evC h) ∧ Below w.heap.size w W) ⟨Bk.new _ _ _, (Below.refl _ _).alloc (Nat.le_refl _) _⟩ ?_)
  rintro W ⟨q1, q2⟩
  have Q1 := Lib.hid q1
  have Q2 := Lib.hid q2
  have c0 : W.cell? ⟨w.heap.size, 0, none⟩ = some (.int .i64 h.e.kind) := q1.cell 0
  clear q1 q2
  go_wp2_with fail
  refine (evParts_any h.e.kind W (HK.out.below Q2.out)).mono ?_
  rintro e W1 ⟨rfl, hb⟩
  have R1 := Lib.hid (Q1.out.below hb Q1.out.lt)
  have R2 := Lib.hid (Q2.out.trans (hb.mono Q2.out.size))
  have c1 : W1.cell? ⟨w.heap.size, 1, none⟩ = some (.int .i64 h.e.at_) := R1.out.cell 1
  clear hb c0 Q1 Q2
  by_cases hp0 : partsN h.e.kind = []
  · have HR := Lib.hid (right_empty hp0)
    have he : (strOf (partsN h.e.kind)).toList.isEmpty = true := by rw [strs_empty]; exact decide_eq_true hp0
    clear hp0
    go_wp2_with fail
    go_ret
    exact ⟨by rw [HR.out] <;> rfl, R2.out⟩
  have he : (strOf (partsN h.e.kind)).toList.isEmpty = false := by rw [strs_empty]; exact decide_eq_false hp0
  have HP0 := Lib.hid hp0
  clear hp0
  go_wp2_with fail
  refine (evisTime_any h.e.at_ W1).mono ?_
  rintro e w' ⟨rfl, rfl⟩
  cases ht : tmB h.e.at_
  · have HR := Lib.hid (right_time ht)
    clear ht
    go_wp2_with fail
    go_ret
    exact ⟨by rw [HR.out] <;> rfl, R2.out⟩
  have HT := Lib.hid ht
  clear ht c1
  obtain ⟨p, hp⟩ : ∃ p, partsN h.e.kind = p := ⟨_, rfl⟩
  rw [hp] at HP0 he ⊢
  have hp128 : ∀ x ∈ p, x < 128 := by rw [← hp]; exact partsN_lt _
  have hp9 : ∀ x ∈ p, x ∈ nineL := by rw [← hp]; exact (partsN_nine _).1
  have H128 := Lib.hid hp128
  have H9 := Lib.hid hp9
  have HP := Lib.hid hp
  clear hp hp128 hp9
  go_wp2_with ((with_reducible show wpList _ _ _ (⟨some 18, _, _, _, _, _⟩ :: _) _ _); refine hold ?_)
  refine held (wpList_load_mid rfl 34 (.tmp 1) rfl w.heap.size 0 rfl _ _ R1.out.range Tryd.underlying34 rfl (by kernel_rfl) ?_)
  go_wp2_with ((with_reducible show wpList _ _ _ (⟨none, _, _, _, _, _⟩ :: _) _ _); refine hold ?_)
  refine held (wpList_store_wide rfl 34 (.tmp 4) (.tmp 18) rfl W1.heap.size 0 (evC h) rfl rfl 34 (evC (bareH 0 0)) (Bk.new W1 34 (evC (bareH 0 0))) (by rw [evC_size, evC_size]; decide) (by rw [evC_size]; exact info_ev) (evC_one h) ?_)
  intro W2 hW2
  have hw2 := w_setRow_allE hW2 (by rw [evC_size, evC_size])
  have S1 : Hid (Bk W2 w.heap.size 34 (evC h)) := Lib.hid (by
    rw [hw2]
    exact (R1.out.alloc _).setRow_other (by have := R1.out.lt; omega) _)
  have S4 : Hid (Bk W2 W1.heap.size 34 (evC h)) := Lib.hid (by rw [hw2]; exact (Bk.new W1 34 (evC (bareH 0 0))).setRow_same _)
  have SB : Hid (Below w.heap.size w W2) := Lib.hid (by rw [hw2]; exact below_setRow (R2.out.alloc R2.out.size _) R2.out.size _)
  clear hw2 hW2
  go_wp2_with fail
  go_loopw [6] (fun _ wx => ∃ (pos : Nat) (H : Eh), pos ≤ p.length ∧ RtAt w h w.heap.size W1.heap.size W2.heap.size p pos H wx) (fun _ wx => p.length - wx.iterPos W2.heap.size)
  case atStart =>
    refine ⟨0, h, Nat.zero_le _, ?_⟩
    exact { it := World.iter_heap W2 (strOf p) 0, bx := S1.out.alloc _, left := S4.out.alloc _, val := rfl, inn := HH.out, ok := (by intro c hc; simp at hc), below := SB.out.alloc SB.out.size _ }
  case round =>
    obtain ⟨pos, H, hpos, hr⟩ := hrel
    have HR := Lib.hid hr
    have HM : Hid (wr.iterPos W2.heap.size = pos) := Lib.hid hr.it.pos
    clear hr
    by_cases hlt : pos < p.length
    · obtain ⟨c, hc⟩ : ∃ c, p[pos]? = some c := ⟨_, List.getElem?_eq_getElem hlt⟩
      have hnx := fun ty => next_letter (P := Tryd.prog) H128.out HR.out.it hc ty
      have T1 : Hid (Bk (wr.iterAt W2.heap.size (strOf p) (pos + 1)) w.heap.size 34 (evC h)) := Lib.hid (Bk.iter HR.out.it HR.out.bx _)
      have T4 : Hid (Bk (wr.iterAt W2.heap.size (strOf p) (pos + 1)) W1.heap.size 34 (evC H)) := Lib.hid (Bk.iter HR.out.it HR.out.left _)
      have TI : Hid (It (wr.iterAt W2.heap.size (strOf p) (pos + 1)) W2.heap.size p (pos + 1)) := Lib.hid (HR.out.it.iter _)
      have TB : Hid (Below w.heap.size w (wr.iterAt W2.heap.size (strOf p) (pos + 1))) := Lib.hid (Lib.below_iterAt HR.out.below SB.out.size _ _)
      have HC := Lib.hid hc
      have hc9 := H9.out c (List.mem_of_getElem? hc)
      have HC9 := Lib.hid hc9
      clear hc hc9
      go_wp2_with ((with_reducible show wpList _ _ _ (⟨some 24, _, _, _, _, _⟩ :: _) _ _); refine hold ?_)
      refine held (list_overE (fun W => Bk W w.heap.size 34 (evC h) ∧ Bk W W1.heap.size 34 (evC H) ∧ It W W2.heap.size p (pos + 1) ∧ Below w.heap.size w W) ⟨T1.out, T4.out, TI.out, TB.out⟩ ?_)
      rintro W3 ⟨q1, q2, q3, q4⟩
      have U1 := Lib.hid q1
      have U4 := Lib.hid q2
      have UI := Lib.hid q3
      have UB := Lib.hid q4
      clear q1 q2 q3 q4 hnx T1 T4 TI TB
      refine wpList_load_mid rfl 34 (.tmp 1) rfl w.heap.size 0 rfl _ _ U1.out.range Tryd.underlying34 rfl (by kernel_rfl) ?_
      go_wp2_with fail
      refine (evmayBe_any h HC9.out W3 (HH.out.later UB.out)).mono ?_
      rintro e W4 ⟨rfl, hb⟩
      have V1 := Lib.hid (U1.out.below hb U1.out.lt)
      have V4 := Lib.hid (U4.out.below hb U4.out.lt)
      have VI := Lib.hid (UI.out.below hb)
      have VB := Lib.hid (UB.out.trans (hb.mono UB.out.size))
      clear hb U1 U4 UI UB
      cases hok : okQ h.e c
      · have HF := Lib.hid (right_part (by rw [HP.out]; exact List.mem_of_getElem? HC.out) hok)
        clear hok
        go_wp2_with fail
        go_ret
        exact ⟨by rw [HF.out] <;> rfl, VB.out⟩
      · have HOK := Lib.hid hok
        clear hok
        go_wp2_with ((with_reducible show wpList _ _ _ (⟨some 28, _, _, _, _, _⟩ :: _) _ _); refine hold ?_)
        refine held (wpList_load_mid rfl 34 (.tmp 4) rfl W1.heap.size 0 rfl _ _ V4.out.range Tryd.underlying34 rfl (by kernel_rfl) ?_)
        go_wp2_with fail
        refine (evwithout_any H HC9.out W4).mono ?_
        rintro e W5 ⟨rfl, hb⟩
        have X1 := Lib.hid (V1.out.below hb V1.out.lt)
        have X4 := Lib.hid (V4.out.below hb V4.out.lt)
        have XI := Lib.hid (VI.out.below hb)
        have XB := Lib.hid (VB.out.trans (hb.mono VB.out.size))
        clear hb V1 V4 VI VB
        go_wp2_with ((with_reducible show wpList _ _ _ (⟨none, _, _, _, _, _⟩ :: _) _ _); refine hold ?_)
        refine held (wpList_store_wide rfl 34 (.tmp 4) (.tmp 30) rfl W1.heap.size 0 (evC (outH H c)) rfl rfl 34 (evC H) X4.out (by rw [evC_size, evC_size]; decide) (by rw [evC_size]; exact info_ev) (evC_one _) ?_)
        intro W6 hW6
        simp only [Act.put]
        have hw6 := w_setRow_allE hW6 (by rw [evC_size, evC_size])
        have R : Hid (RtAt w h w.heap.size W1.heap.size W2.heap.size p (pos + 1) (outH H c) W6) := Lib.hid (by
          rw [hw6]
          exact { it := XI.out.far X4.out, bx := X1.out.setRow_other (by have := R1.out.lt; omega) _, left := X4.out.setRow_same _, val := by rw [outH_e, HR.out.val, fold_out HC.out], inn := HR.out.inn.out HC9.out, ok := ok_snoc HR.out.ok HC.out HOK.out, below := below_setRow XB.out R2.out.size _ })
        clear hw6 hW6 HR
        go_wp2_with fail
        go_roundw
        case rel => exact ⟨pos + 1, outH H c, by omega, R.out⟩
        case measure => rw [R.out.it.pos]; rw [HM.out]; omega
    · have hnx := fun ty => next_none (P := Tryd.prog) HR.out.it (by omega) ty
      obtain rfl : pos = p.length := by omega
      have T1 := Lib.hid HR.out.bx
      have T4 := Lib.hid HR.out.left
      have TB := Lib.hid HR.out.below
      have TV : Hid (rightE h.e = evEq H.e (bare h.e.kind h.e.at_)) := Lib.hid (by
        have h1 := HR.out.val
        have h2 := HR.out.ok
        rw [List.take_of_length_le (Nat.le_refl _)] at h1 h2
        rw [right_last (by rw [HP.out]; exact HP0.out) HT.out (by rw [HP.out]; exact h2), HP.out, h1])
      have TN := Lib.hid HR.out.inn
      have d0 : wr.cell? ⟨w.heap.size, 0, none⟩ = some (.int .i64 h.e.kind) := HR.out.bx.cell 0
      have d1 : wr.cell? ⟨w.heap.size, 1, none⟩ = some (.int .i64 h.e.at_) := HR.out.bx.cell 1
      clear HR
      go_wp2_with ((with_reducible show wpList _ _ _ (⟨some 31, _, _, _, _, _⟩ :: _) _ _); refine hold ?_)
      refine held (wpList_load_mid rfl 34 (.tmp 4) rfl W1.heap.size 0 rfl _ _ T4.out.range Tryd.underlying34 rfl (by kernel_rfl) ?_)
      go_wp2_with fail
      refine (evSame_any H (bareH h.e.kind h.e.at_) wr (TN.out.later TB.out) (EvIn.bare _ _ _ _)).mono ?_
      rintro e W4 ⟨rfl, hb⟩
      have VB := Lib.hid (TB.out.trans (hb.mono TB.out.size))
      clear hb d0 d1
      go_wp2_with fail
      go_ret
      exact ⟨by rw [TV.out] <;> rfl, VB.out⟩
end Go.Proofs.YtoiffchhfnbooaaDoor

/-
  Contracts over package pack: its reader, as the bytes that are left and the error.
-/
namespace Go.Proofs.YtoiffchhfnbooaaDoor
set_option linter.unusedVariables false
set_option linter.unusedSimpArgs false
open Go.RowKit

/-- the program's reader in block g -/
def RdP (w : World) (g : Nat) (l : List Nat) (e : Nat) : Prop := w.heap[g]? = some (.cells #[.string (strOf l), .int .i64 (e : Int)] 83)
section
variable {w w' : World} {g e : Nat} {l : List Nat}
theorem RdP.lt (h : RdP w g l e) : g < w.heap.size := (Array.getElem?_eq_some_iff.1 h).1
theorem RdP.c0 (h : RdP w g l e) : w.cell? ⟨g, 0, none⟩ = some (.string (strOf l)) := by rw [cell_of_row w g 0 _ _ (0, 0) h]; rfl
theorem RdP.c1 (h : RdP w g l e) : w.cell? ⟨g, 1, none⟩ = some (.int .i64 (e : Int)) := by rw [cell_of_row w g 1 _ _ (0, 0) h]; rfl
theorem RdP.f0 (h : RdP w g l e) : w.frozen? ⟨g, 0, none⟩ = false := frozen_of_row w g 0 _ _ h
theorem RdP.f1 (h : RdP w g l e) : w.frozen? ⟨g, 1, none⟩ = false := frozen_of_row w g 1 _ _ h
theorem RdP.grown (h : RdP w g l e) {row : Option Nat} (hg : w.grownBy w' row) (hr : some g ≠ row) : RdP w' g l e := (hg.block g h.lt hr).trans h
theorem RdP.below (h : RdP w g l e) {B : Nat} (hb : Below B w w') (hB : g < B) : RdP w' g l e := (hb.block g hB).trans h
theorem RdP.put0 (h : RdP w g l e) (l' : List Nat) : RdP (w.setCell ⟨g, 0, none⟩ (.string (strOf l'))) g l' e := by
  have := heap_setCell_same w g 0 _ _ (.string (strOf l')) h
  exact this
theorem RdP.put1 (h : RdP w g l e) (e' : Nat) : RdP (w.setCell ⟨g, 1, none⟩ (.int .i64 (e' : Int))) g l e' := by
  have := heap_setCell_same w g 1 _ _ (.int .i64 (e' : Int)) h
  exact this
theorem RdP.new (w : World) (l : List Nat) : RdP (w.alloc (.cells #[.string (strOf l), .int .i64 0] 83)) w.heap.size l 0 := heap_alloc_new w _
end
theorem grownBy_setCell (w : World) (b i : Nat) (v : Value) : w.grownBy (w.setCell ⟨b, i, none⟩ v) (some b) :=
  ⟨rfl, rfl, rfl, by simp, fun k _ hr => Below.heap_setCell w _ v k (fun e => hr (by rw [e]))⟩

/-- behind a call of a method: the reader stands so, and all else is as it was -/
def Stood (g : Nat) (l : List Nat) (e : Nat) (w w' : World) : Prop := RdP w' g l e ∧ w.grownBy w' (some g)
def Gave (v : Value) (g : Nat) (l : List Nat) (e : Nat) (w : World) (x : Ending) (w' : World) : Prop := x = .returned v ∧ Stood g l e w w'

/-- the error behind a note -/
def noteE (e k : Nat) : Nat := if e = 0 then k else e
theorem noteE_0 (k : Nat) : noteE 0 k = k := rfl
theorem noteE_ne {e : Nat} (k : Nat) (h : e ≠ 0) : noteE e k = e := if_neg h

set_option maxHeartbeats 400000 in
theorem note_any (g e k : Nat) (l : List Nat) (w : World) (h : RdP w g l e) :
    Calls Tryd.prog 39 #[.pointer (some ⟨g, 0, none⟩), .int .i64 (k : Int)] w (Gave (.tuple #[]) g l (noteE e k) w) := by
  have h1 := h.c1
  have h2 := h.f1
  have hp := h.put1 k
  by_cases he : e = 0
  · subst he
    rw [noteE_0]
    have H := hide h
    clear h
    go_enter Tryd.func39, Tryd.ntmps39
    go_wp2
    go_end0
    exact ⟨rfl, hp, grownBy_setCell _ _ _ _⟩
  · rw [noteE_ne k he]
    have heb : ((e : Int) == 0) = false := by simp; omega
    have H := hide h
    clear h
    go_enter Tryd.func39, Tryd.ntmps39
    go_wp2
    go_end0
    exact ⟨rfl, H.out, World.grownBy.refl _ _⟩

/-- a nil reader has nothing to note -/
theorem note_nil (k : Int) (w : World) : Calls Tryd.prog 39 #[.pointer none, .int .i64 k] w fun e w' => e = .returned (.tuple #[]) ∧ w = w' := by
  go_enter Tryd.func39, Tryd.ntmps39
  go_wp2
  go_end0
  exact ⟨rfl, rfl⟩

theorem takeV_ok {l : List Nat} {n : Nat} (h : n ≤ l.length) : takeV l 0 n = l.take n := if_pos ⟨rfl, h⟩
theorem takeL_ok {l : List Nat} {n : Nat} (h : n ≤ l.length) : takeL l 0 n = l.drop n := if_pos ⟨rfl, h⟩
theorem takeE_ok {l : List Nat} {n : Nat} (h : n ≤ l.length) : takeE l 0 n = 0 := if_neg (by omega)
theorem takeV_short {l : List Nat} {n : Nat} (h : l.length < n) : takeV l 0 n = [] := if_neg (by omega)
theorem takeL_short {l : List Nat} {n : Nat} (h : l.length < n) : takeL l 0 n = l := if_neg (by omega)
theorem takeE_short {l : List Nat} {n : Nat} (h : l.length < n) : takeE l 0 n = 2 := if_pos ⟨rfl, h⟩
theorem strOf_nil : strOf [] = ⟨#[]⟩ := rfl

set_option maxRecDepth 20000 in
set_option maxHeartbeats 400000 in
theorem ptake_any (g e n : Nat) (l : List Nat) (w : World) (h : RdP w g l e) (hl : l.length ≤ 140737488355328) (hn : n ≤ 18446744073709551615 / 2) :
    Calls Tryd.prog 53 #[.pointer (some ⟨g, 0, none⟩), .int .i64 (n : Int)] w (Gave (.string (strOf (takeV l e n))) g (takeL l e n) (takeE l e n) w) := by
  have h0 := h.c0
  have h1 := h.c1
  have h2 := h.f0
  have hsz := strOf_size l
  by_cases he : e = 0
  · subst he
    have HP := hide (h.put0 (l.drop n))
    have HT := hide (strOf_to l n)
    have HF := hide (strOf_from l n l.length (Nat.le_refl _))
    by_cases hlt : l.length < n
    · rw [takeV_short hlt, takeL_short hlt, takeE_short hlt, strOf_nil]
      have H := hide h
      clear h
      generalize strOf l = s at *
      go_enter Tryd.func53, Tryd.ntmps53
      go_wp2_with fail
      refine (note_any g 0 2 l w H.out).mono ?_
      rintro e' w1 ⟨rfl, hr1, hg1⟩
      rw [noteE_0] at hr1
      go_wp2
      go_ret
      exact ⟨rfl, hr1, hg1⟩
    · have hle : n ≤ l.length := by omega
      rw [takeV_ok hle, takeL_ok hle, takeE_ok hle]
      have H := hide h
      clear h
      generalize strOf l = s at *
      go_enter Tryd.func53, Tryd.ntmps53
      go_wp2
      rw [HT.out, HF.out]
      go_ret
      exact ⟨rfl, HP.out, grownBy_setCell _ _ _ _⟩
  · rw [takeV_stays he, takeL_stays he, takeE_stays he, strOf_nil]
    have heb : ((e : Int) == 0) = false := by simp; omega
    have H := hide h
    clear h
    generalize strOf l = s at *
    go_enter Tryd.func53, Tryd.ntmps53
    go_wp2
    go_ret
    exact ⟨rfl, H.out, World.grownBy.refl _ _⟩

theorem or8 (x y : Nat) (hx : x < 72057594037927936) (hy : y < 256) : bits .or .u64 ((x : Int) * 256) (y : Int) = ((x * 256 + y : Nat) : Int) := by
  have h := u64_or_nat (x * 256) y (by omega) (by omega)
  rw [nat_join 8 (x * 256) y (by omega) (by omega)] at h
  exact h
theorem pow256_le {k m : Nat} (h : k ≤ m) : 256 ^ k ≤ 256 ^ m := Nat.pow_le_pow_right (by omega) h

set_option maxRecDepth 20000 in
set_option maxHeartbeats 400000 in
theorem praw_any (g e n : Nat) (l : List Nat) (w : World) (h : RdP w g l e) (hl : l.length ≤ 140737488355328) (hb : ∀ x ∈ l, x < 256) (hn : n ≤ 8) :
    Calls Tryd.prog 38 #[.pointer (some ⟨g, 0, none⟩), .int .i64 (n : Int)] w (Gave (.int .u64 ((decB (takeV l e n) : Nat) : Int)) g (takeL l e n) (takeE l e n) w) := by
  have kc := fun W s => Lib.run_convert_string_bytes (P := Tryd.prog) W 9 32 5 s Tryd.underlying9 Tryd.underlying32 Tryd.underlying5
  go_enter Tryd.func38, Tryd.ntmps38
  go_wp2_with fail
  refine (ptake_any g e n l w h hl (by omega)).mono ?_
  rintro e' w1 ⟨rfl, hr1, hg1⟩
  have hv : ∀ x ∈ takeV l e n, x < 256 := takeV_lt hb
  have hvl : (takeV l e n).length ≤ n := takeV_len
  generalize takeV l e n = v at *
  generalize takeL l e n = l' at *
  generalize takeE l e n = e2 at *
  have hS : (strOf v).size = v.length := strOf_size v
  have HNS := hide (nats_strOf v hv)
  generalize strOf v = s at *
  go_wp2
  clear kc
  have hB := bytesWorld_bytes w1 5 s
  rw [HNS.out, hS] at hB
  have hgW := grownBy_trans hg1 (bytesWorld_grown w1 5 s (some g))
  have hrW := hr1.grown (bytesWorld_grown w1 5 s none) (by simp)
  generalize Lib.bytesWorld w1 5 s = W at *
  generalize w1.heap.size = bb at *
  clear hr1 hg1 hS HNS
  have HP := hide hrW
  clear hrW h
  go_loop [5, 13] (fun t i => ∃ k : Nat, k ≤ v.length ∧ i = .int .i64 k ∧ t = .int .u64 ((decB (v.take k) : Nat) : Int)) (fun _ i => v.length - (intOf i).toNat)
  case atStart => exact ⟨0, Nat.zero_le _, rfl, rfl⟩
  case round =>
    obtain ⟨k, hk, rfl, rfl⟩ := hrel
    by_cases hlt : k < v.length
    · obtain ⟨b, o, hA, _, hc⟩ := hB.at_ hlt
      injection hA with hA
      injection hA with hA1 hA2
      subst hA1; subst hA2
      rw [Nat.zero_add] at hc
      have hby := hB.lt k
      have hx : decB (v.take k) < 72057594037927936 := by
        have h1 := decB_lt (v.take k) (fun x hx => hv x (List.mem_of_mem_take hx))
        have h2 : 256 ^ (v.take k).length ≤ 256 ^ 7 := pow256_le (by rw [List.length_take]; omega)
        omega
      have HT := hide (decB_take v k hlt)
      have HO := fun hx => hide (or8 (decB (v.take k)) (byteAt v k) hx hby)
      have HO := HO hx
      generalize decB (v.take k) = x at *
      generalize byteAt v k = y at *
      go_wp2
      go_round
      case rel => exact ⟨k + 1, by omega, by go_num, by rw [HO.out, HT.out]⟩
      case measure => simp [intOf]; omega
    · have HK := hide (show v.take k = v from List.take_of_length_le (by omega))
      rw [HK.out]
      go_wp2
      go_ret
      exact ⟨rfl, HP.out, hgW⟩

theorem Stood.trans {g : Nat} {l l' : List Nat} {e e' : Nat} {w w' w'' : World} (h : Stood g l e w w') (h' : Stood g l' e' w' w'') : Stood g l' e' w w'' := ⟨h'.1, grownBy_trans h.2 h'.2⟩

set_option maxRecDepth 20000 in
set_option maxHeartbeats 400000 in
theorem pNum_any (g e : Nat) (l : List Nat) (w : World) (h : RdP w g l e) (hl : l.length ≤ 140737488355328) (hb : ∀ x ∈ l, x < 256) :
    Calls Tryd.prog 24 #[.pointer (some ⟨g, 0, none⟩)] w (Gave (.int .i64 ((numV l e : Nat) : Int)) g (takeL l e 8) (numE l e) w) := by
  have HV : Hid (numV l e = if 4611686018427387904 < decB (takeV l e 8) then 0 else decB (takeV l e 8)) := hide rfl
  have HE : Hid (numE l e = if 4611686018427387904 < decB (takeV l e 8) then 3 else takeE l e 8) := hide rfl
  have HX : Hid (takeE l e 8 ≠ 0 → takeV l e 8 = []) := hide takeV_err
  go_enter Tryd.func24, Tryd.ntmps24
  go_wp2_with fail
  refine (praw_any g e 8 l w h hl hb (by omega)).mono ?_
  rintro e' w1 ⟨rfl, hs1⟩
  generalize takeV l e 8 = v at *
  generalize takeE l e 8 = e1 at *
  generalize takeL l e 8 = l1 at *
  by_cases hg : 4611686018427387904 < decB v
  · have he : e1 = 0 := by
      rcases Nat.eq_zero_or_pos e1 with h0 | h0
      · exact h0
      · have := HX.out (by omega); subst this; rw [decB_nil] at hg; omega
    subst he
    have HV2 := hide (HV.out.trans (if_pos hg))
    have HE2 := hide (HE.out.trans (if_pos hg))
    have hgi : (4611686018427387904 : Int) < ((decB v : Nat) : Int) := by omega
    clear hg HV HE HX
    generalize decB v = x at *
    go_wp2_with fail
    refine (note_any g 0 3 l1 w1 hs1.1).mono ?_
    rintro e' w2 ⟨rfl, hs2⟩
    rw [noteE_0] at hs2
    go_wp2
    go_ret
    rw [HV2.out, HE2.out]
    exact ⟨rfl, hs1.trans hs2⟩
  · have HV2 := hide (HV.out.trans (if_neg hg))
    have HE2 := hide (HE.out.trans (if_neg hg))
    have hgi : ¬ (4611686018427387904 : Int) < ((decB v : Nat) : Int) := by omega
    clear hg HV HE HX
    generalize decB v = x at *
    go_wp2
    go_ret
    rw [HV2.out, HE2.out]
    exact ⟨rfl, hs1⟩

set_option maxRecDepth 20000 in
set_option maxHeartbeats 400000 in
theorem pText_any (g e : Nat) (l : List Nat) (w : World) (h : RdP w g l e) (hl : l.length ≤ 140737488355328) (hb : ∀ x ∈ l, x < 256) :
    Calls Tryd.prog 54 #[.pointer (some ⟨g, 0, none⟩)] w (Gave (.string (strOf (textV l e))) g (textL l e) (textE l e) w) := by
  have HV : Hid (textV l e = if 4096 < decB (takeV l e 4) then [] else takeV (takeL l e 4) (takeE l e 4) (decB (takeV l e 4))) := hide rfl
  have HL : Hid (textL l e = if 4096 < decB (takeV l e 4) then takeL l e 4 else takeL (takeL l e 4) (takeE l e 4) (decB (takeV l e 4))) := hide rfl
  have HE : Hid (textE l e = if 4096 < decB (takeV l e 4) then 4 else takeE (takeL l e 4) (takeE l e 4) (decB (takeV l e 4))) := hide rfl
  have HX : Hid (takeE l e 4 ≠ 0 → takeV l e 4 = []) := hide takeV_err
  have hl1 : (takeL l e 4).length ≤ 140737488355328 := Nat.le_trans takeL_len hl
  go_enter Tryd.func54, Tryd.ntmps54
  go_wp2_with fail
  refine (praw_any g e 4 l w h hl hb (by omega)).mono ?_
  rintro e' w1 ⟨rfl, hs1⟩
  generalize takeV l e 4 = v at *
  generalize takeE l e 4 = e1 at *
  generalize takeL l e 4 = l1 at *
  by_cases hg : 4096 < decB v
  · have he : e1 = 0 := by
      rcases Nat.eq_zero_or_pos e1 with h0 | h0
      · exact h0
      · have := HX.out (by omega); subst this; rw [decB_nil] at hg; omega
    subst he
    have HV2 := hide (HV.out.trans (if_pos hg))
    have HE2 := hide (HE.out.trans (if_pos hg))
    have HL2 := hide (HL.out.trans (if_pos hg))
    have hgi : (4096 : Int) < ((decB v : Nat) : Int) := by omega
    clear hg HV HE HX HL
    generalize decB v = x at *
    go_wp2_with fail
    refine (note_any g 0 4 l1 w1 hs1.1).mono ?_
    rintro e' w2 ⟨rfl, hs2⟩
    rw [noteE_0] at hs2
    go_wp2
    go_ret
    rw [HV2.out, HE2.out, HL2.out]
    exact ⟨rfl, hs1.trans hs2⟩
  · have HV2 := hide (HV.out.trans (if_neg hg))
    have HE2 := hide (HE.out.trans (if_neg hg))
    have HL2 := hide (HL.out.trans (if_neg hg))
    have hgi : ¬ (4096 : Int) < ((decB v : Nat) : Int) := by omega
    clear HV HE HX HL
    generalize decB v = x at *
    go_wp2_with fail
    refine (ptake_any g e1 x l1 w1 hs1.1 hl1 (by omega)).mono ?_
    rintro e' w2 ⟨rfl, hs2⟩
    go_wp2
    go_ret
    rw [HV2.out, HE2.out, HL2.out]
    exact ⟨rfl, hs1.trans hs2⟩

set_option maxRecDepth 20000 in
set_option maxHeartbeats 400000 in
theorem pCount_any (g e : Nat) (m : Nat) (l : List Nat) (w : World) (h : RdP w g l e) (hl : l.length ≤ 140737488355328) (hb : ∀ x ∈ l, x < 256) (hm : m ≤ 4611686018427387904) :
    Calls Tryd.prog 63 #[.pointer (some ⟨g, 0, none⟩), .int .i64 (m : Int)] w (Gave (.int .i64 ((countV l e m : Nat) : Int)) g (takeL l e 8) (countE l e m) w) := by
  have HV : Hid (countV l e m = if (m : Int) < (numV l e : Int) then 0 else numV l e) := hide rfl
  have HE : Hid (countE l e m = if numE l e = 0 ∧ (m : Int) < (numV l e : Int) then 4 else numE l e) := hide rfl
  have hle : numV l e ≤ 4611686018427387904 := by unfold numV; split <;> omega
  go_enter Tryd.func63, Tryd.ntmps63
  go_wp2_with fail
  refine (pNum_any g e l w h hl hb).mono ?_
  rintro e' w1 ⟨rfl, hs1⟩
  generalize numV l e = x at *
  generalize numE l e = e1 at *
  generalize takeL l e 8 = l1 at *
  by_cases hg : (m : Int) < (x : Int)
  · have HV2 := hide (HV.out.trans (if_pos hg))
    have HE2 : Hid (countE l e m = noteE e1 4) := hide (HE.out.trans (by simp [hg]; rfl))
    clear HV HE
    go_wp2_with fail
    refine (note_any g e1 4 l1 w1 hs1.1).mono ?_
    rintro e' w2 ⟨rfl, hs2⟩
    go_wp2
    go_ret
    rw [HV2.out, HE2.out]
    exact ⟨rfl, hs1.trans hs2⟩
  · have HV2 := hide (HV.out.trans (if_neg hg))
    have HE2 := hide (HE.out.trans (if_neg (fun h => hg h.2)))
    clear HV HE
    go_wp2
    go_ret
    rw [HV2.out, HE2.out]
    exact ⟨rfl, hs1⟩

set_option maxHeartbeats 400000 in
theorem pFail_any (g e : Nat) (b : Bool) (l : List Nat) (w : World) (h : RdP w g l e) :
    Calls Tryd.prog 25 #[.pointer (some ⟨g, 0, none⟩), .bool b] w (Gave (.tuple #[]) g l (failE e b) w) := by
  have HE : Hid (failE e b = if e = 0 ∧ b = true then 3 else e) := hide rfl
  cases b with
  | true =>
    have HI : Hid (failE e true = noteE e 3) := hide (by rw [HE.out]; simp; rfl)
    rw [HI.out]
    clear HI HE
    have HH := hide h
    clear h
    go_enter Tryd.func25, Tryd.ntmps25
    go_wp2_with fail
    refine (note_any g e 3 l w HH.out).mono ?_
    rintro e' w1 ⟨rfl, hs1⟩
    go_wp2
    go_end0
    exact ⟨rfl, hs1⟩
  | false =>
    have HI : Hid (failE e false = e) := hide (by rw [HE.out]; simp)
    rw [HI.out]
    clear HI HE
    go_enter Tryd.func25, Tryd.ntmps25
    go_wp2
    go_end0
    exact ⟨rfl, h, World.grownBy.refl _ _⟩

set_option maxHeartbeats 400000 in
theorem pErr_any (g e : Nat) (l : List Nat) (w : World) (h : RdP w g l e) :
    Calls Tryd.prog 26 #[.pointer (some ⟨g, 0, none⟩)] w fun x w' => x = .returned (.int .i64 (e : Int)) ∧ w = w' := by
  have h1 := h.c1
  go_enter Tryd.func26, Tryd.ntmps26
  go_wp2
  go_ret
  exact ⟨rfl, rfl⟩

set_option maxHeartbeats 400000 in
theorem pDone_any (g e : Nat) (l : List Nat) (w : World) (h : RdP w g l e) (hb : ∀ x ∈ l, x < 256) :
    Calls Tryd.prog 41 #[.pointer (some ⟨g, 0, none⟩)] w fun x w' => x = .returned (.int .i64 ((doneE l e : Nat) : Int)) ∧ w = w' := by
  have h0 := h.c0
  have h1 := h.c1
  have HE : Hid (doneE l e = if e = 0 ∧ l ≠ [] then 3 else e) := hide rfl
  have hq := strOf_eqb l [] hb (by simp)
  by_cases he : e = 0
  · subst he
    by_cases hle : l = []
    · rw [HE.out, if_neg (by simp [hle])]
      have hq2 : ((strOf l).toList == (⟨#[]⟩ : ByteArray).toList) = true := by rw [← strOf_nil, hq]; simp [hle]
      have hq3 : (strOf l).toList = [] := by subst hle; rw [ByteArray.toList_eq]; rfl
      clear hq HE hle h
      generalize strOf l = s at *
      go_enter Tryd.func41, Tryd.ntmps41
      go_wp2
      go_ret
      exact ⟨rfl, rfl⟩
    · rw [HE.out, if_pos ⟨rfl, hle⟩]
      have hq2 : ((strOf l).toList == (⟨#[]⟩ : ByteArray).toList) = false := by rw [← strOf_nil, hq]; simp [hle]
      have hq3 : ¬ (strOf l).toList = [] := by intro h; simp [h] at hq2
      have hq4 : (!(strOf l).toList.isEmpty) = true := by simpa using hq3
      clear hq HE hle h
      generalize strOf l = s at *
      go_enter Tryd.func41, Tryd.ntmps41
      go_wp2
      go_ret
      exact ⟨rfl, rfl⟩
  · rw [HE.out, if_neg (fun h => he h.1)]
    have heb : ((e : Int) == 0) = false := by simp; omega
    clear hq HE
    generalize strOf l = s at *
    go_enter Tryd.func41, Tryd.ntmps41
    go_wp2
    go_ret
    exact ⟨rfl, rfl⟩
end Go.Proofs.YtoiffchhfnbooaaDoor

/-
  Contracts over package pack: a new reader, a nil reader; and the document's own reader.
-/
namespace Go.Proofs.YtoiffchhfnbooaaDoor
set_option linter.unusedVariables false
set_option linter.unusedSimpArgs false
open Go.RowKit

/-- a new reader of bytes -/
def NewRd (l : List Nat) (w : World) (x : Ending) (w' : World) : Prop := x = .returned (.pointer (some ⟨w.heap.size, 0, none⟩)) ∧ RdP w' w.heap.size l 0 ∧ Below w.heap.size w w'
set_option maxHeartbeats 400000 in
theorem pFrom_any (A : Option Addr) (n c B : Nat) (l : List Nat) (w : World) (hl : Bytes w B A n l) :
    Calls Tryd.prog 23 #[.slice A n c] w (NewRd l w) := by
  have kc := run_str_of_bytes (P := Tryd.prog) (c := c) hl Tryd.underlying32 Tryd.underlying5 Tryd.underlying9
  have H := hide (RdP.new w l)
  generalize strOf l = s at *
  go_enter Tryd.func23, Tryd.ntmps23
  go_wp2
  go_ret
  exact ⟨rfl, H.out, (Below.refl _ _).alloc (Nat.le_refl _) _⟩

set_option maxHeartbeats 400000 in
theorem take_nil (n : Nat) (w : World) : Calls Tryd.prog 53 #[.pointer none, .int .i64 (n : Int)] w fun e w' => e = .returned (.string ⟨#[]⟩) ∧ w = w' := by
  go_enter Tryd.func53, Tryd.ntmps53
  go_wp2
  go_ret
  exact ⟨rfl, rfl⟩
set_option maxHeartbeats 400000 in
theorem done_nil (w : World) : Calls Tryd.prog 41 #[.pointer none] w fun e w' => e = .returned (.int .i64 0) ∧ w = w' := by
  go_enter Tryd.func41, Tryd.ntmps41
  go_wp2
  go_ret
  exact ⟨rfl, rfl⟩
set_option maxHeartbeats 400000 in
theorem raw_nil (n : Nat) (w : World) : Calls Tryd.prog 38 #[.pointer none, .int .i64 (n : Int)] w fun e w' => e = .returned (.int .u64 0) ∧ Below w.heap.size w w' := by
  have kc := fun W s => Lib.run_convert_string_bytes (P := Tryd.prog) W 9 32 5 s Tryd.underlying9 Tryd.underlying32 Tryd.underlying5
  have hb : Below w.heap.size w (Lib.bytesWorld w 5 ⟨#[]⟩) := (Below.refl _ _).grown (bytesWorld_grown w 5 ⟨#[]⟩ none) (Nat.le_refl _) (fun k hk => by cases hk)
  have hz : (⟨#[]⟩ : ByteArray).size = 0 := rfl
  go_enter Tryd.func38, Tryd.ntmps38
  go_wp2_with fail
  refine (take_nil n w).mono ?_
  rintro e w1 ⟨rfl, rfl⟩
  generalize hs : (⟨#[]⟩ : ByteArray) = s at *
  clear hs
  go_wp2
  clear kc
  generalize Lib.bytesWorld w 5 s = W at *
  go_loop [5, 13] (fun t i => i = .int .i64 0 ∧ t = .int .u64 0) (fun _ _ => 0)
  case atStart => exact ⟨rfl, rfl⟩
  case round =>
    obtain ⟨rfl, rfl⟩ := hrel
    go_wp2
    go_ret
    exact ⟨rfl, hb⟩
set_option maxHeartbeats 400000 in
theorem num_nil (w : World) : Calls Tryd.prog 24 #[.pointer none] w fun e w' => e = .returned (.int .i64 0) ∧ Below w.heap.size w w' := by
  go_enter Tryd.func24, Tryd.ntmps24
  go_wp2_with fail
  refine (raw_nil 8 w).mono ?_
  rintro e w1 ⟨rfl, hb⟩
  go_wp2
  go_ret
  exact ⟨rfl, hb⟩

section
variable {w w' : World} {g B e : Nat} {l : List Nat}
end
theorem Bytes.to {w : World} {B n : Nat} {A : Option Addr} {l : List Nat} (h : Bytes w B A n l) {k : Nat} (hk : k ≤ n) : Bytes w B A k (l.take k) :=
  ⟨by rw [List.length_take, h.1]; omega, fun x hx => h.2.1 x (List.mem_of_mem_take hx), fun h0 => by
    obtain ⟨b, o, e, hb, hc⟩ := h.2.2 (by omega)
    refine ⟨b, o, e, hb, fun i hi => ?_⟩
    rw [hc i (by omega)]
    unfold byteAt
    simp [List.getD_eq_getElem?_getD, List.getElem?_take, hi]⟩
theorem Bytes.from_ {w : World} {B n : Nat} {b o : Nat} {l : List Nat} (h : Bytes w B (some ⟨b, o, none⟩) n l) {k : Nat} (hk : k ≤ n) (hkn : 0 < n) : Bytes w B (some ⟨b, o + k, none⟩) (n - k) (l.drop k) :=
  ⟨by rw [List.length_drop, h.1], fun x hx => h.2.1 x (List.mem_of_mem_drop hx), fun h0 => by
    obtain ⟨b', o', e, hb, hc⟩ := h.2.2 (by omega)
    injection e with e
    injection e with e1 e2
    subst e1; subst e2
    refine ⟨b, o + k, rfl, hb, fun i hi => ?_⟩
    rw [Nat.add_assoc, hc (k + i) (by omega)]
    unfold byteAt
    simp [List.getD_eq_getElem?_getD, List.getElem?_drop]⟩

theorem Bytes.rest {w : World} {B n : Nat} {A : Option Addr} {l : List Nat} (h : Bytes w B A n l) {k : Nat} (hk : k ≤ n) : Bytes w B (A.map fun x => x.add k) (n - k) (l.drop k) := by
  by_cases h0 : n - k = 0
  · rw [h0, List.drop_eq_nil_of_le (by rw [h.1]; omega)]
    exact Bytes.nil
  · obtain ⟨b, o, rfl, _⟩ := h.2.2 (by omega)
    have e : (some (⟨b, o, none⟩ : Addr)).map (fun x => x.add k) = some ⟨b, o + k, none⟩ := by rw [Option.map_some, Addr.add_mid]
    rw [e]
    exact h.from_ hk (by omega)

theorem numB_pos {l : List Nat} (h : ¬ 4611686018427387904 < decB l) : numB l = (decB l : Int) := if_neg h
theorem numB_neg {l : List Nat} (h : 4611686018427387904 < decB l) : numB l = -1 := if_pos h

end Go.Proofs.YtoiffchhfnbooaaDoor
