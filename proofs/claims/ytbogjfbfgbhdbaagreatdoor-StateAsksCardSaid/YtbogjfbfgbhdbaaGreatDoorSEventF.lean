/-
  A part of the proof: see the last text.
-/
import Derived.Test.YtbogjfbfgbhdbaaGreatDoorSEventB
import Derived.Test.YtbogjfbfgbhdbaaGreatDoorSEventC
import Derived.Test.YtbogjfbfgbhdbaaGreatDoorSStE
import Derived.Test.YtbogjfbfgbhdbaaGreatDoorSBoxJ
import Derived.Test.YtbogjfbfgbhdbaaGreatDoorSUidsB
import Derived.Maps.OwnSet
import Derived.Maps.OwnOps
namespace Go.Proofs.YtbogjfbfgbhdbaaGreatDoor
set_option linter.unusedVariables false
set_option linter.unusedSimpArgs false
open Go.RowKit
set_option linter.unusedVariables false
set_option linter.unusedSimpArgs false
def It (w : World) (g : Nat) (p : List Nat) (pos : Nat) : Prop := w.heap[g]? = some (.stringIter (strOf p) pos)
theorem It.lt {w : World} {g pos : Nat} {p : List Nat} (h : It w g p pos) : g < w.heap.size := (Array.getElem?_eq_some_iff.1 h).1
theorem It.below {w w' : World} {g pos : Nat} {p : List Nat} (h : It w g p pos) (hb : Below w.heap.size w w') : It w' g p pos := (hb.block _ h.lt).trans h
theorem It.far {w : World} {g pos b : Nat} {p : List Nat} (h : It w g p pos) {cs : Array Value} {t : TypeId} {cur : Array Value} (hb : Bk w b t cur) : It (w.setRow b cs) g p pos := by
  have hne : g ≠ b := by
    intro e
    subst e
    rw [It, hb] at h
    cases h
  exact (setRow_other' w b g cs hne).trans h
theorem It.iter {w : World} {g pos : Nat} {p : List Nat} (h : It w g p pos) (pos' : Nat) : It (w.iterAt g (strOf p) pos') g p pos' := Lib.iterAt_heap w g (strOf p) pos pos' h
theorem Bk.iter {w : World} {g pos b : Nat} {p : List Nat} (h : It w g p pos) {t : TypeId} {cs : Array Value} (hb : Bk w b t cs) (pos' : Nat) : Bk (w.iterAt g (strOf p) pos') b t cs := by
  have hne : b ≠ g := by
    intro e
    subst e
    rw [It, hb] at h
    cases h
  exact (Lib.iterAt_other w g b (strOf p) pos' hne).trans hb
theorem letter_at {p : List Nat} (hp : ∀ x ∈ p, x < 128) {pos c : Nat} (hc : p[pos]? = some c) : ∃ h : pos < (strOf p).size, ((strOf p)[pos]'h).toNat = c := by
  have hlt : pos < p.length := (List.getElem?_eq_some_iff.1 hc).1
  have h : pos < (strOf p).size := by rw [strOf_size]; exact hlt
  refine ⟨h, ?_⟩
  have e : (nats (strOf p))[pos]? = some ((strOf p)[pos]'h).toNat := by
    unfold nats
    rw [List.getElem?_map, Lib.data_getElem? _ pos h]
    rfl
  rw [nats_strOf p (fun x hx => Nat.lt_trans (hp x hx) (by decide)), hc] at e
  exact (Option.some.inj e).symm
theorem next_letter {P : Program} {w : World} {g pos c : Nat} {p : List Nat} (hp : ∀ x ∈ p, x < 128) (h : It w g p pos) (hc : p[pos]? = some c) (ty : TypeId) :
    (Instr.next (.pointer (some ⟨g, 0, none⟩)) true ty).run P w = .ok (.tuple #[.bool true, .int .i64 (pos : Int), .int .i32 (c : Int)]) (w.iterAt g (strOf p) (pos + 1)) := by
  obtain ⟨hlt, e⟩ := letter_at hp hc
  have hc128 := hp c (List.mem_of_getElem? hc)
  have := Lib.run_next_ascii_at (P := P) w g (strOf p) pos ty h hlt (by rw [e]; exact hc128)
  rw [e] at this
  exact this
theorem next_none {P : Program} {w : World} {g pos : Nat} {p : List Nat} (h : It w g p pos) (hl : p.length ≤ pos) (ty : TypeId) :
    (Instr.next (.pointer (some ⟨g, 0, none⟩)) true ty).run P w = .ok (.tuple #[.bool false]) w :=
  Lib.run_next_end_at (P := P) w g (strOf p) pos ty h (by rw [strOf_size]; omega)
theorem right_empty {e : Ev} (h : partsN e.kind = []) : rightE e = false := by unfold rightE; rw [h]; rfl
theorem right_time {e : Ev} (h : tmB e.at_ = false) : rightE e = false := by unfold rightE; rw [h, Bool.false_and, Bool.and_false]
theorem right_part {e : Ev} {c : Nat} (hc : c ∈ partsN e.kind) (h : okQ e c = false) : rightE e = false := by
  unfold rightE
  have : (partsN e.kind).all (okQ e) = false := by
    rw [List.all_eq_false]
    exact ⟨c, hc, by rw [h]; decide⟩
  rw [this, Bool.false_and, Bool.and_false, Bool.and_false]
theorem right_last {e : Ev} (h0 : ¬ partsN e.kind = []) (h1 : tmB e.at_ = true) (h2 : ∀ c ∈ partsN e.kind, okQ e c = true) : rightE e = evEq ((partsN e.kind).foldl outP e) (bare e.kind e.at_) := by
  unfold rightE
  have : (partsN e.kind).isEmpty = false := by simpa using h0
  rw [this, h1, List.all_eq_true.2 h2, Bool.true_and]
  rfl
theorem strs_empty (p : List Nat) : (strOf p).toList.isEmpty = decide (p = []) := by
  rw [ByteArray.toList_eq, strOf_data]
  cases p <;> simp
theorem fold_out {p : List Nat} {k c : Nat} (hc : p[k]? = some c) (e : Ev) : (p.take (k + 1)).foldl outP e = outP ((p.take k).foldl outP e) c := by
  rw [take_snoc_n p k c hc, List.foldl_append]; rfl
theorem ok_snoc {e : Ev} {p : List Nat} {k c : Nat} (h : ∀ x ∈ p.take k, okQ e x = true) (hc : p[k]? = some c) (hx : okQ e c = true) : ∀ x ∈ p.take (k + 1), okQ e x = true := by
  intro x hm
  rw [take_snoc_n p k c hc] at hm
  rcases List.mem_append.1 hm with hm | hm
  · exact h x hm
  · rw [List.mem_singleton.1 hm]; exact hx
structure RtAt (w : World) (h : Eh) (b1 b4 g : Nat) (p : List Nat) (pos : Nat) (H : Eh) (wx : World) : Prop where
  it : It wx g p pos
  bx : Bk wx b1 33 (evC h)
  left : Bk wx b4 33 (evC H)
  val : H.e = (p.take pos).foldl outP h.e
  inn : EvIn w w.heap.size H
  ok : ∀ c ∈ p.take pos, okQ h.e c = true
  below : Below w.heap.size w wx
theorem It.pos {w : World} {g pos : Nat} {p : List Nat} (h : It w g p pos) : w.iterPos g = pos := by unfold World.iterPos; rw [show w.heap[g]? = some (.stringIter (strOf p) pos) from h]
def RightIs (h : Eh) (w : World) (e : Ending) (w' : World) : Prop := e = .returned (.bool (rightE h.e)) ∧ Below w.heap.size w w'
set_option maxRecDepth 20000 in
set_option maxHeartbeats 4000000 in
theorem evRight_any (h : Eh) (w : World) (Hh : EvIn w w.heap.size h) (hK : Kinds w) : Calls Tryz.prog 37 #[.agg (evC h)] w (RightIs h w) := by
  have HH := Lib.hid Hh
  have HK := Lib.hid hK
  clear Hh hK
  go_enter Tryz.func37, Tryz.ntmps37
  go_wp2_with ((with_reducible show wpList _ _ _ (⟨some 7, _, _, _, _, _⟩ :: _) _ _); refine hold ?_)
  refine held (list_overE (fun W => Bk W w.heap.size 33 (evC h) ∧ Below w.heap.size w W) ⟨Bk.new _ _ _, (Below.refl _ _).alloc (Nat.le_refl _) _⟩ ?_)
  rintro W ⟨q1, q2⟩
  have Q1 := Lib.hid q1
  have Q2 := Lib.hid q2
  have c0 : W.cell? ⟨w.heap.size, 0, none⟩ = some (.int .i64 h.e.kind) := q1.cell 0
  clear q1 q2
  go_wp2_with fail
  refine (evParts_any h.e.kind W (HK.out.below Q2.out)).mono ?_
  rintro e W1 ⟨rfl, hb⟩
  have R1 := Lib.hid (Q1.out.below hb Q1.out.lt)
  have R2 := Lib.hid (Q2.out.trans (hb.mono Q2.out.size))
  have c1 : W1.cell? ⟨w.heap.size, 1, none⟩ = some (.int .i64 h.e.at_) := R1.out.cell 1
  clear hb c0 Q1 Q2
  by_cases hp0 : partsN h.e.kind = []
  · have HR := Lib.hid (right_empty hp0)
    have he : (strOf (partsN h.e.kind)).toList.isEmpty = true := by rw [strs_empty]; exact decide_eq_true hp0
    clear hp0
    go_wp2_with fail
    go_ret
    exact ⟨by rw [HR.out] <;> rfl, R2.out⟩
  have he : (strOf (partsN h.e.kind)).toList.isEmpty = false := by rw [strs_empty]; exact decide_eq_false hp0
  have HP0 := Lib.hid hp0
  clear hp0
  go_wp2_with fail
  refine (evisTime_any h.e.at_ W1).mono ?_
  rintro e w' ⟨rfl, rfl⟩
  cases ht : tmB h.e.at_
  · have HR := Lib.hid (right_time ht)
    clear ht
    go_wp2_with fail
    go_ret
    exact ⟨by rw [HR.out] <;> rfl, R2.out⟩
  have HT := Lib.hid ht
  clear ht c1
  obtain ⟨p, hp⟩ : ∃ p, partsN h.e.kind = p := ⟨_, rfl⟩
  rw [hp] at HP0 he ⊢
  have hp128 : ∀ x ∈ p, x < 128 := by rw [← hp]; exact partsN_lt _
  have hp9 : ∀ x ∈ p, x ∈ nineL := by rw [← hp]; exact (partsN_nine _).1
  have H128 := Lib.hid hp128
  have H9 := Lib.hid hp9
  have HP := Lib.hid hp
  clear hp hp128 hp9
  go_wp2_with ((with_reducible show wpList _ _ _ (⟨some 18, _, _, _, _, _⟩ :: _) _ _); refine hold ?_)
  refine held (wpList_load_mid rfl 33 (.tmp 1) rfl w.heap.size 0 rfl _ _ R1.out.range Tryz.underlying33 rfl (by kernel_rfl) ?_)
  go_wp2_with ((with_reducible show wpList _ _ _ (⟨none, _, _, _, _, _⟩ :: _) _ _); refine hold ?_)
  refine held (wpList_store_wide rfl 33 (.tmp 4) (.tmp 18) rfl W1.heap.size 0 (evC h) rfl rfl 33 (evC (bareH 0 0)) (Bk.new W1 33 (evC (bareH 0 0))) (by rw [evC_size, evC_size]; decide) (by rw [evC_size]; exact info_ev) (evC_one h) ?_)
  intro W2 hW2
  have hw2 := w_setRow_allE hW2 (by rw [evC_size, evC_size])
  have S1 : Hid (Bk W2 w.heap.size 33 (evC h)) := Lib.hid (by
    rw [hw2]
    exact (R1.out.alloc _).setRow_other (by have := R1.out.lt; omega) _)
  have S4 : Hid (Bk W2 W1.heap.size 33 (evC h)) := Lib.hid (by rw [hw2]; exact (Bk.new W1 33 (evC (bareH 0 0))).setRow_same _)
  have SB : Hid (Below w.heap.size w W2) := Lib.hid (by rw [hw2]; exact below_setRow (R2.out.alloc R2.out.size _) R2.out.size _)
  clear hw2 hW2
  go_wp2_with fail
  go_loopw [6] (fun _ wx => ∃ (pos : Nat) (H : Eh), pos ≤ p.length ∧ RtAt w h w.heap.size W1.heap.size W2.heap.size p pos H wx) (fun _ wx => p.length - wx.iterPos W2.heap.size)
  case atStart =>
    refine ⟨0, h, Nat.zero_le _, ?_⟩
    exact { it := World.iter_heap W2 (strOf p) 0, bx := S1.out.alloc _, left := S4.out.alloc _, val := rfl, inn := HH.out, ok := (by intro c hc; simp at hc), below := SB.out.alloc SB.out.size _ }
  case round =>
    obtain ⟨pos, H, hpos, hr⟩ := hrel
    have HR := Lib.hid hr
    have HM : Hid (wr.iterPos W2.heap.size = pos) := Lib.hid hr.it.pos
    clear hr
    by_cases hlt : pos < p.length
    · obtain ⟨c, hc⟩ : ∃ c, p[pos]? = some c := ⟨_, List.getElem?_eq_getElem hlt⟩
      have hnx := fun ty => next_letter (P := Tryz.prog) H128.out HR.out.it hc ty
      have T1 : Hid (Bk (wr.iterAt W2.heap.size (strOf p) (pos + 1)) w.heap.size 33 (evC h)) := Lib.hid (Bk.iter HR.out.it HR.out.bx _)
      have T4 : Hid (Bk (wr.iterAt W2.heap.size (strOf p) (pos + 1)) W1.heap.size 33 (evC H)) := Lib.hid (Bk.iter HR.out.it HR.out.left _)
      have TI : Hid (It (wr.iterAt W2.heap.size (strOf p) (pos + 1)) W2.heap.size p (pos + 1)) := Lib.hid (HR.out.it.iter _)
      have TB : Hid (Below w.heap.size w (wr.iterAt W2.heap.size (strOf p) (pos + 1))) := Lib.hid (Lib.below_iterAt HR.out.below SB.out.size _ _)
      have HC := Lib.hid hc
      have hc9 := H9.out c (List.mem_of_getElem? hc)
      have HC9 := Lib.hid hc9
      clear hc hc9
      go_wp2_with ((with_reducible show wpList _ _ _ (⟨some 24, _, _, _, _, _⟩ :: _) _ _); refine hold ?_)
      refine held (list_overE (fun W => Bk W w.heap.size 33 (evC h) ∧ Bk W W1.heap.size 33 (evC H) ∧ It W W2.heap.size p (pos + 1) ∧ Below w.heap.size w W) ⟨T1.out, T4.out, TI.out, TB.out⟩ ?_)
      rintro W3 ⟨q1, q2, q3, q4⟩
      have U1 := Lib.hid q1
      have U4 := Lib.hid q2
      have UI := Lib.hid q3
      have UB := Lib.hid q4
      clear q1 q2 q3 q4 hnx T1 T4 TI TB
      refine wpList_load_mid rfl 33 (.tmp 1) rfl w.heap.size 0 rfl _ _ U1.out.range Tryz.underlying33 rfl (by kernel_rfl) ?_
      go_wp2_with fail
      refine (evmayBe_any h HC9.out W3 (HH.out.later UB.out)).mono ?_
      rintro e W4 ⟨rfl, hb⟩
      have V1 := Lib.hid (U1.out.below hb U1.out.lt)
      have V4 := Lib.hid (U4.out.below hb U4.out.lt)
      have VI := Lib.hid (UI.out.below hb)
      have VB := Lib.hid (UB.out.trans (hb.mono UB.out.size))
      clear hb U1 U4 UI UB
      cases hok : okQ h.e c
      · have HF := Lib.hid (right_part (by rw [HP.out]; exact List.mem_of_getElem? HC.out) hok)
        clear hok
        go_wp2_with fail
        go_ret
        exact ⟨by rw [HF.out] <;> rfl, VB.out⟩
      · have HOK := Lib.hid hok
        clear hok
        go_wp2_with ((with_reducible show wpList _ _ _ (⟨some 28, _, _, _, _, _⟩ :: _) _ _); refine hold ?_)
        refine held (wpList_load_mid rfl 33 (.tmp 4) rfl W1.heap.size 0 rfl _ _ V4.out.range Tryz.underlying33 rfl (by kernel_rfl) ?_)
        go_wp2_with fail
        refine (evwithout_any H HC9.out W4).mono ?_
        rintro e W5 ⟨rfl, hb⟩
        have X1 := Lib.hid (V1.out.below hb V1.out.lt)
        have X4 := Lib.hid (V4.out.below hb V4.out.lt)
        have XI := Lib.hid (VI.out.below hb)
        have XB := Lib.hid (VB.out.trans (hb.mono VB.out.size))
        clear hb V1 V4 VI VB
        go_wp2_with ((with_reducible show wpList _ _ _ (⟨none, _, _, _, _, _⟩ :: _) _ _); refine hold ?_)
        refine held (wpList_store_wide rfl 33 (.tmp 4) (.tmp 30) rfl W1.heap.size 0 (evC (outH H c)) rfl rfl 33 (evC H) X4.out (by rw [evC_size, evC_size]; decide) (by rw [evC_size]; exact info_ev) (evC_one _) ?_)
        intro W6 hW6
        simp only [Act.put]
        have hw6 := w_setRow_allE hW6 (by rw [evC_size, evC_size])
        have R : Hid (RtAt w h w.heap.size W1.heap.size W2.heap.size p (pos + 1) (outH H c) W6) := Lib.hid (by
          rw [hw6]
          exact { it := XI.out.far X4.out, bx := X1.out.setRow_other (by have := R1.out.lt; omega) _, left := X4.out.setRow_same _, val := by rw [outH_e, HR.out.val, fold_out HC.out], inn := HR.out.inn.out HC9.out, ok := ok_snoc HR.out.ok HC.out HOK.out, below := below_setRow XB.out R2.out.size _ })
        clear hw6 hW6 HR
        go_wp2_with fail
        go_roundw
        case rel => exact ⟨pos + 1, outH H c, by omega, R.out⟩
        case measure => rw [R.out.it.pos]; rw [HM.out]; omega
    · have hnx := fun ty => next_none (P := Tryz.prog) HR.out.it (by omega) ty
      obtain rfl : pos = p.length := by omega
      have T1 := Lib.hid HR.out.bx
      have T4 := Lib.hid HR.out.left
      have TB := Lib.hid HR.out.below
      have TV : Hid (rightE h.e = evEq H.e (bare h.e.kind h.e.at_)) := Lib.hid (by
        have h1 := HR.out.val
        have h2 := HR.out.ok
        rw [List.take_of_length_le (Nat.le_refl _)] at h1 h2
        rw [right_last (by rw [HP.out]; exact HP0.out) HT.out (by rw [HP.out]; exact h2), HP.out, h1])
      have TN := Lib.hid HR.out.inn
      have d0 : wr.cell? ⟨w.heap.size, 0, none⟩ = some (.int .i64 h.e.kind) := HR.out.bx.cell 0
      have d1 : wr.cell? ⟨w.heap.size, 1, none⟩ = some (.int .i64 h.e.at_) := HR.out.bx.cell 1
      clear HR
      go_wp2_with ((with_reducible show wpList _ _ _ (⟨some 31, _, _, _, _, _⟩ :: _) _ _); refine hold ?_)
      refine held (wpList_load_mid rfl 33 (.tmp 4) rfl W1.heap.size 0 rfl _ _ T4.out.range Tryz.underlying33 rfl (by kernel_rfl) ?_)
      go_wp2_with fail
      refine (evSame_any H (bareH h.e.kind h.e.at_) wr (TN.out.later TB.out) (EvIn.bare _ _ _ _)).mono ?_
      rintro e W4 ⟨rfl, hb⟩
      have VB := Lib.hid (TB.out.trans (hb.mono TB.out.size))
      clear hb d0 d1
      go_wp2_with fail
      go_ret
      exact ⟨by rw [TV.out] <;> rfl, VB.out⟩
end Go.Proofs.YtbogjfbfgbhdbaaGreatDoor
namespace Go.Proofs.YtbogjfbfgbhdbaaGreatDoor
set_option linter.unusedVariables false
set_option linter.unusedSimpArgs false
open Go.RowKit
set_option linter.unusedVariables false
set_option linter.unusedSimpArgs false
noncomputable def bxMay (nv : Int) (b : Bx) : Bool := rightS b.name && (okBx b && decide (b.valid < nv))
def ruMay (r : Rul) : Bool := rightS r.1 && (decide (0 < r.2) && tmB r.2)
noncomputable def tbMay (clock nt : Int) (t : Tmb) : Bool := gvB t.id nt && (rightS t.box && (decide (0 ≤ t.at_) && (decide (t.at_ ≤ clock) && okBx ⟨⟨#[]⟩, 1, 4294967296, [t.msg]⟩)))
def evHold (box : ByteArray) (set : List Rg) : Ev := ⟨12, 0, box, noText, [], set, 0, 0, 0, 0, []⟩
def hoMay (nh : Int) (h : Hol) : Bool := gvB h.id nh && rightE (evHold h.box h.set)
set_option maxRecDepth 20000 in
set_option maxHeartbeats 4000000 in
theorem stboxMay_any (bs : Nat) (nv : Int) (l : List Bx) (w : World) (hc : w.cell? ⟨bs, 6, none⟩ = some (.int .i64 nv)) (hsz : ∀ b ∈ l, b.name.size ≤ 140737488355328) :
    CallP Tryz.prog 117 #[.pointer (some ⟨bs, 0, none⟩)] (fun x => .agg (bhA x)) BhIn Bh.b l (bxMay nv) w := by
  intro W x hW hm hx
  have hs := hsz _ hm
  obtain ⟨⟨nm, v, nx, ms⟩, xA, xn, xc⟩ := x
  show Calls Tryz.prog 117 #[.agg #[.string nm, .int .i64 v, .int .i64 nx, .slice xA xn xc], .pointer (some ⟨bs, 0, none⟩)] W _
  replace hs : nm.size ≤ 140737488355328 := hs
  have hb1 : Below W.heap.size W (W.alloc (.cells #[.string nm, .int .i64 v, .int .i64 nx, .slice xA xn xc] 44)) := (Below.refl _ _).alloc (Nat.le_refl _) _
  have hk1 : Bk (W.alloc (.cells #[.string nm, .int .i64 v, .int .i64 nx, .slice xA xn xc] 44)) W.heap.size 44 #[.string nm, .int .i64 v, .int .i64 nx, .slice xA xn xc] := Bk.new _ _ _
  have hc1 := (hb1.cell (p := ⟨bs, 6, none⟩) (World.block_lt_of_cell? _ _ ((hW.cell (p := ⟨bs, 6, none⟩) (World.block_lt_of_cell? _ _ hc)).trans hc))).trans ((hW.cell (p := ⟨bs, 6, none⟩) (World.block_lt_of_cell? _ _ hc)).trans hc)
  have HX := Lib.hid (bhStays.later_ hx hb1)
  have HB1 := Lib.hid hb1
  have HK1 := Lib.hid hk1
  have HC1 := Lib.hid hc1
  have HS := Lib.hid hs
  clear hs hx hm hW hc hb1 hk1 hc1 hsz
  have HE : Hid (∀ a b c : Bool, rightS nm = a → okBx ⟨nm, v, nx, ms⟩ = b → decide (v < nv) = c → bxMay nv ⟨nm, v, nx, ms⟩ = (a && (b && c))) := Lib.hid (fun a b c h1 h2 h3 => by unfold bxMay; rw [h1, h2, h3])
  have k0 := HK1.out.cell 0
  go_enter Tryz.func117, Tryz.ntmps117
  go_wp2_with fail
  refine (nmRight_any nm HS.out _).mono ?_
  generalize W.alloc (.cells #[.string nm, .int .i64 v, .int .i64 nx, .slice xA xn xc] 44) = W1 at *
  rintro e w2 ⟨rfl, hb2⟩
  have HB2 := Lib.hid (HB1.out.trans (hb2.mono HB1.out.size))
  have HK2 := Lib.hid (HK1.out.below hb2 HK1.out.lt)
  have HC2 := Lib.hid ((hb2.cell (p := ⟨bs, 6, none⟩) (World.block_lt_of_cell? _ _ HC1.out)).trans HC1.out)
  have HX2 := Lib.hid (bhStays.later_ HX.out hb2)
  clear hb2 k0 HB1 HK1 HC1 HX
  cases h1 : rightN (nats nm)
  · have HR : Hid (bxMay nv ⟨nm, v, nx, ms⟩ = false) := Lib.hid (HE.out false _ _ h1 rfl rfl)
    clear h1
    go_wp2_with fail
    go_ret
    exact ⟨by rw [HR.out] <;> rfl, HB2.out⟩
  · have H1 := Lib.hid h1
    clear h1
    obtain ⟨⟨d0, d1, d2, d3⟩, -, -, -, -⟩ := HK2.out.four
    go_wp2_with fail
    refine (right_any nm v nx xA xn xc ms w2 HX2.out.1 HX2.out.2).mono ?_
    rintro e w3 ⟨rfl, hb3⟩
    have HB3 := Lib.hid (HB2.out.trans (hb3.mono HB2.out.size))
    have HK3 := Lib.hid (HK2.out.below hb3 HK2.out.lt)
    have c6 := (hb3.cell (p := ⟨bs, 6, none⟩) (World.block_lt_of_cell? _ _ HC2.out)).trans HC2.out
    clear hb3 d0 d1 d2 d3 HX2
    cases h2 : okBx ⟨nm, v, nx, ms⟩
    · have HR : Hid (bxMay nv ⟨nm, v, nx, ms⟩ = false) := Lib.hid (HE.out true false _ H1.out h2 rfl)
      clear h2 c6
      go_wp2_with fail
      go_ret
      exact ⟨by rw [HR.out] <;> rfl, HB3.out⟩
    · have H2 := Lib.hid h2
      clear h2
      have d1 := HK3.out.cell 1
      have HR : Hid (bxMay nv ⟨nm, v, nx, ms⟩ = decide (v < nv)) := Lib.hid (by rw [HE.out true true _ H1.out H2.out rfl]; rfl)
      go_wp2_with fail
      go_ret
      exact ⟨by rw [HR.out] <;> rfl, HB3.out⟩
set_option maxRecDepth 20000 in
set_option maxHeartbeats 4000000 in
theorem struMay_any (l : List Rul) (w : World) (hsz : ∀ b ∈ l, b.1.size ≤ 140737488355328) :
    CallP Tryz.prog 125 #[] (fun x => .agg (rulA' x)) TrueP (id : Rul → Rul) l ruMay w := by
  intro W x hW hm hx
  have hs := hsz _ hm
  obtain ⟨nm, v⟩ := x
  show Calls Tryz.prog 125 #[.agg #[.string nm, .int .i64 v]] W fun e W' => e = .returned (.bool (ruMay (nm, v))) ∧ Below W.heap.size W W'
  replace hs : nm.size ≤ 140737488355328 := hs
  have HB1 : Hid (Below W.heap.size W (W.alloc (.cells #[.string nm, .int .i64 v] 83))) := Lib.hid ((Below.refl _ _).alloc (Nat.le_refl _) _)
  have HK1 : Hid (Bk (W.alloc (.cells #[.string nm, .int .i64 v] 83)) W.heap.size 83 #[.string nm, .int .i64 v]) := Lib.hid (Bk.new _ _ _)
  have HS := Lib.hid hs
  clear hs hx hm hW hsz
  have HE : Hid (∀ a b c : Bool, rightS nm = a → decide (0 < v) = b → tmB v = c → ruMay (nm, v) = (a && (b && c))) := Lib.hid (fun a b c h1 h2 h3 => by unfold ruMay; rw [h1, h2, h3])
  have k0 := HK1.out.cell 0
  go_enter Tryz.func125, Tryz.ntmps125
  go_wp2_with fail
  refine (nmRight_any nm HS.out _).mono ?_
  generalize W.alloc (.cells #[.string nm, .int .i64 v] 83) = W1 at *
  rintro e w2 ⟨rfl, hb2⟩
  have HB2 := Lib.hid (HB1.out.trans (hb2.mono HB1.out.size))
  have HK2 := Lib.hid (HK1.out.below hb2 HK1.out.lt)
  clear hb2 k0 HB1 HK1
  cases h1 : rightN (nats nm)
  · have HR : Hid (ruMay (nm, v) = false) := Lib.hid (HE.out false _ _ h1 rfl rfl)
    clear h1
    go_wp2_with fail
    go_ret
    exact ⟨by rw [HR.out] <;> rfl, HB2.out⟩
  · have H1 := Lib.hid h1
    clear h1
    have d1 := HK2.out.cell 1
    by_cases h2 : 0 < v
    · have HR : Hid (ruMay (nm, v) = tmB v) := Lib.hid (by rw [HE.out true true _ H1.out (decide_eq_true h2) rfl]; rfl)
      go_wp2_with fail
      refine (stisTime_any v w2).mono ?_
      rintro e w3 ⟨rfl, rfl⟩
      go_wp2_with fail
      go_ret
      exact ⟨by rw [HR.out] <;> rfl, HB2.out⟩
    · have HR : Hid (ruMay (nm, v) = false) := Lib.hid (HE.out true false _ H1.out (decide_eq_false h2) rfl)
      go_wp2_with fail
      go_ret
      exact ⟨ret_bool (by rw [HR.out] <;> first | rfl | simp [h2]), HB2.out⟩
set_option maxRecDepth 20000 in
set_option maxHeartbeats 8000000 in
theorem sttbMay_any (bs : Nat) (clock nt : Int) (l : List Tmb) (w : World) (hc : w.cell? ⟨bs, 0, none⟩ = some (.int .i64 clock)) (hc7 : w.cell? ⟨bs, 7, none⟩ = some (.int .i64 nt)) (hsz : ∀ b ∈ l, b.box.size ≤ 140737488355328) :
    CallP Tryz.prog 128 #[.pointer (some ⟨bs, 0, none⟩)] (fun x => .agg (thA x)) ThIn Th.t l (tbMay clock nt) w := by
  intro W x hW hm hx
  have hs := hsz _ hm
  obtain ⟨⟨id, nm, a, u, f, d, bl⟩, xA, xn, xc⟩ := x
  show Calls Tryz.prog 128 #[.agg #[.int .i64 id, .string nm, .int .i64 a, .int .i64 u, .int .i64 f, .int .i64 d, .slice xA xn xc], .pointer (some ⟨bs, 0, none⟩)] W _
  replace hs : nm.size ≤ 140737488355328 := hs
  have hb1 : Below W.heap.size W (W.alloc (.cells #[.int .i64 id, .string nm, .int .i64 a, .int .i64 u, .int .i64 f, .int .i64 d, .slice xA xn xc] 51)) := (Below.refl _ _).alloc (Nat.le_refl _) _
  have HK1 : Hid (Bk (W.alloc (.cells #[.int .i64 id, .string nm, .int .i64 a, .int .i64 u, .int .i64 f, .int .i64 d, .slice xA xn xc] 51)) W.heap.size 51 #[.int .i64 id, .string nm, .int .i64 a, .int .i64 u, .int .i64 f, .int .i64 d, .slice xA xn xc]) := Lib.hid (Bk.new _ _ _)
  have hcw := (hW.cell (p := ⟨bs, 0, none⟩) (World.block_lt_of_cell? _ _ hc)).trans hc
  have hcw7 := (hW.cell (p := ⟨bs, 7, none⟩) (World.block_lt_of_cell? _ _ hc7)).trans hc7
  have hc1 := (hb1.cell (p := ⟨bs, 0, none⟩) (World.block_lt_of_cell? _ _ hcw)).trans hcw
  have c7 := (hb1.cell (p := ⟨bs, 7, none⟩) (World.block_lt_of_cell? _ _ hcw7)).trans hcw7
  have HX := Lib.hid (thStays.later_ hx hb1)
  have HB1 := Lib.hid hb1
  have HC1 := Lib.hid hc1
  have HS := Lib.hid hs
  clear hs hx hm hW hc hc7 hb1 hc1 hcw hcw7 hsz
  have HE : Hid (∀ a1 b1 c1 d1 e1 : Bool, gvB id nt = a1 → rightS nm = b1 → decide (0 ≤ a) = c1 → decide (a ≤ clock) = d1 → okBx ⟨⟨#[]⟩, 1, 4294967296, [⟨u, f, d, bl⟩]⟩ = e1 → tbMay clock nt ⟨id, nm, a, u, f, d, bl⟩ = (a1 && (b1 && (c1 && (d1 && e1))))) := Lib.hid (fun a1 b1 c1 d1 e1 h1 h2 h3 h4 h5 => by unfold tbMay; rw [h1, h2, h3, h4, h5])
  have k0 := HK1.out.cell 0
  go_enter Tryz.func128, Tryz.ntmps128
  go_wp2_with fail
  refine (stisGiven_any id nt _).mono ?_
  generalize W.alloc (.cells #[.int .i64 id, .string nm, .int .i64 a, .int .i64 u, .int .i64 f, .int .i64 d, .slice xA xn xc] 51) = W1 at *
  rintro e w1 ⟨rfl, rfl⟩
  cases h1 : gvB id nt
  · have HR : Hid (tbMay clock nt ⟨id, nm, a, u, f, d, bl⟩ = false) := Lib.hid (HE.out false _ _ _ _ h1 rfl rfl rfl rfl)
    clear h1
    go_wp2_with fail
    go_ret
    exact ⟨by rw [HR.out] <;> rfl, HB1.out⟩
  have H1 := Lib.hid h1
  clear h1 k0 c7
  have k1 := HK1.out.cell 1
  go_wp2_with fail
  refine (nmRight_any nm HS.out _).mono ?_
  rintro e w2 ⟨rfl, hb2⟩
  have HB2 := Lib.hid (HB1.out.trans (hb2.mono HB1.out.size))
  have HK2 := Lib.hid (HK1.out.below hb2 HK1.out.lt)
  have c0 := (hb2.cell (p := ⟨bs, 0, none⟩) (World.block_lt_of_cell? _ _ HC1.out)).trans HC1.out
  have HX2 := Lib.hid (thStays.later_ HX.out hb2)
  clear hb2 k1 HB1 HK1 HC1 HX
  cases h2 : rightN (nats nm)
  · have HR : Hid (tbMay clock nt ⟨id, nm, a, u, f, d, bl⟩ = false) := Lib.hid (HE.out true false _ _ _ H1.out h2 rfl rfl rfl)
    clear h2
    go_wp2_with fail
    go_ret
    exact ⟨by rw [HR.out] <;> rfl, HB2.out⟩
  have H2 := Lib.hid h2
  clear h2
  obtain ⟨k0, k1, k2, k3, k4, k5, k6⟩ := HK2.out.seven
  by_cases h3 : 0 ≤ a
  · by_cases h4 : a ≤ clock
    · have H3 := Lib.hid h3
      have H4 := Lib.hid h4
      go_wp2_with fail
      refine (stlone_any u f d xA xn xc bl w2 HX2.out.1 HX2.out.2).mono ?_
      rintro e w3 ⟨g, rfl, hms, hb3⟩
      have HB3 := Lib.hid (HB2.out.trans (hb3.mono HB2.out.size))
      have HMS := Lib.hid hms
      clear hb3 k0 k1 k2 k3 k4 k5 k6 c0 HX2 hms h3 h4
      go_wp2_with fail
      refine (right_any ⟨#[]⟩ 1 4294967296 (some ⟨g, 0, none⟩) 1 1 [⟨u, f, d, bl⟩] w3 HMS.out (by omega)).mono ?_
      rintro e w4 ⟨rfl, hb4⟩
      have HB4 := Lib.hid (HB3.out.trans (hb4.mono HB3.out.size))
      have HR : Hid (tbMay clock nt ⟨id, nm, a, u, f, d, bl⟩ = okBx ⟨⟨#[]⟩, 1, 4294967296, [⟨u, f, d, bl⟩]⟩) := Lib.hid (by rw [HE.out true true true true _ H1.out H2.out (decide_eq_true H3.out) (decide_eq_true H4.out) rfl]; rfl)
      clear hb4
      go_wp2_with fail
      go_ret
      exact ⟨by rw [HR.out] <;> rfl, HB4.out⟩
    · have HR : Hid (tbMay clock nt ⟨id, nm, a, u, f, d, bl⟩ = false) := Lib.hid (HE.out true true true false _ H1.out H2.out (decide_eq_true h3) (decide_eq_false h4) rfl)
      go_wp2_with fail
      go_ret
      exact ⟨ret_bool (by rw [HR.out] <;> first | rfl | simp [h3, h4]), HB2.out⟩
  · have HR : Hid (tbMay clock nt ⟨id, nm, a, u, f, d, bl⟩ = false) := Lib.hid (HE.out true true false _ _ H1.out H2.out (decide_eq_false h3) rfl rfl)
    go_wp2_with fail
    go_ret
    exact ⟨ret_bool (by rw [HR.out] <;> first | rfl | simp [h3]), HB2.out⟩
set_option maxRecDepth 20000 in
set_option maxHeartbeats 8000000 in
theorem sthoMay_any (bs : Nat) (nh : Int) (l : List Hol) (w : World) (hK : Kinds w) (hc : w.cell? ⟨bs, 8, none⟩ = some (.int .i64 nh)) (hsz : ∀ b ∈ l, b.box.size ≤ 140737488355328) :
    CallP Tryz.prog 133 #[.pointer (some ⟨bs, 0, none⟩)] (fun x => .agg (hhA x)) HhIn Hh.hol l (hoMay nh) w := by
  intro W x hW hm hx
  have hs := hsz _ hm
  obtain ⟨id, nm, xA, xn, xc, st⟩ := x
  show Calls Tryz.prog 133 #[.agg #[.int .i64 id, .string nm, .slice xA xn xc], .pointer (some ⟨bs, 0, none⟩)] W _
  replace hs : nm.size ≤ 140737488355328 := hs
  have hb1 : Below W.heap.size W (W.alloc (.cells #[.int .i64 id, .string nm, .slice xA xn xc] 71)) := (Below.refl _ _).alloc (Nat.le_refl _) _
  have hk1 : Bk (W.alloc (.cells #[.int .i64 id, .string nm, .slice xA xn xc] 71)) W.heap.size 71 #[.int .i64 id, .string nm, .slice xA xn xc] := Bk.new _ _ _
  have hcw := (hW.cell (p := ⟨bs, 8, none⟩) (World.block_lt_of_cell? _ _ hc)).trans hc
  have c8 := (hb1.cell (p := ⟨bs, 8, none⟩) (World.block_lt_of_cell? _ _ hcw)).trans hcw
  have HX := Lib.hid (hhStays.later_ hx hb1)
  have HB1 := Lib.hid hb1
  have HKK := Lib.hid ((hK.below hW).below hb1)
  have k0 := hk1.cell 0
  have k1 := hk1.cell 1
  have k2 := hk1.cell 2
  have HS := Lib.hid hs
  clear hs hx hm hW hc hb1 hk1 hcw hsz hK
  have HE : Hid (∀ a1 b1 : Bool, gvB id nh = a1 → rightE (evHold nm st) = b1 → hoMay nh (Hh.hol ⟨id, nm, xA, xn, xc, st⟩) = (a1 && b1)) := Lib.hid (fun a1 b1 h1 h2 => by unfold hoMay; exact (congr (congrArg and h1) h2))
  go_enter Tryz.func133, Tryz.ntmps133
  go_wp2_with fail
  refine (stisGiven_any id nh _).mono ?_
  generalize W.alloc (.cells #[.int .i64 id, .string nm, .slice xA xn xc] 71) = W1 at *
  rintro e w1 ⟨rfl, rfl⟩
  cases h1 : gvB id nh
  · have HR : Hid (hoMay nh (Hh.hol ⟨id, nm, xA, xn, xc, st⟩) = false) := Lib.hid (HE.out false _ h1 rfl)
    clear h1
    go_wp2_with fail
    go_ret
    exact ⟨by rw [HR.out] <;> rfl, HB1.out⟩
  have H1 := Lib.hid h1
  clear h1
  go_wp2_with fail
  refine (evRight_any ⟨evHold nm st, none, 0, 0, xA, xn, xc, none, 0, 0⟩ _ ⟨Col.nil, HX.out.1, Bytes.nil, Nat.zero_le _, HX.out.2, Nat.zero_le _, HS.out, Nat.zero_le _⟩ HKK.out).mono ?_
  rintro e w2 ⟨rfl, hb2⟩
  have HB2 := Lib.hid (HB1.out.trans (hb2.mono HB1.out.size))
  have HR : Hid (hoMay nh (Hh.hol ⟨id, nm, xA, xn, xc, st⟩) = rightE (evHold nm st)) := Lib.hid (by rw [HE.out true _ H1.out rfl]; rfl)
  clear hb2
  go_wp2_with fail
  go_ret
  exact ⟨by rw [HR.out] <;> rfl, HB2.out⟩
end Go.Proofs.YtbogjfbfgbhdbaaGreatDoor
namespace Go.Proofs.YtbogjfbfgbhdbaaGreatDoor
set_option linter.unusedVariables false
set_option linter.unusedSimpArgs false
open Go.RowKit Go.Maps
set_option linter.unusedVariables false
set_option linter.unusedSimpArgs false
theorem lawI : Keyed Tryz.prog 3 := int_keyed Tryz.underlying3
def unitElem (_ : Value) : Option (DataW Unit × List MemPlace) := some (.lit (.int .i64 0), [])
theorem wf_valid {z : Int} (h : 1 ≤ z ∧ z ≤ 4294967295) : (Lit.int .i64 z).wf = true := WalkArith.wf_i64 (by omega)
def SetIs (w : World) (b n : Nat) (S : List Int) : Prop := ∃ D : DataW Unit, w.ownsMap Tryz.prog 3 unitElem b n D ∧ (∀ z, has D (.int .i64 z) = decide (z ∈ S)) ∧ Maps.size D ≤ S.length ∧ (Maps.size D = S.length ↔ S.Nodup)
theorem SetIs.kept {w w' : World} {b n : Nat} {S : List Int} {row : Option Nat} (h : SetIs w b n S) (hg : w.grownBy w' row) (hne : some b ≠ row) : SetIs w' b n S := by
  obtain ⟨D, h1, r⟩ := h
  exact ⟨D, h1.kept hg hne, r⟩
theorem SetIs.made (w : World) : SetIs (w.alloc (.map #[] 0)) w.heap.size 0 [] := ⟨_, World.ownsMap_made _ _ _ _, fun z => by simp [has], by simp [Maps.size], by simp [Maps.size]⟩
theorem set_put {D : DataW Unit} {S : List Int} {v : Int} (hD : Tidy D) (hw : (Lit.int .i64 v).wf = true) (h1 : ∀ z, has D (.int .i64 z) = decide (z ∈ S)) (h2 : Maps.size D ≤ S.length) (h3 : Maps.size D = S.length ↔ S.Nodup) (d : DataW Unit) :
    (∀ z, has (D.put (.int .i64 v) d) (.int .i64 z) = decide (z ∈ S ++ [v])) ∧ Maps.size (D.put (.int .i64 v) d) ≤ (S ++ [v]).length ∧ (Maps.size (D.put (.int .i64 v) d) = (S ++ [v]).length ↔ (S ++ [v]).Nodup) := by
  have hs := size_put (k := .int .i64 v) hD d
  rw [h1 v] at hs
  refine ⟨fun z => ?_, ?_, ?_⟩
  · by_cases hz : z = v
    · subst hz
      rw [has_put_same hD.isMap (by simp [WideAt.IsKeyLit]) d]
      simp
    · rw [has_put_other (by intro e; injection e with _ e; exact hz e) d, h1 z]
      simp [hz]
  · rw [List.length_append, hs]
    split <;> simp <;> omega
  · rw [List.length_append, hs, List.nodup_append]
    by_cases hv : v ∈ S
    · simp only [hv, decide_true, if_true, List.length_singleton]
      constructor
      · intro e; omega
      · intro e; exact absurd rfl (e.2.2 v hv v (List.mem_singleton_self v))
    · simp only [hv, decide_false, Bool.false_eq_true, if_false, List.length_singleton]
      constructor
      · intro e
        refine ⟨h3.1 (by omega), (by simp), fun a ha b hb e2 => ?_⟩
        rw [List.mem_singleton.1 hb] at e2
        exact hv (e2 ▸ ha)
      · intro e
        have := h3.2 e.1
        omega
set_option maxRecDepth 20000 in
set_option maxHeartbeats 4000000 in
theorem stvalids_any (A : Option Addr) (n c : Nat) (l : List Bx) (w : World) (hl : BoxesIn w w.heap.size A n l) (hn : n ≤ 1000000) (hv : ∀ b ∈ l, 1 ≤ b.valid ∧ b.valid ≤ 4294967295) :
    Calls Tryz.prog 122 #[.slice A n c] w (SaysB (decide (l.map Bx.valid).Nodup) w) := by
  have hmm := @run_makeMap Tryz.prog
  have HL := Lib.hid hl
  have HV := Lib.hid hv
  clear hl hv
  go_enter Tryz.func122, Tryz.ntmps122
  go_wp2_with fail
  clear hmm
  go_loopw [9] (fun i wx => ∃ k : Nat, k ≤ n ∧ i = .int .i64 (k : Int) ∧ SetIs wx w.heap.size k ((l.take k).map Bx.valid) ∧ Below w.heap.size w wx ∧ w.heap.size < wx.heap.size) (fun i _ => n - (intOf i).toNat)
  case atStart => exact ⟨0, Nat.zero_le _, rfl, by simpa using SetIs.made w, (Below.refl _ _).alloc (Nat.le_refl _) _, by simp⟩
  case round =>
    obtain ⟨k, hk, rfl, hs, hb, hlt0⟩ := hrel
    have HB := Lib.hid hb
    have HS := Lib.hid hs
    have HLT := Lib.hid hlt0
    clear hb hs hlt0
    by_cases hlt : k < n
    · obtain ⟨b, o, x, rfl, hbb, hla, htk, hrow, hin⟩ := (HL.out.below bhStays HB.out (Nat.le_refl _)).at_ hlt
      have hval := HV.out _ (List.mem_of_getElem? hla)
      have HTK : Hid (((l.take (k + 1)).map Bx.valid) = ((l.take k).map Bx.valid) ++ [x.b.valid]) := Lib.hid (by rw [htk, List.map_append]; rfl)
      have HROW := Lib.hid hrow
      have hk0 : (0 : Int) ≤ (k : Int) := by omega
      have hkn : (k : Int) < (n : Int) := by omega
      clear hla htk hrow hin
      go_wp2_with ((with_reducible show wpList _ _ _ (⟨some 12, _, _, _, _, _⟩ :: _) _ _); refine hold ?_)
      refine held (wpList_load_mid rfl 44 (.tmp 11) rfl b (o + k * 4) rfl (bhC x) _ HROW.out Tryz.underlying44 rfl (by kernel_rfl) ?_)
      obtain ⟨⟨nm, v, nx, ms⟩, xA, xn, xc⟩ := x
      unfold bhC
      replace hval : 1 ≤ v ∧ v ≤ 4294967295 := hval
      have hk1 : Bk (wr.alloc (.cells #[.string nm, .int .i64 v, .int .i64 nx, .slice xA xn xc] 44)) wr.heap.size 44 #[.string nm, .int .i64 v, .int .i64 nx, .slice xA xn xc] := Bk.new _ _ _
      have d1 := hk1.cell 1
      have HM1 := Lib.hid (HS.out.kept (World.grownBy_alloc wr (.cells #[.string nm, .int .i64 v, .int .i64 nx, .slice xA xn xc] 44) none) (by simp))
      have HB1 := Lib.hid (HB.out.alloc HB.out.size (.cells #[.string nm, .int .i64 v, .int .i64 nx, .slice xA xn xc] 44))
      have HLT1 := Lib.hid (show w.heap.size < (wr.alloc (.cells #[.string nm, .int .i64 v, .int .i64 nx, .slice xA xn xc] 44)).heap.size by have := HLT.out; simp; omega)
      clear hk1 HS
      go_wp2_with ((with_reducible show wpList _ _ _ (⟨none, Op.mapUpdate _ _ _ _, _, _, _, _⟩ :: _) _ _); refine hold ?_)
      clear d1
      generalize wr.alloc (.cells #[.string nm, .int .i64 v, .int .i64 nx, .slice xA xn xc] 44) = W1 at *
      obtain ⟨D, hD, h1, h2, h3⟩ := HM1.out
      have HP := Lib.hid (set_put (hD.tidy lawI) (wf_valid hval) h1 h2 h3 (.lit (.int .i64 0)))
      refine held (wpList_mapUpdate_own _ rfl _ _ _ 190 rfl 3 191 lawI Tryz.underlying190 _ w.heap.size k D rfl hD (by unfold maxLen; omega) (.int .i64 v) (.agg #[]) (.int .i64 v) rfl rfl (keyOf_int_mk Tryz.underlying3 (wf_valid hval)) (.lit (.int .i64 0)) [] rfl ?_)
      intro W2 hown hg2
      have HM2 : Hid (SetIs W2 w.heap.size (k + 1) ((l.take (k + 1)).map Bx.valid)) := Lib.hid ⟨_, hown, by rw [HTK.out]; exact HP.out⟩
      have HB2 := Lib.hid (HB1.out.grown hg2 HB1.out.size (fun q hq => by injection hq with hq; omega))
      have HLT2 := Lib.hid (show w.heap.size < W2.heap.size by have := hg2.size; have := HLT1.out; omega)
      clear hown hg2 hD h1 h2 h3 HM1 HP HB1 HLT1
      go_wp2_with fail
      go_roundw
      case rel => exact ⟨k + 1, by omega, by go_num, HM2.out, HB2.out, HLT2.out⟩
      case measure => simp [intOf]; omega
    · have hkn : ¬ (k : Int) < (n : Int) := by omega
      obtain rfl : k = n := by omega
      have HR : Hid (l.take k = l) := Lib.hid (List.take_of_length_le (by rw [HL.out.len]; exact Nat.le_refl _))
      obtain ⟨D, hD, h1, h2, h3⟩ := HS.out
      have hlen := fun ty => hD.len Tryz.underlying190 ty
      rw [HR.out, List.length_map, HL.out.len] at h3
      have HQ : Hid (((Maps.size D : Int) == (k : Int)) = decide (l.map Bx.valid).Nodup) := Lib.hid (by
        by_cases hq : Maps.size D = k
        · rw [decide_eq_true (h3.1 hq), hq]; simp
        · rw [decide_eq_false (fun e => hq (h3.2 e))]; simp; omega)
      clear hD h1 h2 h3
      go_wp2_with fail
      go_ret
      exact ⟨ret_bool (by rw [← HQ.out] <;> first | rfl | simp), HB.out⟩
end Go.Proofs.YtbogjfbfgbhdbaaGreatDoor
