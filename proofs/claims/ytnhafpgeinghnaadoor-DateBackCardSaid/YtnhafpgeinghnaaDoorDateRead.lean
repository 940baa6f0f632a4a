/-
  Contracts over package date: the reading of a date, and whether it is wrong: need, number, two.
-/
import Derived.Test.YtnhafpgeinghnaaDoorDateLib
import Derived.OwnWalk
namespace Go.Proofs.YtnhafpgeinghnaaDoor
open Go.RowKit
set_option linter.unusedVariables false
set_option linter.unusedSimpArgs false

/-- a reading in block g: is it wrong? -/
def Rd (w : World) (g : Nat) (b : Bool) : Prop := w.heap[g]? = some (.cells #[.bool b] 39) ∧ 0 < g
section
variable {w w' : World} {g : Nat} {b : Bool}
theorem Rd.lt (h : Rd w g b) : g < w.heap.size := (Array.getElem?_eq_some_iff.1 h.1).1
theorem Rd.cell (h : Rd w g b) : w.cell? ⟨g, 0, none⟩ = some (.bool b) := by rw [cell_of_row w g 0 _ _ (0, 0) h.1]; rfl
theorem Rd.frz (h : Rd w g b) : w.frozen? ⟨g, 0, none⟩ = false := frozen_of_row w g 0 _ _ h.1
theorem Rd.below {B : Nat} (h : Rd w g b) (hb : Below B w w') (hB : g < B) : Rd w' g b := ⟨(hb.block g hB).trans h.1, h.2⟩
theorem Rd.put (h : Rd w g b) (b' : Bool) : Rd (w.setCell ⟨g, 0, none⟩ (.bool b')) g b' := by
  have := heap_setCell_same w g 0 _ _ (.bool b') h.1
  exact ⟨this, h.2⟩
theorem Rd.new (w : World) (h : 0 < w.heap.size) : Rd (w.alloc (.cells #[.bool false] 39)) w.heap.size false := ⟨heap_alloc_new w _, h⟩
end
theorem grownBy_setCell (w : World) (b i : Nat) (v : Value) : w.grownBy (w.setCell ⟨b, i, none⟩ v) (some b) :=
  ⟨rfl, rfl, rfl, by simp, fun k _ hr => Below.heap_setCell w _ v k (fun e => hr (by rw [e]))⟩
theorem grown_trans {a w w' : World} {row : Option Nat} (h : a.grownBy w row) (k : w.grownBy w' row) : a.grownBy w' row :=
  ⟨k.os.trans h.os, k.tape.trans h.tape, k.output.trans h.output, Nat.le_trans h.size k.size, fun j hj hr => (k.block j (Nat.lt_of_lt_of_le hj h.size) hr).trans (h.block j hj hr)⟩
theorem grown_cell {a w : World} {g : Nat} (h : a.grownBy w (some g)) {b : Nat} (hb : b < a.heap.size) (hg : b ≠ g) (i : Nat) : w.cell? ⟨b, i, none⟩ = a.cell? ⟨b, i, none⟩ := by
  have := h.block b hb (fun e => hg (Option.some.inj e))
  unfold World.cell?
  simp only [this]
theorem Strs.lt {w : World} {b o : Nat} {l : List (List Nat)} (h : Strs w b o l) (hl : l ≠ []) : b < w.heap.size := by
  obtain ⟨p, r, rfl⟩ := List.exists_cons_of_ne_nil hl
  exact World.block_lt_of_cell? _ _ (h 0 p rfl)
theorem Strs.grown {w w' : World} {b o g : Nat} {l : List (List Nat)} (h : Strs w b o l) (hg : w.grownBy w' (some g)) (hb : b < w.heap.size) (hne : b ≠ g) : Strs w' b o l := h.keep fun i => grown_cell hg hb hne i
theorem Mon.grown {w w' : World} {g : Nat} (h : Mon w) (hg : w.grownBy w' (some g)) (hne : 0 < g) : Mon w' := h.keep fun o => grown_cell hg h.lt (by omega) o

/-- behind a call of a method: what it gave, whether the reading is wrong, and all else is as it was -/
def Gave (v : Value) (g : Nat) (b : Bool) (w : World) (x : Ending) (w' : World) : Prop := x = .returned v ∧ Rd w' g b ∧ w.grownBy w' (some g)

set_option maxHeartbeats 400000 in
theorem need_any (g : Nat) (b ok : Bool) (w : World) (h : Rd w g b) :
    Calls Tryd.prog 22 #[.pointer (some ⟨g, 0, none⟩), .bool ok] w (Gave (.tuple #[]) g (b || !ok) w) := by
  have h1 := h.cell
  have h2 := h.frz
  have hp := h.put (b || !ok)
  cases b
  · rw [Bool.false_or] at hp ⊢
    have HP := Lib.hid hp
    clear h hp
    go_enter Tryd.func22, Tryd.ntmps22
    go_wp2
    go_end0
    exact ⟨rfl, HP.out, grownBy_setCell _ _ _ _⟩
  · rw [Bool.true_or] at hp ⊢
    have HP := Lib.hid hp
    clear h hp
    go_enter Tryd.func22, Tryd.ntmps22
    go_wp2
    go_end0
    exact ⟨rfl, HP.out, grownBy_setCell _ _ _ _⟩

/-- a number that is read, where the reading is wrong or its text isn't one, is 0 -/
def readV (b : Bool) (l : List Nat) (a m : Nat) : Nat := if (b || !numOk l a m) = true then 0 else valN l
theorem readV_bd (b : Bool) (l : List Nat) (a m : Nat) : readV b l a m < 10 ^ m := by
  unfold readV
  split
  · exact Nat.pow_pos (by omega)
  · rename_i h
    cases hk : numOk l a m
    · exact absurd (by rw [hk]; cases b <;> rfl) h
    · exact numOk_lt hk
theorem all_take_snoc {p : Nat → Bool} (l : List Nat) (k x : Nat) (hx : l[k]? = some x) : (l.take (k + 1)).all p = ((l.take k).all p && p x) := by
  rw [List.take_add_one, hx]
  simp
theorem take_snoc_n (l : List Nat) (k x : Nat) (hx : l[k]? = some x) : l.take (k + 1) = l.take k ++ [x] := by
  rw [List.take_add_one, hx]; rfl
theorem all_false_of {p : Nat → Bool} {l : List Nat} {k x : Nat} (hx : l[k]? = some x) (h : p x = false) : l.all p = false := by
  rw [List.all_eq_false]
  exact ⟨x, List.mem_of_getElem? hx, by rw [h]; exact Bool.false_ne_true⟩

/-- what holds while a number is read -/
def NumAt (w : World) (g : Nat) (b1 : Bool) (l : List Nat) (k : Nat) (n : Nat) (wx : World) : Prop :=
  Rd wx g b1 ∧ w.grownBy wx (some g) ∧ (l.take k).all digB = true ∧ n = valN (l.take k) ∧ (0 < k → b1 = false)

theorem stop_b {b lok al : Bool} (h : (b || !lok) = true) : (b || !(lok && al)) = true := by cases b <;> cases lok <;> cases al <;> simp_all
theorem stop_d {b lok : Bool} : (b || !(lok && false)) = true := by cases b <;> cases lok <;> rfl

set_option maxRecDepth 20000 in
set_option maxHeartbeats 2000000 in
theorem number_any (g : Nat) (s : ByteArray) (a m : Nat) (b : Bool) (w : World) (h : Rd w g b) (hs : s.size ≤ 4294967296) (hm : m ≤ 8) (ha : a ≤ 8) :
    Calls Tryd.prog 47 #[.pointer (some ⟨g, 0, none⟩), .string s, .int .i64 (a : Int), .int .i64 (m : Int)] w (Gave (.int .i64 (readV b (nats s) a m : Nat)) g (b || !numOk (nats s) a m) w) := by
  have hl := nats_length s
  have h64 : s.size ≤ 9223372036854775807 := by omega
  by_cases h1 : a ≤ s.size <;> by_cases h2 : s.size ≤ m
  all_goals
    obtain ⟨lok, hlok⟩ : ∃ q, (decide (a ≤ s.size) && decide (s.size ≤ m)) = q := ⟨_, rfl⟩
    have HOK : Hid (numOk (nats s) a m = (lok && (nats s).all digB)) := Lib.hid (by unfold numOk; rw [hl, hlok])
    have HL : Hid (lok = true → s.size ≤ 8) := Lib.hid (by rw [← hlok]; simp; omega)
    have HV : Hid (lok = (decide (a ≤ s.size) && decide (s.size ≤ m))) := Lib.hid hlok.symm
    have HN := Lib.hid hl
    clear hlok hl
    go_enter Tryd.func47, Tryd.ntmps47
    go_wp2_with fail
    refine (need_any g b _ w h).mono ?_
    rintro e w1 ⟨rfl, hr1, hg1⟩
    rw [show (b || !_) = (b || !lok) by rw [HV.out]; simp [h1, h2]] at hr1
    obtain ⟨b1, hb1⟩ : ∃ b1, (b || !lok) = b1 := ⟨_, rfl⟩
    rw [hb1] at hr1
    have HB := Lib.hid hb1
    have HR := Lib.hid hr1
    have HG := Lib.hid hg1
    clear hb1 hr1 hg1
    go_wp2_with fail
    go_loopw [9, 25] (fun n i wx => ∃ k v : Nat, k ≤ s.size ∧ i = .int .i64 (k : Int) ∧ n = .int .i64 (v : Int) ∧ NumAt w g b1 (nats s) k v wx) (fun _ i _ => s.size - (intOf i).toNat)
    case atStart => exact ⟨0, 0, Nat.zero_le _, rfl, rfl, HR.out, HG.out, by simp, by simp [valN], fun hh => absurd hh (by omega)⟩
    case round =>
      obtain ⟨k, v, hk, rfl, rfl, hat⟩ := hrel
      obtain ⟨hrx, hgx, hall, hv, hb0⟩ := hat
      by_cases hlt : k < s.size
      · have hx := nats_byte s k hlt
        have HT := Lib.hid (all_take_snoc (p := digB) (nats s) k _ hx)
        have HS := Lib.hid (take_snoc_n (nats s) k _ hx)
        have HF : Hid (digB s[k].toNat = false → (nats s).all digB = false) := Lib.hid (fun hf => all_false_of hx hf)
        have HX := Lib.hid hx
        have HA := Lib.hid hall
        have HVV := Lib.hid hv
        have hvl := valN_lt _ hall
        rw [← hv] at hvl
        have H0 := Lib.hid hb0
        have HGX := Lib.hid hgx
        clear hx hall hv hb0 hgx
        have hcb : s[k].toNat < 256 := s[k].toNat_lt
        cases hb : b1
        · rw [hb] at hrx HB
          have hlk : lok = true := by have := HB.out; cases lok <;> simp_all
          have hs8 := HL.out hlk
          have hv9 : v < 100000000 := by
            refine Nat.lt_of_lt_of_le hvl ?_
            refine Nat.le_trans (Nat.pow_le_pow_right (by omega) (show ((nats s).take k).length ≤ 8 by rw [List.length_take]; omega)) (by omega)
          have HB2 := Lib.hid hb
          clear hb hvl hlk
          by_cases hc1 : 48 ≤ s[k].toNat
          · by_cases hc2 : s[k].toNat ≤ 57
            · have HD : Hid (digB s[k].toNat = true) := Lib.hid (digB_iff.2 ⟨hc1, hc2⟩)
              have hd : decide ((s[k].toNat : Int) ≤ 57) = true := decide_eq_true (by omega)
              go_wp2_with fail
              refine (need_any g false _ wr hrx).mono ?_
              rintro e w2 ⟨rfl, hr2, hg2⟩
              rw [show (false || !true) = false from rfl] at hr2
              have hcell := hr2.cell
              have HR2 := Lib.hid hr2
              have HG2 := Lib.hid hg2
              clear hr2 hg2 hrx
              go_wp2_with fail
              go_roundw
              case rel => exact ⟨k + 1, v * 10 + (s[k].toNat - 48), by omega, by go_num, by go_num, HR2.out, grown_trans HGX.out HG2.out, by rw [HT.out, HA.out, HD.out]; rfl, by rw [HS.out, valN_snoc, HVV.out], fun _ => rfl⟩
              case measure => simp [intOf]; omega
            · have HD : Hid (digB s[k].toNat = false) := Lib.hid (by unfold digB; simp; omega)
              have hd : decide ((s[k].toNat : Int) ≤ 57) = false := decide_eq_false (by omega)
              go_wp2_with fail
              refine (need_any g false _ wr hrx).mono ?_
              rintro e w2 ⟨rfl, hr2, hg2⟩
              rw [show (false || !false) = true from rfl] at hr2
              have hcell := hr2.cell
              have HR2 := Lib.hid hr2
              have HG2 := Lib.hid hg2
              clear hr2 hg2 hrx
              go_wp2_with fail
              go_ret
              have hz : (b || !numOk (nats s) a m) = true := by rw [HOK.out, HF.out HD.out]; exact stop_d
              exact ⟨by unfold readV; rw [hz]; rfl, by rw [hz]; exact HR2.out, grown_trans HGX.out HG2.out⟩
          · have HD : Hid (digB s[k].toNat = false) := Lib.hid (by unfold digB; simp; omega)
            go_wp2_with fail
            refine (need_any g false _ wr hrx).mono ?_
            rintro e w2 ⟨rfl, hr2, hg2⟩
            rw [show (false || !false) = true from rfl] at hr2
            have hcell := hr2.cell
            have HR2 := Lib.hid hr2
            have HG2 := Lib.hid hg2
            clear hr2 hg2 hrx
            go_wp2_with fail
            go_ret
            have hz : (b || !numOk (nats s) a m) = true := by rw [HOK.out, HF.out HD.out]; exact stop_d
            exact ⟨by unfold readV; rw [hz]; rfl, by rw [hz]; exact HR2.out, grown_trans HGX.out HG2.out⟩
        · rw [hb] at hrx HB
          have hz : (b || !numOk (nats s) a m) = true := by rw [HOK.out]; exact stop_b HB.out
          have HZ := Lib.hid hz
          have HB2 := Lib.hid hb
          clear hb hz hvl
          rcases (by omega : s[k].toNat < 48 ∨ (48 ≤ s[k].toNat ∧ s[k].toNat ≤ 57) ∨ (48 ≤ s[k].toNat ∧ 57 < s[k].toNat)) with hc1 | ⟨hc1, hc2⟩ | ⟨hc1, hc2⟩
          all_goals
            go_wp2_with fail
            refine (need_any g true _ wr hrx).mono ?_
            rintro e w2 ⟨rfl, hr2, hg2⟩
            rw [Bool.true_or] at hr2
            have hcell := hr2.cell
            have HR2 := Lib.hid hr2
            have HG2 := Lib.hid hg2
            clear hr2 hg2 hrx
            go_wp2_with fail
            go_ret
            exact ⟨by unfold readV; rw [HZ.out]; rfl, by rw [HZ.out]; exact HR2.out, grown_trans HGX.out HG2.out⟩
      · have hks : k = s.size := by omega
        have htk : (nats s).take k = nats s := List.take_of_length_le (by rw [HN.out]; omega)
        rw [htk] at hall hv
        have hfin : (b || !numOk (nats s) a m) = b1 := by rw [HOK.out, hall, Bool.and_true]; exact HB.out
        have hval : readV b (nats s) a m = v := by
          unfold readV
          rw [hfin, hv]
          cases hb : b1
          · rfl
          · have : k = 0 := by
              rcases Nat.eq_zero_or_pos k with h0 | h0
              · exact h0
              · rw [hb0 h0] at hb; cases hb
            have hn : nats s = [] := List.length_eq_zero_iff.1 (by rw [HN.out]; omega)
            rw [hn]; rfl
        have HFI := Lib.hid hfin
        have HVA := Lib.hid hval
        have HRX := Lib.hid hrx
        have HGX := Lib.hid hgx
        clear hfin hval hrx hgx hall hv hb0 htk hks
        go_wp2_with fail
        go_ret
        exact ⟨by rw [HVA.out] <;> rfl, by rw [HFI.out]; exact HRX.out, HGX.out⟩

set_option maxHeartbeats 400000 in
theorem two_any (g : Nat) (s : ByteArray) (m : Nat) (b : Bool) (w : World) (h : Rd w g b) (hs : s.size ≤ 4294967296) (hm : m ≤ 1000) :
    Calls Tryd.prog 51 #[.pointer (some ⟨g, 0, none⟩), .string s, .int .i64 (m : Int)] w (Gave (.int .i64 (readV b (nats s) 2 2 : Nat)) g (b || !twoOk (nats s) m) w) := by
  obtain ⟨v, hv⟩ : ∃ v, readV b (nats s) 2 2 = v := ⟨_, rfl⟩
  have hbd := readV_bd b (nats s) 2 2
  rw [hv] at hbd ⊢
  have HV := Lib.hid hv
  clear hv
  by_cases hlt : v < m
  all_goals
    go_enter Tryd.func51, Tryd.ntmps51
    go_wp2_with fail
    refine (number_any g s 2 2 b w h hs (by omega) (by omega)).mono ?_
    rintro e w1 ⟨rfl, hr1, hg1⟩
    rw [HV.out]
    have HG1 := Lib.hid hg1
    clear hg1
    go_wp2_with fail
    refine (need_any g _ _ w1 hr1).mono ?_
    rintro e w2 ⟨rfl, hr2, hg2⟩
    have HR2 := Lib.hid hr2
    have HG2 := Lib.hid hg2
    clear hr2 hg2 hr1
    go_wp2_with fail
    go_ret
    refine ⟨rfl, ?_, grown_trans HG1.out HG2.out⟩
    have e : (b || !twoOk (nats s) m) = ((b || !numOk (nats s) 2 2) || !decide (v < m)) := by
      have hv := HV.out
      unfold twoOk readV at *
      cases b <;> cases hk : numOk (nats s) 2 2 <;> simp_all
    rw [e]
    simpa [hlt] using HR2.out
end Go.Proofs.YtnhafpgeinghnaaDoor
