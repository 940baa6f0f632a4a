/-
  Contracts over package event and the document's own: a kind's parts; a letter in a text; great events; may a part be?
-/
import Derived.Test.YtcajmigkpcjbcaaDoorQEventB
import Derived.Lib.OthersKept
namespace Go.Proofs.YtcajmigkpcjbcaaDoor
set_option linter.unusedVariables false
set_option linter.unusedSimpArgs false
open Go.RowKit
set_option linter.unusedVariables false
set_option linter.unusedSimpArgs false

/-- the table of kinds, as the program's text lays it -/
def kindC : List Value := [.int .i64 (((0 : Nat) : Int) + 1), .string (strOf (letK 0)), .int .i64 (((1 : Nat) : Int) + 1), .string (strOf (letK 1)), .int .i64 (((2 : Nat) : Int) + 1), .string (strOf (letK 2)), .int .i64 (((3 : Nat) : Int) + 1), .string (strOf (letK 3)), .int .i64 (((4 : Nat) : Int) + 1), .string (strOf (letK 4)), .int .i64 (((5 : Nat) : Int) + 1), .string (strOf (letK 5)), .int .i64 (((6 : Nat) : Int) + 1), .string (strOf (letK 6)), .int .i64 (((7 : Nat) : Int) + 1), .string (strOf (letK 7)), .int .i64 (((8 : Nat) : Int) + 1), .string (strOf (letK 8)), .int .i64 (((9 : Nat) : Int) + 1), .string (strOf (letK 9)), .int .i64 (((10 : Nat) : Int) + 1), .string (strOf (letK 10)), .int .i64 (((11 : Nat) : Int) + 1), .string (strOf (letK 11)), .int .i64 (((12 : Nat) : Int) + 1), .string (strOf (letK 12)), .int .i64 (((13 : Nat) : Int) + 1), .string (strOf (letK 13))]
def Kinds (w : World) : Prop := w.rangeAt 0 0 kindC
theorem Kinds.lt {w : World} (h : Kinds w) : 0 < w.heap.size := World.block_lt_of_cell? _ _ (h 0 _ rfl)
theorem Kinds.keep {w w' : World} (h : Kinds w) (hk : ∀ o, w'.cell? ⟨0, o, none⟩ = w.cell? ⟨0, o, none⟩) : Kinds w' := fun j v hv => by rw [hk]; exact h j v hv
theorem Kinds.below {w w' : World} (h : Kinds w) (hb : Below w.heap.size w w') : Kinds w' := h.keep fun o => hb.cell (p := ⟨0, o, none⟩) h.lt
theorem Kinds.below' {w w' : World} {B : Nat} (h : Kinds w) (hb : Below B w w') (hB : 0 < B) : Kinds w' := h.keep fun o => hb.cell (p := ⟨0, o, none⟩) hB
set_option maxRecDepth 20000 in
theorem index_kinds (k : Nat) (hk : k < 14) (W : World) : (Instr.index 59 (.agg kindC.toArray) (.int .i64 (k : Int))).run Tryd.prog W = .ok (.agg #[.int .i64 ((k : Int) + 1), .string (strOf (letK k))]) W := by
  rcases (by omega : k = 0 ∨ k = 1 ∨ k = 2 ∨ k = 3 ∨ k = 4 ∨ k = 5 ∨ k = 6 ∨ k = 7 ∨ k = 8 ∨ k = 9 ∨ k = 10 ∨ k = 11 ∨ k = 12 ∨ k = 13) with rfl | rfl | rfl | rfl | rfl | rfl | rfl | rfl | rfl | rfl | rfl | rfl | rfl | rfl
  all_goals
    simp [Instr.index, asIntOf, Sem.run_bind, run_underlying Tryd.underlying59, part, Tryd.isAgg58, Tryd.sizeOf58, kindC]
    try rfl
theorem parts_hit {k : Int} {j : Nat} (hj : j < 14) (h : (j : Int) + 1 = k) : partsN k = letK j := by
  subst h
  unfold partsN
  rw [if_pos (by omega), show ((j : Int) + 1).toNat - 1 = j by omega]
theorem parts_miss {k : Int} (h : ∀ j : Nat, j < 14 → (j : Int) + 1 ≠ k) : partsN k = [] := by
  unfold partsN
  refine if_neg fun ⟨h1, h2⟩ => h (k.toNat - 1) (by omega) (by omega)
theorem miss_next {k : Int} {j : Nat} (h : ∀ i : Nat, i < j → (i : Int) + 1 ≠ k) (hj : (j : Int) + 1 ≠ k) : ∀ i : Nat, i < j + 1 → (i : Int) + 1 ≠ k := fun i hi => by
  by_cases e : i = j
  · rw [e]; exact hj
  · exact h i (by omega)
def PartsIs (k : Int) (w : World) (e : Ending) (w' : World) : Prop := e = .returned (.string (strOf (partsN k))) ∧ Below w.heap.size w w'
set_option maxRecDepth 20000 in
set_option maxHeartbeats 4000000 in
theorem evParts_any (k : Int) (w : World) (hA : Kinds w) : Calls Tryd.prog 14 #[.int .i64 k] w (PartsIs k w) := by
  have HRG := Lib.hid hA
  clear hA
  go_enter Tryd.func14, Tryd.ntmps14
  go_wp2_with ((with_reducible show wpList _ _ _ (⟨some 5, _, _, _, _, _⟩ :: _) _ _); refine hold ?_)
  refine held (wpList_load_mid rfl 59 (.global 0) rfl 0 0 rfl kindC (.array 14 58) HRG.out Tryd.underlying59 rfl (by kernel_rfl) ?_)
  go_wp2_with fail
  go_loopw [6] (fun i wx => ∃ j : Nat, j ≤ 14 ∧ i = .int .i64 (j : Int) ∧ (∀ i : Nat, i < j → (i : Int) + 1 ≠ k) ∧ Below w.heap.size w wx) (fun i _ => 14 - (intOf i).toNat)
  case atStart => exact ⟨0, by omega, rfl, fun i hi => by omega, Below.refl _ _⟩
  case round =>
    obtain ⟨j, hj, rfl, hm, hb⟩ := hrel
    have HB := Lib.hid hb
    have HU := Lib.hid hm
    clear hb hm
    by_cases hlt : j < 14
    · have hix := index_kinds j hlt wr
      have hj14 : (j : Int) < 14 := by omega
      by_cases hk : (j : Int) + 1 = k
      · have hk' : ((j : Int) + 1 == k) = true := by simpa using hk
        have HR := Lib.hid (parts_hit hlt hk)
        have HB2 := Lib.hid (HB.out.alloc HB.out.size (.cells #[.int .i64 ((j : Int) + 1), .string (strOf (letK j))] 58))
        clear hk
        go_wp2_with fail
        go_ret
        exact ⟨by rw [HR.out] <;> rfl, HB2.out⟩
      · have hk' : ((j : Int) + 1 == k) = false := by simpa using hk
        have HN := Lib.hid (miss_next HU.out hk)
        have HB2 := Lib.hid (HB.out.alloc HB.out.size (.cells #[.int .i64 ((j : Int) + 1), .string (strOf (letK j))] 58))
        clear hk
        go_wp2_with fail
        go_roundw
        case rel => exact ⟨j + 1, by omega, by go_num, HN.out, HB2.out⟩
        case measure => simp [intOf]; omega
    · have hj14 : ¬ (j : Int) < 14 := by omega
      have HR := Lib.hid (parts_miss (k := k) (fun i hi => HU.out i (by omega)))
      go_wp2_with fail
      go_ret
      exact ⟨by rw [HR.out] <;> rfl, HB.out⟩

set_option maxRecDepth 20000 in
set_option maxHeartbeats 4000000 in
theorem xeParts_any (k : Int) (w : World) : Calls Tryd.prog 15 #[.int .i64 k] w fun e w' => e = .returned (.string (strOf (partsN k))) ∧ w = w' := by
  by_cases h : 1 ≤ k ∧ k ≤ 14
  · rcases kind_cases h with rfl | rfl | rfl | rfl | rfl | rfl | rfl | rfl | rfl | rfl | rfl | rfl | rfl | rfl <;>
    · go_enter Tryd.func15, Tryd.ntmps15
      go_wp2_with fail
      go_ret
      exact ⟨rfl, rfl⟩
  · have HR : Hid (partsN k = []) := Lib.hid (if_neg h)
    have a1 : (k == 1) = false := int_neE (by omega)
    have a2 : (k == 2) = false := int_neE (by omega)
    have a4 : (k == 4) = false := int_neE (by omega)
    have a5 : (k == 5) = false := int_neE (by omega)
    have a3 : (k == 3) = false := int_neE (by omega)
    have a6 : (k == 6) = false := int_neE (by omega)
    have a7 : (k == 7) = false := int_neE (by omega)
    have a8 : (k == 8) = false := int_neE (by omega)
    have a9 : (k == 9) = false := int_neE (by omega)
    have a10 : (k == 10) = false := int_neE (by omega)
    have a13 : (k == 13) = false := int_neE (by omega)
    have a11 : (k == 11) = false := int_neE (by omega)
    have a12 : (k == 12) = false := int_neE (by omega)
    have a14 : (k == 14) = false := int_neE (by omega)
    clear h
    go_enter Tryd.func15, Tryd.ntmps15
    go_wp2_with fail
    go_ret
    exact ⟨by rw [HR.out] <;> rfl, rfl⟩

/-! ### Has a text a letter? -/
theorem mem_take_snoc {l : List Nat} {k x c : Nat} (h : c ∉ l.take k) (hx : l[k]? = some x) (hne : x ≠ c) : c ∉ l.take (k + 1) := by
  rw [take_snoc_n l k x hx]
  intro hm
  rcases List.mem_append.1 hm with hm | hm
  · exact h hm
  · exact hne (List.mem_singleton.1 hm).symm
set_option maxRecDepth 20000 in
set_option maxHeartbeats 1000000 in
theorem xehas_any (s : ByteArray) (c : Nat) (hs : s.size ≤ 140737488355328) (w : World) : Calls Tryd.prog 23 #[.string s, .int .u8 (c : Int)] w fun e w' => e = .returned (.bool (decide (c ∈ nats s))) ∧ w = w' := by
  go_enter Tryd.func23, Tryd.ntmps23
  go_wp2_with fail
  go_loop [5] (fun i => ∃ k : Nat, k ≤ s.size ∧ i = .int .i64 (k : Int) ∧ c ∉ (nats s).take k) (fun i => s.size - (intOf i).toNat)
  case atStart => exact ⟨0, Nat.zero_le _, rfl, by simp⟩
  case round =>
    obtain ⟨k, hk, rfl, hm⟩ := hrel
    have HM := Lib.hid hm
    clear hm
    by_cases hlt : k < s.size
    · have hk0 : (0 : Int) ≤ (k : Int) := by omega
      have hkn : (k : Int) < (s.size : Int) := by omega
      have hx : (nats s)[k]? = some s[k].toNat := by
        unfold nats
        rw [List.getElem?_map, Lib.data_getElem? s k hlt]
        rfl
      have HX := Lib.hid hx
      clear hx
      by_cases he : s[k].toNat = c
      · have he' : (((s[k].toNat : Nat) : Int) == (c : Int)) = true := by simp [he]
        have HR : Hid (decide (c ∈ nats s) = true) := Lib.hid (decide_eq_true (he ▸ List.mem_of_getElem? HX.out))
        clear he
        go_wp2_with fail
        go_ret
        exact ⟨by rw [HR.out] <;> rfl, rfl⟩
      · have he' : (((s[k].toNat : Nat) : Int) == (c : Int)) = false := by simp; omega
        have HN := Lib.hid (mem_take_snoc HM.out HX.out he)
        clear he
        go_wp2_with fail
        go_round
        case rel => exact ⟨k + 1, by omega, by go_num, HN.out⟩
        case measure => simp [intOf]; omega
    · have hkn : ¬ (k : Int) < (s.size : Int) := by omega
      have HR : Hid (decide (c ∈ nats s) = false) := Lib.hid (decide_eq_false (by have := HM.out; rwa [List.take_of_length_le (by rw [nats_length]; omega)] at this))
      go_wp2_with fail
      go_ret
      exact ⟨by rw [HR.out] <;> rfl, rfl⟩
theorem parts_nats (k : Int) : nats (strOf (partsN k)) = partsN k := nats_strOf _ fun x hx => Nat.lt_trans (partsN_lt k x hx) (by decide)
theorem parts_size (k : Int) : (strOf (partsN k)).size ≤ 4 := by rw [strOf_size]; exact (partsN_nine k).2.2
/-- has a kind a part? -/
theorem xehasP_any (k : Int) (c : Nat) (w : World) : Calls Tryd.prog 23 #[.string (strOf (partsN k)), .int .u8 (c : Int)] w fun e w' => e = .returned (.bool (decide (c ∈ partsN k))) ∧ w = w' := by
  have h := xehas_any (strOf (partsN k)) c (by have := parts_size k; omega) w
  rw [parts_nats] at h
  exact h
theorem setD_eq (l : List Rg) : setB l = (decide (l = []) || rightU l) := by
  unfold setB rightU
  rw [Bool.eq_iff_iff, Bool.or_eq_true, decide_eq_true_eq, decide_eq_true_eq, decide_eq_true_eq]
  constructor
  · rintro ⟨h1, h2⟩
    cases l with
    | nil => exact .inl rfl
    | cons a l => exact .inr ⟨by simp, h1, h2⟩
  · rintro (rfl | ⟨_, h1, h2⟩)
    · exact ⟨Nat.zero_le _, fun r hr => by cases hr⟩
    · exact ⟨h1, h2⟩
set_option maxHeartbeats 1000000 in
theorem xeset_any (A : Option Addr) (n c : Nat) (l : List Rg) (w : World) (hl : ColK 2 rgC w w.heap.size A n l) (hn : n ≤ 140737488355328) :
    Calls Tryd.prog 31 #[.slice A n c] w fun e w' => e = .returned (.bool (setB l)) ∧ w = w' := by
  by_cases h0 : n = 0
  · have h0' : ((n : Int) == 0) = true := by simp [h0]
    have HR : Hid (setB l = true) := Lib.hid (by rw [setD_eq, List.eq_nil_of_length_eq_zero (hl.1.trans h0)]; rfl)
    clear h0 hl
    go_enter Tryd.func31, Tryd.ntmps31
    go_wp2_with fail
    go_ret
    exact ⟨by rw [HR.out] <;> rfl, rfl⟩
  · have h0' : ((n : Int) == 0) = false := by simp; omega
    have HR : Hid (setB l = rightU l) := Lib.hid (by rw [setD_eq, decide_eq_false (by intro e; rw [e] at hl; exact h0 hl.1.symm)]; rfl)
    have CR := Lib.hid (x9Right_any A n c l w hl hn)
    clear h0 hl
    go_enter Tryd.func31, Tryd.ntmps31
    go_wp2_with fail
    refine CR.out.mono ?_
    rintro e w' ⟨rfl, rfl⟩
    clear CR
    go_wp2_with fail
    go_ret
    exact ⟨by rw [HR.out] <;> rfl, rfl⟩

/-! ### Great events -/
def GreatIs (h : Eh) (w : World) (e : Ending) (w' : World) : Prop := ∃ b : Bool, e = .returned (.bool b) ∧ (b = false → h.e.box.size ≤ 500 ∧ h.e.to_.size ≤ 500 ∧ h.n1 ≤ 200 ∧ h.n2 ≤ 200 ∧ h.n3 ≤ 5000) ∧ Below w.heap.size w w'
set_option maxRecDepth 20000 in
set_option maxHeartbeats 2000000 in
theorem xeGreat_any (h : Eh) (w : World) : Calls Tryd.prog 8 #[.agg (evC h)] w (GreatIs h w) := by
  obtain ⟨⟨k, t, bx, to, ids, st, md, fl, dt, nn, bd⟩, A1, n1, c1, A2, n2, c2, A3, n3, c3⟩ := h
  show Calls Tryd.prog 8 #[.agg #[.int .i64 k, .int .i64 t, .string bx, .string to, .slice A1 n1 c1, .slice A2 n2 c2, .int .i64 md, .int .i64 fl, .int .i64 dt, .int .i64 nn, .slice A3 n3 c3]] w _
  by_cases h0 : (500 : Int) < (bx.size : Int)
  ·
    go_enter Tryd.func8, Tryd.ntmps8
    go_wp2_with fail
    go_ret
    exact ⟨true, rfl, (by intro e; cases e), (Below.refl _ _).alloc (Nat.le_refl _) _⟩
  by_cases h1 : (500 : Int) < (to.size : Int)
  ·
    go_enter Tryd.func8, Tryd.ntmps8
    go_wp2_with fail
    go_ret
    exact ⟨true, rfl, (by intro e; cases e), (Below.refl _ _).alloc (Nat.le_refl _) _⟩
  by_cases h2 : (200 : Int) < (n1 : Int)
  ·
    go_enter Tryd.func8, Tryd.ntmps8
    go_wp2_with fail
    go_ret
    exact ⟨true, rfl, (by intro e; cases e), (Below.refl _ _).alloc (Nat.le_refl _) _⟩
  by_cases h3 : (200 : Int) < (n2 : Int)
  ·
    go_enter Tryd.func8, Tryd.ntmps8
    go_wp2_with fail
    go_ret
    exact ⟨true, rfl, (by intro e; cases e), (Below.refl _ _).alloc (Nat.le_refl _) _⟩
  by_cases h4 : (5000 : Int) < (n3 : Int)
  ·
    go_enter Tryd.func8, Tryd.ntmps8
    go_wp2_with fail
    go_ret
    exact ⟨true, rfl, (by intro e; cases e), (Below.refl _ _).alloc (Nat.le_refl _) _⟩
  go_enter Tryd.func8, Tryd.ntmps8
  go_wp2_with fail
  go_ret
  exact ⟨false, rfl, (fun _ => ⟨by show bx.size ≤ 500; omega, by show to.size ≤ 500; omega, by show n1 ≤ 200; omega, by show n2 ≤ 200; omega, by show n3 ≤ 5000; omega⟩), (Below.refl _ _).alloc (Nat.le_refl _) _⟩

/-! ### May a part be? -/
def MayIs (h : Eh) (c : Nat) (w : World) (e : Ending) (w' : World) : Prop := e = .returned (.bool (okQ h.e c)) ∧ Below w.heap.size w w'
theorem mode_lo {z : Int} (h : ¬ 0 ≤ z) : modeB z = false := decide_eq_false fun e => h e.1
theorem mode_hi {z : Int} (h : ¬ z ≤ 2) : modeB z = false := decide_eq_false fun e => h e.2
theorem mode_yes {z : Int} (h : 0 ≤ z) (h2 : z ≤ 2) : modeB z = true := decide_eq_true ⟨h, h2⟩
set_option maxRecDepth 20000 in
set_option maxHeartbeats 2000000 in
theorem evmayBe_98 (h : Eh) (w : World) (Hh : EvIn w w.heap.size h) : Calls Tryd.prog 26 #[.agg (evC h), .int .i32 98] w (MayIs h 98 w) := by
  obtain ⟨⟨k, t, bx, to, ids, st, md, fl, dt, nn, bd⟩, A1, n1, c1, A2, n2, c2, A3, n3, c3⟩ := h
  have HH := Lib.hid Hh
  clear Hh
  show Calls Tryd.prog 26 #[.agg #[.int .i64 k, .int .i64 t, .string bx, .string to, .slice A1 n1 c1, .slice A2 n2 c2, .int .i64 md, .int .i64 fl, .int .i64 dt, .int .i64 nn, .slice A3 n3 c3], .int .i32 98] w _
  go_enter Tryd.func26, Tryd.ntmps26
  go_wp2_with fail
  refine calls_overE (fun W => Below w.heap.size w W) ((Below.refl _ _).alloc (Nat.le_refl _) _) ?_
  intro W q3
  have Q3 := Lib.hid q3
  clear q3
  refine (nmRight_any bx HH.out.2.2.2.2.2.2.1 W).mono ?_
  rintro e w' ⟨rfl, hb⟩
  have HB := Lib.hid (Q3.out.trans (hb.mono Q3.out.size))
  clear hb
  go_wp2_with fail
  go_ret
  exact ⟨rfl, HB.out⟩
set_option maxRecDepth 20000 in
set_option maxHeartbeats 2000000 in
theorem evmayBe_116 (h : Eh) (w : World) (Hh : EvIn w w.heap.size h) : Calls Tryd.prog 26 #[.agg (evC h), .int .i32 116] w (MayIs h 116 w) := by
  obtain ⟨⟨k, t, bx, to, ids, st, md, fl, dt, nn, bd⟩, A1, n1, c1, A2, n2, c2, A3, n3, c3⟩ := h
  have HH := Lib.hid Hh
  clear Hh
  show Calls Tryd.prog 26 #[.agg #[.int .i64 k, .int .i64 t, .string bx, .string to, .slice A1 n1 c1, .slice A2 n2 c2, .int .i64 md, .int .i64 fl, .int .i64 dt, .int .i64 nn, .slice A3 n3 c3], .int .i32 116] w _
  go_enter Tryd.func26, Tryd.ntmps26
  go_wp2_with fail
  refine calls_overE (fun W => Below w.heap.size w W) ((Below.refl _ _).alloc (Nat.le_refl _) _) ?_
  intro W q3
  have Q3 := Lib.hid q3
  clear q3
  refine (nmRight_any to HH.out.2.2.2.2.2.2.2 W).mono ?_
  rintro e w' ⟨rfl, hb⟩
  have HB := Lib.hid (Q3.out.trans (hb.mono Q3.out.size))
  clear hb
  go_wp2_with fail
  go_ret
  exact ⟨rfl, HB.out⟩
set_option maxRecDepth 20000 in
set_option maxHeartbeats 2000000 in
theorem evmayBe_105 (h : Eh) (w : World) (Hh : EvIn w w.heap.size h) : Calls Tryd.prog 26 #[.agg (evC h), .int .i32 105] w (MayIs h 105 w) := by
  obtain ⟨⟨k, t, bx, to, ids, st, md, fl, dt, nn, bd⟩, A1, n1, c1, A2, n2, c2, A3, n3, c3⟩ := h
  have HH := Lib.hid Hh
  clear Hh
  show Calls Tryd.prog 26 #[.agg #[.int .i64 k, .int .i64 t, .string bx, .string to, .slice A1 n1 c1, .slice A2 n2 c2, .int .i64 md, .int .i64 fl, .int .i64 dt, .int .i64 nn, .slice A3 n3 c3], .int .i32 105] w _
  go_enter Tryd.func26, Tryd.ntmps26
  go_wp2_with fail
  refine calls_overE (fun W => Below w.heap.size w W) ((Below.refl _ _).alloc (Nat.le_refl _) _) ?_
  intro W q3
  have Q3 := Lib.hid q3
  clear q3
  refine (evids_any A1 n1 c1 ids W (HH.out.later Q3.out).1 HH.out.2.2.2.1).mono ?_
  rintro e w' ⟨rfl, rfl⟩
  go_wp2_with fail
  go_ret
  exact ⟨rfl, Q3.out⟩
set_option maxRecDepth 20000 in
set_option maxHeartbeats 2000000 in
theorem evmayBe_115 (h : Eh) (w : World) (Hh : EvIn w w.heap.size h) : Calls Tryd.prog 26 #[.agg (evC h), .int .i32 115] w (MayIs h 115 w) := by
  obtain ⟨⟨k, t, bx, to, ids, st, md, fl, dt, nn, bd⟩, A1, n1, c1, A2, n2, c2, A3, n3, c3⟩ := h
  have HH := Lib.hid Hh
  clear Hh
  show Calls Tryd.prog 26 #[.agg #[.int .i64 k, .int .i64 t, .string bx, .string to, .slice A1 n1 c1, .slice A2 n2 c2, .int .i64 md, .int .i64 fl, .int .i64 dt, .int .i64 nn, .slice A3 n3 c3], .int .i32 115] w _
  go_enter Tryd.func26, Tryd.ntmps26
  go_wp2_with fail
  refine calls_overE (fun W => Below w.heap.size w W) ((Below.refl _ _).alloc (Nat.le_refl _) _) ?_
  intro W q3
  have Q3 := Lib.hid q3
  clear q3
  refine (evset_any A2 n2 c2 st W (HH.out.later Q3.out).2.1 HH.out.2.2.2.2.1).mono ?_
  rintro e w' ⟨rfl, hb⟩
  have HB := Lib.hid (Q3.out.trans (hb.mono Q3.out.size))
  clear hb
  go_wp2_with fail
  go_ret
  exact ⟨rfl, HB.out⟩
set_option maxRecDepth 20000 in
set_option maxHeartbeats 2000000 in
theorem evmayBe_109 (h : Eh) (w : World) (Hh : EvIn w w.heap.size h) : Calls Tryd.prog 26 #[.agg (evC h), .int .i32 109] w (MayIs h 109 w) := by
  obtain ⟨⟨k, t, bx, to, ids, st, md, fl, dt, nn, bd⟩, A1, n1, c1, A2, n2, c2, A3, n3, c3⟩ := h
  have HH := Lib.hid Hh
  clear Hh
  show Calls Tryd.prog 26 #[.agg #[.int .i64 k, .int .i64 t, .string bx, .string to, .slice A1 n1 c1, .slice A2 n2 c2, .int .i64 md, .int .i64 fl, .int .i64 dt, .int .i64 nn, .slice A3 n3 c3], .int .i32 109] w _
  by_cases h1 : 0 ≤ md
  · by_cases h2 : md ≤ 2
    · have HR := Lib.hid (mode_yes h1 h2)
      go_enter Tryd.func26, Tryd.ntmps26
      go_wp2_with fail
      go_ret
      exact ⟨ret_boolE (by show _ = modeB md; rw [HR.out]), (Below.refl _ _).alloc (Nat.le_refl _) _⟩
    · have HR := Lib.hid (mode_hi h2)
      go_enter Tryd.func26, Tryd.ntmps26
      go_wp2_with fail
      go_ret
      exact ⟨ret_boolE (by show _ = modeB md; rw [HR.out]), (Below.refl _ _).alloc (Nat.le_refl _) _⟩
  · have HR := Lib.hid (mode_lo h1)
    go_enter Tryd.func26, Tryd.ntmps26
    go_wp2_with fail
    go_ret
    exact ⟨ret_boolE (by show _ = modeB md; rw [HR.out]), (Below.refl _ _).alloc (Nat.le_refl _) _⟩
set_option maxRecDepth 20000 in
set_option maxHeartbeats 2000000 in
theorem evmayBe_102 (h : Eh) (w : World) (Hh : EvIn w w.heap.size h) : Calls Tryd.prog 26 #[.agg (evC h), .int .i32 102] w (MayIs h 102 w) := by
  obtain ⟨⟨k, t, bx, to, ids, st, md, fl, dt, nn, bd⟩, A1, n1, c1, A2, n2, c2, A3, n3, c3⟩ := h
  have HH := Lib.hid Hh
  clear Hh
  show Calls Tryd.prog 26 #[.agg #[.int .i64 k, .int .i64 t, .string bx, .string to, .slice A1 n1 c1, .slice A2 n2 c2, .int .i64 md, .int .i64 fl, .int .i64 dt, .int .i64 nn, .slice A3 n3 c3], .int .i32 102] w _
  go_enter Tryd.func26, Tryd.ntmps26
  go_wp2_with fail
  refine calls_overE (fun W => Below w.heap.size w W) ((Below.refl _ _).alloc (Nat.le_refl _) _) ?_
  intro W q3
  have Q3 := Lib.hid q3
  clear q3
  refine (fright_any fl W).mono ?_
  rintro e w' ⟨rfl, rfl⟩
  go_wp2_with fail
  go_ret
  exact ⟨rfl, Q3.out⟩
set_option maxRecDepth 20000 in
set_option maxHeartbeats 2000000 in
theorem evmayBe_100 (h : Eh) (w : World) (Hh : EvIn w w.heap.size h) : Calls Tryd.prog 26 #[.agg (evC h), .int .i32 100] w (MayIs h 100 w) := by
  obtain ⟨⟨k, t, bx, to, ids, st, md, fl, dt, nn, bd⟩, A1, n1, c1, A2, n2, c2, A3, n3, c3⟩ := h
  have HH := Lib.hid Hh
  clear Hh
  show Calls Tryd.prog 26 #[.agg #[.int .i64 k, .int .i64 t, .string bx, .string to, .slice A1 n1 c1, .slice A2 n2 c2, .int .i64 md, .int .i64 fl, .int .i64 dt, .int .i64 nn, .slice A3 n3 c3], .int .i32 100] w _
  go_enter Tryd.func26, Tryd.ntmps26
  go_wp2_with fail
  refine calls_overE (fun W => Below w.heap.size w W) ((Below.refl _ _).alloc (Nat.le_refl _) _) ?_
  intro W q3
  have Q3 := Lib.hid q3
  clear q3
  refine (evisTime_any dt W).mono ?_
  rintro e w' ⟨rfl, rfl⟩
  go_wp2_with fail
  go_ret
  exact ⟨rfl, Q3.out⟩
set_option maxRecDepth 20000 in
set_option maxHeartbeats 2000000 in
theorem evmayBe_110 (h : Eh) (w : World) (Hh : EvIn w w.heap.size h) : Calls Tryd.prog 26 #[.agg (evC h), .int .i32 110] w (MayIs h 110 w) := by
  obtain ⟨⟨k, t, bx, to, ids, st, md, fl, dt, nn, bd⟩, A1, n1, c1, A2, n2, c2, A3, n3, c3⟩ := h
  have HH := Lib.hid Hh
  clear Hh
  show Calls Tryd.prog 26 #[.agg #[.int .i64 k, .int .i64 t, .string bx, .string to, .slice A1 n1 c1, .slice A2 n2 c2, .int .i64 md, .int .i64 fl, .int .i64 dt, .int .i64 nn, .slice A3 n3 c3], .int .i32 110] w _
  go_enter Tryd.func26, Tryd.ntmps26
  go_wp2_with fail
  refine calls_overE (fun W => Below w.heap.size w W) ((Below.refl _ _).alloc (Nat.le_refl _) _) ?_
  intro W q3
  have Q3 := Lib.hid q3
  clear q3
  refine (evisTime_any nn W).mono ?_
  rintro e w' ⟨rfl, rfl⟩
  go_wp2_with fail
  go_ret
  exact ⟨rfl, Q3.out⟩
set_option maxRecDepth 20000 in
set_option maxHeartbeats 2000000 in
theorem evmayBe_121 (h : Eh) (w : World) (Hh : EvIn w w.heap.size h) : Calls Tryd.prog 26 #[.agg (evC h), .int .i32 121] w (MayIs h 121 w) := by
  obtain ⟨⟨k, t, bx, to, ids, st, md, fl, dt, nn, bd⟩, A1, n1, c1, A2, n2, c2, A3, n3, c3⟩ := h
  have HH := Lib.hid Hh
  clear Hh
  show Calls Tryd.prog 26 #[.agg #[.int .i64 k, .int .i64 t, .string bx, .string to, .slice A1 n1 c1, .slice A2 n2 c2, .int .i64 md, .int .i64 fl, .int .i64 dt, .int .i64 nn, .slice A3 n3 c3], .int .i32 121] w _
  have hbl : bd.length = n3 := HH.out.2.2.1.1
  have HBL := Lib.hid hbl
  clear hbl
  by_cases h1 : (n3 : Int) ≤ 2000
  · go_enter Tryd.func26, Tryd.ntmps26
    go_wp2_with fail
    go_ret
    exact ⟨ret_boolE (by show _ = decide (bd.length ≤ 2000); rw [HBL.out, eq_comm]; exact decide_eq_true (by omega)), (Below.refl _ _).alloc (Nat.le_refl _) _⟩
  · go_enter Tryd.func26, Tryd.ntmps26
    go_wp2_with fail
    go_ret
    exact ⟨ret_boolE (by show _ = decide (bd.length ≤ 2000); rw [HBL.out, eq_comm]; exact decide_eq_false (by omega)), (Below.refl _ _).alloc (Nat.le_refl _) _⟩
theorem evmayBe_any (h : Eh) {c : Nat} (hc : c ∈ nineL) (w : World) (Hh : EvIn w w.heap.size h) : Calls Tryd.prog 26 #[.agg (evC h), .int .i32 (c : Int)] w (MayIs h c w) := by
  rcases nine_cases hc with rfl | rfl | rfl | rfl | rfl | rfl | rfl | rfl | rfl
  · exact evmayBe_98 h w Hh
  · exact evmayBe_116 h w Hh
  · exact evmayBe_105 h w Hh
  · exact evmayBe_115 h w Hh
  · exact evmayBe_109 h w Hh
  · exact evmayBe_102 h w Hh
  · exact evmayBe_100 h w Hh
  · exact evmayBe_110 h w Hh
  · exact evmayBe_121 h w Hh
end Go.Proofs.YtcajmigkpcjbcaaDoor
