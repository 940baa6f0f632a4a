/-
  A part of the proof: see the last text.
-/
import Derived.Test.YtbogjfbfgbhdbaaGreatDoorSEventMathB
import Derived.Lib.OthersKept
namespace Go.Proofs.YtbogjfbfgbhdbaaGreatDoor
set_option linter.unusedVariables false
set_option linter.unusedSimpArgs false
open Go.RowKit
set_option linter.unusedVariables false
set_option linter.unusedSimpArgs false
set_option maxRecDepth 20000 in
set_option maxHeartbeats 2000000 in
theorem evEqualRg_any (A B : Option Addr) (n c m d : Nat) (l r : List Rg) (w : World) (hl : ColK 2 rgC w w.heap.size A n l) (hr : ColK 2 rgC w w.heap.size B m r) (hn : n ≤ 140737488355328) (hm : m ≤ 140737488355328) :
    Calls Tryz.prog 145 #[.slice A n c, .slice B m d] w fun e w' => e = .returned (.bool (decide (l = r))) ∧ ∃ q, w' = w.drewN q := by
  have HL := Lib.hid hl
  have HR := Lib.hid hr
  by_cases hnm : n = m
  · subst hnm
    have hne : ((n : Int) != (n : Int)) = false := by simp
    clear hl hr
    go_enter Tryz.func145, Tryz.ntmps145
    go_wp2_with fail
    go_loopw [13] (fun i wx => ∃ k q : Nat, k ≤ n ∧ i = .int .i64 (k : Int) ∧ l.take k = r.take k ∧ wx = w.drewN q) (fun i _ => n - (intOf i).toNat)
    case atStart => exact ⟨0, 0, Nat.zero_le _, rfl, rfl, rfl⟩
    case round =>
      obtain ⟨k, q, hk, rfl, hm, hw⟩ := hrel
      have HM := Lib.hid hm
      have HW := Lib.hid hw
      clear hm hw
      by_cases hlt : k < n
      · obtain ⟨b, o, x, rfl, hbb, hla, htk, hc⟩ := HL.out.at_ hlt
        obtain ⟨b2, o2, y, rfl, hbb2, hla2, htk2, hc2⟩ := HR.out.at_ hlt
        rw [show w.rangeAt b (o + k * 2) (rgC x) = wr.rangeAt b (o + k * 2) (rgC x) by rw [HW.out]; rfl] at hc
        rw [show w.rangeAt b2 (o2 + k * 2) (rgC y) = wr.rangeAt b2 (o2 + k * 2) (rgC y) by rw [HW.out]; rfl] at hc2
        obtain ⟨x0, x1⟩ := x
        obtain ⟨y0, y1⟩ := y
        have r0 := hc 0 _ rfl
        have r1 := hc 1 _ rfl
        have s0 := hc2 0 _ rfl
        have s1 := hc2 1 _ rfl
        rw [Nat.add_zero] at r0 s0
        have hk0 : (0 : Int) ≤ (k : Int) := by omega
        have hkn : (k : Int) < (n : Int) := by omega
        have HA1 := Lib.hid hla
        have HA2 := Lib.hid hla2
        have HT1 := Lib.hid htk
        have HT2 := Lib.hid htk2
        clear hla hla2 htk htk2 hc hc2
        by_cases he : (x0, x1) = (y0, y1)
        · injection he with he1 he2
          subst he1 he2
          have kq : ∀ W, (binOp .neq 131 (.agg #[.int .i64 x0, .int .i64 x1]) (.agg #[.int .i64 x0, .int .i64 x1])).run Tryz.prog W = .ok (.bool false) W := fun W => by rw [rg_neq]; simp
          have HN : Hid (l.take (k + 1) = r.take (k + 1)) := Lib.hid (by rw [HT1.out, HT2.out, HM.out])
          go_wp2_with fail
          go_quiet (fail)
          go_wp2_with fail
          go_roundw
          case rel => exact ⟨k + 1, _, by omega, by go_num, HN.out, by rw [HW.out]; exact drewN_twice _ _ _⟩
          case measure => simp [intOf]; omega
        · have kq : ∀ W, (binOp .neq 131 (.agg #[.int .i64 x0, .int .i64 x1]) (.agg #[.int .i64 y0, .int .i64 y1])).run Tryz.prog W = .ok (.bool true) W := fun W => by rw [rg_neq, decide_eq_false he]; rfl
          have HN : Hid (decide (l = r) = false) := Lib.hid (decide_eq_false (ne_at HA1.out HA2.out he))
          clear he
          go_wp2_with fail
          go_quiet (fail)
          go_wp2_with fail
          go_ret
          exact ⟨by rw [HN.out] <;> rfl, _, by rw [HW.out]; exact drewN_twice _ _ _⟩
      · have HN : Hid (decide (l = r) = true) := Lib.hid (decide_eq_true (eq_at (HL.out.1.trans HR.out.1.symm) k HM.out (by rw [HL.out.1]; omega)))
        go_wp2_with fail
        go_ret
        exact ⟨by rw [HN.out] <;> rfl, _, HW.out⟩
  · have hne : ((n : Int) != (m : Int)) = true := by simp; omega
    have HN : Hid (decide (l = r) = false) := Lib.hid (decide_eq_false (fun e => hnm (by rw [← hl.1, ← hr.1, e])))
    clear hl hr
    go_enter Tryz.func145, Tryz.ntmps145
    go_wp2_with fail
    go_ret
    exact ⟨by rw [HN.out] <;> rfl, 0, rfl⟩
set_option maxRecDepth 20000 in
set_option maxHeartbeats 2000000 in
theorem evEqualI_any (A B : Option Addr) (n c m d : Nat) (l r : List Int) (w : World) (hl : Col ints w w.heap.size A n l) (hr : Col ints w w.heap.size B m r) (hn : n ≤ 140737488355328) (hm : m ≤ 140737488355328) :
    Calls Tryz.prog 155 #[.slice A n c, .slice B m d] w fun e w' => e = .returned (.bool (decide (l = r))) ∧ ∃ q, w' = w.drewN q := by
  have HL := Lib.hid hl
  have HR := Lib.hid hr
  by_cases hnm : n = m
  · subst hnm
    have hne : ((n : Int) != (n : Int)) = false := by simp
    clear hl hr
    go_enter Tryz.func155, Tryz.ntmps155
    go_wp2_with fail
    go_loopw [13] (fun i wx => ∃ k q : Nat, k ≤ n ∧ i = .int .i64 (k : Int) ∧ l.take k = r.take k ∧ wx = w.drewN q) (fun i _ => n - (intOf i).toNat)
    case atStart => exact ⟨0, 0, Nat.zero_le _, rfl, rfl, rfl⟩
    case round =>
      obtain ⟨k, q, hk, rfl, hm, hw⟩ := hrel
      have HM := Lib.hid hm
      have HW := Lib.hid hw
      clear hm hw
      by_cases hlt : k < n
      · obtain ⟨b, o, x, rfl, hbb, hla, htk, hc⟩ := HL.out.at_ hlt
        obtain ⟨b2, o2, y, rfl, hbb2, hla2, htk2, hc2⟩ := HR.out.at_ hlt
        rw [show w.cell? ⟨b, o + k, none⟩ = wr.cell? ⟨b, o + k, none⟩ by rw [HW.out]; rfl] at hc
        rw [show w.cell? ⟨b2, o2 + k, none⟩ = wr.cell? ⟨b2, o2 + k, none⟩ by rw [HW.out]; rfl] at hc2
        have hk0 : (0 : Int) ≤ (k : Int) := by omega
        have hkn : (k : Int) < (n : Int) := by omega
        unfold ints at hc hc2
        have HA1 := Lib.hid hla
        have HA2 := Lib.hid hla2
        have HT1 := Lib.hid htk
        have HT2 := Lib.hid htk2
        clear hla hla2 htk htk2
        by_cases he : x = y
        · subst he
          have hxy : (x != x) = false := by simp
          have HN : Hid (l.take (k + 1) = r.take (k + 1)) := Lib.hid (by rw [HT1.out, HT2.out, HM.out])
          go_wp2_with fail
          go_quiet (fail)
          go_wp2_with fail
          go_roundw
          case rel => exact ⟨k + 1, _, by omega, by go_num, HN.out, by rw [HW.out]; exact drewN_twice _ _ _⟩
          case measure => simp [intOf]; omega
        · have hxy : (x != y) = true := by simp; exact he
          have HN : Hid (decide (l = r) = false) := Lib.hid (decide_eq_false (ne_at HA1.out HA2.out he))
          go_wp2_with fail
          go_quiet (fail)
          go_wp2_with fail
          go_ret
          exact ⟨by rw [HN.out] <;> rfl, _, by rw [HW.out]; exact drewN_twice _ _ _⟩
      · have HN : Hid (decide (l = r) = true) := Lib.hid (decide_eq_true (eq_at (HL.out.1.trans HR.out.1.symm) k HM.out (by rw [HL.out.1]; omega)))
        go_wp2_with fail
        go_ret
        exact ⟨by rw [HN.out] <;> rfl, _, HW.out⟩
  · have hne : ((n : Int) != (m : Int)) = true := by simp; omega
    have HN : Hid (decide (l = r) = false) := Lib.hid (decide_eq_false (fun e => hnm (by rw [← hl.1, ← hr.1, e])))
    clear hl hr
    go_enter Tryz.func155, Tryz.ntmps155
    go_wp2_with fail
    go_ret
    exact ⟨by rw [HN.out] <;> rfl, 0, rfl⟩
theorem evbyEqual_any (A : Option Addr) (n c B : Nat) (l : List Nat) (A' : Option Addr) (n' c' B' : Nat) (l' : List Nat) (w : World) (hl : Bytes w B A n l) (hl' : Bytes w B' A' n' l') :
    Calls Tryz.prog 156 #[.slice A n c, .slice A' n' c'] w fun e w' => e = .returned (.bool (decide (l = l'))) ∧ w = w' := by
  have h1 := run_str_of_bytes (P := Tryz.prog) (c := c) hl Tryz.underlying31 Tryz.underlying5 Tryz.underlying9
  have h2 := run_str_of_bytes (P := Tryz.prog) (c := c') hl' Tryz.underlying31 Tryz.underlying5 Tryz.underlying9
  have he := strOf_eqb l l' hl.2.1 hl'.2.1
  generalize decide (l = l') = b at *
  go_enter Tryz.func156, Tryz.ntmps156
  go_wp2
  go_ret
  exact ⟨rfl, rfl⟩
theorem str_eqb (a b : ByteArray) : (a.toList == b.toList) = decide (a = b) := by
  have h := strOf_one a (nats b) (nats_lt b)
  rw [strOf_nats] at h
  rw [h]
  exact decide_eq_decide.2 ⟨fun e => by rw [← strOf_nats a, e, strOf_nats], fun e => by rw [e]⟩
theorem str_ne {a b : ByteArray} (h : ¬ a = b) : (a.toList == b.toList) = false := by rw [str_eqb]; exact decide_eq_false h
theorem int_neE {a b : Int} (h : ¬ a = b) : (a == b) = false := by simpa using h
def SameIs (h g : Eh) (w : World) (e : Ending) (w' : World) : Prop := e = .returned (.bool (evEq h.e g.e)) ∧ Below w.heap.size w w'
theorem calls_overE {P : Program} {f : FuncId} {vs : Array Value} {W : World} {Q : Ending → World → Prop} (G : World → Prop) (hG : G W) (h : ∀ W', G W' → Calls P f vs W' Q) : Calls P f vs W Q := h W hG
theorem Bk.drewNE {w : World} {b : Nat} {t : TypeId} {cs : Array Value} (h : Bk w b t cs) (q : Nat) : Bk (w.drewN q) b t cs := h
end Go.Proofs.YtbogjfbfgbhdbaaGreatDoor
namespace Go.Proofs.YtbogjfbfgbhdbaaGreatDoor
set_option linter.unusedVariables false
set_option linter.unusedSimpArgs false
open Go.RowKit
set_option linter.unusedVariables false
set_option linter.unusedSimpArgs false
def kindC : List Value := [.int .i64 (((0 : Nat) : Int) + 1), .string (strOf (letK 0)), .int .i64 (((1 : Nat) : Int) + 1), .string (strOf (letK 1)), .int .i64 (((2 : Nat) : Int) + 1), .string (strOf (letK 2)), .int .i64 (((3 : Nat) : Int) + 1), .string (strOf (letK 3)), .int .i64 (((4 : Nat) : Int) + 1), .string (strOf (letK 4)), .int .i64 (((5 : Nat) : Int) + 1), .string (strOf (letK 5)), .int .i64 (((6 : Nat) : Int) + 1), .string (strOf (letK 6)), .int .i64 (((7 : Nat) : Int) + 1), .string (strOf (letK 7)), .int .i64 (((8 : Nat) : Int) + 1), .string (strOf (letK 8)), .int .i64 (((9 : Nat) : Int) + 1), .string (strOf (letK 9)), .int .i64 (((10 : Nat) : Int) + 1), .string (strOf (letK 10)), .int .i64 (((11 : Nat) : Int) + 1), .string (strOf (letK 11)), .int .i64 (((12 : Nat) : Int) + 1), .string (strOf (letK 12)), .int .i64 (((13 : Nat) : Int) + 1), .string (strOf (letK 13))]
def Kinds (w : World) : Prop := w.rangeAt 0 0 kindC
theorem Kinds.lt {w : World} (h : Kinds w) : 0 < w.heap.size := World.block_lt_of_cell? _ _ (h 0 _ rfl)
theorem Kinds.keep {w w' : World} (h : Kinds w) (hk : ∀ o, w'.cell? ⟨0, o, none⟩ = w.cell? ⟨0, o, none⟩) : Kinds w' := fun j v hv => by rw [hk]; exact h j v hv
theorem Kinds.below {w w' : World} (h : Kinds w) (hb : Below w.heap.size w w') : Kinds w' := h.keep fun o => hb.cell (p := ⟨0, o, none⟩) h.lt
set_option maxRecDepth 20000 in
theorem index_kinds (k : Nat) (hk : k < 14) (W : World) : (Instr.index 160 (.agg kindC.toArray) (.int .i64 (k : Int))).run Tryz.prog W = .ok (.agg #[.int .i64 ((k : Int) + 1), .string (strOf (letK k))]) W := by
  rcases (by omega : k = 0 ∨ k = 1 ∨ k = 2 ∨ k = 3 ∨ k = 4 ∨ k = 5 ∨ k = 6 ∨ k = 7 ∨ k = 8 ∨ k = 9 ∨ k = 10 ∨ k = 11 ∨ k = 12 ∨ k = 13) with rfl | rfl | rfl | rfl | rfl | rfl | rfl | rfl | rfl | rfl | rfl | rfl | rfl | rfl
  all_goals
    simp [Instr.index, asIntOf, Sem.run_bind, run_underlying Tryz.underlying160, part, Tryz.isAgg159, Tryz.sizeOf159, kindC]
    try rfl
theorem parts_hit {k : Int} {j : Nat} (hj : j < 14) (h : (j : Int) + 1 = k) : partsN k = letK j := by
  subst h
  unfold partsN
  rw [if_pos (by omega), show ((j : Int) + 1).toNat - 1 = j by omega]
theorem parts_miss {k : Int} (h : ∀ j : Nat, j < 14 → (j : Int) + 1 ≠ k) : partsN k = [] := by
  unfold partsN
  refine if_neg fun ⟨h1, h2⟩ => h (k.toNat - 1) (by omega) (by omega)
theorem miss_next {k : Int} {j : Nat} (h : ∀ i : Nat, i < j → (i : Int) + 1 ≠ k) (hj : (j : Int) + 1 ≠ k) : ∀ i : Nat, i < j + 1 → (i : Int) + 1 ≠ k := fun i hi => by
  by_cases e : i = j
  · rw [e]; exact hj
  · exact h i (by omega)
def PartsIs (k : Int) (w : World) (e : Ending) (w' : World) : Prop := e = .returned (.string (strOf (partsN k))) ∧ Below w.heap.size w w'
set_option maxRecDepth 20000 in
set_option maxHeartbeats 4000000 in
theorem evParts_any (k : Int) (w : World) (hA : Kinds w) : Calls Tryz.prog 87 #[.int .i64 k] w (PartsIs k w) := by
  have HRG := Lib.hid hA
  clear hA
  go_enter Tryz.func87, Tryz.ntmps87
  go_wp2_with ((with_reducible show wpList _ _ _ (⟨some 5, _, _, _, _, _⟩ :: _) _ _); refine hold ?_)
  refine held (wpList_load_mid rfl 160 (.global 0) rfl 0 0 rfl kindC (.array 14 159) HRG.out Tryz.underlying160 rfl (by kernel_rfl) ?_)
  go_wp2_with fail
  go_loopw [6] (fun i wx => ∃ j : Nat, j ≤ 14 ∧ i = .int .i64 (j : Int) ∧ (∀ i : Nat, i < j → (i : Int) + 1 ≠ k) ∧ Below w.heap.size w wx) (fun i _ => 14 - (intOf i).toNat)
  case atStart => exact ⟨0, by omega, rfl, fun i hi => by omega, Below.refl _ _⟩
  case round =>
    obtain ⟨j, hj, rfl, hm, hb⟩ := hrel
    have HB := Lib.hid hb
    have HU := Lib.hid hm
    clear hb hm
    by_cases hlt : j < 14
    · have hix := index_kinds j hlt wr
      have hj14 : (j : Int) < 14 := by omega
      by_cases hk : (j : Int) + 1 = k
      · have hk' : ((j : Int) + 1 == k) = true := by simpa using hk
        have HR := Lib.hid (parts_hit hlt hk)
        have HB2 := Lib.hid (HB.out.alloc HB.out.size (.cells #[.int .i64 ((j : Int) + 1), .string (strOf (letK j))] 159))
        clear hk
        go_wp2_with fail
        go_ret
        exact ⟨by rw [HR.out] <;> rfl, HB2.out⟩
      · have hk' : ((j : Int) + 1 == k) = false := by simpa using hk
        have HN := Lib.hid (miss_next HU.out hk)
        have HB2 := Lib.hid (HB.out.alloc HB.out.size (.cells #[.int .i64 ((j : Int) + 1), .string (strOf (letK j))] 159))
        clear hk
        go_wp2_with fail
        go_roundw
        case rel => exact ⟨j + 1, by omega, by go_num, HN.out, HB2.out⟩
        case measure => simp [intOf]; omega
    · have hj14 : ¬ (j : Int) < 14 := by omega
      have HR := Lib.hid (parts_miss (k := k) (fun i hi => HU.out i (by omega)))
      go_wp2_with fail
      go_ret
      exact ⟨by rw [HR.out] <;> rfl, HB.out⟩
def MayIs (h : Eh) (c : Nat) (w : World) (e : Ending) (w' : World) : Prop := e = .returned (.bool (okQ h.e c)) ∧ Below w.heap.size w w'
theorem mode_lo {z : Int} (h : ¬ 0 ≤ z) : modeB z = false := decide_eq_false fun e => h e.1
theorem mode_hi {z : Int} (h : ¬ z ≤ 2) : modeB z = false := decide_eq_false fun e => h e.2
theorem mode_yes {z : Int} (h : 0 ≤ z) (h2 : z ≤ 2) : modeB z = true := decide_eq_true ⟨h, h2⟩
set_option maxRecDepth 20000 in
set_option maxHeartbeats 2000000 in
theorem evmayBe_98 (h : Eh) (w : World) (Hh : EvIn w w.heap.size h) : Calls Tryz.prog 89 #[.agg (evC h), .int .i32 98] w (MayIs h 98 w) := by
  obtain ⟨⟨k, t, bx, to, ids, st, md, fl, dt, nn, bd⟩, A1, n1, c1, A2, n2, c2, A3, n3, c3⟩ := h
  have HH := Lib.hid Hh
  clear Hh
  show Calls Tryz.prog 89 #[.agg #[.int .i64 k, .int .i64 t, .string bx, .string to, .slice A1 n1 c1, .slice A2 n2 c2, .int .i64 md, .int .i64 fl, .int .i64 dt, .int .i64 nn, .slice A3 n3 c3], .int .i32 98] w _
  go_enter Tryz.func89, Tryz.ntmps89
  go_wp2_with fail
  refine calls_overE (fun W => Below w.heap.size w W) ((Below.refl _ _).alloc (Nat.le_refl _) _) ?_
  intro W q3
  have Q3 := Lib.hid q3
  clear q3
  refine (nmRight_any bx HH.out.2.2.2.2.2.2.1 W).mono ?_
  rintro e w' ⟨rfl, hb⟩
  have HB := Lib.hid (Q3.out.trans (hb.mono Q3.out.size))
  clear hb
  go_wp2_with fail
  go_ret
  exact ⟨rfl, HB.out⟩
set_option maxRecDepth 20000 in
set_option maxHeartbeats 2000000 in
theorem evmayBe_116 (h : Eh) (w : World) (Hh : EvIn w w.heap.size h) : Calls Tryz.prog 89 #[.agg (evC h), .int .i32 116] w (MayIs h 116 w) := by
  obtain ⟨⟨k, t, bx, to, ids, st, md, fl, dt, nn, bd⟩, A1, n1, c1, A2, n2, c2, A3, n3, c3⟩ := h
  have HH := Lib.hid Hh
  clear Hh
  show Calls Tryz.prog 89 #[.agg #[.int .i64 k, .int .i64 t, .string bx, .string to, .slice A1 n1 c1, .slice A2 n2 c2, .int .i64 md, .int .i64 fl, .int .i64 dt, .int .i64 nn, .slice A3 n3 c3], .int .i32 116] w _
  go_enter Tryz.func89, Tryz.ntmps89
  go_wp2_with fail
  refine calls_overE (fun W => Below w.heap.size w W) ((Below.refl _ _).alloc (Nat.le_refl _) _) ?_
  intro W q3
  have Q3 := Lib.hid q3
  clear q3
  refine (nmRight_any to HH.out.2.2.2.2.2.2.2 W).mono ?_
  rintro e w' ⟨rfl, hb⟩
  have HB := Lib.hid (Q3.out.trans (hb.mono Q3.out.size))
  clear hb
  go_wp2_with fail
  go_ret
  exact ⟨rfl, HB.out⟩
set_option maxRecDepth 20000 in
set_option maxHeartbeats 2000000 in
theorem evmayBe_105 (h : Eh) (w : World) (Hh : EvIn w w.heap.size h) : Calls Tryz.prog 89 #[.agg (evC h), .int .i32 105] w (MayIs h 105 w) := by
  obtain ⟨⟨k, t, bx, to, ids, st, md, fl, dt, nn, bd⟩, A1, n1, c1, A2, n2, c2, A3, n3, c3⟩ := h
  have HH := Lib.hid Hh
  clear Hh
  show Calls Tryz.prog 89 #[.agg #[.int .i64 k, .int .i64 t, .string bx, .string to, .slice A1 n1 c1, .slice A2 n2 c2, .int .i64 md, .int .i64 fl, .int .i64 dt, .int .i64 nn, .slice A3 n3 c3], .int .i32 105] w _
  go_enter Tryz.func89, Tryz.ntmps89
  go_wp2_with fail
  refine calls_overE (fun W => Below w.heap.size w W) ((Below.refl _ _).alloc (Nat.le_refl _) _) ?_
  intro W q3
  have Q3 := Lib.hid q3
  clear q3
  refine (evids_any A1 n1 c1 ids W (HH.out.later Q3.out).1 HH.out.2.2.2.1).mono ?_
  rintro e w' ⟨rfl, rfl⟩
  go_wp2_with fail
  go_ret
  exact ⟨rfl, Q3.out⟩
set_option maxRecDepth 20000 in
set_option maxHeartbeats 2000000 in
theorem evmayBe_115 (h : Eh) (w : World) (Hh : EvIn w w.heap.size h) : Calls Tryz.prog 89 #[.agg (evC h), .int .i32 115] w (MayIs h 115 w) := by
  obtain ⟨⟨k, t, bx, to, ids, st, md, fl, dt, nn, bd⟩, A1, n1, c1, A2, n2, c2, A3, n3, c3⟩ := h
  have HH := Lib.hid Hh
  clear Hh
  show Calls Tryz.prog 89 #[.agg #[.int .i64 k, .int .i64 t, .string bx, .string to, .slice A1 n1 c1, .slice A2 n2 c2, .int .i64 md, .int .i64 fl, .int .i64 dt, .int .i64 nn, .slice A3 n3 c3], .int .i32 115] w _
  go_enter Tryz.func89, Tryz.ntmps89
  go_wp2_with fail
  refine calls_overE (fun W => Below w.heap.size w W) ((Below.refl _ _).alloc (Nat.le_refl _) _) ?_
  intro W q3
  have Q3 := Lib.hid q3
  clear q3
  refine (evset_any A2 n2 c2 st W (HH.out.later Q3.out).2.1 HH.out.2.2.2.2.1).mono ?_
  rintro e w' ⟨rfl, hb⟩
  have HB := Lib.hid (Q3.out.trans (hb.mono Q3.out.size))
  clear hb
  go_wp2_with fail
  go_ret
  exact ⟨rfl, HB.out⟩
set_option maxRecDepth 20000 in
set_option maxHeartbeats 2000000 in
theorem evmayBe_109 (h : Eh) (w : World) (Hh : EvIn w w.heap.size h) : Calls Tryz.prog 89 #[.agg (evC h), .int .i32 109] w (MayIs h 109 w) := by
  obtain ⟨⟨k, t, bx, to, ids, st, md, fl, dt, nn, bd⟩, A1, n1, c1, A2, n2, c2, A3, n3, c3⟩ := h
  have HH := Lib.hid Hh
  clear Hh
  show Calls Tryz.prog 89 #[.agg #[.int .i64 k, .int .i64 t, .string bx, .string to, .slice A1 n1 c1, .slice A2 n2 c2, .int .i64 md, .int .i64 fl, .int .i64 dt, .int .i64 nn, .slice A3 n3 c3], .int .i32 109] w _
  by_cases h1 : 0 ≤ md
  · by_cases h2 : md ≤ 2
    · have HR := Lib.hid (mode_yes h1 h2)
      go_enter Tryz.func89, Tryz.ntmps89
      go_wp2_with fail
      go_ret
      exact ⟨ret_boolE (by show _ = modeB md; rw [HR.out]), (Below.refl _ _).alloc (Nat.le_refl _) _⟩
    · have HR := Lib.hid (mode_hi h2)
      go_enter Tryz.func89, Tryz.ntmps89
      go_wp2_with fail
      go_ret
      exact ⟨ret_boolE (by show _ = modeB md; rw [HR.out]), (Below.refl _ _).alloc (Nat.le_refl _) _⟩
  · have HR := Lib.hid (mode_lo h1)
    go_enter Tryz.func89, Tryz.ntmps89
    go_wp2_with fail
    go_ret
    exact ⟨ret_boolE (by show _ = modeB md; rw [HR.out]), (Below.refl _ _).alloc (Nat.le_refl _) _⟩
set_option maxRecDepth 20000 in
set_option maxHeartbeats 2000000 in
theorem evmayBe_102 (h : Eh) (w : World) (Hh : EvIn w w.heap.size h) : Calls Tryz.prog 89 #[.agg (evC h), .int .i32 102] w (MayIs h 102 w) := by
  obtain ⟨⟨k, t, bx, to, ids, st, md, fl, dt, nn, bd⟩, A1, n1, c1, A2, n2, c2, A3, n3, c3⟩ := h
  have HH := Lib.hid Hh
  clear Hh
  show Calls Tryz.prog 89 #[.agg #[.int .i64 k, .int .i64 t, .string bx, .string to, .slice A1 n1 c1, .slice A2 n2 c2, .int .i64 md, .int .i64 fl, .int .i64 dt, .int .i64 nn, .slice A3 n3 c3], .int .i32 102] w _
  go_enter Tryz.func89, Tryz.ntmps89
  go_wp2_with fail
  refine calls_overE (fun W => Below w.heap.size w W) ((Below.refl _ _).alloc (Nat.le_refl _) _) ?_
  intro W q3
  have Q3 := Lib.hid q3
  clear q3
  refine (fright_any fl W).mono ?_
  rintro e w' ⟨rfl, rfl⟩
  go_wp2_with fail
  go_ret
  exact ⟨rfl, Q3.out⟩
set_option maxRecDepth 20000 in
set_option maxHeartbeats 2000000 in
theorem evmayBe_100 (h : Eh) (w : World) (Hh : EvIn w w.heap.size h) : Calls Tryz.prog 89 #[.agg (evC h), .int .i32 100] w (MayIs h 100 w) := by
  obtain ⟨⟨k, t, bx, to, ids, st, md, fl, dt, nn, bd⟩, A1, n1, c1, A2, n2, c2, A3, n3, c3⟩ := h
  have HH := Lib.hid Hh
  clear Hh
  show Calls Tryz.prog 89 #[.agg #[.int .i64 k, .int .i64 t, .string bx, .string to, .slice A1 n1 c1, .slice A2 n2 c2, .int .i64 md, .int .i64 fl, .int .i64 dt, .int .i64 nn, .slice A3 n3 c3], .int .i32 100] w _
  go_enter Tryz.func89, Tryz.ntmps89
  go_wp2_with fail
  refine calls_overE (fun W => Below w.heap.size w W) ((Below.refl _ _).alloc (Nat.le_refl _) _) ?_
  intro W q3
  have Q3 := Lib.hid q3
  clear q3
  refine (evisTime_any dt W).mono ?_
  rintro e w' ⟨rfl, rfl⟩
  go_wp2_with fail
  go_ret
  exact ⟨rfl, Q3.out⟩
set_option maxRecDepth 20000 in
set_option maxHeartbeats 2000000 in
theorem evmayBe_110 (h : Eh) (w : World) (Hh : EvIn w w.heap.size h) : Calls Tryz.prog 89 #[.agg (evC h), .int .i32 110] w (MayIs h 110 w) := by
  obtain ⟨⟨k, t, bx, to, ids, st, md, fl, dt, nn, bd⟩, A1, n1, c1, A2, n2, c2, A3, n3, c3⟩ := h
  have HH := Lib.hid Hh
  clear Hh
  show Calls Tryz.prog 89 #[.agg #[.int .i64 k, .int .i64 t, .string bx, .string to, .slice A1 n1 c1, .slice A2 n2 c2, .int .i64 md, .int .i64 fl, .int .i64 dt, .int .i64 nn, .slice A3 n3 c3], .int .i32 110] w _
  go_enter Tryz.func89, Tryz.ntmps89
  go_wp2_with fail
  refine calls_overE (fun W => Below w.heap.size w W) ((Below.refl _ _).alloc (Nat.le_refl _) _) ?_
  intro W q3
  have Q3 := Lib.hid q3
  clear q3
  refine (evisTime_any nn W).mono ?_
  rintro e w' ⟨rfl, rfl⟩
  go_wp2_with fail
  go_ret
  exact ⟨rfl, Q3.out⟩
set_option maxRecDepth 20000 in
set_option maxHeartbeats 2000000 in
theorem evmayBe_121 (h : Eh) (w : World) (Hh : EvIn w w.heap.size h) : Calls Tryz.prog 89 #[.agg (evC h), .int .i32 121] w (MayIs h 121 w) := by
  obtain ⟨⟨k, t, bx, to, ids, st, md, fl, dt, nn, bd⟩, A1, n1, c1, A2, n2, c2, A3, n3, c3⟩ := h
  have HH := Lib.hid Hh
  clear Hh
  show Calls Tryz.prog 89 #[.agg #[.int .i64 k, .int .i64 t, .string bx, .string to, .slice A1 n1 c1, .slice A2 n2 c2, .int .i64 md, .int .i64 fl, .int .i64 dt, .int .i64 nn, .slice A3 n3 c3], .int .i32 121] w _
  have hbl : bd.length = n3 := HH.out.2.2.1.1
  have HBL := Lib.hid hbl
  clear hbl
  by_cases h1 : (n3 : Int) ≤ 2000
  · go_enter Tryz.func89, Tryz.ntmps89
    go_wp2_with fail
    go_ret
    exact ⟨ret_boolE (by show _ = decide (bd.length ≤ 2000); rw [HBL.out, eq_comm]; exact decide_eq_true (by omega)), (Below.refl _ _).alloc (Nat.le_refl _) _⟩
  · go_enter Tryz.func89, Tryz.ntmps89
    go_wp2_with fail
    go_ret
    exact ⟨ret_boolE (by show _ = decide (bd.length ≤ 2000); rw [HBL.out, eq_comm]; exact decide_eq_false (by omega)), (Below.refl _ _).alloc (Nat.le_refl _) _⟩
theorem evmayBe_any (h : Eh) {c : Nat} (hc : c ∈ nineL) (w : World) (Hh : EvIn w w.heap.size h) : Calls Tryz.prog 89 #[.agg (evC h), .int .i32 (c : Int)] w (MayIs h c w) := by
  rcases nine_cases hc with rfl | rfl | rfl | rfl | rfl | rfl | rfl | rfl | rfl
  · exact evmayBe_98 h w Hh
  · exact evmayBe_116 h w Hh
  · exact evmayBe_105 h w Hh
  · exact evmayBe_115 h w Hh
  · exact evmayBe_109 h w Hh
  · exact evmayBe_102 h w Hh
  · exact evmayBe_100 h w Hh
  · exact evmayBe_110 h w Hh
  · exact evmayBe_121 h w Hh
end Go.Proofs.YtbogjfbfgbhdbaaGreatDoor
namespace Go.Proofs.YtbogjfbfgbhdbaaGreatDoor
set_option linter.unusedVariables false
set_option linter.unusedSimpArgs false
open Go.RowKit
set_option linter.unusedVariables false
set_option linter.unusedSimpArgs false
def OutIs (h : Eh) (c : Nat) (w : World) (e : Ending) (w' : World) : Prop := e = .returned (.agg (evC (outH h c))) ∧ Below w.heap.size w w'
set_option maxRecDepth 20000 in
set_option maxHeartbeats 2000000 in
theorem evwithout_98 (h : Eh) (w : World) : Calls Tryz.prog 90 #[.agg (evC h), .int .i32 98] w (OutIs h 98 w) := by
  obtain ⟨⟨k, t, bx, to, ids, st, md, fl, dt, nn, bd⟩, A1, n1, c1, A2, n2, c2, A3, n3, c3⟩ := h
  obtain ⟨H, hH⟩ : ∃ H : Eh, outH ⟨⟨k, t, bx, to, ids, st, md, fl, dt, nn, bd⟩, A1, n1, c1, A2, n2, c2, A3, n3, c3⟩ 98 = H := ⟨_, rfl⟩
  have b1 : Bk ((w.alloc (.cells (evC H) 33)).alloc (.cells (evC (bareH 0 0)) 33)) w.heap.size 33 (evC H) := (Bk.new _ _ _).alloc _
  have b2 : Bk ((w.alloc (.cells (evC H) 33)).alloc (.cells (evC (bareH 0 0)) 33)) (w.heap.size + 1) 33 (evC (bareH 0 0)) := Bk.new2 _ _ _ _
  have hB : Below w.heap.size w ((w.alloc (.cells (evC H) 33)).alloc (.cells (evC (bareH 0 0)) 33)) := ((Below.refl _ _).alloc (Nat.le_refl _) _).alloc (by simp) _
  have B1 := Lib.hid b1
  have B2 := Lib.hid b2
  have HB := Lib.hid hB
  have HH := Lib.hid hH
  clear b1 b2 hB hH
  show Calls Tryz.prog 90 #[.agg #[.int .i64 k, .int .i64 t, .string bx, .string to, .slice A1 n1 c1, .slice A2 n2 c2, .int .i64 md, .int .i64 fl, .int .i64 dt, .int .i64 nn, .slice A3 n3 c3], .int .i32 98] w _
  go_enter Tryz.func90, Tryz.ntmps90
  go_wp2_with ((with_reducible show wpList _ _ _ (⟨some 33, _, _, _, _, _⟩ :: _) _ _); refine hold ?_)
  refine list_overE (fun W => Bk W w.heap.size 33 (evC H) ∧ Bk W (w.heap.size + 1) 33 (evC (bareH 0 0)) ∧ Below w.heap.size w W) (by rw [← HH.out] at B1 B2 HB ⊢; exact ⟨B1.out, B2.out, HB.out⟩) ?_
  rintro W ⟨q1, q2, q3⟩
  have Q1 := Lib.hid q1
  have Q2 := Lib.hid q2
  have Q3 := Lib.hid q3
  clear q1 q2 q3 B1 B2 HB
  refine held (wpList_load_mid rfl 33 (.tmp 2) rfl w.heap.size 0 rfl _ _ Q1.out.range Tryz.underlying33 rfl (by kernel_rfl) ?_)
  refine wpList_store_wide rfl 33 (.tmp 4) (.tmp 33) rfl (w.heap.size + 1) 0 (evC H) rfl rfl 33 _ Q2.out (by rw [evC_size, evC_size]; decide) (by rw [evC_size]; exact info_ev) (evC_one _) ?_
  intro w' hw'
  obtain rfl := w_setRow_allE hw' (by rw [evC_size, evC_size])
  go_wp2_with fail
  refine bodyPost_ret (results_cell (a := ⟨w.heap.size + 1, 0, none⟩) rfl rfl (Bk.ev (Bk.setRow_same Q2.out _))) rfl ⟨by rw [HH.out], below_setRow Q3.out (by omega) _⟩
set_option maxRecDepth 20000 in
set_option maxHeartbeats 2000000 in
theorem evwithout_116 (h : Eh) (w : World) : Calls Tryz.prog 90 #[.agg (evC h), .int .i32 116] w (OutIs h 116 w) := by
  obtain ⟨⟨k, t, bx, to, ids, st, md, fl, dt, nn, bd⟩, A1, n1, c1, A2, n2, c2, A3, n3, c3⟩ := h
  obtain ⟨H, hH⟩ : ∃ H : Eh, outH ⟨⟨k, t, bx, to, ids, st, md, fl, dt, nn, bd⟩, A1, n1, c1, A2, n2, c2, A3, n3, c3⟩ 116 = H := ⟨_, rfl⟩
  have b1 : Bk ((w.alloc (.cells (evC H) 33)).alloc (.cells (evC (bareH 0 0)) 33)) w.heap.size 33 (evC H) := (Bk.new _ _ _).alloc _
  have b2 : Bk ((w.alloc (.cells (evC H) 33)).alloc (.cells (evC (bareH 0 0)) 33)) (w.heap.size + 1) 33 (evC (bareH 0 0)) := Bk.new2 _ _ _ _
  have hB : Below w.heap.size w ((w.alloc (.cells (evC H) 33)).alloc (.cells (evC (bareH 0 0)) 33)) := ((Below.refl _ _).alloc (Nat.le_refl _) _).alloc (by simp) _
  have B1 := Lib.hid b1
  have B2 := Lib.hid b2
  have HB := Lib.hid hB
  have HH := Lib.hid hH
  clear b1 b2 hB hH
  show Calls Tryz.prog 90 #[.agg #[.int .i64 k, .int .i64 t, .string bx, .string to, .slice A1 n1 c1, .slice A2 n2 c2, .int .i64 md, .int .i64 fl, .int .i64 dt, .int .i64 nn, .slice A3 n3 c3], .int .i32 116] w _
  go_enter Tryz.func90, Tryz.ntmps90
  go_wp2_with ((with_reducible show wpList _ _ _ (⟨some 33, _, _, _, _, _⟩ :: _) _ _); refine hold ?_)
  refine list_overE (fun W => Bk W w.heap.size 33 (evC H) ∧ Bk W (w.heap.size + 1) 33 (evC (bareH 0 0)) ∧ Below w.heap.size w W) (by rw [← HH.out] at B1 B2 HB ⊢; exact ⟨B1.out, B2.out, HB.out⟩) ?_
  rintro W ⟨q1, q2, q3⟩
  have Q1 := Lib.hid q1
  have Q2 := Lib.hid q2
  have Q3 := Lib.hid q3
  clear q1 q2 q3 B1 B2 HB
  refine held (wpList_load_mid rfl 33 (.tmp 2) rfl w.heap.size 0 rfl _ _ Q1.out.range Tryz.underlying33 rfl (by kernel_rfl) ?_)
  refine wpList_store_wide rfl 33 (.tmp 4) (.tmp 33) rfl (w.heap.size + 1) 0 (evC H) rfl rfl 33 _ Q2.out (by rw [evC_size, evC_size]; decide) (by rw [evC_size]; exact info_ev) (evC_one _) ?_
  intro w' hw'
  obtain rfl := w_setRow_allE hw' (by rw [evC_size, evC_size])
  go_wp2_with fail
  refine bodyPost_ret (results_cell (a := ⟨w.heap.size + 1, 0, none⟩) rfl rfl (Bk.ev (Bk.setRow_same Q2.out _))) rfl ⟨by rw [HH.out], below_setRow Q3.out (by omega) _⟩
set_option maxRecDepth 20000 in
set_option maxHeartbeats 2000000 in
theorem evwithout_105 (h : Eh) (w : World) : Calls Tryz.prog 90 #[.agg (evC h), .int .i32 105] w (OutIs h 105 w) := by
  obtain ⟨⟨k, t, bx, to, ids, st, md, fl, dt, nn, bd⟩, A1, n1, c1, A2, n2, c2, A3, n3, c3⟩ := h
  obtain ⟨H, hH⟩ : ∃ H : Eh, outH ⟨⟨k, t, bx, to, ids, st, md, fl, dt, nn, bd⟩, A1, n1, c1, A2, n2, c2, A3, n3, c3⟩ 105 = H := ⟨_, rfl⟩
  have b1 : Bk ((w.alloc (.cells (evC H) 33)).alloc (.cells (evC (bareH 0 0)) 33)) w.heap.size 33 (evC H) := (Bk.new _ _ _).alloc _
  have b2 : Bk ((w.alloc (.cells (evC H) 33)).alloc (.cells (evC (bareH 0 0)) 33)) (w.heap.size + 1) 33 (evC (bareH 0 0)) := Bk.new2 _ _ _ _
  have hB : Below w.heap.size w ((w.alloc (.cells (evC H) 33)).alloc (.cells (evC (bareH 0 0)) 33)) := ((Below.refl _ _).alloc (Nat.le_refl _) _).alloc (by simp) _
  have B1 := Lib.hid b1
  have B2 := Lib.hid b2
  have HB := Lib.hid hB
  have HH := Lib.hid hH
  clear b1 b2 hB hH
  show Calls Tryz.prog 90 #[.agg #[.int .i64 k, .int .i64 t, .string bx, .string to, .slice A1 n1 c1, .slice A2 n2 c2, .int .i64 md, .int .i64 fl, .int .i64 dt, .int .i64 nn, .slice A3 n3 c3], .int .i32 105] w _
  go_enter Tryz.func90, Tryz.ntmps90
  go_wp2_with ((with_reducible show wpList _ _ _ (⟨some 33, _, _, _, _, _⟩ :: _) _ _); refine hold ?_)
  refine list_overE (fun W => Bk W w.heap.size 33 (evC H) ∧ Bk W (w.heap.size + 1) 33 (evC (bareH 0 0)) ∧ Below w.heap.size w W) (by rw [← HH.out] at B1 B2 HB ⊢; exact ⟨B1.out, B2.out, HB.out⟩) ?_
  rintro W ⟨q1, q2, q3⟩
  have Q1 := Lib.hid q1
  have Q2 := Lib.hid q2
  have Q3 := Lib.hid q3
  clear q1 q2 q3 B1 B2 HB
  refine held (wpList_load_mid rfl 33 (.tmp 2) rfl w.heap.size 0 rfl _ _ Q1.out.range Tryz.underlying33 rfl (by kernel_rfl) ?_)
  refine wpList_store_wide rfl 33 (.tmp 4) (.tmp 33) rfl (w.heap.size + 1) 0 (evC H) rfl rfl 33 _ Q2.out (by rw [evC_size, evC_size]; decide) (by rw [evC_size]; exact info_ev) (evC_one _) ?_
  intro w' hw'
  obtain rfl := w_setRow_allE hw' (by rw [evC_size, evC_size])
  go_wp2_with fail
  refine bodyPost_ret (results_cell (a := ⟨w.heap.size + 1, 0, none⟩) rfl rfl (Bk.ev (Bk.setRow_same Q2.out _))) rfl ⟨by rw [HH.out], below_setRow Q3.out (by omega) _⟩
set_option maxRecDepth 20000 in
set_option maxHeartbeats 2000000 in
theorem evwithout_115 (h : Eh) (w : World) : Calls Tryz.prog 90 #[.agg (evC h), .int .i32 115] w (OutIs h 115 w) := by
  obtain ⟨⟨k, t, bx, to, ids, st, md, fl, dt, nn, bd⟩, A1, n1, c1, A2, n2, c2, A3, n3, c3⟩ := h
  obtain ⟨H, hH⟩ : ∃ H : Eh, outH ⟨⟨k, t, bx, to, ids, st, md, fl, dt, nn, bd⟩, A1, n1, c1, A2, n2, c2, A3, n3, c3⟩ 115 = H := ⟨_, rfl⟩
  have b1 : Bk ((w.alloc (.cells (evC H) 33)).alloc (.cells (evC (bareH 0 0)) 33)) w.heap.size 33 (evC H) := (Bk.new _ _ _).alloc _
  have b2 : Bk ((w.alloc (.cells (evC H) 33)).alloc (.cells (evC (bareH 0 0)) 33)) (w.heap.size + 1) 33 (evC (bareH 0 0)) := Bk.new2 _ _ _ _
  have hB : Below w.heap.size w ((w.alloc (.cells (evC H) 33)).alloc (.cells (evC (bareH 0 0)) 33)) := ((Below.refl _ _).alloc (Nat.le_refl _) _).alloc (by simp) _
  have B1 := Lib.hid b1
  have B2 := Lib.hid b2
  have HB := Lib.hid hB
  have HH := Lib.hid hH
  clear b1 b2 hB hH
  show Calls Tryz.prog 90 #[.agg #[.int .i64 k, .int .i64 t, .string bx, .string to, .slice A1 n1 c1, .slice A2 n2 c2, .int .i64 md, .int .i64 fl, .int .i64 dt, .int .i64 nn, .slice A3 n3 c3], .int .i32 115] w _
  go_enter Tryz.func90, Tryz.ntmps90
  go_wp2_with ((with_reducible show wpList _ _ _ (⟨some 33, _, _, _, _, _⟩ :: _) _ _); refine hold ?_)
  refine list_overE (fun W => Bk W w.heap.size 33 (evC H) ∧ Bk W (w.heap.size + 1) 33 (evC (bareH 0 0)) ∧ Below w.heap.size w W) (by rw [← HH.out] at B1 B2 HB ⊢; exact ⟨B1.out, B2.out, HB.out⟩) ?_
  rintro W ⟨q1, q2, q3⟩
  have Q1 := Lib.hid q1
  have Q2 := Lib.hid q2
  have Q3 := Lib.hid q3
  clear q1 q2 q3 B1 B2 HB
  refine held (wpList_load_mid rfl 33 (.tmp 2) rfl w.heap.size 0 rfl _ _ Q1.out.range Tryz.underlying33 rfl (by kernel_rfl) ?_)
  refine wpList_store_wide rfl 33 (.tmp 4) (.tmp 33) rfl (w.heap.size + 1) 0 (evC H) rfl rfl 33 _ Q2.out (by rw [evC_size, evC_size]; decide) (by rw [evC_size]; exact info_ev) (evC_one _) ?_
  intro w' hw'
  obtain rfl := w_setRow_allE hw' (by rw [evC_size, evC_size])
  go_wp2_with fail
  refine bodyPost_ret (results_cell (a := ⟨w.heap.size + 1, 0, none⟩) rfl rfl (Bk.ev (Bk.setRow_same Q2.out _))) rfl ⟨by rw [HH.out], below_setRow Q3.out (by omega) _⟩
set_option maxRecDepth 20000 in
set_option maxHeartbeats 2000000 in
theorem evwithout_109 (h : Eh) (w : World) : Calls Tryz.prog 90 #[.agg (evC h), .int .i32 109] w (OutIs h 109 w) := by
  obtain ⟨⟨k, t, bx, to, ids, st, md, fl, dt, nn, bd⟩, A1, n1, c1, A2, n2, c2, A3, n3, c3⟩ := h
  obtain ⟨H, hH⟩ : ∃ H : Eh, outH ⟨⟨k, t, bx, to, ids, st, md, fl, dt, nn, bd⟩, A1, n1, c1, A2, n2, c2, A3, n3, c3⟩ 109 = H := ⟨_, rfl⟩
  have b1 : Bk ((w.alloc (.cells (evC H) 33)).alloc (.cells (evC (bareH 0 0)) 33)) w.heap.size 33 (evC H) := (Bk.new _ _ _).alloc _
  have b2 : Bk ((w.alloc (.cells (evC H) 33)).alloc (.cells (evC (bareH 0 0)) 33)) (w.heap.size + 1) 33 (evC (bareH 0 0)) := Bk.new2 _ _ _ _
  have hB : Below w.heap.size w ((w.alloc (.cells (evC H) 33)).alloc (.cells (evC (bareH 0 0)) 33)) := ((Below.refl _ _).alloc (Nat.le_refl _) _).alloc (by simp) _
  have B1 := Lib.hid b1
  have B2 := Lib.hid b2
  have HB := Lib.hid hB
  have HH := Lib.hid hH
  clear b1 b2 hB hH
  show Calls Tryz.prog 90 #[.agg #[.int .i64 k, .int .i64 t, .string bx, .string to, .slice A1 n1 c1, .slice A2 n2 c2, .int .i64 md, .int .i64 fl, .int .i64 dt, .int .i64 nn, .slice A3 n3 c3], .int .i32 109] w _
  go_enter Tryz.func90, Tryz.ntmps90
  go_wp2_with ((with_reducible show wpList _ _ _ (⟨some 33, _, _, _, _, _⟩ :: _) _ _); refine hold ?_)
  refine list_overE (fun W => Bk W w.heap.size 33 (evC H) ∧ Bk W (w.heap.size + 1) 33 (evC (bareH 0 0)) ∧ Below w.heap.size w W) (by rw [← HH.out] at B1 B2 HB ⊢; exact ⟨B1.out, B2.out, HB.out⟩) ?_
  rintro W ⟨q1, q2, q3⟩
  have Q1 := Lib.hid q1
  have Q2 := Lib.hid q2
  have Q3 := Lib.hid q3
  clear q1 q2 q3 B1 B2 HB
  refine held (wpList_load_mid rfl 33 (.tmp 2) rfl w.heap.size 0 rfl _ _ Q1.out.range Tryz.underlying33 rfl (by kernel_rfl) ?_)
  refine wpList_store_wide rfl 33 (.tmp 4) (.tmp 33) rfl (w.heap.size + 1) 0 (evC H) rfl rfl 33 _ Q2.out (by rw [evC_size, evC_size]; decide) (by rw [evC_size]; exact info_ev) (evC_one _) ?_
  intro w' hw'
  obtain rfl := w_setRow_allE hw' (by rw [evC_size, evC_size])
  go_wp2_with fail
  refine bodyPost_ret (results_cell (a := ⟨w.heap.size + 1, 0, none⟩) rfl rfl (Bk.ev (Bk.setRow_same Q2.out _))) rfl ⟨by rw [HH.out], below_setRow Q3.out (by omega) _⟩
set_option maxRecDepth 20000 in
set_option maxHeartbeats 2000000 in
theorem evwithout_102 (h : Eh) (w : World) : Calls Tryz.prog 90 #[.agg (evC h), .int .i32 102] w (OutIs h 102 w) := by
  obtain ⟨⟨k, t, bx, to, ids, st, md, fl, dt, nn, bd⟩, A1, n1, c1, A2, n2, c2, A3, n3, c3⟩ := h
  obtain ⟨H, hH⟩ : ∃ H : Eh, outH ⟨⟨k, t, bx, to, ids, st, md, fl, dt, nn, bd⟩, A1, n1, c1, A2, n2, c2, A3, n3, c3⟩ 102 = H := ⟨_, rfl⟩
  have b1 : Bk ((w.alloc (.cells (evC H) 33)).alloc (.cells (evC (bareH 0 0)) 33)) w.heap.size 33 (evC H) := (Bk.new _ _ _).alloc _
  have b2 : Bk ((w.alloc (.cells (evC H) 33)).alloc (.cells (evC (bareH 0 0)) 33)) (w.heap.size + 1) 33 (evC (bareH 0 0)) := Bk.new2 _ _ _ _
  have hB : Below w.heap.size w ((w.alloc (.cells (evC H) 33)).alloc (.cells (evC (bareH 0 0)) 33)) := ((Below.refl _ _).alloc (Nat.le_refl _) _).alloc (by simp) _
  have B1 := Lib.hid b1
  have B2 := Lib.hid b2
  have HB := Lib.hid hB
  have HH := Lib.hid hH
  clear b1 b2 hB hH
  show Calls Tryz.prog 90 #[.agg #[.int .i64 k, .int .i64 t, .string bx, .string to, .slice A1 n1 c1, .slice A2 n2 c2, .int .i64 md, .int .i64 fl, .int .i64 dt, .int .i64 nn, .slice A3 n3 c3], .int .i32 102] w _
  go_enter Tryz.func90, Tryz.ntmps90
  go_wp2_with ((with_reducible show wpList _ _ _ (⟨some 33, _, _, _, _, _⟩ :: _) _ _); refine hold ?_)
  refine list_overE (fun W => Bk W w.heap.size 33 (evC H) ∧ Bk W (w.heap.size + 1) 33 (evC (bareH 0 0)) ∧ Below w.heap.size w W) (by rw [← HH.out] at B1 B2 HB ⊢; exact ⟨B1.out, B2.out, HB.out⟩) ?_
  rintro W ⟨q1, q2, q3⟩
  have Q1 := Lib.hid q1
  have Q2 := Lib.hid q2
  have Q3 := Lib.hid q3
  clear q1 q2 q3 B1 B2 HB
  refine held (wpList_load_mid rfl 33 (.tmp 2) rfl w.heap.size 0 rfl _ _ Q1.out.range Tryz.underlying33 rfl (by kernel_rfl) ?_)
  refine wpList_store_wide rfl 33 (.tmp 4) (.tmp 33) rfl (w.heap.size + 1) 0 (evC H) rfl rfl 33 _ Q2.out (by rw [evC_size, evC_size]; decide) (by rw [evC_size]; exact info_ev) (evC_one _) ?_
  intro w' hw'
  obtain rfl := w_setRow_allE hw' (by rw [evC_size, evC_size])
  go_wp2_with fail
  refine bodyPost_ret (results_cell (a := ⟨w.heap.size + 1, 0, none⟩) rfl rfl (Bk.ev (Bk.setRow_same Q2.out _))) rfl ⟨by rw [HH.out], below_setRow Q3.out (by omega) _⟩
set_option maxRecDepth 20000 in
set_option maxHeartbeats 2000000 in
theorem evwithout_100 (h : Eh) (w : World) : Calls Tryz.prog 90 #[.agg (evC h), .int .i32 100] w (OutIs h 100 w) := by
  obtain ⟨⟨k, t, bx, to, ids, st, md, fl, dt, nn, bd⟩, A1, n1, c1, A2, n2, c2, A3, n3, c3⟩ := h
  obtain ⟨H, hH⟩ : ∃ H : Eh, outH ⟨⟨k, t, bx, to, ids, st, md, fl, dt, nn, bd⟩, A1, n1, c1, A2, n2, c2, A3, n3, c3⟩ 100 = H := ⟨_, rfl⟩
  have b1 : Bk ((w.alloc (.cells (evC H) 33)).alloc (.cells (evC (bareH 0 0)) 33)) w.heap.size 33 (evC H) := (Bk.new _ _ _).alloc _
  have b2 : Bk ((w.alloc (.cells (evC H) 33)).alloc (.cells (evC (bareH 0 0)) 33)) (w.heap.size + 1) 33 (evC (bareH 0 0)) := Bk.new2 _ _ _ _
  have hB : Below w.heap.size w ((w.alloc (.cells (evC H) 33)).alloc (.cells (evC (bareH 0 0)) 33)) := ((Below.refl _ _).alloc (Nat.le_refl _) _).alloc (by simp) _
  have B1 := Lib.hid b1
  have B2 := Lib.hid b2
  have HB := Lib.hid hB
  have HH := Lib.hid hH
  clear b1 b2 hB hH
  show Calls Tryz.prog 90 #[.agg #[.int .i64 k, .int .i64 t, .string bx, .string to, .slice A1 n1 c1, .slice A2 n2 c2, .int .i64 md, .int .i64 fl, .int .i64 dt, .int .i64 nn, .slice A3 n3 c3], .int .i32 100] w _
  go_enter Tryz.func90, Tryz.ntmps90
  go_wp2_with ((with_reducible show wpList _ _ _ (⟨some 33, _, _, _, _, _⟩ :: _) _ _); refine hold ?_)
  refine list_overE (fun W => Bk W w.heap.size 33 (evC H) ∧ Bk W (w.heap.size + 1) 33 (evC (bareH 0 0)) ∧ Below w.heap.size w W) (by rw [← HH.out] at B1 B2 HB ⊢; exact ⟨B1.out, B2.out, HB.out⟩) ?_
  rintro W ⟨q1, q2, q3⟩
  have Q1 := Lib.hid q1
  have Q2 := Lib.hid q2
  have Q3 := Lib.hid q3
  clear q1 q2 q3 B1 B2 HB
  refine held (wpList_load_mid rfl 33 (.tmp 2) rfl w.heap.size 0 rfl _ _ Q1.out.range Tryz.underlying33 rfl (by kernel_rfl) ?_)
  refine wpList_store_wide rfl 33 (.tmp 4) (.tmp 33) rfl (w.heap.size + 1) 0 (evC H) rfl rfl 33 _ Q2.out (by rw [evC_size, evC_size]; decide) (by rw [evC_size]; exact info_ev) (evC_one _) ?_
  intro w' hw'
  obtain rfl := w_setRow_allE hw' (by rw [evC_size, evC_size])
  go_wp2_with fail
  refine bodyPost_ret (results_cell (a := ⟨w.heap.size + 1, 0, none⟩) rfl rfl (Bk.ev (Bk.setRow_same Q2.out _))) rfl ⟨by rw [HH.out], below_setRow Q3.out (by omega) _⟩
set_option maxRecDepth 20000 in
set_option maxHeartbeats 2000000 in
theorem evwithout_110 (h : Eh) (w : World) : Calls Tryz.prog 90 #[.agg (evC h), .int .i32 110] w (OutIs h 110 w) := by
  obtain ⟨⟨k, t, bx, to, ids, st, md, fl, dt, nn, bd⟩, A1, n1, c1, A2, n2, c2, A3, n3, c3⟩ := h
  obtain ⟨H, hH⟩ : ∃ H : Eh, outH ⟨⟨k, t, bx, to, ids, st, md, fl, dt, nn, bd⟩, A1, n1, c1, A2, n2, c2, A3, n3, c3⟩ 110 = H := ⟨_, rfl⟩
  have b1 : Bk ((w.alloc (.cells (evC H) 33)).alloc (.cells (evC (bareH 0 0)) 33)) w.heap.size 33 (evC H) := (Bk.new _ _ _).alloc _
  have b2 : Bk ((w.alloc (.cells (evC H) 33)).alloc (.cells (evC (bareH 0 0)) 33)) (w.heap.size + 1) 33 (evC (bareH 0 0)) := Bk.new2 _ _ _ _
  have hB : Below w.heap.size w ((w.alloc (.cells (evC H) 33)).alloc (.cells (evC (bareH 0 0)) 33)) := ((Below.refl _ _).alloc (Nat.le_refl _) _).alloc (by simp) _
  have B1 := Lib.hid b1
  have B2 := Lib.hid b2
  have HB := Lib.hid hB
  have HH := Lib.hid hH
  clear b1 b2 hB hH
  show Calls Tryz.prog 90 #[.agg #[.int .i64 k, .int .i64 t, .string bx, .string to, .slice A1 n1 c1, .slice A2 n2 c2, .int .i64 md, .int .i64 fl, .int .i64 dt, .int .i64 nn, .slice A3 n3 c3], .int .i32 110] w _
  go_enter Tryz.func90, Tryz.ntmps90
  go_wp2_with ((with_reducible show wpList _ _ _ (⟨some 33, _, _, _, _, _⟩ :: _) _ _); refine hold ?_)
  refine list_overE (fun W => Bk W w.heap.size 33 (evC H) ∧ Bk W (w.heap.size + 1) 33 (evC (bareH 0 0)) ∧ Below w.heap.size w W) (by rw [← HH.out] at B1 B2 HB ⊢; exact ⟨B1.out, B2.out, HB.out⟩) ?_
  rintro W ⟨q1, q2, q3⟩
  have Q1 := Lib.hid q1
  have Q2 := Lib.hid q2
  have Q3 := Lib.hid q3
  clear q1 q2 q3 B1 B2 HB
  refine held (wpList_load_mid rfl 33 (.tmp 2) rfl w.heap.size 0 rfl _ _ Q1.out.range Tryz.underlying33 rfl (by kernel_rfl) ?_)
  refine wpList_store_wide rfl 33 (.tmp 4) (.tmp 33) rfl (w.heap.size + 1) 0 (evC H) rfl rfl 33 _ Q2.out (by rw [evC_size, evC_size]; decide) (by rw [evC_size]; exact info_ev) (evC_one _) ?_
  intro w' hw'
  obtain rfl := w_setRow_allE hw' (by rw [evC_size, evC_size])
  go_wp2_with fail
  refine bodyPost_ret (results_cell (a := ⟨w.heap.size + 1, 0, none⟩) rfl rfl (Bk.ev (Bk.setRow_same Q2.out _))) rfl ⟨by rw [HH.out], below_setRow Q3.out (by omega) _⟩
set_option maxRecDepth 20000 in
set_option maxHeartbeats 2000000 in
theorem evwithout_121 (h : Eh) (w : World) : Calls Tryz.prog 90 #[.agg (evC h), .int .i32 121] w (OutIs h 121 w) := by
  obtain ⟨⟨k, t, bx, to, ids, st, md, fl, dt, nn, bd⟩, A1, n1, c1, A2, n2, c2, A3, n3, c3⟩ := h
  obtain ⟨H, hH⟩ : ∃ H : Eh, outH ⟨⟨k, t, bx, to, ids, st, md, fl, dt, nn, bd⟩, A1, n1, c1, A2, n2, c2, A3, n3, c3⟩ 121 = H := ⟨_, rfl⟩
  have b1 : Bk ((w.alloc (.cells (evC H) 33)).alloc (.cells (evC (bareH 0 0)) 33)) w.heap.size 33 (evC H) := (Bk.new _ _ _).alloc _
  have b2 : Bk ((w.alloc (.cells (evC H) 33)).alloc (.cells (evC (bareH 0 0)) 33)) (w.heap.size + 1) 33 (evC (bareH 0 0)) := Bk.new2 _ _ _ _
  have hB : Below w.heap.size w ((w.alloc (.cells (evC H) 33)).alloc (.cells (evC (bareH 0 0)) 33)) := ((Below.refl _ _).alloc (Nat.le_refl _) _).alloc (by simp) _
  have B1 := Lib.hid b1
  have B2 := Lib.hid b2
  have HB := Lib.hid hB
  have HH := Lib.hid hH
  clear b1 b2 hB hH
  show Calls Tryz.prog 90 #[.agg #[.int .i64 k, .int .i64 t, .string bx, .string to, .slice A1 n1 c1, .slice A2 n2 c2, .int .i64 md, .int .i64 fl, .int .i64 dt, .int .i64 nn, .slice A3 n3 c3], .int .i32 121] w _
  go_enter Tryz.func90, Tryz.ntmps90
  go_wp2_with ((with_reducible show wpList _ _ _ (⟨some 33, _, _, _, _, _⟩ :: _) _ _); refine hold ?_)
  refine list_overE (fun W => Bk W w.heap.size 33 (evC H) ∧ Bk W (w.heap.size + 1) 33 (evC (bareH 0 0)) ∧ Below w.heap.size w W) (by rw [← HH.out] at B1 B2 HB ⊢; exact ⟨B1.out, B2.out, HB.out⟩) ?_
  rintro W ⟨q1, q2, q3⟩
  have Q1 := Lib.hid q1
  have Q2 := Lib.hid q2
  have Q3 := Lib.hid q3
  clear q1 q2 q3 B1 B2 HB
  refine held (wpList_load_mid rfl 33 (.tmp 2) rfl w.heap.size 0 rfl _ _ Q1.out.range Tryz.underlying33 rfl (by kernel_rfl) ?_)
  refine wpList_store_wide rfl 33 (.tmp 4) (.tmp 33) rfl (w.heap.size + 1) 0 (evC H) rfl rfl 33 _ Q2.out (by rw [evC_size, evC_size]; decide) (by rw [evC_size]; exact info_ev) (evC_one _) ?_
  intro w' hw'
  obtain rfl := w_setRow_allE hw' (by rw [evC_size, evC_size])
  go_wp2_with fail
  refine bodyPost_ret (results_cell (a := ⟨w.heap.size + 1, 0, none⟩) rfl rfl (Bk.ev (Bk.setRow_same Q2.out _))) rfl ⟨by rw [HH.out], below_setRow Q3.out (by omega) _⟩
theorem evwithout_any (h : Eh) {c : Nat} (hc : c ∈ nineL) (w : World) : Calls Tryz.prog 90 #[.agg (evC h), .int .i32 (c : Int)] w (OutIs h c w) := by
  rcases nine_cases hc with rfl | rfl | rfl | rfl | rfl | rfl | rfl | rfl | rfl
  · exact evwithout_98 h w
  · exact evwithout_116 h w
  · exact evwithout_105 h w
  · exact evwithout_115 h w
  · exact evwithout_109 h w
  · exact evwithout_102 h w
  · exact evwithout_100 h w
  · exact evwithout_110 h w
  · exact evwithout_121 h w
end Go.Proofs.YtbogjfbfgbhdbaaGreatDoor
