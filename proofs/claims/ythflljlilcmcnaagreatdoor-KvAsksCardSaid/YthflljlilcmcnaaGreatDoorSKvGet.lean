/-
  A part of the proof: see the last text.
-/
import Derived.Test.YthflljlilcmcnaaGreatDoorSKvSmall
import Derived.Test.YthflljlilcmcnaaGreatDoorSKvShelf
import Derived.Test.YthflljlilcmcnaaGreatDoorSKvRise
import Derived.Deep.QuietTactic
namespace Go.Proofs.YthflljlilcmcnaaGreatDoor
set_option linter.unusedVariables false
set_option linter.unusedSimpArgs false
open Go.RowKit
set_option linter.unusedVariables false
set_option linter.unusedSimpArgs false
theorem text_eqb (a b : ByteArray) : (a.toList == b.toList) = decide (a = b) := by
  rw [ByteArray.toList_eq, ByteArray.toList_eq]
  by_cases h : a = b
  · subst h; simp
  · have : ¬ a.data.toList = b.data.toList := fun e => h (data_eq e)
    have h2 : ¬ a.data = b.data := fun e => this (by rw [e])
    simp [h, h2]
theorem fnOf_hit {l : List Pr} {k : Nat} {p : Pr} {key : ByteArray} (h : ∀ q ∈ l.take k, q.1 ≠ key) (hk : l[k]? = some p) (he : p.1 = key) : fnOf l key = some p.2 := by
  unfold fnOf
  have e : l = l.take k ++ p :: l.drop (k + 1) := by
    have hkl := (List.getElem?_eq_some_iff.1 hk).1
    have : l.drop k = p :: l.drop (k + 1) := by
      rw [List.drop_eq_getElem_cons hkl]
      rw [List.getElem?_eq_getElem hkl] at hk
      rw [Option.some.inj hk]
    rw [← this, List.take_append_drop]
  rw [e, List.find?_append, List.find?_eq_none.2 (fun q hq => by simpa using h q hq)]
  rw [Option.none_or, List.find?_cons, decide_eq_true he]
  rfl
theorem fnOf_none {l : List Pr} {key : ByteArray} (h : ∀ q ∈ l, q.1 ≠ key) : fnOf l key = none := by
  unfold fnOf
  rw [List.find?_eq_none.2 (fun q hq => by simpa using h q hq)]
  rfl
def getR (f : Fn) (key : ByteArray) : Value := .tuple #[.string ((f key).getD ⟨#[]⟩), .bool (f key).isSome]
set_option maxRecDepth 20000 in
set_option maxHeartbeats 2000000 in
theorem get_any (x0 x1 x2 x3 : Value) (A : Option Addr) (n c : Nat) (l : List Pr) (key : ByteArray) (w : World) (h0 : x0.oneCell' = true) (h1 : x1.oneCell' = true) (h2 : x2.oneCell' = true) (h3 : x3.oneCell' = true) (hl : ColK 2 pairC w w.heap.size A n l) (hn : n ≤ 140737488355328) :
    Calls Tryz.prog 9 #[.agg #[x0, x1, x2, x3, .slice A n c], .string key] w fun e w' => e = .returned (getR (fnOf l) key) ∧ Below w.heap.size w w' := by
  have hb0 : Below w.heap.size w (w.alloc (.cells #[x0, x1, x2, x3, .slice A n c] 31)) := (Below.refl _ _).alloc (Nat.le_refl _) _
  have c4 := cell_of_row (w.alloc (.cells #[x0, x1, x2, x3, .slice A n c] 31)) w.heap.size 4 _ _ (0, 0) (heap_alloc_new w _)
  have HL := Lib.hid hl
  have HB0 := Lib.hid hb0
  clear hl hb0
  go_enter Tryz.func9, Tryz.ntmps9
  go_wp2_with fail
  generalize w.alloc (.cells #[x0, x1, x2, x3, .slice A n c] 31) = w1 at *
  go_loopw [11] (fun i wx => ∃ k : Nat, k ≤ n ∧ i = .int .i64 (k : Int) ∧ (∀ q ∈ l.take k, q.1 ≠ key) ∧ Below w.heap.size w wx) (fun i _ => n - (intOf i).toNat)
  case atStart => exact ⟨0, Nat.zero_le _, rfl, fun q hq => (by cases hq), HB0.out⟩
  case round =>
    obtain ⟨k, hk, rfl, hu, hb⟩ := hrel
    have HB := Lib.hid hb
    have HU := Lib.hid hu
    clear hb hu c4
    by_cases hlt : k < n
    · obtain ⟨b, o, a, rfl, hbb, hla, htk, hrow⟩ := (HL.out.below HB.out (Nat.le_refl _)).at_ hlt
      have HLA := Lib.hid hla
      have HTK := Lib.hid htk
      have HROW := Lib.hid hrow
      have hk0 : (0 : Int) ≤ (k : Int) := by omega
      have hkn : (k : Int) < (n : Int) := by omega
      clear hla htk hrow
      go_wp2_with ((with_reducible show wpList _ _ _ (⟨some 14, _, _, _, _, _⟩ :: _) _ _); refine holdK ?_)
      refine heldK (wpList_load_mid rfl 63 (.tmp 13) rfl b (o + k * 2) rfl (pairC a) _ HROW.out Tryz.underlying63 rfl (by kernel_rfl) ?_)
      obtain ⟨ck, cv⟩ := a
      unfold pairC
      have heq := text_eqb ck key
      have HB2 := Lib.hid (HB.out.alloc HB.out.size (.cells #[.string ck, .string cv] 63))
      by_cases he : ck = key
      · rw [decide_eq_true he] at heq
        have HF := Lib.hid (fnOf_hit HU.out HLA.out he)
        clear he
        go_wp2_with fail
        go_ret2
        exact ⟨by unfold getR; rw [HF.out] <;> rfl, HB2.out⟩
      · rw [decide_eq_false he] at heq
        have HU2 : Hid (∀ q ∈ l.take (k + 1), q.1 ≠ key) := Lib.hid (fun q hq => by
          rw [HTK.out] at hq
          rcases List.mem_append.1 hq with h1 | h1
          · exact HU.out q h1
          · rw [List.mem_singleton.1 h1]; exact he)
        clear he
        go_wp2_with fail
        go_roundw
        case rel => exact ⟨k + 1, by omega, by go_num, HU2.out, HB2.out⟩
        case measure => simp [intOf]; omega
    · have hkn : ¬ (k : Int) < (n : Int) := by omega
      have HF : Hid (fnOf l key = none) := Lib.hid (fnOf_none (by have := HU.out; rwa [List.take_of_length_le (by rw [HL.out.1]; omega)] at this))
      go_wp2_with fail
      go_ret2
      exact ⟨by unfold getR; rw [HF.out] <;> rfl, HB.out⟩
end Go.Proofs.YthflljlilcmcnaaGreatDoor
namespace Go.Proofs.YthflljlilcmcnaaGreatDoor
set_option linter.unusedVariables false
set_option linter.unusedSimpArgs false
open Go.RowKit
set_option linter.unusedVariables false
set_option linter.unusedSimpArgs false
theorem drewN_twiceK (w : World) (a b : Nat) : (w.drewN a).drewN b = w.drewN (a + b) := by unfold World.drewN; simp [Nat.add_assoc]
set_option maxHeartbeats 1000000 in
theorem x6may_any (k v : ByteArray) (w : World) : Calls Tryz.prog 26 #[.string k, .string v] w fun e w' => e = .returned (.bool (mayB k v)) ∧ w = w' := by
  by_cases h1 : 1 ≤ k.size
  · have h1' : (1 : Int) ≤ (k.size : Int) := by omega
    by_cases h2 : k.size ≤ 64
    · have h2' : (k.size : Int) ≤ 64 := by omega
      by_cases h3 : v.size ≤ 4096
      · have h3' : (v.size : Int) ≤ 4096 := by omega
        have HR : Hid (mayB k v = true) := Lib.hid (by unfold mayB keyB; rw [decide_eq_true ⟨h1, h2⟩, decide_eq_true h3]; rfl)
        go_enter Tryz.func26, Tryz.ntmps26
        go_wp2
        go_ret
        exact ⟨by rw [HR.out] <;> rfl, rfl⟩
      · have h3' : ¬ (v.size : Int) ≤ 4096 := by omega
        have HR : Hid (mayB k v = false) := Lib.hid (by unfold mayB keyB; rw [decide_eq_true ⟨h1, h2⟩, decide_eq_false h3]; rfl)
        go_enter Tryz.func26, Tryz.ntmps26
        go_wp2
        go_ret
        exact ⟨by rw [HR.out] <;> rfl, rfl⟩
    · have h2' : ¬ (k.size : Int) ≤ 64 := by omega
      have HR : Hid (mayB k v = false) := Lib.hid (by unfold mayB keyB; rw [decide_eq_false (fun e => h2 e.2)]; rfl)
      go_enter Tryz.func26, Tryz.ntmps26
      go_wp2
      go_ret
      exact ⟨by rw [HR.out] <;> rfl, rfl⟩
  · have h1' : ¬ (1 : Int) ≤ (k.size : Int) := by omega
    have HR : Hid (mayB k v = false) := Lib.hid (by unfold mayB keyB; rw [decide_eq_false (fun e => h1 e.1)]; rfl)
    go_enter Tryz.func26, Tryz.ntmps26
    go_wp2
    go_ret
    exact ⟨by rw [HR.out] <;> rfl, rfl⟩
set_option maxRecDepth 20000 in
set_option maxHeartbeats 4000000 in
theorem x6changes_any (A : Option Addr) (n c : Nat) (l : List Chg) (w : World) (hl : ColK 3 chgC w w.heap.size A n l) (hn : n ≤ 140737488355328) :
    Calls Tryz.prog 8 #[.slice A n c] w fun e w' => e = .returned (.bool (changesB l)) ∧ ∃ q, w' = w.drewN q := by
  have HL := Lib.hid hl
  have HLN := Lib.hid hl.1
  clear hl
  go_enter Tryz.func8, Tryz.ntmps8
  go_wp2_with fail
  go_loopw [3] (fun i wx => ∃ k q : Nat, k ≤ n ∧ k ≤ 401 ∧ i = .int .i64 (k : Int) ∧ (l.take k).all okC = true ∧ wx = w.drewN q) (fun i _ => n - (intOf i).toNat)
  case atStart => exact ⟨0, 0, Nat.zero_le _, Nat.zero_le _, rfl, rfl, rfl⟩
  case round =>
    obtain ⟨k, q, hk, hk4, rfl, ha, hw⟩ := hrel
    have HA := Lib.hid ha
    have HW := Lib.hid hw
    clear ha hw
    by_cases hlt : k < n ∧ k < 401
    · obtain ⟨hlt1, hlt2⟩ := hlt
      obtain ⟨b, o, a, rfl, hbb, hla, htk, hrow⟩ := HL.out.at_ hlt1
      rw [show w.rangeAt b (o + k * 3) (chgC a) = wr.rangeAt b (o + k * 3) (chgC a) by rw [HW.out]; rfl] at hrow
      obtain ⟨ck, cv, cg⟩ := a
      have r0 := hrow 0 _ rfl
      have r1 := hrow 1 _ rfl
      have r2 := hrow 2 _ rfl
      rw [Nat.add_zero] at r0
      have HLA := Lib.hid hla
      have HTK := Lib.hid htk
      have hk0 : (0 : Int) ≤ (k : Int) := by omega
      have hkn : (k : Int) < (n : Int) := by omega
      have hk401 : (k : Int) < 401 := by omega
      have cm := fun W => (x6may_any ck cv W).mono (fun _ _ h => (⟨h.1, h.2.symm⟩ : _ ∧ _))
      clear hla htk hrow hlt2
      cases hm : mayB ck cv
      · have HS : Hid (l.all okC = false) := Lib.hid (all_stop HLA.out (by unfold okC; simp only; rw [hm]; rfl))
        have HC : Hid (changesB l = false) := Lib.hid (by unfold changesB; rw [HS.out]; simp)
        rw [hm] at cm
        clear hm
        go_wp2_with fail
        go_quiet ((go_at_call 26; exact Calls.quiet_of_same (cm _)))
        go_wp2_with fail
        go_ret
        exact ⟨by rw [HC.out] <;> rfl, _, by rw [HW.out]; exact drewN_twiceK _ _ _⟩
      · rw [hm] at cm
        cases cg
        · have HN : Hid ((l.take (k + 1)).all okC = true) := Lib.hid (all_snoc HA.out HTK.out (by unfold okC; simp only; rw [hm]; rfl))
          clear hm
          go_wp2_with fail
          go_quiet ((go_at_call 26; exact Calls.quiet_of_same (cm _)))
          go_wp2_with fail
          go_roundw
          case rel => exact ⟨k + 1, _, by omega, by omega, by go_num, HN.out, by rw [HW.out]; exact drewN_twiceK _ _ _⟩
          case measure => simp [intOf]; omega
        · by_cases h0 : cv.size = 0
          · have HN : Hid ((l.take (k + 1)).all okC = true) := Lib.hid (all_snoc HA.out HTK.out (by unfold okC; simp only; rw [hm, h0]; rfl))
            have hve := text_empty h0
            subst hve
            clear hm h0
            go_wp2_with fail
            go_quiet ((go_at_call 26; exact Calls.quiet_of_same (cm _)))
            go_wp2_with fail
            go_roundw
            case rel => exact ⟨k + 1, _, by omega, by omega, by go_num, HN.out, by rw [HW.out]; exact drewN_twiceK _ _ _⟩
            case measure => simp [intOf]; omega
          · have HS : Hid (l.all okC = false) := Lib.hid (all_stop HLA.out (by unfold okC; simp only; rw [hm, decide_eq_true h0]; rfl))
            have HC : Hid (changesB l = false) := Lib.hid (by unfold changesB; rw [HS.out]; simp)
            obtain ⟨n1, n2⟩ := text_ne h0
            clear hm h0
            go_wp2_with fail
            go_quiet ((go_at_call 26; exact Calls.quiet_of_same (cm _)))
            go_wp2_with fail
            go_ret
            exact ⟨by rw [HC.out] <;> rfl, _, by rw [HW.out]; exact drewN_twiceK _ _ _⟩
    · by_cases hkn : k < n
      · have hk401 : ¬ (k : Int) < 401 := by omega
        have hkn' : (k : Int) < (n : Int) := by omega
        have hn4 : ¬ (n : Int) ≤ 400 := by omega
        have HC : Hid (changesB l = false) := Lib.hid (by unfold changesB; rw [HLN.out, decide_eq_false (by omega)]; rfl)
        go_wp2_with fail
        go_ret
        exact ⟨by rw [HC.out] <;> rfl, _, HW.out⟩
      · have hkn' : ¬ (k : Int) < (n : Int) := by omega
        have hall : l.all okC = true := by have := HA.out; rwa [List.take_of_length_le (by rw [HLN.out]; omega)] at this
        have HC : Hid (changesB l = decide (n ≤ 400)) := Lib.hid (by unfold changesB; rw [HLN.out, hall, Bool.and_true])
        clear hall
        by_cases h4 : n ≤ 400
        · have h4' : (n : Int) ≤ 400 := by omega
          go_wp2_with fail
          go_ret
          exact ⟨by rw [HC.out, decide_eq_true h4] <;> rfl, _, HW.out⟩
        · have h4' : ¬ (n : Int) ≤ 400 := by omega
          go_wp2_with fail
          go_ret
          exact ⟨by rw [HC.out, decide_eq_false h4] <;> rfl, _, HW.out⟩
end Go.Proofs.YthflljlilcmcnaaGreatDoor
namespace Go.Proofs.YthflljlilcmcnaaGreatDoor
set_option linter.unusedVariables false
set_option linter.unusedSimpArgs false
open Go.RowKit
set_option linter.unusedVariables false
set_option linter.unusedSimpArgs false
set_option maxRecDepth 20000 in
set_option maxHeartbeats 2000000 in
theorem x6get_any (x0 x1 x2 x3 : Value) (A : Option Addr) (n c : Nat) (l : List Pr) (key : ByteArray) (w : World) (h0 : x0.oneCell' = true) (h1 : x1.oneCell' = true) (h2 : x2.oneCell' = true) (h3 : x3.oneCell' = true) (hl : ColK 2 pairC w w.heap.size A n l) (hn : n ≤ 140737488355328) :
    Calls Tryz.prog 10 #[.agg #[x0, x1, x2, x3, .slice A n c], .string key] w fun e w' => e = .returned (getR (fnOf l) key) ∧ Below w.heap.size w w' := by
  have hb0 : Below w.heap.size w (w.alloc (.cells #[x0, x1, x2, x3, .slice A n c] 31)) := (Below.refl _ _).alloc (Nat.le_refl _) _
  have c4 := cell_of_row (w.alloc (.cells #[x0, x1, x2, x3, .slice A n c] 31)) w.heap.size 4 _ _ (0, 0) (heap_alloc_new w _)
  have c4' : (w.alloc (.cells #[x0, x1, x2, x3, .slice A n c] 31)).cell? ⟨w.heap.size, 4, none⟩ = some (.slice A n c) := c4
  have HL := Lib.hid (hl.below hb0 (Nat.le_refl _))
  have HB0 := Lib.hid hb0
  clear hl hb0 c4
  go_enter Tryz.func10, Tryz.ntmps10
  go_wp2_with fail
  obtain ⟨w1, hw1⟩ : ∃ w1, w.alloc (.cells #[x0, x1, x2, x3, .slice A n c] 31) = w1 := ⟨_, rfl⟩
  rw [hw1] at c4' HL HB0 ⊢
  clear hw1
  go_loop [6] (fun i => ∃ k : Nat, k ≤ n ∧ i = .int .i64 (k : Int) ∧ (∀ q ∈ l.take k, q.1 ≠ key)) (fun i => n - (intOf i).toNat)
  case atStart => exact ⟨0, Nat.zero_le _, rfl, fun q hq => (by cases hq)⟩
  case round =>
    obtain ⟨k, hk, rfl, hu⟩ := hrel
    have HU := Lib.hid hu
    clear hu
    by_cases hlt : k < n
    · obtain ⟨b, o, a, rfl, hbb, hla, htk, hrow⟩ := HL.out.at_ hlt
      obtain ⟨ck, cv⟩ := a
      have r0 := hrow 0 _ rfl
      have r1 := hrow 1 _ rfl
      rw [Nat.add_zero] at r0
      have HLA := Lib.hid hla
      have HTK := Lib.hid htk
      have hk0 : (0 : Int) ≤ (k : Int) := by omega
      have hkn : (k : Int) < (n : Int) := by omega
      have heq := text_eqb ck key
      clear hla htk hrow
      by_cases he : ck = key
      · rw [decide_eq_true he] at heq
        have HF := Lib.hid (fnOf_hit HU.out HLA.out he)
        clear he
        go_wp2_with fail
        go_ret2
        exact ⟨by unfold getR; rw [HF.out] <;> rfl, HB0.out⟩
      · rw [decide_eq_false he] at heq
        have HU2 : Hid (∀ q ∈ l.take (k + 1), q.1 ≠ key) := Lib.hid (fun q hq => by
          rw [HTK.out] at hq
          rcases List.mem_append.1 hq with h1 | h1
          · exact HU.out q h1
          · rw [List.mem_singleton.1 h1]; exact he)
        clear he
        go_wp2_with fail
        go_round
        case rel => exact ⟨k + 1, by omega, by go_num, HU2.out⟩
        case measure => simp [intOf]; omega
    · have hkn : ¬ (k : Int) < (n : Int) := by omega
      have HF : Hid (fnOf l key = none) := Lib.hid (fnOf_none (by have := HU.out; rwa [List.take_of_length_le (by rw [HL.out.1]; omega)] at this))
      go_wp2_with fail
      go_ret2
      exact ⟨by unfold getR; rw [HF.out] <;> rfl, HB0.out⟩
theorem ne_atP {l r : List Pr} {k : Nat} {x y : Pr} (hx : l[k]? = some x) (hy : r[k]? = some y) (h : x ≠ y) : l ≠ r := fun e => by
  rw [e, hy] at hx; exact h (Option.some.inj hx).symm
set_option maxRecDepth 20000 in
set_option maxHeartbeats 4000000 in
theorem x6samePairs_any (A B : Option Addr) (n c m d : Nat) (l r : List Pr) (w : World) (hl : ColK 2 pairC w w.heap.size A n l) (hr : ColK 2 pairC w w.heap.size B m r) (hn : n ≤ 140737488355328) (hm : m ≤ 140737488355328) :
    Calls Tryz.prog 11 #[.slice A n c, .slice B m d] w fun e w' => e = .returned (.bool (decide (l = r))) ∧ ∃ q, w' = w.drewN q := by
  have HL := Lib.hid hl
  have HR := Lib.hid hr
  by_cases hnm : n = m
  · subst hnm
    have hne : ((n : Int) != (n : Int)) = false := by simp
    clear hl hr
    go_enter Tryz.func11, Tryz.ntmps11
    go_wp2_with fail
    go_loopw [5] (fun i wx => ∃ k q : Nat, k ≤ n ∧ i = .int .i64 (k : Int) ∧ l.take k = r.take k ∧ wx = w.drewN q) (fun i _ => n - (intOf i).toNat)
    case atStart => exact ⟨0, 0, Nat.zero_le _, rfl, rfl, rfl⟩
    case round =>
      obtain ⟨k, q, hk, rfl, hm, hw⟩ := hrel
      have HM := Lib.hid hm
      have HW := Lib.hid hw
      clear hm hw
      by_cases hlt : k < n
      · obtain ⟨b, o, x, rfl, hbb, hla, htk, hrow⟩ := HL.out.at_ hlt
        obtain ⟨b2, o2, y, rfl, hbb2, hla2, htk2, hrow2⟩ := HR.out.at_ hlt
        rw [show w.rangeAt b (o + k * 2) (pairC x) = wr.rangeAt b (o + k * 2) (pairC x) by rw [HW.out]; rfl] at hrow
        rw [show w.rangeAt b2 (o2 + k * 2) (pairC y) = wr.rangeAt b2 (o2 + k * 2) (pairC y) by rw [HW.out]; rfl] at hrow2
        obtain ⟨x1, x2⟩ := x
        obtain ⟨y1, y2⟩ := y
        have r0 := hrow 0 _ rfl
        have r1 := hrow 1 _ rfl
        have s0 := hrow2 0 _ rfl
        have s1 := hrow2 1 _ rfl
        rw [Nat.add_zero] at r0 s0
        have hk0 : (0 : Int) ≤ (k : Int) := by omega
        have hkn : (k : Int) < (n : Int) := by omega
        have HA1 := Lib.hid hla
        have HA2 := Lib.hid hla2
        have HT1 := Lib.hid htk
        have HT2 := Lib.hid htk2
        have q1 := text_eqb x1 y1
        have q2 := text_eqb x2 y2
        clear hla hla2 htk htk2 hrow hrow2
        by_cases he1 : x1 = y1
        · rw [decide_eq_true he1] at q1
          by_cases he2 : x2 = y2
          · rw [decide_eq_true he2] at q2
            have HN : Hid (l.take (k + 1) = r.take (k + 1)) := Lib.hid (by rw [HT1.out, HT2.out, HM.out, he1, he2])
            clear he1 he2
            go_wp2_with fail
            go_quiet (fail)
            go_wp2_with fail
            go_roundw
            case rel => exact ⟨k + 1, _, by omega, by go_num, HN.out, by rw [HW.out]; exact drewN_twiceK _ _ _⟩
            case measure => simp [intOf]; omega
          · rw [decide_eq_false he2] at q2
            have HN : Hid (decide (l = r) = false) := Lib.hid (decide_eq_false (ne_atP HA1.out HA2.out (fun e => he2 (Prod.mk.inj e).2)))
            clear he1 he2
            go_wp2_with fail
            go_quiet (fail)
            go_wp2_with fail
            go_ret
            exact ⟨by rw [HN.out] <;> rfl, _, by rw [HW.out]; exact drewN_twiceK _ _ _⟩
        · rw [decide_eq_false he1] at q1
          have HN : Hid (decide (l = r) = false) := Lib.hid (decide_eq_false (ne_atP HA1.out HA2.out (fun e => he1 (Prod.mk.inj e).1)))
          clear he1 q2
          go_wp2_with fail
          go_quiet (fail)
          go_wp2_with fail
          go_ret
          exact ⟨by rw [HN.out] <;> rfl, _, by rw [HW.out]; exact drewN_twiceK _ _ _⟩
      · have hkn : ¬ (k : Int) < (n : Int) := by omega
        have HN : Hid (decide (l = r) = true) := Lib.hid (decide_eq_true (by
          have h := HM.out
          rwa [List.take_of_length_le (by rw [HL.out.1]; omega), List.take_of_length_le (by rw [HR.out.1]; omega)] at h))
        go_wp2_with fail
        go_ret
        exact ⟨by rw [HN.out] <;> rfl, _, HW.out⟩
  · have hne : ((n : Int) != (m : Int)) = true := by simp; omega
    have HN : Hid (decide (l = r) = false) := Lib.hid (decide_eq_false (fun e => hnm (by rw [← hl.1, ← hr.1, e])))
    clear hl hr
    go_enter Tryz.func11, Tryz.ntmps11
    go_wp2_with fail
    go_ret
    exact ⟨by rw [HN.out] <;> rfl, 0, rfl⟩
def wP (p : Pr) : Nat := p.1.size + p.2.size
def wC (c : Chg) : Nat := c.1.size + c.2.1.size
def sumW {α : Type} (f : α → Nat) (l : List α) : Nat := (l.map f).sum
theorem sumW_snoc {α : Type} (f : α → Nat) {l : List α} {k : Nat} {a : α} (h : l.take (k + 1) = l.take k ++ [a]) : sumW f (l.take (k + 1)) = sumW f (l.take k) + f a := by
  unfold sumW; rw [h]; simp
theorem sumW_take {α : Type} (f : α → Nat) (l : List α) (k : Nat) : sumW f (l.take k) ≤ sumW f l := by
  conv => rhs; rw [← List.take_append_drop k l]
  unfold sumW; rw [List.map_append, List.sum_append]; omega
theorem sumW_le {α : Type} (f : α → Nat) {l : List α} {a : α} (h : a ∈ l) : f a ≤ sumW f l := by
  induction l with
  | nil => cases h
  | cons x l ih =>
    unfold sumW at ih ⊢
    rw [List.map_cons, List.sum_cons]
    rcases List.mem_cons.1 h with rfl | h
    · omega
    · have := ih h; omega
def great6B (l : List Pr) (cs : List Chg) : Bool := decide (20000 < l.length + cs.length + sumW wP l + sumW wC cs)
def GreatAt (l : List Pr) (cs : List Chg) (n m j y : Nat) : Prop := (y = n + m + sumW wP l + sumW wC (cs.take j)) ∨ (20000 < y ∧ great6B l cs = true)
set_option maxRecDepth 20000 in
set_option maxHeartbeats 4000000 in
theorem great06_any (A B : Option Addr) (n c m d : Nat) (l : List Pr) (cs : List Chg) (w : World) (hl : ColK 2 pairC w w.heap.size A n l) (hr : ColK 3 chgC w w.heap.size B m cs) (hn : n ≤ 140737488355328) (hm : m ≤ 140737488355328)
    (hs : ∀ x ∈ l, x.1.size ≤ 140737488355328 ∧ x.2.size ≤ 140737488355328) (hs2 : ∀ x ∈ cs, x.1.size ≤ 140737488355328 ∧ x.2.1.size ≤ 140737488355328) :
    Calls Tryz.prog 6 #[.slice A n c, .slice B m d] w fun e w' => e = .returned (.bool (great6B l cs)) ∧ ∃ q, w' = w.drewN q := by
  have HL := Lib.hid hl
  have HR := Lib.hid hr
  have HS := Lib.hid hs
  have HS2 := Lib.hid hs2
  have HG : Hid (great6B l cs = decide (20000 < n + m + sumW wP l + sumW wC cs)) := Lib.hid (by unfold great6B; rw [hl.1, hr.1])
  clear hl hr hs hs2
  go_enter Tryz.func6, Tryz.ntmps6
  go_wp2_with fail
  go_loopw [5, 6] (fun t i wx => ∃ k q x : Nat, k ≤ n ∧ i = .int .i64 (k : Int) ∧ t = .int .i64 (x : Int) ∧ (x = n + m + sumW wP (l.take k)) ∧ x ≤ 900000000000000 ∧ wx = w.drewN q) (fun _ i _ => n - (intOf i).toNat)
  case atStart => exact ⟨0, 0, n + m, Nat.zero_le _, rfl, by first | rfl | (simp; done), rfl, by omega, rfl⟩
  case round =>
    obtain ⟨k, q, x, hk, rfl, rfl, hx, hx2, hw⟩ := hrel
    have HX := Lib.hid hx
    have HW := Lib.hid hw
    clear hx hw
    by_cases hgr : x ≤ 20000
    · have hgr' : (x : Int) ≤ 20000 := by omega
      by_cases hlt : k < n
      · obtain ⟨b, o, a, rfl, hbb, hla, htk, hrow⟩ := HL.out.at_ hlt
        rw [show w.rangeAt b (o + k * 2) (pairC a) = wr.rangeAt b (o + k * 2) (pairC a) by rw [HW.out]; rfl] at hrow
        have hsz := HS.out a (List.mem_of_getElem? hla)
        obtain ⟨a1, a2⟩ := a
        have r0 := hrow 0 _ rfl
        have r1 := hrow 1 _ rfl
        rw [Nat.add_zero] at r0
        have hk0 : (0 : Int) ≤ (k : Int) := by omega
        have hkn : (k : Int) < (n : Int) := by omega
        have HSN : Hid (x + a1.size + a2.size = n + m + sumW wP (l.take (k + 1))) := Lib.hid (by rw [sumW_snoc wP htk, HX.out]; unfold wP; simp only; omega)
        obtain ⟨hz1, hz2⟩ := hsz
        simp only at hz1 hz2
        have w1 : IntKind.i64.wrap ((x : Int) + (a1.size : Int)) = (x : Int) + (a1.size : Int) := IntWalk.i64_in _ (by omega)
        have w2 : IntKind.i64.wrap ((x : Int) + (a1.size : Int) + (a2.size : Int)) = (x : Int) + (a1.size : Int) + (a2.size : Int) := IntWalk.i64_in _ (by omega)
        clear hla htk hrow
        go_wp2_with fail
        go_quiet (fail)
        go_wp2_with fail
        go_roundw
        case rel => exact ⟨k + 1, _, x + a1.size + a2.size, by omega, by go_num, by first | rfl | (simp; done), HSN.out, by omega, by rw [HW.out]; exact drewN_twiceK _ _ _⟩
        case measure => simp [intOf]; omega
      · have hkn : ¬ (k : Int) < (n : Int) := by omega
        have GA : Hid (GreatAt l cs n m 0 x) := Lib.hid (.inl (by
          have := HX.out
          rw [List.take_of_length_le (by rw [HL.out.1]; omega)] at this
          rw [this]; simp [sumW]))
        go_wp2_with fail
        go_loopw [5, 7] (fun t i wx => ∃ j q y : Nat, j ≤ m ∧ i = .int .i64 (j : Int) ∧ t = .int .i64 (y : Int) ∧ GreatAt l cs n m j y ∧ y ≤ 1800000000000000 ∧ wx = w.drewN q) (fun _ i _ => m - (intOf i).toNat)
        case atStart => exact ⟨0, q, x, Nat.zero_le _, rfl, rfl, GA.out, by omega, HW.out⟩
        case round =>
          obtain ⟨j, q2, y, hj, rfl, rfl, hga, hy2, hw2⟩ := hrel
          have HGA := Lib.hid hga
          have HW2 := Lib.hid hw2
          clear hga hw2
          by_cases hgr2 : y ≤ 20000
          · have hgr2' : (y : Int) ≤ 20000 := by omega
            by_cases hlt2 : j < m
            · obtain ⟨b, o, a, rfl, hbb, hla, htk, hrow⟩ := HR.out.at_ hlt2
              rw [show w.rangeAt b (o + j * 3) (chgC a) = wr.rangeAt b (o + j * 3) (chgC a) by rw [HW2.out]; rfl] at hrow
              have hsz := HS2.out a (List.mem_of_getElem? hla)
              obtain ⟨a1, a2, a3⟩ := a
              have r0 := hrow 0 _ rfl
              have r1 := hrow 1 _ rfl
              rw [Nat.add_zero] at r0
              have hj0 : (0 : Int) ≤ (j : Int) := by omega
              have hjm : (j : Int) < (m : Int) := by omega
              have HSN : Hid (GreatAt l cs n m (j + 1) (y + a1.size + a2.size)) := Lib.hid (by
                rcases HGA.out with h | ⟨h, _⟩
                · left; rw [sumW_snoc wC htk, h]; unfold wC; simp only; omega
                · omega)
              obtain ⟨hz1, hz2⟩ := hsz
              simp only at hz1 hz2
              have w1 : IntKind.i64.wrap ((y : Int) + (a1.size : Int)) = (y : Int) + (a1.size : Int) := IntWalk.i64_in _ (by omega)
              have w2 : IntKind.i64.wrap ((y : Int) + (a1.size : Int) + (a2.size : Int)) = (y : Int) + (a1.size : Int) + (a2.size : Int) := IntWalk.i64_in _ (by omega)
              clear hla htk hrow
              go_wp2_with fail
              go_quiet (fail)
              go_wp2_with fail
              go_roundw
              case rel => exact ⟨j + 1, _, y + a1.size + a2.size, by omega, by go_num, by first | rfl | (simp; done), HSN.out, by omega, by rw [HW2.out]; exact drewN_twiceK _ _ _⟩
              case measure => simp [intOf]; omega
            · have hjm : ¬ (j : Int) < (m : Int) := by omega
              have hbig : ¬ (20000 : Int) < (y : Int) := by omega
              have HN : Hid (great6B l cs = false) := Lib.hid (by
                rw [HG.out]
                rcases HGA.out with h | ⟨h, _⟩
                · rw [List.take_of_length_le (by rw [HR.out.1]; omega)] at h
                  exact decide_eq_false (by omega)
                · omega)
              go_wp2_with fail
              go_ret
              exact ⟨by rw [HN.out] <;> rfl, _, HW2.out⟩
          · have hgr2' : ¬ (y : Int) ≤ 20000 := by omega
            have hbig : (20000 : Int) < (y : Int) := by omega
            have HN : Hid (great6B l cs = true) := Lib.hid (by
              rcases HGA.out with h | ⟨_, h⟩
              · rw [HG.out]
                have := sumW_take wC cs j
                exact decide_eq_true (by omega)
              · exact h)
            by_cases hlt2 : j < m
            · have hjm : (j : Int) < (m : Int) := by omega
              go_wp2_with fail
              go_ret
              exact ⟨by rw [HN.out] <;> rfl, _, HW2.out⟩
            · have hjm : ¬ (j : Int) < (m : Int) := by omega
              go_wp2_with fail
              go_ret
              exact ⟨by rw [HN.out] <;> rfl, _, HW2.out⟩
    · have hgr' : ¬ (x : Int) ≤ 20000 := by omega
      have GA : Hid (GreatAt l cs n m 0 x) := Lib.hid (.inr ⟨by omega, by
        rw [HG.out]
        have := HX.out
        have := sumW_take wP l k
        exact decide_eq_true (by omega)⟩)
      by_cases hlt : k < n
      · have hkn : (k : Int) < (n : Int) := by omega
        go_wp2_with fail
        go_loopw [5, 7] (fun t i wx => ∃ j q y : Nat, j ≤ m ∧ i = .int .i64 (j : Int) ∧ t = .int .i64 (y : Int) ∧ GreatAt l cs n m j y ∧ y ≤ 1800000000000000 ∧ wx = w.drewN q) (fun _ i _ => m - (intOf i).toNat)
        case atStart => exact ⟨0, q, x, Nat.zero_le _, rfl, rfl, GA.out, by omega, HW.out⟩
        case round =>
          obtain ⟨j, q2, y, hj, rfl, rfl, hga, hy2, hw2⟩ := hrel
          have HGA := Lib.hid hga
          have HW2 := Lib.hid hw2
          clear hga hw2
          by_cases hgr2 : y ≤ 20000
          · have hgr2' : (y : Int) ≤ 20000 := by omega
            by_cases hlt2 : j < m
            · obtain ⟨b, o, a, rfl, hbb, hla, htk, hrow⟩ := HR.out.at_ hlt2
              rw [show w.rangeAt b (o + j * 3) (chgC a) = wr.rangeAt b (o + j * 3) (chgC a) by rw [HW2.out]; rfl] at hrow
              have hsz := HS2.out a (List.mem_of_getElem? hla)
              obtain ⟨a1, a2, a3⟩ := a
              have r0 := hrow 0 _ rfl
              have r1 := hrow 1 _ rfl
              rw [Nat.add_zero] at r0
              have hj0 : (0 : Int) ≤ (j : Int) := by omega
              have hjm : (j : Int) < (m : Int) := by omega
              have HSN : Hid (GreatAt l cs n m (j + 1) (y + a1.size + a2.size)) := Lib.hid (by
                rcases HGA.out with h | ⟨h, _⟩
                · left; rw [sumW_snoc wC htk, h]; unfold wC; simp only; omega
                · omega)
              obtain ⟨hz1, hz2⟩ := hsz
              simp only at hz1 hz2
              have w1 : IntKind.i64.wrap ((y : Int) + (a1.size : Int)) = (y : Int) + (a1.size : Int) := IntWalk.i64_in _ (by omega)
              have w2 : IntKind.i64.wrap ((y : Int) + (a1.size : Int) + (a2.size : Int)) = (y : Int) + (a1.size : Int) + (a2.size : Int) := IntWalk.i64_in _ (by omega)
              clear hla htk hrow
              go_wp2_with fail
              go_quiet (fail)
              go_wp2_with fail
              go_roundw
              case rel => exact ⟨j + 1, _, y + a1.size + a2.size, by omega, by go_num, by first | rfl | (simp; done), HSN.out, by omega, by rw [HW2.out]; exact drewN_twiceK _ _ _⟩
              case measure => simp [intOf]; omega
            · have hjm : ¬ (j : Int) < (m : Int) := by omega
              have hbig : ¬ (20000 : Int) < (y : Int) := by omega
              have HN : Hid (great6B l cs = false) := Lib.hid (by
                rw [HG.out]
                rcases HGA.out with h | ⟨h, _⟩
                · rw [List.take_of_length_le (by rw [HR.out.1]; omega)] at h
                  exact decide_eq_false (by omega)
                · omega)
              go_wp2_with fail
              go_ret
              exact ⟨by rw [HN.out] <;> rfl, _, HW2.out⟩
          · have hgr2' : ¬ (y : Int) ≤ 20000 := by omega
            have hbig : (20000 : Int) < (y : Int) := by omega
            have HN : Hid (great6B l cs = true) := Lib.hid (by
              rcases HGA.out with h | ⟨_, h⟩
              · rw [HG.out]
                have := sumW_take wC cs j
                exact decide_eq_true (by omega)
              · exact h)
            by_cases hlt2 : j < m
            · have hjm : (j : Int) < (m : Int) := by omega
              go_wp2_with fail
              go_ret
              exact ⟨by rw [HN.out] <;> rfl, _, HW2.out⟩
            · have hjm : ¬ (j : Int) < (m : Int) := by omega
              go_wp2_with fail
              go_ret
              exact ⟨by rw [HN.out] <;> rfl, _, HW2.out⟩
      · have hkn : ¬ (k : Int) < (n : Int) := by omega
        go_wp2_with fail
        go_loopw [5, 7] (fun t i wx => ∃ j q y : Nat, j ≤ m ∧ i = .int .i64 (j : Int) ∧ t = .int .i64 (y : Int) ∧ GreatAt l cs n m j y ∧ y ≤ 1800000000000000 ∧ wx = w.drewN q) (fun _ i _ => m - (intOf i).toNat)
        case atStart => exact ⟨0, q, x, Nat.zero_le _, rfl, rfl, GA.out, by omega, HW.out⟩
        case round =>
          obtain ⟨j, q2, y, hj, rfl, rfl, hga, hy2, hw2⟩ := hrel
          have HGA := Lib.hid hga
          have HW2 := Lib.hid hw2
          clear hga hw2
          by_cases hgr2 : y ≤ 20000
          · have hgr2' : (y : Int) ≤ 20000 := by omega
            by_cases hlt2 : j < m
            · obtain ⟨b, o, a, rfl, hbb, hla, htk, hrow⟩ := HR.out.at_ hlt2
              rw [show w.rangeAt b (o + j * 3) (chgC a) = wr.rangeAt b (o + j * 3) (chgC a) by rw [HW2.out]; rfl] at hrow
              have hsz := HS2.out a (List.mem_of_getElem? hla)
              obtain ⟨a1, a2, a3⟩ := a
              have r0 := hrow 0 _ rfl
              have r1 := hrow 1 _ rfl
              rw [Nat.add_zero] at r0
              have hj0 : (0 : Int) ≤ (j : Int) := by omega
              have hjm : (j : Int) < (m : Int) := by omega
              have HSN : Hid (GreatAt l cs n m (j + 1) (y + a1.size + a2.size)) := Lib.hid (by
                rcases HGA.out with h | ⟨h, _⟩
                · left; rw [sumW_snoc wC htk, h]; unfold wC; simp only; omega
                · omega)
              obtain ⟨hz1, hz2⟩ := hsz
              simp only at hz1 hz2
              have w1 : IntKind.i64.wrap ((y : Int) + (a1.size : Int)) = (y : Int) + (a1.size : Int) := IntWalk.i64_in _ (by omega)
              have w2 : IntKind.i64.wrap ((y : Int) + (a1.size : Int) + (a2.size : Int)) = (y : Int) + (a1.size : Int) + (a2.size : Int) := IntWalk.i64_in _ (by omega)
              clear hla htk hrow
              go_wp2_with fail
              go_quiet (fail)
              go_wp2_with fail
              go_roundw
              case rel => exact ⟨j + 1, _, y + a1.size + a2.size, by omega, by go_num, by first | rfl | (simp; done), HSN.out, by omega, by rw [HW2.out]; exact drewN_twiceK _ _ _⟩
              case measure => simp [intOf]; omega
            · have hjm : ¬ (j : Int) < (m : Int) := by omega
              have hbig : ¬ (20000 : Int) < (y : Int) := by omega
              have HN : Hid (great6B l cs = false) := Lib.hid (by
                rw [HG.out]
                rcases HGA.out with h | ⟨h, _⟩
                · rw [List.take_of_length_le (by rw [HR.out.1]; omega)] at h
                  exact decide_eq_false (by omega)
                · omega)
              go_wp2_with fail
              go_ret
              exact ⟨by rw [HN.out] <;> rfl, _, HW2.out⟩
          · have hgr2' : ¬ (y : Int) ≤ 20000 := by omega
            have hbig : (20000 : Int) < (y : Int) := by omega
            have HN : Hid (great6B l cs = true) := Lib.hid (by
              rcases HGA.out with h | ⟨_, h⟩
              · rw [HG.out]
                have := sumW_take wC cs j
                exact decide_eq_true (by omega)
              · exact h)
            by_cases hlt2 : j < m
            · have hjm : (j : Int) < (m : Int) := by omega
              go_wp2_with fail
              go_ret
              exact ⟨by rw [HN.out] <;> rfl, _, HW2.out⟩
            · have hjm : ¬ (j : Int) < (m : Int) := by omega
              go_wp2_with fail
              go_ret
              exact ⟨by rw [HN.out] <;> rfl, _, HW2.out⟩
end Go.Proofs.YthflljlilcmcnaaGreatDoor
namespace Go.Proofs.YthflljlilcmcnaaGreatDoor
set_option linter.unusedVariables false
set_option linter.unusedSimpArgs false
open Go.RowKit
set_option linter.unusedVariables false
set_option linter.unusedSimpArgs false
def SaysD (p : Prop) (w : World) (e : Ending) (w' : World) : Prop := Says p e ∧ ∃ q, w' = w.drewN q
set_option maxRecDepth 20000 in
set_option maxHeartbeats 4000000 in
theorem x6pairs_any (A : Option Addr) (n c : Nat) (l : List Pr) (w : World) (hl : ColK 2 pairC w w.heap.size A n l) (hn : n ≤ 140737488355328) :
    Calls Tryz.prog 7 #[.slice A n c] w (SaysD (PairsOk l) w) := by
  have HL := Lib.hid hl
  have HLN := Lib.hid hl.1
  clear hl
  go_enter Tryz.func7, Tryz.ntmps7
  go_wp2_with fail
  go_loopw [3] (fun i wx => ∃ k q : Nat, k ≤ n ∧ k ≤ 401 ∧ i = .int .i64 (k : Int) ∧ UpTo l k ∧ wx = w.drewN q) (fun i _ => n - (intOf i).toNat)
  case atStart => exact ⟨0, 0, Nat.zero_le _, Nat.zero_le _, rfl, upTo_0 l, rfl⟩
  case round =>
    obtain ⟨k, q, hk, hk4, rfl, hu, hw⟩ := hrel
    have HU := Lib.hid hu
    have HW := Lib.hid hw
    clear hu hw
    by_cases hlt : k < n ∧ k < 401
    · obtain ⟨hlt1, hlt2⟩ := hlt
      obtain ⟨b, o, a, rfl, hbb, hla, htk, hrow⟩ := HL.out.at_ hlt1
      rw [show w.rangeAt b (o + k * 2) (pairC a) = wr.rangeAt b (o + k * 2) (pairC a) by rw [HW.out]; rfl] at hrow
      obtain ⟨ck, cv⟩ := a
      have r0 := hrow 0 _ rfl
      have r1 := hrow 1 _ rfl
      rw [Nat.add_zero] at r0
      have HLA := Lib.hid hla
      have HTK := Lib.hid htk
      have hk0 : (0 : Int) ≤ (k : Int) := by omega
      have hkn : (k : Int) < (n : Int) := by omega
      have hk401 : (k : Int) < 401 := by omega
      have cm := fun W => (x6may_any ck cv W).mono (fun _ _ h => (⟨h.1, h.2.symm⟩ : _ ∧ _))
      have hprev : 0 < k → ∃ p : Pr, l[k - 1]? = some p ∧ wr.cell? ⟨b, o + (k - 1) * 2, none⟩ = some (.string p.1) := by
        intro hk1
        obtain ⟨b', o', p, e, _, hp, _, hr⟩ := HL.out.at_ (j := k - 1) (by omega)
        injection e with e
        injection e with e1 e2
        subst e1 e2
        rw [show w.rangeAt b (o + (k - 1) * 2) (pairC p) = wr.rangeAt b (o + (k - 1) * 2) (pairC p) by rw [HW.out]; rfl] at hr
        exact ⟨p, hp, hr 0 _ rfl⟩
      have HPV := Lib.hid hprev
      clear hla htk hrow hlt2 hprev
      cases hm : mayB ck cv
      · have HR : Hid (¬ PairsOk l) := Lib.hid (fun h => by have := h.2.1 _ (List.mem_of_getElem? HLA.out); rw [hm] at this; cases this)
        rw [hm] at cm
        clear hm
        go_wp2_with fail
        go_quiet ((go_at_call 26; exact Calls.quiet_of_same (cm _)))
        go_wp2_with fail
        go_ret
        exact ⟨Says.no HR.out, _, by rw [HW.out]; exact drewN_twiceK _ _ _⟩
      · rw [hm] at cm
        have HMAY := Lib.hid (upTo_may HU.out HTK.out hm)
        clear hm
        by_cases h0 : k = 0
        · have HN : Hid (UpTo l (k + 1)) := Lib.hid ⟨HMAY.out, by rw [h0] at HTK ⊢; rw [HTK.out]; exact List.pairwise_singleton ..⟩
          have hg : decide ((0 : Int) < (k : Int)) = false := by simp; omega
          have hg2 : ¬ (0 : Int) < (k : Int) := by omega
          subst h0
          simp only [Nat.zero_mul, Nat.add_zero] at r0 r1
          have hn0 : (0 : Int) < (n : Int) := by omega
          go_wp2_with fail
          go_quiet ((go_at_call 26; exact Calls.quiet_of_same (cm _)))
          go_wp2_with fail
          go_roundw
          case rel => exact ⟨1, _, by omega, by omega, by first | rfl | go_num, HN.out, by rw [HW.out]; exact drewN_twiceK _ _ _⟩
          case measure => simp [intOf]; omega
        · obtain ⟨j, hj⟩ : ∃ j, k = j + 1 := ⟨k - 1, by omega⟩
          obtain ⟨p, hp, hcp⟩ := HPV.out (by omega)
          rw [show k - 1 = j by omega] at hp hcp
          have hsub : IntKind.i64.wrap ((k : Int) - 1) = (j : Int) := by rw [IntWalk.i64_in _ (by omega)]; omega
          have hsub1 : IntKind.i64.wrap (j : Int) = (j : Int) := IntWalk.i64_in _ (by omega)
          have hsub2 : (k : Int) - 1 = (j : Int) := by omega
          have hg : decide (0 < k) = true := decide_eq_true (by omega)
          have hg2 : (0 : Int) < (k : Int) := by omega
          have hj0 : (0 : Int) ≤ (j : Int) := by omega
          have hjn : (j : Int) < (n : Int) := by omega
          have HJ := Lib.hid hj
          clear hj h0
          cases hle : Op.bytesLess p.1.toList ck.toList
          · have HR : Hid (¬ PairsOk l) := Lib.hid (fun h => rising_not (j := j) hp (by rw [← HJ.out]; exact HLA.out) (fun q => by rw [(lessK_iff _ _).2 q] at hle; cases hle) h.2.2)
            clear hp
            go_wp2_with fail
            go_quiet ((go_at_call 26; exact Calls.quiet_of_same (cm _)))
            go_wp2_with fail
            go_ret
            exact ⟨Says.no HR.out, _, by rw [HW.out]; exact drewN_twiceK _ _ _⟩
          · have HN : Hid (UpTo l (k + 1)) := Lib.hid ⟨HMAY.out, by
              have h1 := HU.out.2
              have h2 := HLA.out
              rw [HJ.out] at h1 h2 ⊢
              exact rising_next h1 hp h2 ((lessK_iff _ _).1 hle)⟩
            clear hp
            go_wp2_with fail
            go_quiet ((go_at_call 26; exact Calls.quiet_of_same (cm _)))
            go_wp2_with fail
            go_roundw
            case rel => exact ⟨k + 1, _, by omega, by omega, by go_num, HN.out, by rw [HW.out]; exact drewN_twiceK _ _ _⟩
            case measure => simp [intOf]; omega
    · by_cases hkn : k < n
      · have hk401 : ¬ (k : Int) < 401 := by omega
        have hkn' : (k : Int) < (n : Int) := by omega
        have hn4 : ¬ (n : Int) ≤ 400 := by omega
        have HR : Hid (¬ PairsOk l) := Lib.hid (fun h => by have := h.1; rw [HLN.out] at this; omega)
        go_wp2_with fail
        go_ret
        exact ⟨Says.no HR.out, _, HW.out⟩
      · have hkn' : ¬ (k : Int) < (n : Int) := by omega
        by_cases h4 : n ≤ 400
        · have h4' : (n : Int) ≤ 400 := by omega
          have HR := Lib.hid (upTo_all HU.out (by rw [HLN.out]; omega) (by rw [HLN.out]; omega))
          go_wp2_with fail
          go_ret
          exact ⟨Says.yes HR.out, _, HW.out⟩
        · have h4' : ¬ (n : Int) ≤ 400 := by omega
          have HR : Hid (¬ PairsOk l) := Lib.hid (fun h => by have := h.1; rw [HLN.out] at this; omega)
          go_wp2_with fail
          go_ret
          exact ⟨Says.no HR.out, _, HW.out⟩
end Go.Proofs.YthflljlilcmcnaaGreatDoor
