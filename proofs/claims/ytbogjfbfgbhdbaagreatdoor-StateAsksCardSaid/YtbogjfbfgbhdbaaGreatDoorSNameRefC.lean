/-
  A part of the proof: see the last text.
-/
import Derived.Test.YtbogjfbfgbhdbaaGreatDoorSNameRefB
import Derived.Test.YtbogjfbfgbhdbaaGreatDoorSBytesOwn
import Derived.StillTailTactics
import Derived.Test.YtbogjfbfgbhdbaaGreatDoorSPackMath
import Derived.Test.YtbogjfbfgbhdbaaGreatDoorSNameShelf
import Derived.Lib.IndexAny
import Derived.Deep.QuietTactic
namespace Go.Proofs.YtbogjfbfgbhdbaaGreatDoor
set_option linter.unusedVariables false
set_option linter.unusedSimpArgs false
open Go.RowKit
set_option linter.unusedVariables false
set_option linter.unusedSimpArgs false
theorem strOf_two (s : ByteArray) (m : List Nat) (hm : ∀ x ∈ m, x < 256) : ((strOf m).toList == s.toList) = decide (m = nats s) := by
  rw [Bool.eq_iff_iff, beq_iff_eq, decide_eq_true_iff, ByteArray.toList_eq, ByteArray.toList_eq]
  constructor
  · intro e; rw [← nats_strOf m hm, data_inj e]
  · intro e; rw [e, strOf_nats]
theorem ne_atB {l r : List ByteArray} {k : Nat} {x y : ByteArray} (hx : l[k]? = some x) (hy : r[k]? = some y) (h : x ≠ y) : l ≠ r := fun e => by
  rw [e, hy] at hx; exact h (Option.some.inj hx).symm
set_option maxRecDepth 20000 in
set_option maxHeartbeats 4000000 in
theorem xaTexts_any (A B : Option Addr) (n c m d : Nat) (l r : List ByteArray) (w : World) (hl : Col Value.string w w.heap.size A n l) (hr : Col Value.string w w.heap.size B m r) (hn : n ≤ 140737488355328) (hm : m ≤ 140737488355328) :
    Calls Tryz.prog 40 #[.slice A n c, .slice B m d] w fun e w' => e = .returned (.bool (decide (l = r))) ∧ ∃ q, w' = w.drewN q := by
  have HL := Lib.hid hl
  have HR := Lib.hid hr
  by_cases hnm : n = m
  · subst hnm
    have hne : ((n : Int) != (n : Int)) = false := by simp
    clear hl hr
    go_enter Tryz.func40, Tryz.ntmps40
    go_wp2_with fail
    go_loopw [5] (fun i wx => ∃ k q : Nat, k ≤ n ∧ i = .int .i64 (k : Int) ∧ l.take k = r.take k ∧ wx = w.drewN q) (fun i _ => n - (intOf i).toNat)
    case atStart => exact ⟨0, 0, Nat.zero_le _, rfl, rfl, rfl⟩
    case round =>
      obtain ⟨k, q, hk, rfl, hm, hw⟩ := hrel
      have HM := Lib.hid hm
      have HW := Lib.hid hw
      clear hm hw
      by_cases hlt : k < n
      · obtain ⟨b, o, x, rfl, hbb, hla, htk, hc⟩ := HL.out.at_ hlt
        obtain ⟨b2, o2, y, rfl, hbb2, hla2, htk2, hc2⟩ := HR.out.at_ hlt
        rw [show w.cell? ⟨b, o + k, none⟩ = wr.cell? ⟨b, o + k, none⟩ by rw [HW.out]; rfl] at hc
        rw [show w.cell? ⟨b2, o2 + k, none⟩ = wr.cell? ⟨b2, o2 + k, none⟩ by rw [HW.out]; rfl] at hc2
        have hk0 : (0 : Int) ≤ (k : Int) := by omega
        have hkn : (k : Int) < (n : Int) := by omega
        have HA1 := Lib.hid hla
        have HA2 := Lib.hid hla2
        have HT1 := Lib.hid htk
        have HT2 := Lib.hid htk2
        clear hla hla2 htk htk2
        by_cases he : x = y
        · subst he
          have hxy : (x.toList != x.toList) = false := by simp
          have HN : Hid (l.take (k + 1) = r.take (k + 1)) := Lib.hid (by rw [HT1.out, HT2.out, HM.out])
          go_wp2_with fail
          go_quiet (fail)
          go_wp2_with fail
          go_roundw
          case rel => exact ⟨k + 1, _, by omega, by go_num, HN.out, by rw [HW.out]; exact drewN_twice _ _ _⟩
          case measure => simp [intOf]; omega
        · have hxy : (x.toList == y.toList) = false := by
            rw [beq_eq_false_iff_ne]
            intro e
            rw [ByteArray.toList_eq, ByteArray.toList_eq] at e
            exact he (data_inj e)
          have HN : Hid (decide (l = r) = false) := Lib.hid (decide_eq_false (ne_atB HA1.out HA2.out he))
          go_wp2_with fail
          go_quiet (fail)
          go_wp2_with fail
          go_ret
          exact ⟨by rw [HN.out] <;> rfl, _, by rw [HW.out]; exact drewN_twice _ _ _⟩
      · have HN : Hid (decide (l = r) = true) := Lib.hid (decide_eq_true (by
          have h := HM.out
          rwa [List.take_of_length_le (by rw [HL.out.1]; omega), List.take_of_length_le (by rw [HR.out.1]; omega)] at h))
        go_wp2_with fail
        go_ret
        exact ⟨by rw [HN.out] <;> rfl, _, HW.out⟩
  · have hne : ((n : Int) != (m : Int)) = true := by simp; omega
    have HN : Hid (decide (l = r) = false) := Lib.hid (decide_eq_false (fun e => hnm (by rw [← hl.1, ← hr.1, e])))
    clear hl hr
    go_enter Tryz.func40, Tryz.ntmps40
    go_wp2_with fail
    go_ret
    exact ⟨by rw [HN.out] <;> rfl, 0, rfl⟩
end Go.Proofs.YtbogjfbfgbhdbaaGreatDoor
namespace Go.Proofs.YtbogjfbfgbhdbaaGreatDoor
set_option linter.unusedVariables false
set_option linter.unusedSimpArgs false
open Go.RowKit
set_option linter.unusedVariables false
set_option linter.unusedSimpArgs false
def BRow (w : World) (g : Nat) (vs : List Bool) : Prop := w.heap[g]? = some (.cells (vs.map Value.bool).toArray 4 (0, 0))
section
variable {w w' : World} {g : Nat} {vs : List Bool}
theorem BRow.lt (h : BRow w g vs) : g < w.heap.size := (Array.getElem?_eq_some_iff.1 h).1
theorem BRow.cell (h : BRow w g vs) {i : Nat} {b : Bool} (hb : vs[i]? = some b) : w.cell? ⟨g, i, none⟩ = some (.bool b) := by
  rw [cell_of_row w g i _ _ (0, 0) h]
  simp [hb]
theorem BRow.frozen (h : BRow w g vs) (i : Nat) : w.frozen? ⟨g, i, none⟩ = false := frozen_of_row w g i _ _ h
theorem BRow.put (h : BRow w g vs) (i : Nat) (b : Bool) : BRow (w.setCell ⟨g, i, none⟩ (.bool b)) g (vs.set i b) := by
  unfold BRow
  rw [heap_setCell_same w g i _ _ _ h]
  congr 2
  apply Array.ext'
  simp [List.map_set]
theorem BRow.far (h : BRow w g vs) {g' : Nat} (hne : g ≠ g') (i : Nat) (v : Value) : BRow (w.setCell ⟨g', i, none⟩ v) g vs := (Below.heap_setCell w ⟨g', i, none⟩ v g hne).trans h
theorem BRow.alloc (h : BRow w g vs) (o : Obj) : BRow (w.alloc o) g vs := (Below.heap_alloc w o g h.lt).trans h
theorem BRow.new (w : World) (n : Nat) : BRow (w.alloc (.cells (Array.replicate n (Value.bool false)) 4)) w.heap.size (List.replicate n false) := by
  unfold BRow
  rw [heap_alloc_new w _, List.map_replicate, List.toArray_replicate]
theorem BRow.drew (h : BRow w g vs) : BRow w.drew g vs := h
end
def rowF (p s : List Nat) (i k : Nat) : Bool := likeF (p.take i) (s.take k)
end Go.Proofs.YtbogjfbfgbhdbaaGreatDoor
namespace Go.Proofs.YtbogjfbfgbhdbaaGreatDoor
set_option linter.unusedVariables false
set_option linter.unusedSimpArgs false
theorem splitGo_count (c : Nat) : ∀ (l cur : List Nat), (splitGo c cur l).length = l.count c + 1
  | [], cur => rfl
  | x :: l, cur => by
    unfold splitGo
    by_cases h : x = c
    · subst h
      rw [if_pos rfl, List.length_cons, splitGo_count x l, List.count_cons_self]
    · rw [if_neg h, splitGo_count c l, List.count_cons_of_ne h]
theorem split_count (c : Nat) (l : List Nat) : (splitL c l).length = l.count c + 1 := splitGo_count c l []
def EndE (l : List Nat) : Prop := ∃ i, i < l.length ∧ l.getD i 0 = 47 ∧ (i + 1 = l.length ∨ l.getD (i + 1) 0 = 47)
theorem EndE.cons {x : Nat} {l : List Nat} : EndE (x :: l) ↔ (x = 47 ∧ (l = [] ∨ l.getD 0 0 = 47)) ∨ EndE l := by
  constructor
  · rintro ⟨i, h1, h2, h3⟩
    cases i with
    | zero =>
      refine .inl ⟨by simpa using h2, ?_⟩
      rcases h3 with h3 | h3
      · left
        simp only [List.length_cons] at h3
        exact List.eq_nil_of_length_eq_zero (by omega)
      · right; simpa using h3
    | succ i =>
      refine .inr ⟨i, by simpa using h1, by simpa using h2, ?_⟩
      rcases h3 with h3 | h3
      · left; simpa using h3
      · right; simpa using h3
  · rintro (⟨rfl, h⟩ | ⟨i, h1, h2, h3⟩)
    · refine ⟨0, by simp, by simp, ?_⟩
      rcases h with rfl | h
      · left; rfl
      · right; simpa using h
    · refine ⟨i + 1, by simpa using h1, by simpa using h2, ?_⟩
      rcases h3 with h3 | h3
      · left; simpa using h3
      · right; simpa using h3
theorem EndE.nil : ¬ EndE [] := fun ⟨i, h, _⟩ => by simp at h
theorem splitGo_empty : ∀ (l cur : List Nat), [] ∈ splitGo 47 cur l ↔ (cur = [] ∧ (l = [] ∨ l.getD 0 0 = 47)) ∨ EndE l
  | [], cur => by
    unfold splitGo
    rw [List.mem_singleton]
    constructor
    · intro h; exact .inl ⟨h.symm, .inl rfl⟩
    · rintro (h | h)
      · exact h.1.symm
      · exact absurd h EndE.nil
  | x :: l, cur => by
    unfold splitGo
    rw [EndE.cons]
    by_cases h : x = 47
    · rw [if_pos h, List.mem_cons, splitGo_empty l []]
      subst h
      constructor
      · rintro (h | h | h)
        · exact .inl ⟨h.symm, .inr rfl⟩
        · exact .inr (.inl ⟨rfl, h.2⟩)
        · exact .inr (.inr h)
      · rintro (h | h | h)
        · exact .inl h.1.symm
        · exact .inr (.inl ⟨rfl, h.2⟩)
        · exact .inr (.inr h)
    · rw [if_neg h, splitGo_empty l (cur ++ [x])]
      constructor
      · rintro (⟨h1, _⟩ | h2)
        · simp at h1
        · exact .inr (.inr h2)
      · rintro (⟨_, h1⟩ | ⟨h1, _⟩ | h2)
        · rcases h1 with h1 | h1
          · cases h1
          · exact absurd h1 h
        · exact absurd h1 h
        · exact .inr h2
theorem split_empty (l : List Nat) : [] ∈ splitL 47 l ↔ l = [] ∨ l.getD 0 0 = 47 ∨ EndE l := by
  rw [show ([] ∈ splitL 47 l) ↔ ([] ∈ splitGo 47 [] l) from Iff.rfl, splitGo_empty]
  constructor
  · rintro (⟨_, h | h⟩ | h)
    · exact .inl h
    · exact .inr (.inl h)
    · exact .inr (.inr h)
  · rintro (h | h | h)
    · exact .inl ⟨rfl, .inl h⟩
    · exact .inl ⟨rfl, .inr h⟩
    · exact .inr h
theorem getD_out {l : List Nat} {i : Nat} (h : l.length ≤ i) : l.getD i 0 = 0 := by
  rw [List.getD_eq_getElem?_getD, List.getElem?_eq_none h]; rfl
theorem getD_here {l : List Nat} {i : Nat} (h : i < l.length) : l.getD i 0 = l[i] := by
  rw [List.getD_eq_getElem?_getD, List.getElem?_eq_getElem h]; rfl
theorem getD_lt {l : List Nat} {i : Nat} (h : l.getD i 0 = 47) : i < l.length := by
  by_cases hi : i < l.length
  · exact hi
  · rw [getD_out (by omega)] at h; cases h
theorem bad_iff (l : List Nat) : (∃ i, i < l.length ∧ (l.getD i 0 = 47 ∧ (i = 0 ∨ i + 1 = l.length ∨ l.getD (i - 1) 0 = 47))) ↔ l.getD 0 0 = 47 ∨ EndE l := by
  constructor
  · rintro ⟨i, h1, h2, h3⟩
    by_cases hi : i = 0
    · subst hi; exact .inl h2
    · rcases h3 with h3 | h3 | h3
      · exact absurd h3 hi
      · exact .inr ⟨i, h1, h2, .inl h3⟩
      · exact .inr ⟨i - 1, by omega, h3, .inr (by rw [show i - 1 + 1 = i by omega]; exact h2)⟩
  · rintro (h | ⟨i, h1, h2, h3⟩)
    · exact ⟨0, getD_lt h, h, .inl rfl⟩
    · rcases h3 with h3 | h3
      · exact ⟨i, h1, h2, .inr (.inl h3)⟩
      · exact ⟨i + 1, getD_lt h3, h3, .inr (.inr (by rw [Nat.add_sub_cancel]; exact h2))⟩
def nameB (l : List Nat) : Bool := decide (l.length ≤ 40 ∧ (∀ x ∈ l, plainB x = true) ∧ (splitL 47 l).length ≤ 4 ∧ [] ∉ splitL 47 l)
theorem nameB_is (l : List Nat) : nameB l = formB l := by
  unfold nameB formB
  rw [decide_eq_decide]
  rw [split_count, split_empty]
  constructor
  · rintro ⟨h1, h2, h3, h4⟩
    refine ⟨?_, h1, fun i hi => ?_, by omega⟩
    · rcases l with _ | ⟨x, l⟩
      · exact absurd (.inl rfl) h4
      · exact Nat.succ_le_succ (Nat.zero_le _)
    · refine spot_mk ?_ fun hb => h4 (.inr ((bad_iff l).1 ⟨i, hi, hb⟩))
      rw [getD_here hi]
      exact h2 _ (List.getElem_mem hi)
  · rintro ⟨h1, h2, h3, h4⟩
    refine ⟨h2, fun x hx => ?_, by omega, ?_⟩
    · obtain ⟨i, hi, rfl⟩ := List.mem_iff_getElem.1 hx
      have := (spot_of (h3 i hi)).1
      rwa [getD_here hi] at this
    · rintro (h | h)
      · subst h; simp at h1
      · obtain ⟨i, hi, hb⟩ := (bad_iff l).2 h
        exact (spot_of (h3 i hi)).2 hb
theorem nameB_long {l : List Nat} (h : 40 < l.length) : formB l = false := by
  rw [← nameB_is]; exact decide_eq_false fun e => by omega
theorem nameB_stop {l : List Nat} {k x : Nat} (hx : l[k]? = some x) (h : plainB x = false) : formB l = false := by
  rw [← nameB_is]
  refine decide_eq_false fun e => ?_
  rw [e.2.1 x (List.mem_of_getElem? hx)] at h; cases h
theorem nameB_all {l : List Nat} (h1 : l.length ≤ 40) (h2 : ∀ x ∈ l, plainB x = true) : formB l = (decide ((splitL 47 l).length ≤ 4) && !decide ([] ∈ splitL 47 l)) := by
  rw [← nameB_is]
  unfold nameB
  rw [Bool.eq_iff_iff]
  simp only [decide_eq_true_iff, Bool.and_eq_true, Bool.not_eq_true', decide_eq_false_iff_not]
  exact ⟨fun h => ⟨h.2.2.1, h.2.2.2⟩, fun h => ⟨h1, h2, h.1, h.2⟩⟩
theorem small_up {x d : Nat} (h : 65 ≤ d ∧ d ≤ 90) : smallN x = smallN d ↔ upC x = d := by
  unfold smallN upC
  rw [if_pos h]
  split <;> split <;> omega
theorem small_ups : ∀ (a b : List Nat), (∀ d ∈ b, 65 ≤ d ∧ d ≤ 90) → (a.map smallN = b.map smallN ↔ a.map upC = b)
  | [], [], _ => by simp
  | [], _ :: _, _ => by simp
  | _ :: _, [], _ => by simp
  | x :: a, d :: b, h => by
    rw [List.map_cons, List.map_cons, List.map_cons, List.cons.injEq, List.cons.injEq, small_up (h d (List.mem_cons_self ..)), small_ups a b fun y hy => h y (List.mem_cons_of_mem _ hy)]
theorem inboxL_letters : ∀ d ∈ inboxL, 65 ≤ d ∧ d ≤ 90 := by decide
theorem same_inbox (a : List Nat) : sameB a inboxL = decide (a.map upC = inboxL) := by
  unfold sameB
  rw [decide_eq_decide]
  exact small_ups a inboxL inboxL_letters
theorem inbox_none {l : List Nat} (h : ∀ x ∈ l, x ≠ 47) : inboxB l = sameB l inboxL := by
  rw [same_inbox]
  unfold inboxB
  rw [decide_eq_decide]
  constructor
  · rintro ⟨h1, h2 | h2⟩
    · rwa [List.take_of_length_le (by omega)] at h1
    · exact absurd rfl (h 47 (List.mem_of_getElem? h2))
  · intro h1
    have h5 : l.length = 5 := by have := congrArg List.length h1; rw [List.length_map] at this; exact this
    exact ⟨by rw [List.take_of_length_le (by omega)]; exact h1, .inl h5⟩
theorem inbox_hit {l p r : List Nat} (e : l = p ++ 47 :: r) (h : ∀ x ∈ p, x ≠ 47) : inboxB l = sameB p inboxL := by
  rw [same_inbox]
  unfold inboxB
  rw [decide_eq_decide]
  subst e
  constructor
  · rintro ⟨h1, h2⟩
    rcases Nat.lt_trichotomy p.length 5 with h5 | h5 | h5
    · exfalso
      have e1 := congrArg (·[p.length]?) h1
      simp only [List.getElem?_map, List.getElem?_take_of_lt h5, List.getElem?_append_right (Nat.le_refl _), Nat.sub_self, List.getElem?_cons_zero, Option.map_some] at e1
      have : upC 47 ∈ inboxL := List.mem_of_getElem? e1.symm
      exact absurd this (by decide)
    · rwa [List.take_left' h5] at h1
    · exfalso
      rcases h2 with h2 | h2
      · simp at h2; omega
      · rw [List.getElem?_append_left h5] at h2
        exact h 47 (List.mem_of_getElem? h2) rfl
  · intro h1
    have h5 : p.length = 5 := by have := congrArg List.length h1; rw [List.length_map] at this; exact this
    exact ⟨by rw [List.take_left' h5]; exact h1, .inr (by rw [List.getElem?_append_right (by omega), h5]; rfl)⟩
end Go.Proofs.YtbogjfbfgbhdbaaGreatDoor
namespace Go.Proofs.YtbogjfbfgbhdbaaGreatDoor
set_option linter.unusedVariables false
set_option linter.unusedSimpArgs false
open Go.RowKit
open Go.Lib hiding intOf
set_option linter.unusedVariables false
set_option linter.unusedSimpArgs false
def barredL : List UInt8 := [40, 41, 123, 37, 42, 34, 92]
theorem indexByte_any (s : ByteArray) (c : Int) (w : World) : Calls Tryz.prog 274 #[.string s, .int .u8 c] w fun e w' => e = .returned (.int .i64 (indexByte s.data.toList c.toNat.toUInt8)) ∧ w = w' :=
  (Any.strings_IndexByte nS137 s c w).mono fun _ _ h => ⟨h.1, h.2.symm⟩
theorem barred_ge (c : Nat) (h : c < 256) : (c = 40 ∨ c = 41 ∨ c = 123 ∨ c = 37 ∨ c = 42 ∨ c = 34 ∨ c = 92) ↔ 0 ≤ indexByte barredL (c.toUInt8) := by
  have h1 := contains_iff_indexByte barredL c.toUInt8
  have h2 : barredL.contains c.toUInt8 = decide (c = 40 ∨ c = 41 ∨ c = 123 ∨ c = 37 ∨ c = 42 ∨ c = 34 ∨ c = 92) := by
    have : ∀ c : Fin 256, barredL.contains c.val.toUInt8 = decide (c.val = 40 ∨ c.val = 41 ∨ c.val = 123 ∨ c.val = 37 ∨ c.val = 42 ∨ c.val = 34 ∨ c.val = 92) := by decide +kernel
    exact this ⟨c, h⟩
  rw [h2] at h1
  exact decide_eq_decide.1 h1
theorem genSplit_one (s : ByteArray) (hs : s.size < 4294967281) (c : UInt8) (n : Int) (N : Nat) (hn0 : n ≠ 0) (hn63 : n ≤ 9223372036854775807) (hN : (N : Int) = min (if n < 0 then (countB s ⟨#[c]⟩ : Int) + 1 else n) ((s.size : Int) + 1)) (w : World) :
    Calls Tryz.prog 275 #[.string s, .string ⟨#[c]⟩, .int .i64 0, .int .i64 n] w fun e w' =>
      e = .returned (.slice (some ⟨w.heap.size, 0, none⟩) (splitB ⟨#[c]⟩ 0 (N - 1) s).length N) ∧ w' = w.alloc (.cells (cellsOf (splitB ⟨#[c]⟩ 0 (N - 1) s) N) 9) := by
  refine Any.strings_genSplit_core nS221 (by kernel_rfl) s ⟨#[c]⟩ 0 n N w hs (Nat.le_refl _) (Nat.zero_le _) ?_ ?_ hn0 hn63 hN
  · intro x cs hx
    refine (Any.strings_Index_one nS143 x c _).mono ?_
    rintro e w' ⟨rfl, rfl⟩
    exact ⟨by rw [show indexB x ⟨#[c]⟩ = indexByte x.data.toList c from index_one _ _], rfl⟩
  · refine (Any.strings_Count_one nS138 s c w).mono ?_
    rintro e w' ⟨rfl, rfl⟩
    refine ⟨?_, rfl⟩
    rw [show countB s ⟨#[c]⟩ = countByte s.data.toList c from count_one _ _]
theorem strs_new (w : World) (L : List ByteArray) (c : Array Value) (t : TypeId) (hc : ∀ (i : Nat) (s : ByteArray), L[i]? = some s → c[i]? = some (Value.string s)) : Strs (w.alloc (.cells c t)) w.heap.size 0 (L.map nats) := by
  intro i p hp
  rw [List.getElem?_map] at hp
  obtain ⟨s, hs, rfl⟩ := Option.map_eq_some_iff.1 hp
  rw [Nat.zero_add, strOf_nats, cell_of_row (w.alloc (.cells c t)) w.heap.size i c t (0, 0) (heap_alloc_new w _), hc i s hs]
set_option maxRecDepth 20000 in
set_option maxHeartbeats 400000 in
theorem split_any (s : ByteArray) (hs : s.size < 4294967281) (c : UInt8) (w : World) : Calls Tryz.prog 255 #[.string s, .string ⟨#[c]⟩] w fun e w' =>
    e = .returned (.slice (some ⟨w.heap.size, 0, none⟩) (splitL c.toNat (nats s)).length (splitL c.toNat (nats s)).length) ∧ Below w.heap.size w w' ∧ Strs w' w.heap.size 0 (splitL c.toNat (nats s)) ∧ w'.heap.size = w.heap.size + 1 := by
  obtain ⟨L, hL⟩ : ∃ L, splitB ⟨#[c]⟩ 0 (countB s ⟨#[c]⟩) s = L := ⟨_, rfl⟩
  have hm := splitB_all_one c (countB s ⟨#[c]⟩) s (Nat.le_refl _)
  have hlen := splitB_all ⟨#[c]⟩ (Nat.le_refl _) 0 _ s rfl
  have hle := countB_le ⟨#[c]⟩ (Nat.le_refl _) s.size s (Nat.le_refl _)
  have cg := genSplit_one s hs c (-1) (countB s ⟨#[c]⟩ + 1) (by decide) (by decide) (by rw [if_pos (by decide)]; omega) w
  rw [Nat.add_sub_cancel, hL] at cg
  rw [hL] at hm hlen
  rw [← hlen, cellsOf_full] at cg
  have hl2 : (splitL c.toNat (nats s)).length = L.length := by rw [← hm, List.length_map]
  have HL := Lib.hid hm
  have H2 := Lib.hid hl2
  clear hm hlen hle hL hl2
  go_enter Tryz.func255, Tryz.ntmps255
  go_wp2_with (go_at_call 275; refine cg.mono ?_; rintro e w' ⟨rfl, hw⟩; rw [hw])
  go_ret
  refine ⟨by rw [H2.out] <;> rfl, (Below.refl _ _).alloc (Nat.le_refl _) _, ?_, by simp⟩
  rw [← HL.out]
  exact strs_new w L _ _ (fun i x hx => by simp [hx])
theorem slIndex_any (s : ByteArray) (c : UInt8) (w : World) : Calls Tryz.prog 276 #[.string s, .string ⟨#[c]⟩] w fun e w' => e = .returned (.int .i64 (Lib.indexB s ⟨#[c]⟩)) ∧ w = w' := by
  refine (Any.stringslite_Index_one nS219 s c w).mono ?_
  rintro e w' ⟨rfl, rfl⟩
  exact ⟨by rw [show indexB s ⟨#[c]⟩ = indexByte s.data.toList c from index_one _ _], rfl⟩
def CutIs (s p : ByteArray) : Prop := (p = s ∧ ∀ x ∈ nats s, x ≠ 47) ∨ ∃ q, nats s = nats p ++ 47 :: nats q ∧ ∀ x ∈ nats p, x ≠ 47
set_option maxRecDepth 20000 in
set_option maxHeartbeats 1000000 in
theorem slCut_any (s : ByteArray) (hs : s.size ≤ 140737488355328) (w : World) : Calls Tryz.prog 256 #[.string s, .string ⟨#[47]⟩] w fun e w' =>
    ∃ p q b, e = .returned (.tuple #[.string p, .string q, .bool b]) ∧ CutIs s p ∧ ∃ n, w' = w.drewN n := by
  have CI := Lib.hid (slIndex_any s 47 w)
  rcases indexB_cut s 47 with ⟨h1, h2⟩ | ⟨i, h1, h2, h3, h4⟩
  · have H1 := Lib.hid h1
    have H2 := Lib.hid h2
    clear h1 h2
    go_enter Tryz.func256, Tryz.ntmps256
    go_wp2_with fail
    refine CI.out.mono ?_
    rintro e w' ⟨rfl, rfl⟩
    rw [H2.out]
    go_wp2_with fail
    go_ret3
    exact ⟨_, _, _, rfl, .inl ⟨rfl, H1.out⟩, 0, rfl⟩
  · have H1 := Lib.hid h1
    have H3 := Lib.hid h3
    have H4 := Lib.hid h4
    have c1 : (0 : Int) ≤ (i : Int) := by omega
    have c2 : (i : Int) ≤ (s.size : Int) := by omega
    have c3 : (0 : Int) ≤ (i : Int) + 1 := by omega
    have c4 : (i : Int) + 1 ≤ (s.size : Int) := by omega
    have c5 : IntKind.i64.wrap ((i : Int) + 1) = (i : Int) + 1 := IntWalk.i64_in _ (by omega)
    have c6 : ((i : Int) + 1).toNat = i + 1 := by omega
    have HP : Hid (nats (s.extract 0 i) = (nats s).take i) := Lib.hid (by rw [nats_extract]; simp)
    have HQ : Hid (nats (s.extract (i + 1) s.size) = (nats s).drop (i + 1)) := Lib.hid (by rw [nats_extract, List.take_of_length_le]; rw [List.length_drop, nats_length]; exact Nat.le_refl _)
    clear h1 h3 h4
    go_enter Tryz.func256, Tryz.ntmps256
    go_wp2_with fail
    refine CI.out.mono ?_
    rintro e w' ⟨rfl, rfl⟩
    rw [H1.out]
    go_wp2_with fail
    go_quiet (fail)
    go_wp2_with fail
    go_ret3
    exact ⟨_, _, _, rfl, .inr ⟨s.extract (i + 1) s.size, by rw [HP.out, HQ.out]; exact H4.out, by rw [HP.out]; exact H3.out⟩, _, rfl⟩
theorem sCut_any (s : ByteArray) (hs : s.size ≤ 140737488355328) (w : World) : Calls Tryz.prog 236 #[.string s, .string ⟨#[47]⟩] w fun e w' =>
    ∃ p q b, e = .returned (.tuple #[.string p, .string q, .bool b]) ∧ CutIs s p ∧ ∃ n, w' = w.drewN n := by
  have CI := Lib.hid (slCut_any s hs w)
  go_enter Tryz.func236, Tryz.ntmps236
  go_wp2_with fail
  refine CI.out.mono ?_
  rintro e w' ⟨p, q, b, rfl, h, n, rfl⟩
  have H := Lib.hid h
  clear h CI
  go_wp2_with fail
  go_ret3
  exact ⟨_, _, _, rfl, H.out, n, rfl⟩
def IdxRes (l : List (List Nat)) (t : ByteArray) (e : Ending) : Prop := ∃ z : Int, e = .returned (.int .i64 z) ∧ decide (0 ≤ z) = decide (nats t ∈ l)
set_option maxRecDepth 20000 in
set_option maxHeartbeats 1000000 in
theorem indexS_any (b o n c : Nat) (l : List (List Nat)) (t : ByteArray) (w : World) (hlen : l.length = n) (hst : 0 < n → Strs w b o l) (hlt : ∀ p ∈ l, ∀ x ∈ p, x < 256) (hn : n ≤ 140737488355328) (A : Option Addr) (hA : 0 < n → A = some ⟨b, o, none⟩) :
    Calls Tryz.prog 243 #[.slice A n c, .string t] w fun e w' => IdxRes l t e ∧ w = w' := by
  have HLT := Lib.hid hlt
  have HLEN := Lib.hid hlen
  have HST := Lib.hid hst
  have HA := Lib.hid hA
  clear hlt hlen hst hA
  go_enter Tryz.func243, Tryz.ntmps243
  go_wp2_with fail
  go_loop [8] (fun i => ∃ k : Nat, k ≤ n ∧ i = .int .i64 (k : Int) ∧ nats t ∉ l.take k) (fun i => n - (intOf i).toNat)
  case atStart => exact ⟨0, Nat.zero_le _, rfl, fun h => by simp at h⟩
  case round =>
    obtain ⟨k, hk, rfl, hm⟩ := hrel
    have HM := Lib.hid hm
    clear hm
    by_cases hlk : k < n
    · obtain ⟨p, hp⟩ : ∃ p, l[k]? = some p := ⟨_, List.getElem?_eq_getElem (by rw [HLEN.out]; exact hlk)⟩
      obtain rfl : A = some ⟨b, o, none⟩ := HA.out (by omega)
      have hcell := HST.out (by omega) k p hp
      have a0 : (0 : Int) ≤ (k : Int) := by omega
      have a1 : (k : Int) < (n : Int) := by omega
      have hq : (t.toList == (strOf p).toList) = decide (p = nats t) := by rw [Bool.beq_comm]; exact strOf_two t p (HLT.out p (List.mem_of_getElem? hp))
      have HP := Lib.hid hp
      clear hp
      by_cases he : p = nats t
      · have hq2 : (t.toList == (strOf p).toList) = true := by rw [hq]; exact decide_eq_true he
        have HR : Hid (decide (0 ≤ (k : Int)) = decide (nats t ∈ l)) := Lib.hid (by rw [decide_eq_true a0, decide_eq_true (he ▸ List.mem_of_getElem? HP.out)])
        clear hq he
        go_wp2_with fail
        go_ret
        exact ⟨⟨_, rfl, HR.out⟩, rfl⟩
      · have hq2 : (t.toList == (strOf p).toList) = false := by rw [hq]; exact decide_eq_false he
        have HM2 : Hid (nats t ∉ l.take (k + 1)) := Lib.hid (by
          rw [take_snoc_l _ _ _ HP.out]
          intro h
          rcases List.mem_append.1 h with h | h
          · exact HM.out h
          · exact he (List.mem_singleton.1 h).symm)
        clear hq he
        go_wp2_with fail
        go_round
        case rel => exact ⟨k + 1, by omega, by go_num, HM2.out⟩
        case measure => simp [intOf]; omega
    · have a1 : ¬ (k : Int) < (n : Int) := by omega
      have HR : Hid (decide (0 ≤ (-1 : Int)) = decide (nats t ∈ l)) := Lib.hid (by
        rw [decide_eq_false (by decide), eq_comm, decide_eq_false_iff_not]
        intro h
        exact HM.out (by rw [List.take_of_length_le (by rw [HLEN.out]; omega)]; exact h))
      go_wp2_with fail
      go_ret
      exact ⟨⟨_, rfl, HR.out⟩, rfl⟩
theorem containsS_any (b o n c : Nat) (l : List (List Nat)) (t : ByteArray) (w : World) (hlen : l.length = n) (hst : 0 < n → Strs w b o l) (hlt : ∀ p ∈ l, ∀ x ∈ p, x < 256) (hn : n ≤ 140737488355328) (A : Option Addr) (hA : 0 < n → A = some ⟨b, o, none⟩) :
    Calls Tryz.prog 215 #[.slice A n c, .string t] w fun e w' => e = .returned (.bool (decide (nats t ∈ l))) ∧ w = w' := by
  have CI := Lib.hid (indexS_any b o n c l t w hlen hst hlt hn A hA)
  clear hlen hst hlt hA
  go_enter Tryz.func215, Tryz.ntmps215
  go_wp2_with fail
  refine CI.out.mono ?_
  rintro e w' ⟨⟨z, rfl, hz⟩, rfl⟩
  have HZ := Lib.hid hz
  clear hz
  go_wp2_with fail
  go_ret
  exact ⟨by rw [HZ.out] <;> rfl, rfl⟩
end Go.Proofs.YtbogjfbfgbhdbaaGreatDoor
namespace Go.Proofs.YtbogjfbfgbhdbaaGreatDoor
set_option linter.unusedVariables false
set_option linter.unusedSimpArgs false
open Go.RowKit
set_option linter.unusedVariables false
set_option linter.unusedSimpArgs false
theorem dsmall_any (c : Nat) (hc : c < 256) (w : World) : Calls Tryz.prog 257 #[.int .u8 (c : Int)] w fun e w' => e = .returned (.int .u8 (smallN c : Nat)) ∧ w = w' := by
  by_cases h1 : 65 ≤ c
  · by_cases h2 : c ≤ 90
    · have HR : Hid (smallN c = c + 32) := Lib.hid (if_pos ⟨h1, h2⟩)
      go_enter Tryz.func257, Tryz.ntmps257
      go_wp2
      go_ret
      exact ⟨ret_int (by rw [HR.out]; omega), rfl⟩
    · have HR : Hid (smallN c = c) := Lib.hid (if_neg (by omega))
      go_enter Tryz.func257, Tryz.ntmps257
      go_wp2
      go_ret
      exact ⟨by rw [HR.out] <;> rfl, rfl⟩
  · have HR : Hid (smallN c = c) := Lib.hid (if_neg (by omega))
    go_enter Tryz.func257, Tryz.ntmps257
    go_wp2
    go_ret
    exact ⟨by rw [HR.out] <;> rfl, rfl⟩
theorem sameB_at {a b : List Nat} {k x y : Nat} (hx : a[k]? = some x) (hy : b[k]? = some y) (h : smallN x ≠ smallN y) : sameB a b = false := by
  unfold sameB
  refine decide_eq_false fun e => h ?_
  have := congrArg (·[k]?) e
  simpa [hx, hy] using this
set_option maxRecDepth 20000 in
set_option maxHeartbeats 800000 in
theorem same_letters (a b : ByteArray) (ha : a.size ≤ 140737488355328) (hb : b.size ≤ 140737488355328) (w : World) :
    Calls Tryz.prog 237 #[.string a, .string b] w fun e w' => e = .returned (.bool (sameB (nats a) (nats b))) ∧ ∃ n, w' = w.drewN n := by
  by_cases hl : a.size = b.size
  · have HL := Lib.hid hl
    have h64 : a.size ≤ 9223372036854775807 := by omega
    have h65 : b.size ≤ 9223372036854775807 := by omega
    have hle : ((a.size : Int) != b.size) = false := by simp; omega
    clear hl
    go_enter Tryz.func237, Tryz.ntmps237
    go_wp2_with fail
    go_loopw [13] (fun i wx => ∃ k n : Nat, k ≤ a.size ∧ i = .int .i64 (k : Int) ∧ ((nats a).take k).map smallN = ((nats b).take k).map smallN ∧ wx = w.drewN n) (fun i _ => a.size - (intOf i).toNat)
    case atStart => exact ⟨0, 0, Nat.zero_le _, rfl, by simp, rfl⟩
    case round =>
      obtain ⟨k, n, hk, rfl, hm, hw⟩ := hrel
      have HM := Lib.hid hm
      have HW := Lib.hid hw
      clear hm hw
      by_cases hlt : k < a.size
      · have hlb : k < b.size := by have := HL.out; omega
        have hx := nats_byte a k hlt
        have hy := nats_byte b k hlb
        have hxa : a[k].toNat < 256 := a[k].toNat_lt
        have hxb : b[k].toNat < 256 := b[k].toNat_lt
        have HX := Lib.hid hx
        have HY := Lib.hid hy
        have HTA := Lib.hid (take_snoc_n _ _ _ hx)
        have HTB := Lib.hid (take_snoc_n _ _ _ hy)
        have ca := fun W => (dsmall_any a[k].toNat hxa W).mono (fun _ _ h => (⟨h.1, h.2.symm⟩ : _ ∧ _))
        have cb := fun W => (dsmall_any b[k].toNat hxb W).mono (fun _ _ h => (⟨h.1, h.2.symm⟩ : _ ∧ _))
        clear hx hy
        by_cases he : smallN a[k].toNat = smallN b[k].toNat
        · have hne : ((smallN a[k].toNat : Int) != smallN b[k].toNat) = false := by simp; omega
          have HE := Lib.hid he
          clear he
          go_wp2_with fail
          go_quiet ((go_at_call 257; first | (with_reducible exact Calls.quiet_of_same (ca _)) | (with_reducible exact Calls.quiet_of_same (cb _))))
          go_wp2_with fail
          go_roundw
          case rel => exact ⟨k + 1, _, by omega, by go_num, by rw [HTA.out, HTB.out, List.map_append, List.map_append, HM.out, List.map_singleton, List.map_singleton, HE.out], by rw [HW.out]; exact drewN_twice _ _ _⟩
          case measure => simp [intOf]; omega
        · have hne : ((smallN a[k].toNat : Int) != smallN b[k].toNat) = true := by simp; omega
          have HE := Lib.hid he
          clear he
          go_wp2_with fail
          go_quiet ((go_at_call 257; first | (with_reducible exact Calls.quiet_of_same (ca _)) | (with_reducible exact Calls.quiet_of_same (cb _))))
          go_wp2_with fail
          go_ret
          exact ⟨by rw [sameB_at HX.out HY.out HE.out] <;> rfl, _, by rw [HW.out]; exact drewN_twice _ _ _⟩
      · have HR : Hid (sameB (nats a) (nats b) = true) := Lib.hid (by
          have := HM.out
          rw [List.take_of_length_le (by rw [nats_length]; omega), List.take_of_length_le (by rw [nats_length, ← HL.out]; omega)] at this
          exact decide_eq_true this)
        go_wp2_with fail
        go_ret
        exact ⟨by rw [HR.out] <;> rfl, _, HW.out⟩
  · have HR : Hid (sameB (nats a) (nats b) = false) := Lib.hid (by
      cases h : sameB (nats a) (nats b)
      · rfl
      · have := sameB_len h
        rw [nats_length, nats_length] at this
        exact absurd this hl)
    have hle : ((a.size : Int) != b.size) = true := by simp; omega
    clear hl
    go_enter Tryz.func237, Tryz.ntmps237
    go_wp2_with fail
    go_ret
    exact ⟨by rw [HR.out] <;> rfl, 0, rfl⟩
theorem nmplain_any (c : Nat) (hc : c < 256) (w : World) : Calls Tryz.prog 254 #[.int .u8 (c : Int)] w fun e w' => e = .returned (.bool (plainB c)) ∧ w = w' := by
  by_cases h1 : 32 < c
  · by_cases h2 : c ≤ 126
    · have CI : Hid (∀ W, Calls Tryz.prog 274 #[.string ⟨#[40, 41, 123, 37, 42, 34, 92]⟩, .int .u8 (c : Int)] W fun e w' => e = .returned (.int .i64 (Lib.indexByte barredL c.toUInt8)) ∧ W = w') := Lib.hid fun W => by
        have := indexByte_any ⟨#[40, 41, 123, 37, 42, 34, 92]⟩ (c : Int) W
        rwa [Int.toNat_natCast] at this
      have hb := barred_ge c hc
      generalize Lib.indexByte barredL c.toUInt8 = z at CI hb
      have d1 : (32 : Int) < (c : Int) := by omega
      have d2 : (c : Int) ≤ 126 := by omega
      have HR : Hid (plainB c = decide (z < 0)) := Lib.hid (by unfold plainB; rw [decide_eq_decide]; omega)
      clear hb h1 h2
      go_enter Tryz.func254, Tryz.ntmps254
      go_wp2_with fail
      refine (CI.out _).mono ?_
      rintro e w' ⟨rfl, rfl⟩
      go_wp2_with fail
      go_ret
      exact ⟨by rw [HR.out] <;> rfl, rfl⟩
    · have HR : Hid (plainB c = false) := Lib.hid (decide_eq_false (by omega))
      have d1 : (32 : Int) < (c : Int) := by omega
      have d2 : ¬ (c : Int) ≤ 126 := by omega
      go_enter Tryz.func254, Tryz.ntmps254
      go_wp2_with fail
      go_ret
      exact ⟨by rw [HR.out] <;> rfl, rfl⟩
  · have HR : Hid (plainB c = false) := Lib.hid (decide_eq_false (by omega))
    have d1 : ¬ (32 : Int) < (c : Int) := by omega
    go_enter Tryz.func254, Tryz.ntmps254
    go_wp2_with fail
    go_ret
    exact ⟨by rw [HR.out] <;> rfl, rfl⟩
set_option maxRecDepth 20000 in
set_option maxHeartbeats 4000000 in
theorem nmisName_any (s : ByteArray) (hs : s.size ≤ 140737488355328) (w : World) : Calls Tryz.prog 235 #[.string s] w fun e w' => e = .returned (.bool (formB (nats s))) ∧ Below w.heap.size w w' := by
  have HN := Lib.hid (nats_length s)
  by_cases h40 : 40 < s.size
  · have HR : Hid (formB (nats s) = false) := Lib.hid (nameB_long (by rw [nats_length]; exact h40))
    have d1 : (40 : Int) < (s.size : Int) := by omega
    go_enter Tryz.func235, Tryz.ntmps235
    go_wp2_with fail
    go_ret
    exact ⟨by rw [HR.out] <;> rfl, Below.refl _ _⟩
  · have d1 : ¬ (40 : Int) < (s.size : Int) := by omega
    go_enter Tryz.func235, Tryz.ntmps235
    go_wp2_with fail
    go_loop [10] (fun i => ∃ k : Nat, k ≤ s.size ∧ i = .int .i64 (k : Int) ∧ ∀ c ∈ (nats s).take k, plainB c = true) (fun i => s.size - (intOf i).toNat)
    case atStart => exact ⟨0, Nat.zero_le _, rfl, fun c h => by simp at h⟩
    case round =>
      obtain ⟨k, hk, rfl, hm⟩ := hrel
      have HM := Lib.hid hm
      clear hm
      by_cases hlt : k < s.size
      · have a0 : (0 : Int) ≤ (k : Int) := by omega
        have a1 : (k : Int) < (s.size : Int) := by omega
        have HX := Lib.hid (nats_byte s k hlt)
        have hxb : s[k].toNat < 256 := s[k].toNat_lt
        have HP : Hid (∀ W, Calls Tryz.prog 254 #[.int .u8 (s[k].toNat : Int)] W fun e w' => e = .returned (.bool (plainB s[k].toNat)) ∧ W = w') := Lib.hid fun W => nmplain_any s[k].toNat hxb W
        cases hp : plainB s[k].toNat
        · have HR : Hid (formB (nats s) = false) := Lib.hid (nameB_stop HX.out hp)
          rw [hp] at HP
          clear hp
          go_wp2_with fail
          refine (HP.out _).mono ?_
          rintro e w' ⟨rfl, rfl⟩
          go_wp2_with fail
          go_ret
          exact ⟨by rw [HR.out] <;> rfl, Below.refl _ _⟩
        · have HS : Hid (∀ c ∈ (nats s).take (k + 1), plainB c = true) := Lib.hid (by
            rw [take_snoc_n _ _ _ HX.out]
            intro c hc
            rcases List.mem_append.1 hc with h | h
            · exact HM.out c h
            · rw [List.mem_singleton.1 h]; exact hp)
          rw [hp] at HP
          clear hp
          go_wp2_with fail
          refine (HP.out _).mono ?_
          rintro e w' ⟨rfl, rfl⟩
          go_wp2_with fail
          go_round
          case rel => exact ⟨k + 1, by omega, by go_num, HS.out⟩
          case measure => simp [intOf]; omega
      · have a1 : ¬ (k : Int) < (s.size : Int) := by omega
        have hall : ∀ c ∈ nats s, plainB c = true := by
          have h := HM.out
          rwa [List.take_of_length_le (by rw [HN.out]; omega)] at h
        have hfm := nameB_all (by rw [HN.out]; omega : (nats s).length ≤ 40) hall
        have CS := Lib.hid (split_any s (by omega) 47 w)
        rw [show (47 : UInt8).toNat = 47 from rfl] at CS
        have hlen : (splitL 47 (nats s)).length ≤ 41 := by rw [split_count]; have := List.count_le_length (a := 47) (l := nats s); rw [HN.out] at this; omega
        have hlt256 : ∀ p ∈ splitL 47 (nats s), ∀ x ∈ p, x < 256 := splitL_lt (nats_lt s)
        generalize splitL 47 (nats s) = l at CS hfm hlen hlt256
        obtain ⟨n, hn⟩ : ∃ n, l.length = n := ⟨_, rfl⟩
        rw [hn] at CS hfm hlen
        have HNL := Lib.hid hn
        have HLT := Lib.hid hlt256
        clear hn hlt256 hall
        by_cases h4 : n ≤ 4
        · have d2 : (n : Int) ≤ 4 := by omega
          have HR : Hid (formB (nats s) = !decide ([] ∈ l)) := Lib.hid (by rw [hfm, decide_eq_true h4, Bool.true_and])
          clear hfm
          go_wp2_with fail
          refine CS.out.mono ?_
          rintro e w1 ⟨rfl, hb, hst, hsz⟩
          have HB := Lib.hid hb
          have CC := Lib.hid (containsS_any w.heap.size 0 n n l ⟨#[]⟩ w1 HNL.out (fun _ => hst) HLT.out (by omega) (some ⟨w.heap.size, 0, none⟩) (fun _ => rfl))
          clear hb hst hsz
          go_wp2_with fail
          refine CC.out.mono ?_
          rintro e w' ⟨rfl, rfl⟩
          go_wp2_with fail
          go_ret
          exact ⟨by rw [HR.out] <;> rfl, HB.out⟩
        · have d2 : ¬ (n : Int) ≤ 4 := by omega
          have HR : Hid (formB (nats s) = false) := Lib.hid (by rw [hfm, decide_eq_false h4, Bool.false_and])
          clear hfm
          go_wp2_with fail
          refine CS.out.mono ?_
          rintro e w1 ⟨rfl, hb, hst, hsz⟩
          have HB := Lib.hid hb
          clear hb hst hsz
          go_wp2_with fail
          go_ret
          exact ⟨by rw [HR.out] <;> rfl, HB.out⟩
end Go.Proofs.YtbogjfbfgbhdbaaGreatDoor
