/-
  The library's functions that package date calls: their contracts in the words of lists of bytes as numbers: Itoa, TrimPrefix, TrimSuffix, HasPrefix, HasSuffix, Split, SplitN, FieldsFunc.
-/
import Derived.Test.YtnhafpgeinghnaaDoorDateShelf
import Derived.Test.YtnhafpgeinghnaaDoorDateText
import Derived.Test.YtnhafpgeinghnaaDoorDateCal
import Derived.Test.YtnhafpgeinghnaaDoorRows
import Derived.Shelf.Unicode.PredsPay
namespace Go.Proofs.YtnhafpgeinghnaaDoor
open Go.RowKit Go.Lib
set_option linter.unusedVariables false
set_option linter.unusedSimpArgs false

/-- a number's bytes, none ahead -/
def digS (n : Nat) : List Nat := if n < 10 then [48 + n] else dig2 n
theorem itoa2_any (n : Nat) (hn : n < 100) (w : World) : Calls Tryd.prog 38 #[.int .i64 (n : Int)] w fun e w' => e = .returned (.string (strOf (digS n))) ∧ w = w' := by
  refine (Any.strconv_Itoa_small dS171 n hn w).mono ?_
  rintro e w' ⟨rfl, rfl⟩
  refine ⟨?_, rfl⟩
  unfold digS
  by_cases h : n < 10
  · rw [if_pos h, decDigits_1 h]
  · rw [if_neg h, decDigits_2 (by omega) hn]
/-- the library's powers of ten lie as the text lays them -/
def Tens (w : World) : Prop := TabIs Tryd.prog w (Rows.dateTextsRow.named.getD 4 default) .u64 pow10Tab
theorem Tens.below {w w' : World} (h : Tens w) (hb : Below w.heap.size w w') : Tens w' := by
  have hs : (Tryd.prog.globalNamed (Rows.dateTextsRow.named.getD 4 default)).isSome = true := by kernel_rfl
  obtain ⟨g, hg⟩ := Option.isSome_iff_exists.1 hs
  exact TabIs_below hg h hb
theorem itoa4_any (n : Nat) (h1 : 1000 ≤ n) (h2 : n < 10000) (w : World) (hT : Tens w) : Calls Tryd.prog 38 #[.int .i64 (n : Int)] w fun e w' => e = .returned (.string (strOf (dig4 n))) ∧ Below w.heap.size w w' := by
  refine (Any.strconv_Itoa dSM171 (n : Int) (by omega) (by omega) w hT).mono ?_
  rintro e w' ⟨rfl, k, os, rfl⟩
  exact ⟨by rw [itoa_4 h1 h2], below_grown w k os⟩

theorem trimPrefix_any (s : ByteArray) (w : World) : Calls Tryd.prog 24 #[.string s, .string ⟨#[32]⟩] w fun e w' => e = .returned (.string (strOf (trimB (nats s)))) ∧ w = w' := by
  refine (Any.strings_TrimPrefix dS101 s ⟨#[32]⟩ w).mono ?_
  rintro e w' ⟨rfl, rfl⟩
  exact ⟨by rw [← trimPrefix_one], rfl⟩
theorem trimSuffix_any (s : ByteArray) (hs : s.size ≤ 4294967296) (c : UInt8) (hc : (nats s).getLast? = some c.toNat) (w : World) : Calls Tryd.prog 57 #[.string s, .string ⟨#[c]⟩] w fun e w' => e = .returned (.string (strOf (nats s).dropLast)) ∧ w = w' := by
  refine (Any.strings_TrimSuffix dS102 s ⟨#[c]⟩ w (by omega)).mono ?_
  rintro e w' ⟨rfl, rfl⟩
  exact ⟨by rw [← trimSuffix_one s c hc], rfl⟩
theorem hasPrefix_any (s : ByteArray) (c : UInt8) (w : World) : Calls Tryd.prog 72 #[.string s, .string ⟨#[c]⟩] w fun e w' => e = .returned (.bool (decide ((nats s).head? = some c.toNat))) ∧ w = w' := by
  refine (Any.strings_HasPrefix dS99 s ⟨#[c]⟩ w).mono ?_
  rintro e w' ⟨rfl, rfl⟩
  exact ⟨by rw [← hasPrefix_one], rfl⟩
theorem hasSuffix_any (s : ByteArray) (hs : s.size ≤ 4294967296) (c : UInt8) (w : World) : Calls Tryd.prog 55 #[.string s, .string ⟨#[c]⟩] w fun e w' => e = .returned (.bool (decide ((nats s).getLast? = some c.toNat))) ∧ w = w' := by
  refine (Any.strings_HasSuffix dS100 s ⟨#[c]⟩ w (by omega)).mono ?_
  rintro e w' ⟨rfl, rfl⟩
  exact ⟨by rw [← hasSuffix_one], rfl⟩

/-- texts in cells: a slice of them -/
def Strs (w : World) (b o : Nat) (l : List (List Nat)) : Prop := ∀ i p, l[i]? = some p → w.cell? ⟨b, o + i, none⟩ = some (.string (strOf p))
theorem Strs.keep {w w' : World} {b o : Nat} {l : List (List Nat)} (h : Strs w b o l) (hk : ∀ i, w'.cell? ⟨b, i, none⟩ = w.cell? ⟨b, i, none⟩) : Strs w' b o l := fun i p hp => by rw [hk]; exact h i p hp
theorem Strs.below {w w' : World} {b o B : Nat} {l : List (List Nat)} (h : Strs w b o l) (hb : Below B w w') (hB : b < B) : Strs w' b o l := h.keep fun i => hb.cell (p := ⟨b, i, none⟩) hB
theorem Strs.tail {w : World} {b o : Nat} {p : List Nat} {l : List (List Nat)} (h : Strs w b o (p :: l)) : Strs w b (o + 1) l := fun i q hq => by
  rw [show o + 1 + i = o + (i + 1) by omega]
  exact h (i + 1) q hq
theorem strs_new (w : World) (L : List ByteArray) (c : Array Value) (t : TypeId) (hc : ∀ (i : Nat) (s : ByteArray), L[i]? = some s → c[i]? = some (Value.string s)) : Strs (w.alloc (.cells c t)) w.heap.size 0 (L.map nats) := by
  intro i p hp
  rw [List.getElem?_map] at hp
  obtain ⟨s, hs, rfl⟩ := Option.map_eq_some_iff.1 hp
  rw [Nat.zero_add, strOf_nats, cell_of_row (w.alloc (.cells c t)) w.heap.size i c t (0, 0) (heap_alloc_new w _), hc i s hs]

theorem genSplit_one (s : ByteArray) (hs : s.size < 4294967281) (c : UInt8) (n : Int) (N : Nat) (hn0 : n ≠ 0) (hn63 : n ≤ 9223372036854775807) (hN : (N : Int) = min (if n < 0 then (countB s ⟨#[c]⟩ : Int) + 1 else n) ((s.size : Int) + 1)) (w : World) :
    Calls Tryd.prog 54 #[.string s, .string ⟨#[c]⟩, .int .i64 0, .int .i64 n] w fun e w' =>
      e = .returned (.slice (some ⟨w.heap.size, 0, none⟩) (splitB ⟨#[c]⟩ 0 (N - 1) s).length N) ∧ w' = w.alloc (.cells (cellsOf (splitB ⟨#[c]⟩ 0 (N - 1) s) N) 9) := by
  refine Any.strings_genSplit_core dS221 (by kernel_rfl) s ⟨#[c]⟩ 0 n N w hs (Nat.le_refl _) (Nat.zero_le _) ?_ ?_ hn0 hn63 hN
  · intro x cs hx
    refine (Any.strings_Index_one dS143 x c _).mono ?_
    rintro e w' ⟨rfl, rfl⟩
    exact ⟨by rw [show indexB x ⟨#[c]⟩ = indexByte x.data.toList c from index_one _ _], rfl⟩
  · refine (Any.strings_Count_one dS138 s c w).mono ?_
    rintro e w' ⟨rfl, rfl⟩
    refine ⟨?_, rfl⟩
    rw [show countB s ⟨#[c]⟩ = countByte s.data.toList c from count_one _ _]

set_option maxRecDepth 20000 in
set_option maxHeartbeats 400000 in
theorem split_any (s : ByteArray) (hs : s.size < 4294967281) (c : UInt8) (w : World) : Calls Tryd.prog 50 #[.string s, .string ⟨#[c]⟩] w fun e w' =>
    e = .returned (.slice (some ⟨w.heap.size, 0, none⟩) (splitL c.toNat (nats s)).length (splitL c.toNat (nats s)).length) ∧ Below w.heap.size w w' ∧ Strs w' w.heap.size 0 (splitL c.toNat (nats s)) ∧ w'.heap.size = w.heap.size + 1 ∧
    ∃ L : List ByteArray, w' = w.alloc (.cells (L.map Value.string).toArray 9) ∧ L = (splitL c.toNat (nats s)).map strOf := by
  obtain ⟨L, hL⟩ : ∃ L, splitB ⟨#[c]⟩ 0 (countB s ⟨#[c]⟩) s = L := ⟨_, rfl⟩
  have hm := splitB_all_one c (countB s ⟨#[c]⟩) s (Nat.le_refl _)
  have hlen := splitB_all ⟨#[c]⟩ (Nat.le_refl _) 0 _ s rfl
  have hle := countB_le ⟨#[c]⟩ (Nat.le_refl _) s.size s (Nat.le_refl _)
  have cg := genSplit_one s hs c (-1) (countB s ⟨#[c]⟩ + 1) (by decide) (by decide) (by rw [if_pos (by decide)]; omega) w
  rw [Nat.add_sub_cancel, hL] at cg
  rw [hL] at hm hlen
  rw [← hlen, cellsOf_full] at cg
  have hl2 : (splitL c.toNat (nats s)).length = L.length := by rw [← hm, List.length_map]
  have HL := Lib.hid hm
  have H2 := Lib.hid hl2
  clear hm hlen hle hL hl2
  go_enter Tryd.func50, Tryd.ntmps50
  go_wp2_with (go_at_call 54; refine cg.mono ?_; rintro e w' ⟨rfl, hw⟩; rw [hw])
  go_ret
  refine ⟨by rw [H2.out] <;> rfl, (Below.refl _ _).alloc (Nat.le_refl _) _, ?_, by simp, L, rfl, parts_strOf HL.out⟩
  rw [← HL.out]
  exact strs_new w L _ _ (fun i x hx => by simp [hx])

set_option maxRecDepth 20000 in
set_option maxHeartbeats 400000 in
theorem splitN4_any (s : ByteArray) (hs : s.size < 4294967281) (c : UInt8) (w : World) : Calls Tryd.prog 31 #[.string s, .string ⟨#[c]⟩, .int .i64 4] w fun e w' =>
    ∃ n k : Nat, e = .returned (.slice (some ⟨w.heap.size, 0, none⟩) n k) ∧ n ≤ k ∧ n = min 4 (splitL c.toNat (nats s)).length ∧ Below w.heap.size w w' ∧ w'.heap.size = w.heap.size + 1 ∧ (n ≤ 3 → Strs w' w.heap.size 0 (splitL c.toNat (nats s))) := by
  have hcl := countB_splitL c s
  have hle := countB_le ⟨#[c]⟩ (Nat.le_refl _) s.size s (Nat.le_refl _)
  obtain ⟨N, hN⟩ : ∃ N, min 4 (s.size + 1) = N := ⟨_, rfl⟩
  obtain ⟨L, hL⟩ : ∃ L, splitB ⟨#[c]⟩ 0 (N - 1) s = L := ⟨_, rfl⟩
  have cg := genSplit_one s hs c 4 N (by decide) (by decide) (by rw [if_neg (by decide)]; omega) w
  rw [hL] at cg
  have hn : L.length = min 4 (splitL c.toNat (nats s)).length := by
    by_cases h : countB s ⟨#[c]⟩ ≤ N - 1
    · have := splitB_all_one c (N - 1) s h
      rw [hL] at this
      rw [← this, List.length_map]
      have := splitB_length_le ⟨#[c]⟩ 0 (N - 1) s
      rw [hL] at this
      omega
    · have := splitB_few c (N - 1) s (by omega)
      rw [hL] at this
      omega
  have hk : L.length ≤ N := by
    have := splitB_length_le ⟨#[c]⟩ 0 (N - 1) s
    rw [hL] at this
    omega
  have hst : L.length ≤ 3 → L.map nats = splitL c.toNat (nats s) := by
    intro h3
    by_cases h : countB s ⟨#[c]⟩ ≤ N - 1
    · have := splitB_all_one c (N - 1) s h
      rw [hL] at this
      exact this
    · have := splitB_few c (N - 1) s (by omega)
      rw [hL] at this
      omega
  have H1 := Lib.hid hn
  have H2 := Lib.hid hk
  have H3 := Lib.hid hst
  clear hn hk hst hL hN hcl hle
  go_enter Tryd.func31, Tryd.ntmps31
  go_wp2_with (go_at_call 54; refine cg.mono ?_; rintro e w' ⟨rfl, hw⟩; rw [hw])
  go_ret
  refine ⟨L.length, N, rfl, H2.out, H1.out, (Below.refl _ _).alloc (Nat.le_refl _) _, by simp, fun h3 => ?_⟩
  rw [← H3.out h3]
  refine strs_new w L _ _ (fun i x hx => ?_)
  unfold cellsOf
  rw [List.getElem?_toArray, List.getElem?_append_left (by rw [List.length_map]; exact (List.getElem?_eq_some_iff.1 hx).1), List.getElem?_map, hx]
  rfl

set_option maxHeartbeats 400000 in
theorem blank_any (x : Nat) (hx : x ≤ 1114111) (w : World) : Calls Tryd.prog 34 #[.int .i32 (x : Int)] w fun e w' => e = .returned (.bool (blankR x)) ∧ w = w' := by
  by_cases h1 : x = 32
  · subst h1
    have HB : Hid (blankR 32 = true) := Lib.hid rfl
    go_enter Tryd.func34, Tryd.ntmps34
    go_wp2
    go_ret
    exact ⟨by rw [HB.out] <;> rfl, rfl⟩
  · by_cases h2 : x = 9
    · subst h2
      have HB : Hid (blankR 9 = true) := Lib.hid rfl
      go_enter Tryd.func34, Tryd.ntmps34
      go_wp2
      go_ret
      exact ⟨by rw [HB.out] <;> rfl, rfl⟩
    · have HB : Hid (blankR x = false) := Lib.hid (by unfold blankR; simp [h1, h2])
      have f1 : ((x : Int) == 32) = false := by simp; omega
      have f2 : ((x : Int) == 9) = false := by simp; omega
      go_enter Tryd.func34, Tryd.ntmps34
      go_wp2
      go_ret
      exact ⟨by rw [HB.out] <;> rfl, rfl⟩

theorem fields_any (s : ByteArray) (hs : s.size ≤ 4294967296) (w : World) : Calls Tryd.prog 33 #[.string s, .func (.func 34) #[] #[]] w fun e w' =>
    ∃ A, e = .returned (.slice (some ⟨A, 0, none⟩) (wordsL (nats s)).length (wordsL (nats s)).length) ∧ w.heap.size ≤ A ∧ A < w'.heap.size ∧ Below w.heap.size w w' ∧ Strs w' A 0 (wordsL (nats s)) := by
  refine (Any.strings_FieldsFunc_runes dS229 34 #[] (enters_of Tryd.func34 (by kernel_rfl) rfl) blankR s w hs ?_ (by kernel_rfl) (by kernel_rfl)).mono ?_
  · intro W x hx _
    refine (blank_any x hx W).mono ?_
    rintro e w' ⟨rfl, rfl⟩
    exact ⟨rfl, 0, rfl⟩
  · rintro e w' ⟨A, rfl, hA, hown, hb⟩
    have hl : (wordsL (nats s)).length = (goFieldsP blankR s).length := by rw [← fields_words, List.length_map]
    rcases hown.2 with ⟨h0, _⟩ | ⟨g, cap, cur, hv, hg, hh, hnc, hcm, hcs, htk⟩
    · cases h0
    · injection hv with hA2 _ _
      injection hA2 with hA2
      injection hA2 with hA2 _ _
      subst hA2
      refine ⟨A, by rw [hl], hA, (Array.getElem?_eq_some_iff.1 hh).1, hb, fun i p hp => ?_⟩
      rw [← fields_words, List.getElem?_map] at hp
      obtain ⟨x, hx, rfl⟩ := Option.map_eq_some_iff.1 hp
      have hi : i < (goFieldsP blankR s).length := (List.getElem?_eq_some_iff.1 hx).1
      rw [Nat.zero_add, strOf_nats, cell_of_row w' A i cur _ (0, 0) hh]
      have h2 := congrArg (·[i]?) htk
      simp only [List.getElem?_take, Nat.mul_one, List.getElem?_map, hx, Option.map_some] at h2
      rw [if_pos hi] at h2
      simpa only [Array.getElem?_toList] using h2
end Go.Proofs.YtnhafpgeinghnaaDoor
