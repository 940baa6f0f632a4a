/-
  Plain mathematics: what the library's functions on texts answer, in the words of lists of bytes as numbers: prefixes, numerals, cutting at a byte, words. Nothing here speaks of a program.
-/
import Derived.Test.YtoiffchhfnbooaaDoorQShaPad
import Derived.Lib.Strings
import Derived.Lib.Split
import Derived.Lib.SplitLaws
import Derived.Lib.FieldsP
import Derived.Lib.DecodeN
import Derived.Lib.ItoaNum
namespace Go.Proofs.YtoiffchhfnbooaaDoor
set_option linter.unusedVariables false
set_option linter.unusedSimpArgs false
set_option linter.unusedVariables false
set_option linter.unusedSimpArgs false
open Go.Lib

theorem strOf_bytes (l : List UInt8) : (⟨l.toArray⟩ : ByteArray) = strOf (l.map (·.toNat)) := by
  refine data_inj ?_
  rw [strOf_data, List.map_map]
  show l = _
  conv => lhs; rw [← List.map_id l]
  exact List.map_congr_left fun x _ => by simp
theorem nats_bytes (l : List UInt8) : nats (⟨l.toArray⟩ : ByteArray) = l.map (·.toNat) := rfl
theorem nats_extract (s : ByteArray) (a b : Nat) : nats (s.extract a b) = ((nats s).drop a).take (b - a) := by
  unfold nats
  rw [extract_data, List.map_take, List.map_drop]
theorem nats_append (a b : ByteArray) : nats (a ++ b) = nats a ++ nats b := by
  unfold nats
  rw [ByteArray.data_append, Array.toList_append, List.map_append]
theorem nats_mem {s : ByteArray} {c : UInt8} : c.toNat ∈ nats s ↔ c ∈ s.data.toList := by
  unfold nats
  rw [List.mem_map]
  exact ⟨fun ⟨x, hx, e⟩ => by rw [← UInt8.toNat_inj.1 e]; exact hx, fun h => ⟨c, h, rfl⟩⟩
theorem nats_inj {a b : ByteArray} (h : nats a = nats b) : a = b := by rw [← strOf_nats a, ← strOf_nats b, h]
theorem nats_byte (s : ByteArray) (i : Nat) (h : i < s.size) : (nats s)[i]? = some s[i].toNat := by
  unfold nats
  rw [List.getElem?_map, data_getElem? s i h]
  rfl

theorem hasPrefix_one (s : ByteArray) (c : UInt8) : hasPrefix s.data.toList [c] = decide ((nats s).head? = some c.toNat) := by
  unfold hasPrefix nats
  cases s.data.toList with
  | nil => simp
  | cons a l =>
    simp only [List.isPrefixOf, List.map_cons, List.head?_cons, Option.some.injEq, Bool.and_true]
    rw [Bool.eq_iff_iff, beq_iff_eq, decide_eq_true_iff, UInt8.toNat_inj]
    exact eq_comm
theorem hasSuffix_one (s : ByteArray) (c : UInt8) : hasSuffix s.data.toList [c] = decide ((nats s).getLast? = some c.toNat) := by
  unfold hasSuffix nats List.isSuffixOf
  rw [List.getLast?_eq_head?_reverse, ← List.map_reverse]
  cases s.data.toList.reverse with
  | nil => simp
  | cons a l =>
    simp only [List.reverse_singleton, List.isPrefixOf, List.map_cons, List.head?_cons, Option.some.injEq, Bool.and_true]
    rw [Bool.eq_iff_iff, beq_iff_eq, decide_eq_true_iff, UInt8.toNat_inj]
    exact eq_comm
def trimB (l : List Nat) : List Nat := if l.head? = some 32 then l.drop 1 else l
theorem trimPrefix_one (s : ByteArray) : (⟨(trimPrefix s.data.toList [32]).toArray⟩ : ByteArray) = strOf (trimB (nats s)) := by
  rw [strOf_bytes]
  congr 1
  unfold trimPrefix trimB
  have h := hasPrefix_one s 32
  by_cases e : (nats s).head? = some 32
  · rw [if_pos (by rw [h]; exact decide_eq_true e), if_pos e]
    unfold nats
    rw [List.map_drop]; rfl
  · rw [if_neg (by rw [h]; simpa using e), if_neg e]
    rfl
theorem trimSuffix_one (s : ByteArray) (c : UInt8) (e : (nats s).getLast? = some c.toNat) : (⟨(trimSuffix s.data.toList [c]).toArray⟩ : ByteArray) = strOf (nats s).dropLast := by
  rw [strOf_bytes]
  congr 1
  unfold trimSuffix
  rw [if_pos (by rw [hasSuffix_one]; exact decide_eq_true e), List.dropLast_eq_take]
  unfold nats
  rw [List.map_take, List.length_map]; rfl

/-! numerals -/
def dig2 (n : Nat) : List Nat := [48 + n / 10, 48 + n % 10]
def dig4 (n : Nat) : List Nat := [48 + n / 1000, 48 + n / 100 % 10, 48 + n / 10 % 10, 48 + n % 10]
theorem ofNat_small {n : Nat} (h : n < 10) : (UInt8.ofNat (48 + n)).toNat = 48 + n := by simp; omega
theorem decDigits_1 {n : Nat} (h : n < 10) : (⟨(decDigits n).toArray⟩ : ByteArray) = strOf [48 + n] := by
  rw [strOf_bytes, decDigits, dif_pos h, List.map_singleton, ofNat_small h]
theorem decDigits_2 {n : Nat} (h : 10 ≤ n) (h2 : n < 100) : (⟨(decDigits n).toArray⟩ : ByteArray) = strOf (dig2 n) := by
  rw [strOf_bytes, decDigits, dif_neg (by omega), decDigits, dif_pos (by omega)]
  simp only [List.map_append, List.map_singleton, List.singleton_append, List.map_cons, List.map_nil]
  rw [ofNat_small (n := n / 10) (by omega), ofNat_small (n := n % 10) (by omega)]
  rfl
theorem itoa_4 {n : Nat} (h : 1000 ≤ n) (h2 : n < 10000) : (⟨(itoa (n : Int)).toArray⟩ : ByteArray) = strOf (dig4 n) := by
  unfold itoa
  rw [if_neg (by omega), Int.toNat_natCast, strOf_bytes, decDigits, dif_neg (by omega), decDigits, dif_neg (by omega), decDigits, dif_neg (by omega), decDigits, dif_pos (by omega)]
  simp only [List.map_append, List.map_singleton, List.singleton_append, List.cons_append, List.nil_append, List.map_cons, List.map_nil]
  rw [ofNat_small (n := n / 10 / 10 / 10) (by omega), ofNat_small (n := n / 10 / 10 % 10) (by omega), ofNat_small (n := n / 10 % 10) (by omega), ofNat_small (n := n % 10) (by omega),
    show n / 10 / 10 / 10 = n / 1000 by omega, show n / 10 / 10 % 10 = n / 100 % 10 by omega]
  rfl

/-! cutting at a byte -/
theorem indexByte_cut (c : UInt8) : ∀ l : List UInt8, (c ∉ l ∧ indexByte l c = -1) ∨ ∃ p r, l = p ++ c :: r ∧ c ∉ p ∧ indexByte l c = (p.length : Int)
  | [] => .inl ⟨by simp, rfl⟩
  | b :: l => by
    by_cases hb : b = c
    · subst hb
      exact .inr ⟨[], l, rfl, by simp, by unfold indexByte; simp⟩
    · have hbc : (b == c) = false := by simpa using hb
      rcases indexByte_cut c l with ⟨h1, h2⟩ | ⟨p, r, rfl, h2, h3⟩
      · refine .inl ⟨by simp only [List.mem_cons, not_or]; exact ⟨fun e => hb e.symm, h1⟩, ?_⟩
        unfold indexByte
        rw [hbc, h2]; simp
      · refine .inr ⟨b :: p, r, rfl, by simp only [List.mem_cons, not_or]; exact ⟨fun e => hb e.symm, h2⟩, ?_⟩
        unfold indexByte
        rw [hbc, h3]
        have : ((p.length : Int) == -1) = false := by simp
        rw [this]
        simp
theorem indexB_cut (s : ByteArray) (c : UInt8) : ((∀ x ∈ nats s, x ≠ c.toNat) ∧ indexB s ⟨#[c]⟩ = -1) ∨
    ∃ i : Nat, indexB s ⟨#[c]⟩ = i ∧ i < s.size ∧ (∀ x ∈ (nats s).take i, x ≠ c.toNat) ∧ nats s = (nats s).take i ++ c.toNat :: (nats s).drop (i + 1) := by
  have e : indexB s ⟨#[c]⟩ = indexByte s.data.toList c := index_one _ _
  rw [e]
  rcases indexByte_cut c s.data.toList with ⟨h1, h2⟩ | ⟨p, r, hl, h2, h3⟩
  · exact .inl ⟨fun x hx hc => h1 (nats_mem.1 (by rw [← hc]; exact hx)), h2⟩
  · have hn : nats s = p.map (·.toNat) ++ c.toNat :: r.map (·.toNat) := by unfold nats; rw [hl]; simp
    have hp : (p.map (·.toNat)).length = p.length := List.length_map ..
    refine .inr ⟨p.length, h3, ?_, ?_, ?_⟩
    · have := congrArg List.length hn
      rw [nats_length] at this
      simp at this
      omega
    · rw [hn, ← hp, List.take_left']
      · intro x hx hc
        obtain ⟨y, hy, rfl⟩ := List.mem_map.1 hx
        exact h2 (by rw [← UInt8.toNat_inj.1 hc]; exact hy)
      · rfl
    · rw [hn, ← hp, List.take_left' rfl]
      congr 1
      rw [← List.drop_drop, List.drop_left' rfl]
      rfl
theorem splitB_all_one (c : UInt8) : ∀ (k : Nat) (s : ByteArray), countB s ⟨#[c]⟩ ≤ k → (splitB ⟨#[c]⟩ 0 k s).map nats = splitL c.toNat (nats s)
  | 0, s, hk => by
    rcases indexB_cut s c with ⟨h1, h2⟩ | ⟨i, h1, h2, h3, h4⟩
    · rw [splitL_none h1]; rfl
    · have := countB_hit s ⟨#[c]⟩ i (Nat.le_refl _) h1
      omega
  | k + 1, s, hk => by
    rcases indexB_cut s c with ⟨h1, h2⟩ | ⟨i, h1, h2, h3, h4⟩
    · rw [splitB_miss _ _ _ _ h2, splitL_none h1]; rfl
    · have hc := countB_hit s ⟨#[c]⟩ i (Nat.le_refl _) h1
      rw [splitB_hit _ _ _ _ i h1, List.map_cons, splitB_all_one c k _ (by have : (⟨#[c]⟩ : ByteArray).size = 1 := rfl
                                                                           rw [this] at hc ⊢; omega)]
      conv => rhs; rw [h4, splitL_hit _ h3]
      rw [nats_extract, nats_extract]
      congr 1
      congr 1
      refine List.take_of_length_le ?_
      rw [List.length_drop, nats_length]
      exact Nat.le_refl _
theorem countB_splitL (c : UInt8) (s : ByteArray) : (splitL c.toNat (nats s)).length = countB s ⟨#[c]⟩ + 1 := by
  rw [← splitB_all_one c _ s (Nat.le_refl _), List.length_map, splitB_all _ (Nat.le_refl _) 0 _ s rfl]
theorem splitB_few (c : UInt8) : ∀ (k : Nat) (s : ByteArray), k ≤ countB s ⟨#[c]⟩ → (splitB ⟨#[c]⟩ 0 k s).length = k + 1
  | 0, s, _ => rfl
  | k + 1, s, hk => by
    rcases indexB_cut s c with ⟨h1, h2⟩ | ⟨i, h1, h2, h3, h4⟩
    · rw [countB_miss _ _ h2] at hk; omega
    · have hc := countB_hit s ⟨#[c]⟩ i (Nat.le_refl _) h1
      rw [splitB_hit _ _ _ _ i h1, List.length_cons, splitB_few c k _ (by omega)]
theorem splitL_lt {c : Nat} {l : List Nat} (h : ∀ x ∈ l, x < 256) : ∀ p ∈ splitL c l, ∀ x ∈ p, x < 256 := by
  have : ∀ (l cur : List Nat), (∀ x ∈ l, x < 256) → (∀ x ∈ cur, x < 256) → ∀ p ∈ splitGo c cur l, ∀ x ∈ p, x < 256 := by
    intro l
    induction l with
    | nil => intro cur _ hc p hp; simp only [splitGo, List.mem_singleton] at hp; subst hp; exact hc
    | cons a l ih =>
      intro cur hl hc p hp
      unfold splitGo at hp
      split at hp
      · rcases List.mem_cons.1 hp with rfl | hp
        · exact hc
        · exact ih [] (fun x hx => hl x (List.mem_cons_of_mem _ hx)) (by simp) p hp
      · refine ih _ (fun x hx => hl x (List.mem_cons_of_mem _ hx)) (fun x hx => ?_) p hp
        rcases List.mem_append.1 hx with hx | hx
        · exact hc x hx
        · rw [List.mem_singleton.1 hx]; exact hl a (List.mem_cons_self ..)
  exact this l [] h (by simp)
/-- the parts as texts -/
theorem parts_strOf {L : List ByteArray} {l : List (List Nat)} (h : L.map nats = l) : L = l.map strOf := by
  rw [← h, List.map_map]
  conv => lhs; rw [← List.map_id L]
  exact List.map_congr_left fun x _ => (strOf_nats x).symm

/-! words -/
theorem wordsGo_run : ∀ (q cur l : List Nat), (∀ x ∈ q, blankB x = false) → wordsGo cur (q ++ l) = wordsGo (cur ++ q) l
  | [], cur, l, _ => by rw [List.nil_append, List.append_nil]
  | x :: q, cur, l, h => by
    rw [List.cons_append]
    conv => lhs; unfold wordsGo
    rw [if_neg (by rw [h x (List.mem_cons_self ..)]; exact Bool.false_ne_true), wordsGo_run q _ l fun y hy => h y (List.mem_cons_of_mem _ hy), List.append_assoc]
    rfl
theorem wordsGo_blank0 {x : Nat} (l : List Nat) (h : blankB x = true) : wordsGo [] (x :: l) = wordsGo [] l := by
  conv => lhs; unfold wordsGo
  rw [if_pos h, if_pos rfl]
theorem wordsGo_blank {x : Nat} {cur : List Nat} (l : List Nat) (h : blankB x = true) (hc : ¬ cur = []) : wordsGo cur (x :: l) = cur :: wordsGo [] l := by
  conv => lhs; unfold wordsGo
  rw [if_pos h, if_neg hc]
theorem wordsGo_end {cur : List Nat} (hc : ¬ cur = []) : wordsGo cur [] = [cur] := by
  unfold wordsGo
  rw [if_neg hc]
theorem decodeN_small (n b0 b1 b2 b3 : Nat) (h : b0 < 128) : decodeN n b0 b1 b2 b3 = (b0, 1) := by unfold decodeN; rw [if_pos h]
theorem decodeN_great (n b0 b1 b2 b3 : Nat) (hn : 1 ≤ n) (h : 128 ≤ b0) : 128 ≤ (decodeN n b0 b1 b2 b3).1 ∧ 1 ≤ (decodeN n b0 b1 b2 b3).2 ∧ (decodeN n b0 b1 b2 b3).2 ≤ 4 ∧ (decodeN n b0 b1 b2 b3).2 ≤ n ∧
    (2 ≤ (decodeN n b0 b1 b2 b3).2 → 128 ≤ b1) ∧ (3 ≤ (decodeN n b0 b1 b2 b3).2 → 128 ≤ b2) ∧ (4 ≤ (decodeN n b0 b1 b2 b3).2 → 128 ≤ b3) := by
  unfold decodeN
  repeat' split
  all_goals (simp only; omega)
def blankR (r : Nat) : Bool := decide (r = 32) || decide (r = 9)
theorem blankB_great {x : Nat} (h : 128 ≤ x) : blankB x = false := by unfold blankB; simp; omega
theorem get_nats (s : ByteArray) (i : Nat) (h : i < s.size) : (s.get! i).toNat = (nats s).getD i 0 := by
  have := nats_byte s i h
  rw [List.getD_eq_getElem?_getD, this, Option.getD_some]
  congr 1
  cases s
  exact getElem!_pos _ i h
theorem drop_run (l : List Nat) (pos w : Nat) (hw : pos + w ≤ l.length) : l.drop pos = (l.drop pos).take w ++ l.drop (pos + w) := by
  rw [← List.drop_drop, List.take_append_drop]
theorem take_piece (l : List Nat) (a pos w : Nat) (h : a ≤ pos) : (l.take pos).drop a ++ (l.drop pos).take w = (l.take (pos + w)).drop a := by
  rw [List.take_add, List.drop_append]
  by_cases hp : pos ≤ l.length
  · rw [List.length_take, Nat.min_eq_left hp, show a - pos = 0 by omega]; rfl
  · rw [List.drop_of_length_le (show l.length ≤ pos by omega), List.take_nil, List.drop_nil]
def curOf (l : List Nat) (st : Option Nat) (pos : Nat) : List Nat := match st with | some a => (l.take pos).drop a | none => []
theorem piece_eq (s : ByteArray) (a b : Nat) : nats (s.extract a b) = ((nats s).take b).drop a := by rw [nats_extract, List.drop_take]
theorem spans_words (s : ByteArray) : ∀ (f pos : Nat) (st : Option Nat) (acc : List (Nat × Nat)), s.size ≤ pos + f → pos ≤ s.size → (∀ a, st = some a → a < pos) →
    (closeSpans s (spansFromP blankR s f pos st acc)).map (fun x => nats (s.extract x.1 x.2)) = acc.map (fun x => nats (s.extract x.1 x.2)) ++ wordsGo (curOf (nats s) st pos) ((nats s).drop pos) := by
  intro f
  have hend : ∀ (pos : Nat) (st : Option Nat) (acc : List (Nat × Nat)), pos = s.size → (∀ a, st = some a → a < pos) →
      (closeSpans s (acc, st)).map (fun x => nats (s.extract x.1 x.2)) = acc.map (fun x => nats (s.extract x.1 x.2)) ++ wordsGo (curOf (nats s) st pos) ((nats s).drop pos) := by
    intro pos st acc hp hst
    subst hp
    rw [List.drop_of_length_le (by rw [nats_length]; exact Nat.le_refl _)]
    cases st with
    | none => simp [closeSpans, curOf, wordsGo]
    | some a =>
      have ha := hst a rfl
      have hne : ¬ ((nats s).take s.size).drop a = [] := by
        intro e
        have := congrArg List.length e
        rw [List.length_drop, List.length_take, nats_length] at this
        simp at this; omega
      simp only [closeSpans, curOf]
      rw [wordsGo_end hne]
      simp only [List.map_append, List.map_singleton, piece_eq]
  induction f with
  | zero =>
    intro pos st acc h1 h2 hst
    exact hend pos st acc (by omega) hst
  | succ f ih =>
    intro pos st acc h1 h2 hst
    by_cases hlt : pos < s.size
    · obtain ⟨w, hw⟩ : ∃ w, (Utf8.decode s pos).2 = w := ⟨_, rfl⟩
      have hb := get_nats s pos hlt
      unfold spansFromP
      rw [if_pos hlt, hw]
      by_cases hs : (s.get! pos).toNat < 128
      · have hd : Utf8.decode s pos = ((s.get! pos).toNat, 1) := by rw [decode_at]; exact decodeN_small _ _ _ _ _ hs
        have hw1 : w = 1 := by rw [← hw, hd]
        subst hw1
        have hcons : (nats s).drop pos = (nats s).getD pos 0 :: (nats s).drop (pos + 1) := by
          rw [List.drop_eq_getElem_cons (by rw [nats_length]; exact hlt), List.getD_eq_getElem?_getD, List.getElem?_eq_getElem (by rw [nats_length]; exact hlt)]
          rfl
        rw [hd, hb, hcons]
        have hbl : blankR ((nats s).getD pos 0) = blankB ((nats s).getD pos 0) := rfl
        simp only [hbl]
        by_cases hbk : blankB ((nats s).getD pos 0) = true
        · rw [if_pos hbk]
          cases st with
          | none =>
            simp only
            rw [ih (pos + 1) none acc (by omega) (by omega) (fun a h => by cases h)]
            simp only [curOf]
            rw [wordsGo_blank0 _ hbk]
          | some a =>
            have ha := hst a rfl
            simp only
            rw [ih (pos + 1) none (acc ++ [(a, pos)]) (by omega) (by omega) (fun a h => by cases h)]
            have hne : ¬ ((nats s).take pos).drop a = [] := by
              intro e
              have := congrArg List.length e
              rw [List.length_drop, List.length_take, nats_length] at this
              simp at this; omega
            simp only [curOf]
            rw [wordsGo_blank _ hbk hne]
            simp only [List.map_append, List.map_singleton, piece_eq, List.append_assoc, List.singleton_append]
        · rw [if_neg hbk]
          have hq : (nats s).getD pos 0 :: (nats s).drop (pos + 1) = [(nats s).getD pos 0] ++ (nats s).drop (pos + 1) := rfl
          have hrun : ((nats s).drop pos).take 1 = [(nats s).getD pos 0] := by rw [hcons]; rfl
          rw [hq, wordsGo_run _ _ _ (fun x hx => by rw [List.mem_singleton.1 hx]; simpa using hbk)]
          cases st with
          | none =>
            simp only
            rw [ih (pos + 1) (some pos) acc (by omega) (by omega) (fun a h => by cases h; omega)]
            congr 2
            simp only [curOf, List.nil_append]
            have := take_piece (nats s) pos pos 1 (Nat.le_refl _)
            rw [hrun, List.drop_of_length_le (by rw [List.length_take]; omega)] at this
            exact this.symm
          | some a =>
            have ha := hst a rfl
            simp only
            rw [ih (pos + 1) (some a) acc (by omega) (by omega) (fun b h => by cases h; omega)]
            congr 2
            simp only [curOf]
            have := take_piece (nats s) a pos 1 (by omega)
            rw [hrun] at this
            exact this.symm
      · have hg := decodeN_great (s.size - pos) (s.get! pos).toNat (s.get! (pos + 1)).toNat (s.get! (pos + 2)).toNat (s.get! (pos + 3)).toNat (by omega) (by omega)
        rw [← decode_at, hw] at hg
        obtain ⟨g1, g2, g3, g4, g5, g6, g7⟩ := hg
        have hbk : blankR (Utf8.decode s pos).1 = false := blankB_great g1
        rw [hbk]
        have hq : ∀ x ∈ ((nats s).drop pos).take w, blankB x = false := by
          intro x hx
          obtain ⟨i, hi, hxe⟩ := List.mem_iff_getElem.1 hx
          have hi' : i < w := by rw [List.length_take] at hi; omega
          have hip : pos + i < s.size := by omega
          have hxv : x = (nats s).getD (pos + i) 0 := by
            rw [← hxe, List.getElem_take, List.getElem_drop, List.getD_eq_getElem?_getD, List.getElem?_eq_getElem (by rw [nats_length]; exact hip)]
            rfl
          rw [hxv, ← get_nats s (pos + i) hip]
          refine blankB_great ?_
          rcases (by omega : i = 0 ∨ i = 1 ∨ i = 2 ∨ i = 3) with rfl | rfl | rfl | rfl
          · rw [Nat.add_zero]; omega
          · exact g5 (by omega)
          · exact g6 (by omega)
          · exact g7 (by omega)
        rw [drop_run (nats s) pos w (by rw [nats_length]; omega), wordsGo_run _ _ _ hq]
        cases st with
        | none =>
          simp only [Bool.false_eq_true, if_false]
          rw [ih (pos + w) (some pos) acc (by omega) (by omega) (fun a h => by cases h; omega)]
          congr 2
          simp only [curOf, List.nil_append]
          have := take_piece (nats s) pos pos w (Nat.le_refl _)
          rw [List.drop_of_length_le (by rw [List.length_take]; omega), List.nil_append] at this
          exact this.symm
        | some a =>
          have ha := hst a rfl
          simp only [Bool.false_eq_true, if_false]
          rw [ih (pos + w) (some a) acc (by omega) (by omega) (fun b h => by cases h; omega)]
          congr 2
          simp only [curOf]
          exact (take_piece (nats s) a pos w (by omega)).symm
    · rw [spansFromP_end _ _ _ _ _ _ hlt]
      exact hend pos st acc (by omega) hst
theorem fields_words (s : ByteArray) : (goFieldsP blankR s).map nats = wordsL (nats s) := by
  unfold goFieldsP spansOfP wordsL
  rw [List.map_map]
  have := spans_words s s.size 0 none [] (by omega) (Nat.zero_le _) (fun a h => by cases h)
  have e : (nats ∘ fun x : Nat × Nat => s.extract x.1 x.2) = fun x => nats (s.extract x.1 x.2) := rfl
  rw [e, this]
  simp [curOf]
theorem wordsL_lt {l : List Nat} (h : ∀ x ∈ l, x < 256) : ∀ p ∈ wordsL l, ∀ x ∈ p, x < 256 := by
  have : ∀ (l cur : List Nat), (∀ x ∈ l, x < 256) → (∀ x ∈ cur, x < 256) → ∀ p ∈ wordsGo cur l, ∀ x ∈ p, x < 256 := by
    intro l
    induction l with
    | nil =>
      intro cur _ hc p hp
      unfold wordsGo at hp
      split at hp
      · simp at hp
      · rw [List.mem_singleton.1 hp]; exact hc
    | cons a l ih =>
      intro cur hl hc p hp
      have hl' : ∀ x ∈ l, x < 256 := fun x hx => hl x (List.mem_cons_of_mem _ hx)
      unfold wordsGo at hp
      split at hp
      · split at hp
        · exact ih [] hl' (by simp) p hp
        · rcases List.mem_cons.1 hp with rfl | hp
          · exact hc
          · exact ih [] hl' (by simp) p hp
      · refine ih _ hl' (fun x hx => ?_) p hp
        rcases List.mem_append.1 hx with hx | hx
        · exact hc x hx
        · rw [List.mem_singleton.1 hx]; exact hl a (List.mem_cons_self ..)
  exact this l [] h (by simp)
end Go.Proofs.YtoiffchhfnbooaaDoor
