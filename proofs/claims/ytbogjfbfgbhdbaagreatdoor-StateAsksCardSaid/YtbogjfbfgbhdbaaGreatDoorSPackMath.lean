/-
  A part of the proof: see the last text.
-/
import Derived.Laws.BytesArg
import Derived.Laws.Strings
import Derived.Lib.Strings
import Derived.Lib.Split
import Derived.Lib.SplitLaws
import Derived.Lib.FieldsP
import Derived.Lib.DecodeN
import Derived.Lib.ItoaNum
namespace Go.Proofs.YtbogjfbfgbhdbaaGreatDoor
set_option linter.unusedVariables false
set_option linter.unusedSimpArgs false
def nats (s : ByteArray) : List Nat := s.data.toList.map (·.toNat)
def strOf (l : List Nat) : ByteArray := strOfNums (l.map fun x : Nat => (x : Int))
theorem nats_length (s : ByteArray) : (nats s).length = s.size := by unfold nats; rw [List.length_map, Array.length_toList]; rfl
theorem nats_lt (s : ByteArray) : ∀ x ∈ nats s, x < 256 := by
  intro x hx
  obtain ⟨b, _, rfl⟩ := List.mem_map.1 hx
  exact b.toNat_lt
theorem strOf_size (l : List Nat) : (strOf l).size = l.length := by unfold strOf; rw [strOfNums_size, List.length_map]
theorem strOf_data (l : List Nat) : (strOf l).data.toList = l.map UInt8.ofNat := by
  unfold strOf
  rw [strOfNums_data, List.map_map]
  rfl
theorem nats_strOf (l : List Nat) (h : ∀ x ∈ l, x < 256) : nats (strOf l) = l := by
  unfold nats
  rw [strOf_data, List.map_map]
  conv => rhs; rw [← List.map_id l]
  refine List.map_congr_left fun x hx => ?_
  have := h x hx
  simp [Nat.mod_eq_of_lt this]
theorem data_inj {a b : ByteArray} (h : a.data.toList = b.data.toList) : a = b := by
  cases a; cases b
  simp only at h
  rw [Array.toList_inj.1 h]
theorem strOf_nats (s : ByteArray) : strOf (nats s) = s := by
  refine data_inj ?_
  rw [strOf_data]
  unfold nats
  rw [List.map_map]
  conv => rhs; rw [← List.map_id s.data.toList]
  refine List.map_congr_left fun x _ => ?_
  simp
theorem strOf_inj {a b : List Nat} (ha : ∀ x ∈ a, x < 256) (hb : ∀ x ∈ b, x < 256) (h : strOf a = strOf b) : a = b := by
  rw [← nats_strOf a ha, ← nats_strOf b hb, h]
theorem strOf_eqb (a b : List Nat) (ha : ∀ x ∈ a, x < 256) (hb : ∀ x ∈ b, x < 256) : ((strOf a).toList == (strOf b).toList) = decide (a = b) := by
  rw [ByteArray.toList_eq, ByteArray.toList_eq]
  by_cases h : a = b
  · subst h; simp
  · have : ¬ (strOf a).data.toList = (strOf b).data.toList := fun e => h (strOf_inj ha hb (data_inj e))
    have h2 : ¬ (strOf a).data = (strOf b).data := fun e => this (by rw [e])
    simp [h, h2]
section
variable {l : List Nat} {e n : Nat}
end
end Go.Proofs.YtbogjfbfgbhdbaaGreatDoor
namespace Go.Proofs.YtbogjfbfgbhdbaaGreatDoor
set_option linter.unusedVariables false
set_option linter.unusedSimpArgs false
def smallN (x : Nat) : Nat := if 65 ≤ x ∧ x ≤ 90 then x + 32 else x
def sameB (a b : List Nat) : Bool := decide (a.map smallN = b.map smallN)
theorem sameB_len {a b : List Nat} (h : sameB a b = true) : a.length = b.length := by
  have := congrArg List.length (of_decide_eq_true h)
  simpa using this
def splitGo (c : Nat) : List Nat → List Nat → List (List Nat)
  | cur, [] => [cur]
  | cur, x :: l => if x = c then cur :: splitGo c [] l else splitGo c (cur ++ [x]) l
def splitL (c : Nat) (l : List Nat) : List (List Nat) := splitGo c [] l
theorem splitGo_none {c : Nat} : ∀ (p cur : List Nat), (∀ x ∈ p, x ≠ c) → splitGo c cur p = [cur ++ p]
  | [], cur, _ => by simp [splitGo]
  | x :: p, cur, h => by
    unfold splitGo
    rw [if_neg (h x (List.mem_cons_self ..)), splitGo_none p _ fun y hy => h y (List.mem_cons_of_mem _ hy), List.append_assoc]
    rfl
theorem splitGo_hit {c : Nat} : ∀ (p cur r : List Nat), (∀ x ∈ p, x ≠ c) → splitGo c cur (p ++ c :: r) = (cur ++ p) :: splitGo c [] r
  | [], cur, r, _ => by rw [List.nil_append, List.append_nil]; conv => lhs; unfold splitGo
                        rw [if_pos rfl]
  | x :: p, cur, r, h => by
    rw [List.cons_append]
    conv => lhs; unfold splitGo
    rw [if_neg (h x (List.mem_cons_self ..)), splitGo_hit p _ r fun y hy => h y (List.mem_cons_of_mem _ hy), List.append_assoc]
    rfl
theorem splitL_none {c : Nat} {p : List Nat} (h : ∀ x ∈ p, x ≠ c) : splitL c p = [p] := splitGo_none p [] h
theorem splitL_hit {c : Nat} {p : List Nat} (r : List Nat) (h : ∀ x ∈ p, x ≠ c) : splitL c (p ++ c :: r) = p :: splitL c r := splitGo_hit p [] r h
end Go.Proofs.YtbogjfbfgbhdbaaGreatDoor
namespace Go.Proofs.YtbogjfbfgbhdbaaGreatDoor
set_option linter.unusedVariables false
set_option linter.unusedSimpArgs false
open Go.Lib
theorem nats_extract (s : ByteArray) (a b : Nat) : nats (s.extract a b) = ((nats s).drop a).take (b - a) := by
  unfold nats
  rw [extract_data, List.map_take, List.map_drop]
theorem nats_mem {s : ByteArray} {c : UInt8} : c.toNat ∈ nats s ↔ c ∈ s.data.toList := by
  unfold nats
  rw [List.mem_map]
  exact ⟨fun ⟨x, hx, e⟩ => by rw [← UInt8.toNat_inj.1 e]; exact hx, fun h => ⟨c, h, rfl⟩⟩
theorem nats_inj {a b : ByteArray} (h : nats a = nats b) : a = b := by rw [← strOf_nats a, ← strOf_nats b, h]
theorem nats_byte (s : ByteArray) (i : Nat) (h : i < s.size) : (nats s)[i]? = some s[i].toNat := by
  unfold nats
  rw [List.getElem?_map, data_getElem? s i h]
  rfl
theorem indexByte_cut (c : UInt8) : ∀ l : List UInt8, (c ∉ l ∧ indexByte l c = -1) ∨ ∃ p r, l = p ++ c :: r ∧ c ∉ p ∧ indexByte l c = (p.length : Int)
  | [] => .inl ⟨by simp, rfl⟩
  | b :: l => by
    by_cases hb : b = c
    · subst hb
      exact .inr ⟨[], l, rfl, by simp, by unfold indexByte; simp⟩
    · have hbc : (b == c) = false := by simpa using hb
      rcases indexByte_cut c l with ⟨h1, h2⟩ | ⟨p, r, rfl, h2, h3⟩
      · refine .inl ⟨by simp only [List.mem_cons, not_or]; exact ⟨fun e => hb e.symm, h1⟩, ?_⟩
        unfold indexByte
        rw [hbc, h2]; simp
      · refine .inr ⟨b :: p, r, rfl, by simp only [List.mem_cons, not_or]; exact ⟨fun e => hb e.symm, h2⟩, ?_⟩
        unfold indexByte
        rw [hbc, h3]
        have : ((p.length : Int) == -1) = false := by simp
        rw [this]
        simp
theorem indexB_cut (s : ByteArray) (c : UInt8) : ((∀ x ∈ nats s, x ≠ c.toNat) ∧ indexB s ⟨#[c]⟩ = -1) ∨
    ∃ i : Nat, indexB s ⟨#[c]⟩ = i ∧ i < s.size ∧ (∀ x ∈ (nats s).take i, x ≠ c.toNat) ∧ nats s = (nats s).take i ++ c.toNat :: (nats s).drop (i + 1) := by
  have e : indexB s ⟨#[c]⟩ = indexByte s.data.toList c := index_one _ _
  rw [e]
  rcases indexByte_cut c s.data.toList with ⟨h1, h2⟩ | ⟨p, r, hl, h2, h3⟩
  · exact .inl ⟨fun x hx hc => h1 (nats_mem.1 (by rw [← hc]; exact hx)), h2⟩
  · have hn : nats s = p.map (·.toNat) ++ c.toNat :: r.map (·.toNat) := by unfold nats; rw [hl]; simp
    have hp : (p.map (·.toNat)).length = p.length := List.length_map ..
    refine .inr ⟨p.length, h3, ?_, ?_, ?_⟩
    · have := congrArg List.length hn
      rw [nats_length] at this
      simp at this
      omega
    · rw [hn, ← hp, List.take_left']
      · intro x hx hc
        obtain ⟨y, hy, rfl⟩ := List.mem_map.1 hx
        exact h2 (by rw [← UInt8.toNat_inj.1 hc]; exact hy)
      · rfl
    · rw [hn, ← hp, List.take_left' rfl]
      congr 1
      rw [← List.drop_drop, List.drop_left' rfl]
      rfl
theorem splitB_all_one (c : UInt8) : ∀ (k : Nat) (s : ByteArray), countB s ⟨#[c]⟩ ≤ k → (splitB ⟨#[c]⟩ 0 k s).map nats = splitL c.toNat (nats s)
  | 0, s, hk => by
    rcases indexB_cut s c with ⟨h1, h2⟩ | ⟨i, h1, h2, h3, h4⟩
    · rw [splitL_none h1]; rfl
    · have := countB_hit s ⟨#[c]⟩ i (Nat.le_refl _) h1
      omega
  | k + 1, s, hk => by
    rcases indexB_cut s c with ⟨h1, h2⟩ | ⟨i, h1, h2, h3, h4⟩
    · rw [splitB_miss _ _ _ _ h2, splitL_none h1]; rfl
    · have hc := countB_hit s ⟨#[c]⟩ i (Nat.le_refl _) h1
      rw [splitB_hit _ _ _ _ i h1, List.map_cons, splitB_all_one c k _ (by have : (⟨#[c]⟩ : ByteArray).size = 1 := rfl
                                                                           rw [this] at hc ⊢; omega)]
      conv => rhs; rw [h4, splitL_hit _ h3]
      rw [nats_extract, nats_extract]
      congr 1
      congr 1
      refine List.take_of_length_le ?_
      rw [List.length_drop, nats_length]
      exact Nat.le_refl _
theorem splitL_lt {c : Nat} {l : List Nat} (h : ∀ x ∈ l, x < 256) : ∀ p ∈ splitL c l, ∀ x ∈ p, x < 256 := by
  have : ∀ (l cur : List Nat), (∀ x ∈ l, x < 256) → (∀ x ∈ cur, x < 256) → ∀ p ∈ splitGo c cur l, ∀ x ∈ p, x < 256 := by
    intro l
    induction l with
    | nil => intro cur _ hc p hp; simp only [splitGo, List.mem_singleton] at hp; subst hp; exact hc
    | cons a l ih =>
      intro cur hl hc p hp
      unfold splitGo at hp
      split at hp
      · rcases List.mem_cons.1 hp with rfl | hp
        · exact hc
        · exact ih [] (fun x hx => hl x (List.mem_cons_of_mem _ hx)) (by simp) p hp
      · refine ih _ (fun x hx => hl x (List.mem_cons_of_mem _ hx)) (fun x hx => ?_) p hp
        rcases List.mem_append.1 hx with hx | hx
        · exact hc x hx
        · rw [List.mem_singleton.1 hx]; exact hl a (List.mem_cons_self ..)
  exact this l [] h (by simp)
end Go.Proofs.YtbogjfbfgbhdbaaGreatDoor
