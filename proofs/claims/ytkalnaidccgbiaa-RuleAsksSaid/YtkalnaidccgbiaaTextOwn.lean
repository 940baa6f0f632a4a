/-
  Texts as lists of bytes within a walk: added, in slices of a call's own, joined; a place where a walk stands. Of any program with texts.
-/
import Derived.Test.YtkalnaidccgbiaaDateText
import Derived.Test.YtkalnaidccgbiaaChecked
import Derived.Test.YtkalnaidccgbiaaOwnV
import Derived.Test.YtkalnaidccgbiaaBytesOwn
import Derived.Test.YtkalnaidccgbiaaCols
import Derived.Test.YtkalnaidccgbiaaRowK
import Derived.Lib.IndexBytes
import Derived.IntWalk
import Derived.OwnWalk
import Derived.Test.YtkalnaidccgbiaaBytes
import Derived.BigQuiet
import Derived.Deep.MidRow
namespace Go.Proofs.Ytkalnaidccgbiaa
open Go.RowKit
set_option linter.unusedVariables false
set_option linter.unusedSimpArgs false

theorem hold {p : Prop} (h : Hid p) : p := h
theorem held {p : Prop} (h : p) : Hid p := h
theorem post_over {Q : Exit → Act → World → Prop} {e : Exit} {a : Act} {W : World} (G : World → Prop) (hG : G W) (h : ∀ W', G W' → Q e a W') : Q e a W := h W hG
theorem code_over {P : Program} {c : Code} {a : Act} {W : World} {Q : Exit → Act → World → Prop} (G : World → Prop) (hG : G W) (h : ∀ W', G W' → c.wp P Q a W') : c.wp P Q a W := h W hG
theorem k_over {K : Act → World → Prop} {a : Act} {W : World} (G : World → Prop) (hG : G W) (h : ∀ W', G W' → K a W') : K a W := h W hG
theorem take_snoc_n (l : List Nat) (k x : Nat) (hx : l[k]? = some x) : l.take (k + 1) = l.take k ++ [x] := by rw [List.take_add_one, hx]; rfl
theorem take_snoc_l {α : Type} (l : List α) (k : Nat) (x : α) (hx : l[k]? = some x) : l.take (k + 1) = l.take k ++ [x] := by rw [List.take_add_one, hx]; rfl
theorem drewN_twice (w : World) (a b : Nat) : (w.drewN a).drewN b = w.drewN (a + b) := by unfold World.drewN; simp [Nat.add_assoc]
theorem below_drewN {B : Nat} {a w : World} (h : Below B a w) (q : Nat) : Below B a (w.drewN q) := ⟨h.os, h.tape, h.output, h.size, h.block⟩
theorem info_str : (Try.prog.info? 9).map (fun i => (i.zero, i.size, i.bytes)) = some (some (.string ByteArray.empty), 1, 16) := by kernel_rfl
theorem strOf_append (a b : List Nat) : strOf a ++ strOf b = strOf (a ++ b) := by
  refine data_inj ?_
  rw [ByteArray.data_append, Array.toList_append, strOf_data, strOf_data, strOf_data, List.map_append]
theorem add_str (x y : ByteArray) (a b : List Nat) (hx : x = strOf a) (hy : y = strOf b) (h : a.length + b.length ≤ 1000000000000) (W : World) : (Op.stringOp .add x y).run Try.prog W = .ok (.string (strOf (a ++ b))) W := by
  subst hx hy
  rw [run_string_add_sum _ _ _ (by rw [strOf_size, strOf_size]; omega), strOf_append]
theorem strOf_ne {l m : List Nat} (hl : ∀ x ∈ l, x < 256) (hm : ∀ x ∈ m, x < 256) (h : l ≠ m) : ((strOf l).toList == (strOf m).toList) = false := by
  rw [strOf_eqb l m hl hm]; exact decide_eq_false h
theorem strOf_one (s : ByteArray) (m : List Nat) (hm : ∀ x ∈ m, x < 256) : (s.toList == (strOf m).toList) = decide (nats s = m) := by
  have := strOf_eqb (nats s) m (nats_lt s) hm
  rwa [strOf_nats] at this

/-- texts in cells -/
def Strs (w : World) (b o : Nat) (l : List (List Nat)) : Prop := ∀ i p, l[i]? = some p → w.cell? ⟨b, o + i, none⟩ = some (.string (strOf p))
theorem Strs.keep {w w' : World} {b o : Nat} {l : List (List Nat)} (h : Strs w b o l) (hk : ∀ i, w'.cell? ⟨b, i, none⟩ = w.cell? ⟨b, i, none⟩) : Strs w' b o l := fun i p hp => by rw [hk]; exact h i p hp
theorem Strs.below {w w' : World} {b o B : Nat} {l : List (List Nat)} (h : Strs w b o l) (hb : Below B w w') (hB : b < B) : Strs w' b o l := h.keep fun i => hb.cell (p := ⟨b, i, none⟩) hB
def sv (p : List Nat) : Value := .string (strOf p)
/-- an own slice of texts -/
def OwnS (w : World) (base : Nat) (A : Option Addr) (n c : Nat) (l : List (List Nat)) : Prop := OwnV w base 9 A n c (l.map sv)
section
variable {w w' : World} {base n c : Nat} {A : Option Addr} {l : List (List Nat)}
theorem OwnS.len (h : OwnS w base A n c l) : l.length = n := by have := OwnV.len h; simpa using this
theorem OwnS.below (h : OwnS w base A n c l) (hb : Below w.heap.size w w') : OwnS w' base A n c l := OwnV.below h hb
theorem OwnS.cap (h : OwnS w base A n c l) : n ≤ c := by
  rcases h.2 with ⟨hv, h0⟩ | ⟨g, cap, cur, hv, _, _, hnc, _⟩
  · injection hv with _ _ hc; omega
  · injection hv with _ _ hc; omega
theorem OwnS.at_ (h : OwnS w base A n c l) (hn : 0 < n) : ∃ g, A = some ⟨g, 0, none⟩ ∧ base ≤ g ∧ g < w.heap.size ∧ Strs w g 0 l ∧ (∀ i, w.frozen? ⟨g, i, none⟩ = false) ∧
    ∀ i p, i < n → OwnS (w.setCell ⟨g, i, none⟩ (.string (strOf p))) base A n c (l.set i p) := by
  have hlen := h.len
  rcases h.2 with ⟨_, h0⟩ | ⟨g, cap, cur, hv, hg, hh, hnc, hcm, hcs, htk⟩
  · omega
  · injection hv with hA _ hc
    subst hA hc
    refine ⟨g, rfl, hg, (Array.getElem?_eq_some_iff.1 hh).1, fun i p hp => ?_, fun i => frozen_of_row w g i cur _ hh, fun i p hi => ?_⟩
    · have hil : i < l.length := (List.getElem?_eq_some_iff.1 hp).1
      rw [Nat.zero_add, cell_of_row w g i cur _ (0, 0) hh]
      have h2 := congrArg (·[i]?) htk
      simp only [List.getElem?_take, Nat.mul_one, List.getElem?_map, hp, Option.map_some] at h2
      rw [if_pos (by omega)] at h2
      have h3 : cur[i]? = some (sv p) := by simpa only [Array.getElem?_toList] using h2
      exact h3
    · refine ⟨by simp [hlen], .inr ⟨g, c, cur.setIfInBounds i (.string (strOf p)), rfl, hg, heap_setCell_same w g i cur _ _ hh, hnc, hcm, by simpa using hcs, ?_⟩⟩
      rw [Array.toList_setIfInBounds, List.take_set, htk, List.map_set]
      rfl
theorem OwnS.col (h : OwnS w base A n c l) : Col Value.string w w.heap.size A n (l.map strOf) := by
  refine ⟨by rw [List.length_map]; exact h.len, fun hn => ?_⟩
  obtain ⟨g, rfl, _, hg, hst, _, _⟩ := h.at_ hn
  refine ⟨g, 0, rfl, hg, fun i s hs => ?_⟩
  rw [List.getElem?_map] at hs
  obtain ⟨p, hp, rfl⟩ := Option.map_eq_some_iff.1 hs
  exact hst i p hp
end
theorem map_nats_strOf {l : List (List Nat)} (h : ∀ p ∈ l, ∀ x ∈ p, x < 256) : (l.map strOf).map nats = l := by
  rw [List.map_map]
  conv => rhs; rw [← List.map_id l]
  exact List.map_congr_left fun p hp => nats_strOf p (h p hp)
theorem splitGo_take {c : Nat} {l : List Nat} {k x : Nat} (hx : l[k]? = some x) : splitGo c [] (l.take (k + 1)) = if x = c then splitGo c [] (l.take k) ++ [[]] else (splitGo c [] (l.take k)).dropLast ++ [(splitGo c [] (l.take k)).getLastD [] ++ [x]] := by
  rw [take_snoc_n l k x hx]
  exact splitGo_snoc _ _ _
theorem last_set {α : Type} (l : List α) (x : α) (h : l ≠ []) : l.dropLast ++ [x] = l.set (l.length - 1) x := by
  obtain ⟨a, b, rfl⟩ : ∃ a b, l = a ++ [b] := ⟨l.dropLast, l.getLast h, (List.dropLast_concat_getLast h).symm⟩
  simp
theorem last_get (l : List (List Nat)) (h : l ≠ []) : l[l.length - 1]? = some (l.getLastD []) := by
  obtain ⟨a, b, rfl⟩ : ∃ a b, l = a ++ [b] := ⟨l.dropLast, l.getLast h, (List.dropLast_concat_getLast h).symm⟩
  simp
theorem le_sumT : ∀ {l : List Nat} {x : Nat}, x ∈ l → x ≤ l.sum
  | y :: l, x, h => by
    rw [List.sum_cons]
    rcases List.mem_cons.1 h with rfl | h
    · omega
    · have := le_sumT h
      omega
theorem splitL_small {c : Nat} {l : List Nat} : ∀ p ∈ splitL c l, p.length ≤ l.length := by
  intro p hp
  have h := splitL_sum c l
  have h1 : p.length ≤ ((splitL c l).map List.length).sum := le_sumT (List.mem_map.2 ⟨p, hp, rfl⟩)
  have h2 : 0 < (splitL c l).length := List.length_pos_of_mem hp
  omega
end Go.Proofs.Ytkalnaidccgbiaa
