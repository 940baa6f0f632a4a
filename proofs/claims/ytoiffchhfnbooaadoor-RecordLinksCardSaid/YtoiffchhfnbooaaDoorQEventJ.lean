/-
  Contracts over the document's own package for events: an event's bytes.
-/
import Derived.Test.YtoiffchhfnbooaaDoorQEventH
import Derived.Test.YtoiffchhfnbooaaDoorQEventM
import Derived.Deep.DeepCutAuto
import Derived.Deep.RegionHeld3
namespace Go.Proofs.YtoiffchhfnbooaaDoor
set_option linter.unusedVariables false
set_option linter.unusedSimpArgs false
open Go.RowKit
set_option linter.unusedVariables false
set_option linter.unusedSimpArgs false

def accD (e : Ev) (k : Nat) : List Nat := numsB [e.kind, e.at_] ++ (nineL.take k).flatMap (layD e)
theorem accD_next {e : Ev} {k c : Nat} (hc : nineL[k]? = some c) : accD e (k + 1) = accD e k ++ layD e c := by
  unfold accD
  rw [take_snoc_n nineL k c hc, List.flatMap_append, List.flatMap_singleton, List.append_assoc]
theorem accD_all (e : Ev) : accD e 9 = bytesE e := by rw [← bytes_doc]; rfl
theorem layD_in {e : Ev} {c : Nat} (h : decide (c ∈ partsN e.kind) = true) : layD e c = layP e c := if_pos (of_decide_eq_true h)
theorem layD_out {e : Ev} {c : Nat} (h : decide (c ∈ partsN e.kind) = false) : layD e c = [] := if_neg (of_decide_eq_false h)
theorem accD_small {e : Ev} (hr : rightE e = true) (k : Nat) : (accD e k).length ≤ 50000 := by
  have h1 := flat_len_le (f := layD e) (p := nineL.take k) (m := 5000) fun c hc => by
    unfold layD
    split
    · rename_i hm; exact layP_len ((rightE_parts hr).2.2.1 c hm)
    · exact Nat.zero_le _
  have h2 : (nineL.take k).length ≤ 9 := by rw [List.length_take]; exact Nat.min_le_right _ _
  unfold accD
  rw [List.length_append, numsB_length, List.length_cons, List.length_singleton]
  omega
structure DnAt (w : World) (h : Eh) (l : List Nat) (A : Option Addr) (N c : Nat) (wx : World) : Prop where
  bx : Bk wx w.heap.size 34 (evC h)
  own : OwnB wx w.heap.size 5 A N c l
  below : Below w.heap.size w wx
theorem DnAt.next {w W w' : World} {h : Eh} {l l' l2 : List Nat} {A : Option Addr} {N c n : Nat} {e : Ending} (d : DnAt w h l A N c W) (hm : Made W.heap.size W n l' e w') (hl : l' = l2) : ∃ A2 N2 c2, e = .returned (.slice A2 N2 c2) ∧ DnAt w h l2 A2 N2 c2 w' := by
  subst hl
  obtain ⟨A2, c2, he, ho, hb⟩ := hm
  exact ⟨A2, n, c2, he, ⟨d.bx.below hb d.bx.lt, ho.base_le d.below.size, d.below.trans (hb.mono d.below.size)⟩⟩
theorem nums_one (z : Int) : numsB [z] = encB 8 (clampB z) := by rw [numsB_cons, numsB_nil, List.append_nil]
theorem nums_take {l : List Int} {k : Nat} {z : Int} (h : l.take (k + 1) = l.take k ++ [z]) : numsB (l.take (k + 1)) = numsB (l.take k) ++ encB 8 (clampB z) := by rw [h, numsB_snoc]
theorem ends_take2 {l : List Rg} {k : Nat} {x y : Int} (h : l.take (k + 1) = l.take k ++ [(x, y)]) : numsB (endsL (l.take (k + 1))) = numsB (endsL (l.take k)) ++ encB 8 (clampB x) ++ encB 8 (clampB y) := by
  rw [h, endsL_snoc, show endsL (l.take k) ++ [x, y] = endsL (l.take k) ++ [x] ++ [y] by simp, numsB_snoc, numsB_snoc]
end Go.Proofs.YtoiffchhfnbooaaDoor
