/-
  The plain mathematics of the law SectorSure: what a disk of sixteen sectors holds behind so many writes, flushed ahead of one of them, and what a fall leaves.
-/
import Derived.Test.YtfejnfohbagnkaaSecFuseLaw
import Derived.Test.YtfejnfohbagnkaaSecViewLaw
namespace Go.Proofs.Ytfejnfohbagnkaa
open Go.RowKit

def SureInv (l : List (Int × List Int)) (k j : Nat) (d : Dk) (S : List (List Int)) : Prop :=
  rightB d = true ∧ d.secs.length = 16 ∧ d.loose.length ≤ j ∧ d.fuse = -1 ∧ d.down = false ∧ S.length = 16 ∧ (∀ s ∈ S, s.length = 64) ∧ (j ≤ k → viewM d = S) ∧ (k < j → d.secs = S ∧ ∀ x ∈ d.loose, ∃ i, k ≤ i ∧ i < j ∧ l[i]? = some x)
def SureMid (l : List (Int × List Int)) (k j : Nat) (d : Dk) (S : List (List Int)) : Prop :=
  rightB d = true ∧ d.secs.length = 16 ∧ d.loose.length ≤ j ∧ d.fuse = -1 ∧ d.down = false ∧ S.length = 16 ∧ (∀ s ∈ S, s.length = 64) ∧ (j < k → viewM d = S) ∧ (k ≤ j → d.secs = S ∧ ∀ x ∈ d.loose, ∃ i, k ≤ i ∧ i < j ∧ l[i]? = some x)

theorem SureInv.zero (l : List (Int × List Int)) (k : Nat) : SureInv l k 0 ⟨List.replicate 16 zsec, [], -1, false⟩ (List.replicate 16 zsec) :=
  ⟨by decide +kernel, by decide +kernel, Nat.zero_le _, rfl, rfl, by decide +kernel, by decide +kernel, fun _ => rfl, fun h => absurd h (by omega)⟩
theorem SureInv.mid {l : List (Int × List Int)} {k j : Nat} {d : Dk} {S : List (List Int)} (h : SureInv l k j d S) (hj : j ≠ k) : SureMid l k j d S := by
  obtain ⟨h1, h2, h3, h4, h5, h6, h7, h8, h9⟩ := h
  exact ⟨h1, h2, h3, h4, h5, h6, h7, fun h => h8 (by omega), fun h => h9 (by omega)⟩
theorem deed_up {d : Dk} (hf : d.fuse = -1) (hd : d.down = false) : deedD d.fuse d.down = false ∧ deedF d.fuse d.down = -1 := by
  rw [hf, hd]
  exact ⟨by decide, by decide⟩
theorem SureInv.flush {l : List (Int × List Int)} {k : Nat} {d : Dk} {S : List (List Int)} (h : SureInv l k k d S) :
    deedD d.fuse d.down = false ∧ SureMid l k k ⟨viewM d, [], deedF d.fuse d.down, d.down⟩ S := by
  obtain ⟨h1, h2, h3, h4, h5, h6, h7, h8, h9⟩ := h
  obtain ⟨e1, e2⟩ := deed_up h4 h5
  refine ⟨e1, ?_, ?_, Nat.zero_le _, e2, h5, h6, h7, fun h => absurd h (by omega), fun _ => ⟨h8 (Nat.le_refl _), by simp⟩⟩
  · refine rightB_iff.2 ⟨?_, by simp, by show fuseB (deedF d.fuse d.down) = true; rw [e2]; decide, rfl⟩
    show (viewM d).length ≤ 4096
    unfold viewM
    rw [doneM_length, h2]
    omega
  · show (viewM d).length = 16
    unfold viewM
    rw [doneM_length, h2]
theorem SureMid.put {l : List (Int × List Int)} {k j : Nat} {d : Dk} {S : List (List Int)} {x : Int × List Int} (h : SureMid l k j d S) (hx : l[j]? = some x) (h64 : x.2.length = 64) (hj : j ≤ 200) (ht : thereB 16 x.1 = true) :
    (rightB d && thereB d.secs.length x.1) = true ∧ deedD d.fuse d.down = false ∧
    SureInv l k (j + 1) { d with loose := d.loose ++ [(x.1, x.2)], fuse := deedF d.fuse d.down } (if j < k then S.set x.1.toNat x.2 else S) := by
  obtain ⟨h1, h2, h3, h4, h5, h6, h7, h8, h9⟩ := h
  obtain ⟨e1, e2⟩ := deed_up h4 h5
  obtain ⟨r1, r2, r3, r4⟩ := rightB_iff.1 h1
  refine ⟨by rw [h1, h2, ht]; rfl, e1, ?_, h2, by simp; omega, e2, h5, ?_, ?_, ?_, ?_⟩
  · refine rightB_iff.2 ⟨r1, by simp; omega, by show fuseB (deedF d.fuse d.down) = true; rw [e2]; decide, ?_⟩
    show looseB d.secs.length (d.loose ++ [(x.1, x.2)]) = true
    rw [looseB_append, r4, h2]
    simpa [looseB] using ht
  · split <;> simp [h6]
  · intro s hs
    split at hs
    · rcases List.mem_or_eq_of_mem_set hs with hs | rfl
      · exact h7 s hs
      · exact h64
    · exact h7 s hs
  · intro hjk
    rw [if_pos (by omega)]
    have hv := h8 (by omega)
    unfold viewM at hv ⊢
    show doneM (fun _ => true) 0 d.secs (d.loose ++ [(x.1, x.2)]) = _
    rw [doneM_snoc, if_pos rfl, hv]
  · intro hjk
    rw [if_neg (by omega)]
    obtain ⟨g1, g2⟩ := h9 (by omega)
    refine ⟨g1, fun y hy => ?_⟩
    rcases List.mem_append.1 hy with hy | hy
    · obtain ⟨i, i1, i2, i3⟩ := g2 y hy
      exact ⟨i, i1, by omega, i3⟩
    · rw [List.mem_singleton] at hy
      subst hy
      exact ⟨j, by omega, by omega, hx⟩
theorem SureMid.skip {l : List (Int × List Int)} {k j : Nat} {d : Dk} {S : List (List Int)} {x : Int × List Int} (h : SureMid l k j d S) (ht : thereB 16 x.1 = false) :
    (rightB d && thereB d.secs.length x.1) = false ∧ SureInv l k (j + 1) d S := by
  obtain ⟨h1, h2, h3, h4, h5, h6, h7, h8, h9⟩ := h
  refine ⟨by rw [h2, ht]; simp, h1, h2, by omega, h4, h5, h6, h7, fun h => h8 (by omega), fun h => ?_⟩
  obtain ⟨g1, g2⟩ := h9 (by omega)
  refine ⟨g1, fun y hy => ?_⟩
  obtain ⟨i, i1, i2, i3⟩ := g2 y hy
  exact ⟨i, i1, by omega, i3⟩

theorem doneM_from (st : Nat → Bool) : ∀ (l : List (Int × List Int)) (i : Nat) (ss : List (List Int)) (a : Nat), looseB ss.length l = true →
    (doneM st i ss l)[a]? = ss[a]? ∨ ∃ x ∈ l, x.1 = (a : Int) ∧ (doneM st i ss l)[a]? = some x.2
  | [], i, ss, a, _ => .inl rfl
  | x :: r, i, ss, a, h => by
    have hx : thereB ss.length x.1 = true ∧ looseB ss.length r = true := by simpa [looseB] using h
    unfold doneM
    by_cases hs : st i = true
    · rw [if_pos hs]
      rcases doneM_from st r (i + 1) (ss.set x.1.toNat x.2) a (by rw [List.length_set]; exact hx.2) with h1 | ⟨y, hy, h1, h2⟩
      · by_cases ha : x.1.toNat = a
        · have ht := hx.1
          unfold thereB at ht
          simp only [Bool.and_eq_true, decide_eq_true_eq] at ht
          refine .inr ⟨x, by simp, by omega, ?_⟩
          rw [h1, ← ha, List.getElem?_set_self (by omega)]
        · left
          rw [h1, List.getElem?_set_ne ha]
      · exact .inr ⟨y, by simp [hy], h1, h2⟩
    · rw [if_neg hs]
      rcases doneM_from st r (i + 1) ss a hx.2 with h1 | ⟨y, hy, h1, h2⟩
      · exact .inl h1
      · exact .inr ⟨y, by simp [hy], h1, h2⟩

/-- what the inner loop has found by i -/
def hitB (l : List (Int × List Int)) (k : Nat) (a : Int) (x : List Int) (j : Nat) : Bool := decide (k ≤ j) && match l[j]? with | some y => decide (y.1 = a) && decide (y.2 = x) | none => false
def goodB (c : Bool) (l : List (Int × List Int)) (k : Nat) (a : Int) (x : List Int) (i : Nat) : Bool := c || (List.range i).any (hitB l k a x)
theorem goodB_step (c : Bool) (l : List (Int × List Int)) (k : Nat) (a : Int) (x : List Int) (i : Nat) {y : Int × List Int} (hk : k ≤ i) (hy : l[i]? = some y) :
    goodB c l k a x (i + 1) = (goodB c l k a x i || (decide (y.1 = a) && decide (y.2 = x))) := by
  unfold goodB
  rw [List.range_succ, List.any_append, Bool.or_assoc]
  simp [hitB, hk, hy]
theorem goodB_start (c : Bool) (l : List (Int × List Int)) (k : Nat) (a : Int) (x : List Int) : goodB c l k a x k = c := by
  unfold goodB
  have : (List.range k).any (hitB l k a x) = false := by
    rw [List.any_eq_false]
    intro j hj
    rw [List.mem_range] at hj
    unfold hitB
    have : decide (k ≤ j) = false := by simp; omega
    rw [this]
    simp
  rw [this, Bool.or_false]

/-- behind the fall -/
theorem SureMid.fall {l : List (Int × List Int)} {k : Nat} {d : Dk} {S : List (List Int)} (h : SureMid l k l.length d S) (hk : k ≤ l.length) (m : Nat) :
    startM d m = (⟨doneM (bitM m) 0 d.secs d.loose, [], -1, false⟩, 0) ∧ ∀ a : Nat, a < 16 → ∃ x, readM (startM d m).1 (a : Int) = (x, 0) ∧ goodB (decide (x = S.getD a [])) l k a x l.length = true := by
  obtain ⟨h1, h2, h3, h4, h5, h6, h7, h8, h9⟩ := h
  obtain ⟨r1, r2, r3, r4⟩ := rightB_iff.1 h1
  obtain ⟨g1, g2⟩ := h9 hk
  have e : startM d m = (⟨doneM (bitM m) 0 d.secs d.loose, [], -1, false⟩, 0) := by unfold startM; rw [if_pos h1]
  refine ⟨e, fun a ha => ?_⟩
  rw [e]
  have hlen : (doneM (bitM m) 0 d.secs d.loose).length = 16 := by rw [doneM_length, h2]
  refine ⟨(doneM (bitM m) 0 d.secs d.loose).getD a [], ?_, ?_⟩
  · rw [readM_up (by refine rightB_iff.2 ⟨?_, by simp, (show fuseB (-1) = true by decide), rfl⟩; show (doneM _ _ _ _).length ≤ _; omega) (by show thereB (doneM _ _ _ _).length _ = true; rw [hlen]; unfold thereB; simp; omega) rfl]
    rfl
  · have hga : ∀ (q : List (List Int)) (hq : q.length = 16), q[a]? = some (q.getD a []) := fun q hq => by
      rw [List.getElem?_eq_getElem (by omega)]
      simp [List.getD, List.getElem?_eq_getElem (show a < q.length by omega)]
    rcases doneM_from (bitM m) d.loose 0 d.secs a r4 with hd | ⟨y, hy, hy1, hy2⟩
    · rw [hga _ hlen, hga _ h2, g1] at hd
      injection hd with hd
      unfold goodB
      rw [g1, hd]
      simp
    · obtain ⟨i, i1, i2, i3⟩ := g2 y hy
      rw [hga _ hlen] at hy2
      injection hy2 with hy2
      unfold goodB
      rw [Bool.or_eq_true]
      right
      rw [List.any_eq_true]
      refine ⟨i, List.mem_range.2 i2, ?_⟩
      unfold hitB
      rw [i3, hy2]
      simp [i1, hy1]

/-- the rows of the document's array of what is sure, in one block -/
def rows16 (S : List (List Int)) : Array Value := (S.map secv).flatten.toArray
theorem rows16_size {S : List (List Int)} (h : S.length = 16) (h64 : ∀ s ∈ S, s.length = 64) : (rows16 S).size = 1024 := by
  unfold rows16
  rw [List.size_toArray, flat_length (k := 64) (fun y hy => by obtain ⟨z, hz, rfl⟩ := List.mem_map.1 hy; rw [secv_length]; exact h64 z hz), List.length_map, h]
theorem rows16_at {W : World} {b : Nat} {t : TypeId} {S : List (List Int)} (h : Bk W b t (rows16 S)) (h64 : ∀ s ∈ S, s.length = 64) {a : Nat} (ha : a < S.length) : W.rangeAt b (a * 64) (secv (S.getD a [])) := by
  intro j v hv
  have hj : j < 64 := by
    have := (List.getElem?_eq_some_iff.1 hv).1
    rw [secv_length] at this
    have h1 : S.getD a [] = S[a] := by simp [List.getD, ha]
    rw [h1, h64 _ (List.getElem_mem ha)] at this
    exact this
  rw [h.cell]
  unfold rows16
  rw [List.getElem?_toArray, flat_at (k := 64) (fun y hy => by obtain ⟨z, hz, rfl⟩ := List.mem_map.1 hy; rw [secv_length]; exact h64 z hz) a j hj]
  have h1 : S.getD a [] = S[a] := by simp [List.getD, ha]
  rw [h1] at hv
  simpa [ha] using hv
theorem rows16_set {S : List (List Int)} (h : S.length = 16) (h64 : ∀ s ∈ S, s.length = 64) {a : Nat} (ha : a < 16) {y : List Int} (hy : y.length = 64) :
    (splice (rows16 S).toList (a * 64) (secv y)).toArray = rows16 (S.set a y) := by
  unfold rows16
  rw [List.map_set, flat_set (k := 64) (fun y hy => by obtain ⟨z, hz, rfl⟩ := List.mem_map.1 hy; rw [secv_length]; exact h64 z hz) a (by rw [List.length_map, h]; exact ha) _ (by rw [secv_length, hy])]
end Go.Proofs.Ytfejnfohbagnkaa
