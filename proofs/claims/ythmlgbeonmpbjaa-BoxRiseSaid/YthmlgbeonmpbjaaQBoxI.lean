/-
  Mailboxes, plain mathematics: flags stored one number after another are stored at once.
-/
import Derived.Test.YthmlgbeonmpbjaaQBoxG
namespace Go.Proofs.Ythmlgbeonmpbjaa
set_option linter.unusedVariables false
set_option linter.unusedSimpArgs false
open Go.RowKit
set_option linter.unusedVariables false
set_option linter.unusedSimpArgs false

theorem ap_facts : ∀ m : Nat, m < 3 → ∀ a : Nat, a < 32 → ∀ b : Nat, b < 32 → 0 ≤ apV (a : Int) (m : Int) (b : Int) ∧ apV (a : Int) (m : Int) (b : Int) < 32 ∧ apV (apV (a : Int) (m : Int) (b : Int)) (m : Int) (b : Int) = apV (a : Int) (m : Int) (b : Int) := by decide +kernel
theorem apE_zero {m g : Int} (h : apE 0 m g = 0) : okF g = true ∧ 0 ≤ m ∧ m ≤ 2 := by
  unfold apE at h
  by_cases h1 : okF 0 = true ∧ okF g = true ∧ 0 ≤ m ∧ m ≤ 2
  · exact h1.2
  · rw [if_neg h1] at h; omega
theorem apE_one {m g : Int} (h : apE 0 m g ≠ 0) : apE 0 m g = 1 := by
  unfold apE at h ⊢
  split at h
  · exact absurd rfl h
  · rename_i h1; rw [if_neg h1]
theorem okF_nat {f : Int} (h : okF f = true) : ∃ a : Nat, f = (a : Int) ∧ a < 32 := by
  have h' : 0 ≤ f ∧ f ≤ 31 := of_decide_eq_true h
  obtain ⟨a, rfl⟩ := Int.eq_ofNat_of_zero_le h'.1
  exact ⟨a, rfl, by omega⟩
theorem ap_twice {f m g : Int} (hf : okF f = true) (h : apE 0 m g = 0) : apV (apV f m g) m g = apV f m g ∧ 0 ≤ apV f m g ∧ apV f m g < 32 := by
  obtain ⟨hg, hm0, hm2⟩ := apE_zero h
  obtain ⟨a, rfl, ha⟩ := okF_nat hf
  obtain ⟨b, rfl, hb⟩ := okF_nat hg
  obtain ⟨k, rfl⟩ := Int.eq_ofNat_of_zero_le hm0
  have := ap_facts k (by omega) a ha b hb
  exact ⟨this.2.2, this.1, this.2.1⟩
theorem setF_twice {mode flags : Int} {x : Mg} (hx : okMg x = true) (h : apE 0 mode flags = 0) : setF mode flags (setF mode flags x) = setF mode flags x := by
  unfold setF
  simp only
  rw [(ap_twice (okMg_of hx).2.2.1 h).1]
theorem storeL_len (l : List Mg) (ids : List Int) (mode flags : Int) : (storeL l ids mode flags).length = l.length := by unfold storeL; rw [List.length_map]
theorem storeL_get (l : List Mg) (ids : List Int) (mode flags : Int) (i : Nat) : (storeL l ids mode flags)[i]? = (l[i]?).map (fun m => if m.uid ∈ ids then setF mode flags m else m) := by unfold storeL; rw [List.getElem?_map]
theorem storeL_place (l : List Mg) (ids : List Int) (mode flags u : Int) : placeN (storeL l ids mode flags) u = placeN l u := by
  induction l with
  | nil => rfl
  | cons m l ih =>
    have e : storeL (m :: l) ids mode flags = (if m.uid ∈ ids then setF mode flags m else m) :: storeL l ids mode flags := rfl
    rw [e]
    have eu : (if m.uid ∈ ids then setF mode flags m else m).uid = m.uid := by split <;> rfl
    show (if _ = u then 1 else if placeN (storeL l ids mode flags) u = 0 then 0 else placeN (storeL l ids mode flags) u + 1) = _
    rw [eu, ih]
    rfl
theorem storeL_nil (l : List Mg) (mode flags : Int) : storeL l [] mode flags = l := by
  unfold storeL
  simp
theorem uid_one {nx : Int} {l : List Mg} (h : OkTo nx l) {i j : Nat} {x y : Mg} (hx : l[i]? = some x) (hy : l[j]? = some y) (he : x.uid = y.uid) : i = j := by
  have h1 := (List.getElem?_eq_some_iff.1 hx)
  have h2 := (List.getElem?_eq_some_iff.1 hy)
  obtain ⟨a1, e1⟩ := h1
  obtain ⟨a2, e2⟩ := h2
  rcases Nat.lt_trichotomy i j with hlt | heq | hgt
  · have := List.pairwise_iff_getElem.1 h.2 i j a1 a2 hlt
    rw [e1, e2] at this; omega
  · exact heq
  · have := List.pairwise_iff_getElem.1 h.2 j i a2 a1 hgt
    rw [e1, e2] at this; omega
theorem storeL_step {nx : Int} {l : List Mg} {ids : List Int} {j p : Nat} {u mode flags : Int} {a : Mg} (hl : OkTo nx l) (ht : ids.take (j + 1) = ids.take j ++ [u]) (hp : placeN l u = p + 1) (h : apE 0 mode flags = 0) (ha : (storeL l (ids.take j) mode flags)[p]? = some a) :
    (storeL l (ids.take j) mode flags).set p (setF mode flags a) = storeL l (ids.take (j + 1)) mode flags := by
  obtain ⟨x, hx, hxu⟩ := placeN_at (l := l) (u := u) (by omega)
  rw [hp, Nat.add_sub_cancel] at hx
  have hxo := (hl.1 x (List.mem_of_getElem? hx)).1
  refine List.ext_getElem? fun i => ?_
  rw [List.getElem?_set, storeL_get, storeL_get]
  by_cases hi : p = i
  · subst hi
    rw [if_pos rfl, if_pos (by rw [storeL_len]; exact (List.getElem?_eq_some_iff.1 hx).1), hx]
    rw [storeL_get, hx] at ha
    simp only [Option.map_some, Option.some.injEq] at ha ⊢
    rw [if_pos (by rw [ht, hxu]; exact List.mem_append_right _ (List.mem_singleton_self u)), ← ha]
    split
    · exact setF_twice hxo h
    · rfl
  · rw [if_neg hi]
    cases hy : l[i]? with
    | none => rfl
    | some y =>
      have hyu : y.uid ≠ u := fun e => hi (uid_one hl hx hy (by rw [hxu, e]))
      simp only [Option.map_some]
      have hmem : y.uid ∈ ids.take (j + 1) ↔ y.uid ∈ ids.take j := by
        rw [ht, List.mem_append, List.mem_singleton]
        exact ⟨fun h => h.elim id (fun e => absurd e hyu), .inl⟩
      by_cases hm : y.uid ∈ ids.take j
      · rw [if_pos hm, if_pos (hmem.2 hm)]
      · rw [if_neg hm, if_neg (fun e => hm (hmem.1 e))]
/-- stored up to message k -/
def stoTo (l : List Mg) (ids : List Int) (mode flags : Int) (k : Nat) : List Mg := storeL (l.take k) ids mode flags ++ l.drop k
theorem stoTo_0 (l : List Mg) (ids : List Int) (mode flags : Int) : stoTo l ids mode flags 0 = l := by unfold stoTo storeL; simp
theorem stoTo_all {l : List Mg} {ids : List Int} {mode flags : Int} {k : Nat} (h : l.length ≤ k) : stoTo l ids mode flags k = storeL l ids mode flags := by
  unfold stoTo; rw [List.take_of_length_le h, List.drop_eq_nil_of_le h, List.append_nil]
theorem stoTo_get {l : List Mg} {ids : List Int} {mode flags : Int} {k : Nat} {a : Mg} (ha : l[k]? = some a) : (stoTo l ids mode flags k)[k]? = some a := by
  have hk := (List.getElem?_eq_some_iff.1 ha).1
  unfold stoTo
  have hlen : (storeL (l.take k) ids mode flags).length = k := by rw [storeL_len, List.length_take]; omega
  rw [List.getElem?_append_right (by omega), hlen, Nat.sub_self, List.getElem?_drop, Nat.add_zero]
  exact ha
theorem stoTo_skip {l : List Mg} {ids : List Int} {mode flags : Int} {k : Nat} {a : Mg} (ha : l[k]? = some a) (h : a.uid ∉ ids) : stoTo l ids mode flags (k + 1) = stoTo l ids mode flags k := by
  have hk := (List.getElem?_eq_some_iff.1 ha).1
  unfold stoTo storeL
  rw [List.take_add_one, ha, List.map_append, List.append_assoc]
  congr 1
  have e : l.drop k = a :: l.drop (k + 1) := by
    rw [List.drop_eq_getElem_cons hk]
    rw [List.getElem?_eq_getElem hk] at ha
    rw [Option.some.inj ha]
  rw [e]
  simp [h]
theorem stoTo_set {l : List Mg} {ids : List Int} {mode flags : Int} {k : Nat} {a : Mg} (ha : l[k]? = some a) (h : a.uid ∈ ids) : (stoTo l ids mode flags k).set k (setF mode flags a) = stoTo l ids mode flags (k + 1) := by
  have hk := (List.getElem?_eq_some_iff.1 ha).1
  have hlen : (storeL (l.take k) ids mode flags).length = k := by rw [storeL_len, List.length_take]; omega
  unfold stoTo
  rw [List.set_append_right _ _ (by omega), hlen, Nat.sub_self]
  have e : l.drop k = a :: l.drop (k + 1) := by
    rw [List.drop_eq_getElem_cons hk]
    rw [List.getElem?_eq_getElem hk] at ha
    rw [Option.some.inj ha]
  rw [e, List.set_cons_zero]
  unfold storeL
  rw [List.take_add_one, ha, List.map_append, List.append_assoc]
  simp [h]
/-- a message's flags are stored anew -/
theorem OwnM.putF {w : World} {base n c g i : Nat} {L : List Mg} {a : Mg} (h : OwnM w base (some ⟨g, 0, none⟩) n c L) (hi : L[i]? = some a) (z : Int) :
    base ≤ g ∧ g < w.heap.size ∧ w.frozen? ⟨g, i * 4 + 1, none⟩ = false ∧ w.cell? ⟨g, i * 4 + 1, none⟩ = some (.int .i64 a.flags) ∧ OwnM (w.setCell ⟨g, i * 4 + 1, none⟩ (.int .i64 z)) base (some ⟨g, 0, none⟩) n c (L.set i { a with flags := z }) := by
  obtain ⟨hs, h1, h2, rfl⟩ := h
  rw [List.getElem?_map] at hi
  cases hx : hs[i]? with
  | none => rw [hx] at hi; cases hi
  | some x =>
    rw [hx] at hi
    obtain rfl : x.m = a := Option.some.inj hi
    obtain ⟨g', e, hg, hl, hf, hc, ho⟩ := OwnK.putX h1 hx (j := 1) (a' := ({ x with m := { x.m with flags := z } } : Hd)) (by omega) (.int .i64 z) (by unfold hdC; rfl)
    injection e with e
    injection e with e
    subst e
    refine ⟨hg, hl, hf, hc, hs.set i { x with m := { x.m with flags := z } }, ho, fun y hy => ?_, ?_⟩
    · have hall : OwnB w base 5 y.A y.n y.c y.m.body := by
        rcases List.mem_or_eq_of_mem_set hy with hy | rfl
        · exact h2 y hy
        · exact h2 x (List.mem_of_getElem? hx)
      exact ⟨ownsB_kept hall.1 (grownBy_cell w g _ _) (fun b cs fr e _ => ownsB_type h1.1 (show 27 ≠ 5 by decide) b cs fr e), hall.2⟩
    · rw [List.map_set]
end Go.Proofs.Ythmlgbeonmpbjaa
