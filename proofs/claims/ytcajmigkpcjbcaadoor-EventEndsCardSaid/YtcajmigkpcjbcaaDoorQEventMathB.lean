/-
  Plain facts of events: what is read of bytes, as a whole; there and back; cut short; the document's own way of reading.
-/
import Derived.Test.YtcajmigkpcjbcaaDoorQEventMath
namespace Go.Proofs.YtcajmigkpcjbcaaDoor
set_option linter.unusedVariables false
set_option linter.unusedSimpArgs false
set_option linter.unusedVariables false
set_option linter.unusedSimpArgs false

/-- behind the kind and the time: what stands there, whether the kind is one -/
def headL (l : List Nat) : List Nat := takeL (takeL l 0 8) (numE l 0) 8
def headK (l : List Nat) : Int := ((numV l 0 : Nat) : Int)
def headT (l : List Nat) : Int := ((numV (takeL l 0 8) (numE l 0) : Nat) : Int)
def headR (l : List Nat) : Nat := numE (takeL l 0 8) (numE l 0)
def headE (l : List Nat) : Nat := failE (headR l) (decide (partsN (headK l) = []))
def decS (l : List Nat) : St3 := (partsN (headK l)).foldl stepE (bare (headK l) (headT l), headL l, headE l)
def decD (l : List Nat) : Nat := doneE (decS l).2.1 (decS l).2.2
def decE (l : List Nat) : Nat := if decD l = 0 then (if rightE (decS l).1 = true then 0 else 3) else decD l
def decV (l : List Nat) : Ev := if decE l = 0 then (decS l).1 else bare 0 0
/-- the document's way -/
def docStep (k : Int) (x : St3) (c : Nat) : St3 := if c ∈ partsN k then stepE x c else x
def docS (l : List Nat) : St3 := if headE l = 0 then nineL.foldl (docStep (headK l)) (bare (headK l) (headT l), headL l, 0) else (bare 0 0, headL l, headE l)
theorem fold_doc (k : Int) (x : St3) : nineL.foldl (docStep k) x = (partsN k).foldl stepE x := by
  by_cases h : 1 ≤ k ∧ k ≤ 14
  · rcases kind_cases h with rfl | rfl | rfl | rfl | rfl | rfl | rfl | rfl | rfl | rfl | rfl | rfl | rfl | rfl <;> rfl
  · have hp : partsN k = [] := if_neg h
    unfold nineL docStep
    simp [hp]
theorem doc_same (l : List Nat) : (docS l).2 = (decS l).2 ∧ (decD l = 0 → (docS l).1 = (decS l).1) := by
  unfold docS
  by_cases h : headE l = 0
  · rw [if_pos h, fold_doc]
    unfold decS
    rw [h]
    exact ⟨rfl, fun _ => rfl⟩
  · rw [if_neg h]
    have h1 := fold_stays (partsN (headK l)) (bare (headK l) (headT l)) (headL l) h
    refine ⟨h1.symm, fun h0 => ?_⟩
    have h2 : decD l = doneE (headL l) (headE l) := by
      unfold decD decS
      rw [h1]
    rw [h2] at h0
    unfold doneE at h0
    rw [if_neg fun x => h x.1] at h0
    exact absurd h0 h
theorem docD (l : List Nat) : doneE (docS l).2.1 (docS l).2.2 = decD l := by rw [(doc_same l).1]; rfl

/-! ### There and back -/
theorem head_back {e : Ev} (h : rightE e = true) (r : List Nat) : headK (numsB [e.kind, e.at_] ++ r) = e.kind ∧ headT (numsB [e.kind, e.at_] ++ r) = e.at_ ∧ headL (numsB [e.kind, e.at_] ++ r) = r ∧ headE (numsB [e.kind, e.at_] ++ r) = 0 := by
  have hk := rightE_kind h
  have ht := tm_num (rightE_parts h).2.1
  have e1 : numsB [e.kind, e.at_] ++ r = numsB [e.kind] ++ (numsB [e.at_] ++ r) := by
    rw [numsB_cons [e.at_] e.kind, numsB_cons [] e.at_, numsB_cons [] e.kind, numsB_nil, List.append_nil, List.append_nil, List.append_assoc]
  obtain ⟨a1, a2, a3⟩ := one_back (z := e.kind) ⟨by omega, by omega⟩ (numsB [e.at_] ++ r)
  obtain ⟨b1, b2, b3⟩ := one_back ht r
  have c1 : headK (numsB [e.kind, e.at_] ++ r) = e.kind := by rw [e1]; exact a1
  refine ⟨c1, ?_, ?_, ?_⟩
  · rw [e1]; unfold headT; rw [a2, a3]; exact b1
  · rw [e1]; unfold headL; rw [a2, a3]; exact b2
  · unfold headE
    rw [c1, decide_eq_false (rightE_parts h).1]
    have : headR (numsB [e.kind, e.at_] ++ r) = 0 := by rw [e1]; unfold headR; rw [a2, a3]; exact b3
    rw [this]; rfl
theorem decS_back {e : Ev} (h : rightE e = true) (hb : ∀ y ∈ e.body, y < 256) (r : List Nat) : decS (bytesE e ++ r) = (e, r, 0) := by
  have e1 : bytesE e ++ r = numsB [e.kind, e.at_] ++ ((partsN e.kind).flatMap (layP e) ++ r) := List.append_assoc _ _ _
  obtain ⟨h1, h2, h3, h4⟩ := head_back h ((partsN e.kind).flatMap (layP e) ++ r)
  rw [e1]
  unfold decS
  rw [h1, h2, h3, h4, fold_back e hb r _ _ (partsN_nine e.kind).1 (rightE_parts h).2.2.1, copy_all h]
theorem dec_back {e : Ev} (h : rightE e = true) (hb : ∀ y ∈ e.body, y < 256) : decE (bytesE e) = 0 ∧ decV (bytesE e) = e := by
  have h1 := decS_back h hb []
  rw [List.append_nil] at h1
  have h2 : decD (bytesE e) = 0 := by unfold decD; rw [h1]; rfl
  have h3 : decE (bytesE e) = 0 := by unfold decE; rw [h2, h1, if_pos rfl, if_pos h]
  exact ⟨h3, by unfold decV; rw [h3, h1, if_pos rfl]⟩
theorem dec_more {e : Ev} (h : rightE e = true) (hb : ∀ y ∈ e.body, y < 256) (x : Nat) : decE (bytesE e ++ [x]) = 3 := by
  have h1 := decS_back h hb [x]
  have h2 : decD (bytesE e ++ [x]) = 3 := by unfold decD; rw [h1]; rfl
  unfold decE
  rw [h2, if_neg (by decide)]
theorem dec_cut {e : Ev} (h : rightE e = true) (hb : ∀ y ∈ e.body, y < 256) {k : Nat} (hk : k < (bytesE e).length) : decE ((bytesE e).take k) = 2 := by
  have hkd := rightE_kind h
  have ht := tm_num (rightE_parts h).2.1
  have fin : (decS ((bytesE e).take k)).2.2 = 2 → decE ((bytesE e).take k) = 2 := by
    intro h1
    have h2 : decD ((bytesE e).take k) = 2 := by unfold decD; rw [h1]; unfold doneE; exact if_neg fun x => absurd x.1 (by decide)
    unfold decE
    rw [h2, if_neg (by decide)]
  have stay : ∀ er, headR ((bytesE e).take k) = er → er = 2 → (decS ((bytesE e).take k)).2.2 = 2 := by
    rintro er h1 rfl
    have h2 : headE ((bytesE e).take k) = 2 := by unfold headE; rw [h1]; rfl
    unfold decS
    rw [h2, fold_stays _ _ _ (by decide)]
  have e1 : bytesE e = numsB [e.kind] ++ (numsB [e.at_] ++ (partsN e.kind).flatMap (layP e)) := by
    unfold bytesE
    rw [numsB_cons [e.at_] e.kind, numsB_cons [] e.at_, numsB_cons [] e.kind, numsB_nil, List.append_nil, List.append_nil, List.append_assoc]
  have hl : (numsB [e.kind]).length = 8 := by rw [numsB_length, List.length_singleton]
  have hl2 : (numsB [e.at_]).length = 8 := by rw [numsB_length, List.length_singleton]
  refine fin ?_
  by_cases h8 : k < 8
  · refine stay _ rfl ?_
    unfold headR
    have : numE ((bytesE e).take k) 0 = 2 := by
      rw [e1, List.take_append_of_le_length (by omega)]
      exact one_cut _ k (by omega)
    rw [this, numE_stays (by decide)]
  · have e2 : (bytesE e).take k = numsB [e.kind] ++ (numsB [e.at_] ++ (partsN e.kind).flatMap (layP e)).take (k - 8) := by
      rw [e1, List.take_append, hl, List.take_of_length_le (by omega)]
    obtain ⟨a1, a2, a3⟩ := one_back (z := e.kind) ⟨by omega, by omega⟩ ((numsB [e.at_] ++ (partsN e.kind).flatMap (layP e)).take (k - 8))
    by_cases h16 : k < 16
    · refine stay _ rfl ?_
      unfold headR
      rw [e2, a2, a3, List.take_append_of_le_length (by omega)]
      exact one_cut _ _ (by omega)
    · have e3 : (bytesE e).take k = numsB [e.kind, e.at_] ++ ((partsN e.kind).flatMap (layP e)).take (k - 16) := by
        rw [e2, List.take_append, hl2, List.take_of_length_le (l := numsB [e.at_]) (by omega), show k - 8 - 8 = k - 16 by omega, numsB_cons [e.at_] e.kind, numsB_cons [] e.kind, numsB_nil, List.append_nil, List.append_assoc]
      obtain ⟨h1, h2, h3, h4⟩ := head_back h (((partsN e.kind).flatMap (layP e)).take (k - 16))
      rw [e3]
      unfold decS
      rw [h1, h2, h3, h4]
      refine fold_cut e hb _ _ _ (partsN_nine e.kind).1 (rightE_parts h).2.2.1 ?_
      have : (bytesE e).length = 16 + ((partsN e.kind).flatMap (layP e)).length := by
        rw [e1, List.length_append, List.length_append, hl, hl2]; omega
      omega

/-! ### What is decoded has just those bytes -/
theorem countE_zero {l : List Nat} {e : Nat} {m : Int} (h : countE l e m = 0) : numE l e = 0 ∧ countV l e m = numV l e := by
  unfold countE at h
  by_cases h1 : numE l e = 0 ∧ m < ((numV l e : Nat) : Int)
  · rw [if_pos h1] at h
    exact absurd h (by decide)
  · rw [if_neg h1] at h
    refine ⟨h, ?_⟩
    unfold countV
    rw [if_neg fun x => h1 ⟨h, x⟩]
theorem rdI_err {l : List Nat} {e : Nat} (h : e ≠ 0) (k : Nat) : (rdI k l e).2.2 ≠ 0 := by rw [(rdI_stays l h k).2]; exact h
theorem one_forth {l : List Nat} (hl : ∀ x ∈ l, x < 256) (h : numE l 0 = 0) : l = numsB [((numV l 0 : Nat) : Int)] ++ takeL l 0 8 := by
  obtain ⟨h1, h2⟩ := num_forth12 hl h
  have hc : clampB ((numV l 0 : Nat) : Int) = numV l 0 := by unfold clampB; omega
  rw [numsB_cons, numsB_nil, List.append_nil, hc]
  exact h1
theorem part_forth (x : Ev) {c : Nat} (hc : c ∈ nineL) {l : List Nat} (hl : ∀ y ∈ l, y < 256) (h : (withP x c l 0).2.2 = 0) : l = layP (withP x c l 0).1 c ++ (withP x c l 0).2.1 := by
  rcases nine_cases hc with rfl | rfl | rfl | rfl | rfl | rfl | rfl | rfl | rfl
  · show l = textB (nats (strOf (textV l 0))) ++ textL l 0
    rw [nats_strOf _ (textV_lt hl)]
    exact text_forth12 hl h
  · show l = textB (nats (strOf (textV l 0))) ++ textL l 0
    rw [nats_strOf _ (textV_lt hl)]
    exact text_forth12 hl h
  · have h' : (rdI (countV l 0 60) (takeL l 0 8) (countE l 0 60)).2.2 = 0 := h
    have h0 : countE l 0 60 = 0 := Decidable.byContradiction fun hn => rdI_err hn _ h'
    obtain ⟨h1, h2⟩ := countE_zero h0
    show l = (numsB [(((rdI (countV l 0 60) (takeL l 0 8) (countE l 0 60)).1.length : Nat) : Int)] ++ numsB (rdI (countV l 0 60) (takeL l 0 8) (countE l 0 60)).1) ++ (rdI (countV l 0 60) (takeL l 0 8) (countE l 0 60)).2.1
    rw [h0] at h'
    rw [rdI_len, h0, List.append_assoc, ← (rdI_forth (takeL_lt hl) _ h').1, h2]
    exact one_forth hl h1
  · have h' : (rdI (2 * countV l 0 60) (takeL l 0 8) (countE l 0 60)).2.2 = 0 := h
    have h0 : countE l 0 60 = 0 := Decidable.byContradiction fun hn => rdI_err hn _ h'
    obtain ⟨h1, h2⟩ := countE_zero h0
    show l = (numsB [(((rdS (countV l 0 60) (takeL l 0 8) (countE l 0 60)).length : Nat) : Int)] ++ numsB (endsL (rdS (countV l 0 60) (takeL l 0 8) (countE l 0 60)))) ++ (rdI (2 * countV l 0 60) (takeL l 0 8) (countE l 0 60)).2.1
    rw [h0] at h'
    rw [rdS_len, endsL_rdS, h0, List.append_assoc, ← (rdI_forth (takeL_lt hl) _ h').1, h2]
    exact one_forth hl h1
  · exact one_forth hl h
  · exact one_forth hl h
  · exact one_forth hl h
  · exact one_forth hl h
  · exact text_forth12 hl h
theorem part_lt (x : Ev) (c : Nat) {l : List Nat} (er : Nat) (hl : ∀ y ∈ l, y < 256) : ∀ y ∈ (withP x c l er).2.1, y < 256 := by
  unfold withP
  split
  · exact textL_lt hl
  split
  · exact textL_lt hl
  split
  · exact rdI_lt (takeL_lt hl) _
  split
  · exact rdI_lt (takeL_lt hl) _
  split
  · exact takeL_lt hl
  split
  · exact takeL_lt hl
  split
  · exact takeL_lt hl
  split
  · exact takeL_lt hl
  split
  · exact textL_lt hl
  · exact hl
theorem part_len (x : Ev) (c : Nat) {l : List Nat} (er : Nat) : (withP x c l er).2.1.length ≤ l.length := by
  unfold withP
  split
  · exact textL_len
  split
  · exact textL_len
  split
  · exact Nat.le_trans (rdI_shorter _) takeL_len
  split
  · exact Nat.le_trans (rdI_shorter _) takeL_len
  split
  · exact takeL_len
  split
  · exact takeL_len
  split
  · exact takeL_len
  split
  · exact takeL_len
  split
  · exact textL_len
  · exact Nat.le_refl _
set_option maxHeartbeats 4000000 in
theorem part_other (x : Ev) {c d : Nat} (hc : c ∈ nineL) (hd : d ∈ nineL) (hne : c ≠ d) (l : List Nat) (er : Nat) : layP (withP x d l er).1 c = layP x c := by
  rcases nine_cases hd with rfl | rfl | rfl | rfl | rfl | rfl | rfl | rfl | rfl <;>
  rcases nine_cases hc with rfl | rfl | rfl | rfl | rfl | rfl | rfl | rfl | rfl <;>
  first | exact absurd rfl hne | rfl
theorem fold_other {c : Nat} (hc : c ∈ nineL) : ∀ (p : List Nat) (x : Ev) (l : List Nat) (er : Nat), (∀ d ∈ p, d ∈ nineL) → c ∉ p → layP (p.foldl stepE (x, l, er)).1 c = layP x c
  | [], x, l, er, _, _ => rfl
  | d :: p, x, l, er, h, hn => by
    rw [List.foldl_cons]
    have := fold_other hc p (withP x d l er).1 (withP x d l er).2.1 (withP x d l er).2.2 (fun y hy => h y (List.mem_cons_of_mem _ hy)) (fun hy => hn (List.mem_cons_of_mem _ hy))
    exact this.trans (part_other x hc (h d (List.mem_cons_self ..)) (fun e => hn (e ▸ List.mem_cons_self ..)) l er)
theorem fold_forth : ∀ (p : List Nat) (x : Ev) (l : List Nat), (∀ d ∈ p, d ∈ nineL) → p.Nodup → (∀ y ∈ l, y < 256) → (p.foldl stepE (x, l, 0)).2.2 = 0 → l = p.flatMap (layP (p.foldl stepE (x, l, 0)).1) ++ (p.foldl stepE (x, l, 0)).2.1
  | [], x, l, _, _, _, _ => rfl
  | c :: p, x, l, h, hn, hl, h0 => by
    rw [List.nodup_cons] at hn
    rw [List.foldl_cons] at h0 ⊢
    have hc := h c (List.mem_cons_self ..)
    have hp : ∀ d ∈ p, d ∈ nineL := fun y hy => h y (List.mem_cons_of_mem _ hy)
    have h1 : (withP x c l 0).2.2 = 0 := Decidable.byContradiction fun hne => by
      have e := fold_stays p (withP x c l 0).1 (withP x c l 0).2.1 hne
      have e2 : (p.foldl stepE (stepE (x, l, 0) c)).2.2 = (withP x c l 0).2.2 := by rw [show stepE (x, l, 0) c = ((withP x c l 0).1, (withP x c l 0).2.1, (withP x c l 0).2.2) from rfl, e]
      rw [e2] at h0
      exact hne h0
    have e1 : stepE (x, l, 0) c = ((withP x c l 0).1, (withP x c l 0).2.1, 0) := Prod.ext rfl (Prod.ext rfl h1)
    rw [e1] at h0 ⊢
    have h2 := fold_forth p (withP x c l 0).1 (withP x c l 0).2.1 hp hn.2 (part_lt x c 0 hl) h0
    rw [List.flatMap_cons, fold_other hc p _ _ _ hp hn.1, List.append_assoc, ← h2]
    exact part_forth x hc hl h1
theorem part_head (x : Ev) (c : Nat) (l : List Nat) (er : Nat) : (withP x c l er).1.kind = x.kind ∧ (withP x c l er).1.at_ = x.at_ := by
  unfold withP
  repeat (first | exact ⟨rfl, rfl⟩ | split)
theorem fold_head : ∀ (p : List Nat) (x : Ev) (l : List Nat) (er : Nat), (p.foldl stepE (x, l, er)).1.kind = x.kind ∧ (p.foldl stepE (x, l, er)).1.at_ = x.at_
  | [], x, l, er => ⟨rfl, rfl⟩
  | c :: p, x, l, er => by
    obtain ⟨h1, h2⟩ := fold_head p (withP x c l er).1 (withP x c l er).2.1 (withP x c l er).2.2
    obtain ⟨h3, h4⟩ := part_head x c l er
    rw [List.foldl_cons]
    exact ⟨h1.trans h3, h2.trans h4⟩
theorem dec_forth {l : List Nat} (hl : ∀ x ∈ l, x < 256) (h : decE l = 0) : rightE (decV l) = true ∧ bytesE (decV l) = l := by
  have hv : decV l = (decS l).1 := if_pos h
  have hD : decD l = 0 := by
    unfold decE at h
    by_cases h1 : decD l = 0
    · exact h1
    · rw [if_neg h1] at h; exact absurd h h1
  have hr : rightE (decS l).1 = true := by
    unfold decE at h
    rw [if_pos hD] at h
    by_cases h1 : rightE (decS l).1 = true
    · exact h1
    · rw [if_neg h1] at h; exact absurd h (by decide)
  have hd2 : (decS l).2.2 = 0 ∧ (decS l).2.1 = [] := by
    unfold decD doneE at hD
    by_cases h1 : (decS l).2.2 = 0 ∧ (decS l).2.1 ≠ []
    · rw [if_pos h1] at hD; exact absurd hD (by decide)
    · rw [if_neg h1] at hD
      exact ⟨hD, Decidable.byContradiction fun hn => h1 ⟨hD, hn⟩⟩
  have hE : headE l = 0 := Decidable.byContradiction fun hn => by
    have := fold_stays (partsN (headK l)) (bare (headK l) (headT l)) (headL l) hn
    have e : (decS l).2.2 = headE l := by unfold decS; rw [this]
    exact hn (e ▸ hd2.1)
  have hR : headR l = 0 := by
    unfold headE failE at hE
    by_cases h1 : headR l = 0 ∧ decide (partsN (headK l) = []) = true
    · exact h1.1
    · rw [if_neg h1] at hE; exact hE
  have h0 : numE l 0 = 0 := numE_zero hR
  have f1 := one_forth hl h0
  have hR' : numE (takeL l 0 8) 0 = 0 := by unfold headR at hR; rwa [h0] at hR
  have f2 := one_forth (takeL_lt hl) hR'
  have hL : headL l = takeL (takeL l 0 8) 0 8 := by unfold headL; rw [h0]
  have hT : headT l = ((numV (takeL l 0 8) 0 : Nat) : Int) := by unfold headT; rw [h0]
  have hk := fold_head (partsN (headK l)) (bare (headK l) (headT l)) (headL l) (headE l)
  have hk1 : (decS l).1.kind = headK l := hk.1
  have hk2 : (decS l).1.at_ = headT l := hk.2
  have hS : decS l = (partsN (headK l)).foldl stepE (bare (headK l) (headT l), headL l, 0) := by unfold decS; rw [hE]
  have f3 := fold_forth (partsN (headK l)) (bare (headK l) (headT l)) (headL l) (partsN_nine _).1 (partsN_nine _).2.1 (by unfold headL; exact takeL_lt (takeL_lt hl)) (by rw [← hS]; exact hd2.1)
  rw [← hS, hd2.2, List.append_nil, hL] at f3
  refine ⟨by rw [hv]; exact hr, ?_⟩
  rw [hv]
  unfold bytesE
  rw [hk1, hk2, ← f3, hT, numsB_cons, show encB 8 (clampB (headK l)) = numsB [headK l] by rw [numsB_cons, numsB_nil, List.append_nil], List.append_assoc, ← f2]
  exact f1.symm
theorem decS_lt_body (l : List Nat) : True := trivial
end Go.Proofs.YtcajmigkpcjbcaaDoor
