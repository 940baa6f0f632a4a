/-
  Plain mathematics of package name: names, INBOX, patterns, what is like them. Nothing here speaks of a program.
-/
import Derived.Test.YtcajmigkpcjbcaaDoorQDateMath
namespace Go.Proofs.YtcajmigkpcjbcaaDoor
set_option linter.unusedVariables false
set_option linter.unusedSimpArgs false
set_option linter.unusedVariables false
set_option linter.unusedSimpArgs false

/-! ### Names -/
def plainB (c : Nat) : Bool := decide (32 < c ∧ c ≤ 126 ∧ c ≠ 40 ∧ c ≠ 41 ∧ c ≠ 123 ∧ c ≠ 37 ∧ c ≠ 42 ∧ c ≠ 34 ∧ c ≠ 92)
/-- may byte i stand there? -/
def spotB (l : List Nat) (i : Nat) : Bool := plainB (l.getD i 0) && !decide (l.getD i 0 = 47 ∧ (i = 0 ∨ i + 1 = l.length ∨ l.getD (i - 1) 0 = 47))
def formB (l : List Nat) : Bool := decide (1 ≤ l.length ∧ l.length ≤ 40 ∧ (∀ i, i < l.length → spotB l i = true) ∧ l.count 47 ≤ 3)
def upC (c : Nat) : Nat := if 97 ≤ c ∧ c ≤ 122 then c - 32 else c
def inboxL : List Nat := [73, 78, 66, 79, 88]
def inboxB (l : List Nat) : Bool := decide ((l.take 5).map upC = inboxL ∧ (l.length = 5 ∨ l[5]? = some 47))
def cleanN (l : List Nat) : List Nat := if inboxB l = true then inboxL ++ l.drop 5 else l
def cleanE (l : List Nat) : Int := if formB l = true then 0 else 3
def cleanV (l : List Nat) : List Nat := if formB l = true then cleanN l else []
def rightN (l : List Nat) : Bool := decide (formB l = true ∧ cleanN l = l)
def aboveR (l : List Nat) : List (List Nat) := (List.range l.length).filterMap fun i => if l[i]? = some 47 then some (l.take i) else none
def aboveN (l : List Nat) : List (List Nat) := if rightN l = true then aboveR l else []
def belowN (l top : List Nat) : Bool := decide (top ∈ aboveN l)
def patB (l : List Nat) : Bool := decide (l.length ≤ 80 ∧ ∀ c ∈ l, plainB c = true ∨ c = 42 ∨ c = 37)

theorem spot_of {l : List Nat} {i : Nat} (h : spotB l i = true) : plainB (l.getD i 0) = true ∧ ¬ (l.getD i 0 = 47 ∧ (i = 0 ∨ i + 1 = l.length ∨ l.getD (i - 1) 0 = 47)) := by
  unfold spotB at h
  rw [Bool.and_eq_true, Bool.not_eq_true'] at h
  exact ⟨h.1, of_decide_eq_false h.2⟩
theorem spot_mk {l : List Nat} {i : Nat} (h1 : plainB (l.getD i 0) = true) (h2 : ¬ (l.getD i 0 = 47 ∧ (i = 0 ∨ i + 1 = l.length ∨ l.getD (i - 1) 0 = 47))) : spotB l i = true := by
  unfold spotB
  rw [Bool.and_eq_true, Bool.not_eq_true']
  exact ⟨h1, decide_eq_false h2⟩
theorem form_mem {l : List Nat} (h : formB l = true) : ∀ c ∈ l, plainB c = true := fun c hc => by
  obtain ⟨i, hi, rfl⟩ := List.mem_iff_getElem.1 hc
  have := (spot_of ((of_decide_eq_true h).2.2.1 i hi)).1
  rwa [List.getD_eq_getElem?_getD, List.getElem?_eq_getElem hi] at this
theorem plain_lt {c : Nat} (h : plainB c = true) : 32 < c ∧ c ≤ 126 ∧ c ≠ 42 ∧ c ≠ 37 := by
  have := of_decide_eq_true h
  omega
/-- what INBOX in any letters looks like -/
theorem inbox_parts {l : List Nat} (h : inboxB l = true) : ∃ a r, l = a ++ r ∧ a.length = 5 ∧ a.map upC = inboxL ∧ (r = [] ∨ ∃ r', r = 47 :: r') := by
  obtain ⟨h1, h2⟩ := of_decide_eq_true h
  have hl : (l.take 5).length = 5 := by have := congrArg List.length h1; simpa [inboxL] using this
  refine ⟨l.take 5, l.drop 5, (List.take_append_drop 5 l).symm, hl, h1, ?_⟩
  rcases h2 with h2 | h2
  · exact .inl (List.drop_eq_nil_of_le (by omega))
  · obtain ⟨h5, he⟩ := List.getElem?_eq_some_iff.1 h2
    exact .inr ⟨l.drop 6, by rw [List.drop_eq_getElem_cons h5, he]⟩
theorem cleanN_parts {l a r : List Nat} (h : inboxB l = true) (e : l = a ++ r) (ha : a.length = 5) : cleanN l = inboxL ++ r := by
  unfold cleanN
  rw [if_pos h, e, List.drop_append_of_le_length (by omega), List.drop_eq_nil_of_le (by omega), List.nil_append]
theorem upC_letter {c d : Nat} (h : upC c = d) (hd : 65 ≤ d ∧ d ≤ 90) : 65 ≤ c ∧ c ≤ 122 ∧ ¬ (90 < c ∧ c < 97) := by
  unfold upC at h
  split at h <;> omega
theorem upC_five {a : List Nat} (h : a.map upC = inboxL) : ∀ i, i < 5 → 65 ≤ a.getD i 0 ∧ a.getD i 0 ≤ 122 ∧ ¬ (90 < a.getD i 0 ∧ a.getD i 0 < 97) := by
  intro i hi
  have hl : a.length = 5 := by have := congrArg List.length h; simpa [inboxL] using this
  have hx := congrArg (·[i]?) h
  simp only [List.getElem?_map] at hx
  rw [List.getElem?_eq_getElem (by omega)] at hx
  rw [List.getD_eq_getElem?_getD, List.getElem?_eq_getElem (by omega)]
  show 65 ≤ a[i] ∧ a[i] ≤ 122 ∧ _
  simp only [Option.map_some] at hx
  have hd : ∀ j, j < 5 → ∃ d, inboxL[j]? = some d ∧ 65 ≤ d ∧ d ≤ 90 := by decide
  obtain ⟨d, e1, e2⟩ := hd i hi
  rw [e1] at hx
  injection hx with hx
  exact upC_letter hx e2
theorem inboxL_up : inboxL.map upC = inboxL := by decide
theorem letter_plain {c : Nat} (h : 65 ≤ c ∧ c ≤ 122 ∧ ¬ (90 < c ∧ c < 97)) : plainB c = true ∧ c ≠ 47 := by
  refine ⟨decide_eq_true ?_, ?_⟩ <;> omega
theorem getD_app_left (a r : List Nat) {i : Nat} (h : i < a.length) : (a ++ r).getD i 0 = a.getD i 0 := by
  rw [List.getD_eq_getElem?_getD, List.getD_eq_getElem?_getD, List.getElem?_append_left h]
theorem getD_app_right (a r : List Nat) {i : Nat} (h : a.length ≤ i) : (a ++ r).getD i 0 = r.getD (i - a.length) 0 := by
  rw [List.getD_eq_getElem?_getD, List.getD_eq_getElem?_getD, List.getElem?_append_right h]
theorem form_inbox {a b r : List Nat} (ha : a.map upC = inboxL) (hb : b.map upC = inboxL) (h : formB (a ++ r) = true) : formB (b ++ r) = true := by
  have hla : a.length = 5 := by have := congrArg List.length ha; simpa [inboxL] using this
  have hlb : b.length = 5 := by have := congrArg List.length hb; simpa [inboxL] using this
  have hA := upC_five ha
  have hB := upC_five hb
  obtain ⟨h1, h2, h3, h4⟩ := of_decide_eq_true h
  rw [List.length_append] at h1 h2 h3
  have hcnt : ∀ c : List Nat, c.map upC = inboxL → c.count 47 = 0 := by
    intro c hc
    rw [List.count_eq_zero]
    intro hm
    have : upC 47 ∈ c.map upC := List.mem_map_of_mem hm
    rw [hc] at this
    exact absurd this (by decide)
  refine decide_eq_true ⟨by rw [List.length_append]; omega, by rw [List.length_append]; omega, fun i hi => ?_, ?_⟩
  · rw [List.length_append] at hi
    by_cases h5 : i < 5
    · obtain ⟨p1, p2⟩ := letter_plain (hB i h5)
      refine spot_mk ?_ ?_
      · rw [getD_app_left b r (by omega)]; exact p1
      · rw [getD_app_left b r (by omega)]; exact fun hx => p2 hx.1
    · obtain ⟨p1, p2⟩ := spot_of (h3 i (by omega))
      rw [getD_app_right a r (by omega), hla] at p1 p2
      rw [List.length_append, hla] at p2
      refine spot_mk ?_ ?_
      · rw [getD_app_right b r (by omega), hlb]; exact p1
      · rw [getD_app_right b r (by omega), hlb, List.length_append, hlb]
        rintro ⟨e, e2⟩
        refine p2 ⟨e, ?_⟩
        rcases e2 with e2 | e2 | e2
        · omega
        · exact .inr (.inl e2)
        · by_cases h6 : i = 5
          · subst h6
            rw [getD_app_left b r (by omega)] at e2
            exact absurd e2 (letter_plain (hB 4 (by omega))).2
          · rw [getD_app_right b r (by omega), hlb] at e2
            rw [getD_app_right a r (by omega), hla]
            exact .inr (.inr e2)
  · rw [List.count_append, hcnt a ha] at h4
    rw [List.count_append, hcnt b hb]
    exact h4
theorem form_clean (l : List Nat) : formB (cleanN l) = formB l := by
  by_cases h : inboxB l = true
  · obtain ⟨a, r, e, hl, ha, _⟩ := inbox_parts h
    rw [cleanN_parts h e hl, e, Bool.eq_iff_iff]
    exact ⟨form_inbox inboxL_up ha, form_inbox ha inboxL_up⟩
  · unfold cleanN; rw [if_neg h]
theorem inbox_clean (l : List Nat) : inboxB (cleanN l) = inboxB l := by
  by_cases h : inboxB l = true
  · obtain ⟨a, r, e, hl, ha, hr⟩ := inbox_parts h
    rw [h, cleanN_parts h e hl]
    refine decide_eq_true ⟨?_, ?_⟩
    · rw [List.take_append_of_le_length (by decide), show inboxL.take 5 = inboxL from rfl, inboxL_up]
    · rcases hr with rfl | ⟨r', rfl⟩
      · exact .inl rfl
      · exact .inr rfl
  · unfold cleanN; rw [if_neg h]
theorem clean_clean (l : List Nat) : cleanN (cleanN l) = cleanN l := by
  by_cases h : inboxB l = true
  · obtain ⟨a, r, e, hl, ha, hr⟩ := inbox_parts h
    have h2 := inbox_clean l
    rw [h] at h2
    rw [cleanN_parts h e hl] at h2 ⊢
    rw [cleanN_parts h2 rfl rfl]
  · unfold cleanN; rw [if_neg h, if_neg h]
theorem right_clean {l : List Nat} (h : formB l = true) : rightN (cleanN l) = true := decide_eq_true ⟨by rw [form_clean]; exact h, clean_clean l⟩
theorem right_form {l : List Nat} (h : formB l = false) : rightN l = false := decide_eq_false fun e => by rw [h] at e; cases e.1

/-! ### Patterns -/
/-- a byte of a pattern stands for a text -/
def St (c : Nat) (u : List Nat) : Prop := c = 42 ∨ (c = 37 ∧ 47 ∉ u) ∨ (c ≠ 42 ∧ c ≠ 37 ∧ u = [c])
/-- a text is like a pattern -/
def Lk : List Nat → List Nat → Prop
  | [], s => s = []
  | c :: p, s => ∃ u v, s = u ++ v ∧ St c u ∧ Lk p v
def starF (f : List Nat → Bool) (g : Nat → Bool) : List Nat → Bool
  | [] => f []
  | x :: t => f (x :: t) || (g x && starF f g t)
def oneF (f : List Nat → Bool) (c : Nat) : List Nat → Bool
  | [] => false
  | x :: t => decide (x = c) && f t
def likeF : List Nat → List Nat → Bool
  | [], s => s.isEmpty
  | c :: p, s => if c = 42 then starF (likeF p) (fun _ => true) s else if c = 37 then starF (likeF p) (fun x => decide (x ≠ 47)) s else oneF (likeF p) c s
theorem starF_iff (f : List Nat → Bool) (g : Nat → Bool) : ∀ s, starF f g s = true ↔ ∃ u v, s = u ++ v ∧ (∀ y ∈ u, g y = true) ∧ f v = true
  | [] => by
    constructor
    · intro h; exact ⟨[], [], rfl, (fun y hy => by cases hy), h⟩
    · rintro ⟨u, v, e, _, hv⟩
      obtain ⟨rfl, rfl⟩ := List.append_eq_nil_iff.1 e.symm
      exact hv
  | x :: t => by
    show (f (x :: t) || (g x && starF f g t)) = true ↔ _
    rw [Bool.or_eq_true, Bool.and_eq_true, starF_iff f g t]
    constructor
    · rintro (h | ⟨hx, u, v, rfl, hu, hv⟩)
      · exact ⟨[], x :: t, rfl, (fun y hy => by cases hy), h⟩
      · exact ⟨x :: u, v, rfl, fun y hy => by rcases List.mem_cons.1 hy with rfl | hy; exact hx; exact hu y hy, hv⟩
    · rintro ⟨u, v, e, hu, hv⟩
      cases u with
      | nil => exact .inl (by rw [show x :: t = v from e]; exact hv)
      | cons y u =>
        injection e with e1 e2
        subst e1
        exact .inr ⟨hu x (List.mem_cons_self ..), u, v, e2, fun z hz => hu z (List.mem_cons_of_mem _ hz), hv⟩
theorem like_iff : ∀ (p s : List Nat), likeF p s = true ↔ Lk p s
  | [], s => by show s.isEmpty = true ↔ s = []; exact List.isEmpty_iff
  | c :: p, s => by
    unfold likeF Lk
    by_cases h1 : c = 42
    · rw [if_pos h1, starF_iff]
      constructor
      · rintro ⟨u, v, e, _, hv⟩; exact ⟨u, v, e, .inl h1, (like_iff p v).1 hv⟩
      · rintro ⟨u, v, e, _, hv⟩; exact ⟨u, v, e, fun _ _ => rfl, (like_iff p v).2 hv⟩
    · rw [if_neg h1]
      by_cases h2 : c = 37
      · rw [if_pos h2, starF_iff]
        constructor
        · rintro ⟨u, v, e, hu, hv⟩
          exact ⟨u, v, e, .inr (.inl ⟨h2, fun hm => of_decide_eq_true (hu 47 hm) rfl⟩), (like_iff p v).1 hv⟩
        · rintro ⟨u, v, e, hu, hv⟩
          rcases hu with hu | hu | hu
          · exact absurd hu h1
          · exact ⟨u, v, e, fun y hy => decide_eq_true fun e => hu.2 (e ▸ hy), (like_iff p v).2 hv⟩
          · exact absurd h2 hu.2.1
      · rw [if_neg h2]
        cases s with
        | nil =>
          constructor
          · intro h; cases h
          · rintro ⟨u, v, e, hu, hv⟩
            obtain ⟨rfl, rfl⟩ := List.append_eq_nil_iff.1 e.symm
            rcases hu with hu | hu | hu
            · exact absurd hu h1
            · exact absurd hu.1 h2
            · cases hu.2.2
        | cons x t =>
          show (decide (x = c) && likeF p t) = true ↔ _
          rw [Bool.and_eq_true, decide_eq_true_iff, like_iff p t]
          constructor
          · rintro ⟨rfl, h⟩; exact ⟨[x], t, rfl, .inr (.inr ⟨h1, h2, rfl⟩), h⟩
          · rintro ⟨u, v, e, hu, hv⟩
            rcases hu with hu | hu | hu
            · exact absurd hu h1
            · exact absurd hu.1 h2
            · rw [hu.2.2] at e
              injection e with e1 e2
              exact ⟨e1, by rw [show t = v from e2]; exact hv⟩
theorem Lk_app : ∀ (p q s : List Nat), Lk (p ++ q) s ↔ ∃ u v, s = u ++ v ∧ Lk p u ∧ Lk q v
  | [], q, s => by
    constructor
    · intro h; exact ⟨[], s, rfl, rfl, h⟩
    · rintro ⟨u, v, rfl, hu, hv⟩
      rw [show u = [] from hu]; exact hv
  | c :: p, q, s => by
    constructor
    · rintro ⟨u, v, rfl, hu, hv⟩
      obtain ⟨u2, v2, rfl, h1, h2⟩ := (Lk_app p q v).1 hv
      exact ⟨u ++ u2, v2, (List.append_assoc ..).symm, ⟨u, u2, rfl, hu, h1⟩, h2⟩
    · rintro ⟨u, v, rfl, ⟨u1, u2, rfl, h1, h2⟩, hv⟩
      exact ⟨u1, u2 ++ v, List.append_assoc .., h1, (Lk_app p q _).2 ⟨u2, v, rfl, h2, hv⟩⟩
theorem Lk_one (c : Nat) (v : List Nat) : Lk [c] v ↔ St c v := by
  constructor
  · rintro ⟨u, w, rfl, hu, hw⟩
    rw [show w = [] from hw, List.append_nil]; exact hu
  · intro h; exact ⟨v, [], (List.append_nil v).symm, h, rfl⟩
theorem Lk_snoc (p : List Nat) (c : Nat) (s : List Nat) : Lk (p ++ [c]) s ↔ ∃ u v, s = u ++ v ∧ Lk p u ∧ St c v := by
  rw [Lk_app]
  constructor
  · rintro ⟨u, v, e, h1, h2⟩; exact ⟨u, v, e, h1, (Lk_one c v).1 h2⟩
  · rintro ⟨u, v, e, h1, h2⟩; exact ⟨u, v, e, h1, (Lk_one c v).2 h2⟩
theorem Lk_nil (s : List Nat) : Lk [] s ↔ s = [] := Iff.rfl
theorem Lk_wild {c : Nat} {g : Nat → Prop} (hw : ∀ u, St c u ↔ ∀ y ∈ u, g y) (p t : List Nat) (x : Nat) : Lk (p ++ [c]) (t ++ [x]) ↔ Lk p (t ++ [x]) ∨ (Lk (p ++ [c]) t ∧ g x) := by
  rw [Lk_snoc, Lk_snoc]
  constructor
  · rintro ⟨u, v, e, h1, h2⟩
    rw [hw] at h2
    rcases List.eq_nil_or_concat v with rfl | ⟨v', y, rfl⟩
    · rw [List.append_nil] at e
      exact .inl (by rw [e]; exact h1)
    · rw [List.concat_eq_append, ← List.append_assoc] at e
      obtain ⟨rfl, e2⟩ := List.append_inj' e rfl
      injection e2 with e2 _
      subst e2
      exact .inr ⟨⟨u, v', rfl, h1, (hw v').2 fun z hz => h2 z (by rw [List.concat_eq_append]; exact List.mem_append_left _ hz)⟩, h2 x (by rw [List.concat_eq_append]; exact List.mem_append_right _ (List.mem_singleton_self x))⟩
  · rintro (h | ⟨⟨u, v, rfl, h1, h2⟩, hx⟩)
    · exact ⟨t ++ [x], [], (List.append_nil _).symm, h, (hw []).2 fun y hy => by cases hy⟩
    · exact ⟨u, v ++ [x], List.append_assoc .., h1, (hw _).2 fun y hy => by
        rcases List.mem_append.1 hy with hy | hy
        · exact (hw v).1 h2 y hy
        · rw [List.mem_singleton.1 hy]; exact hx⟩
theorem Lk_wild_nil {c : Nat} {g : Nat → Prop} (hw : ∀ u, St c u ↔ ∀ y ∈ u, g y) (p : List Nat) : Lk (p ++ [c]) [] ↔ Lk p [] := by
  rw [Lk_snoc]
  constructor
  · rintro ⟨u, v, e, h1, _⟩
    rw [(List.append_eq_nil_iff.1 e.symm).1] at h1; exact h1
  · intro h; exact ⟨[], [], rfl, h, (hw []).2 fun y hy => by cases hy⟩
theorem St_star (u : List Nat) : St 42 u ↔ ∀ y ∈ u, True := ⟨fun _ _ _ => trivial, fun _ => .inl rfl⟩
theorem St_pct (u : List Nat) : St 37 u ↔ ∀ y ∈ u, y ≠ 47 := by
  constructor
  · rintro (h | h | h) y hy
    · cases h
    · exact fun e => h.2 (e ▸ hy)
    · exact absurd rfl h.2.1
  · intro h; exact .inr (.inl ⟨rfl, fun hm => h 47 hm rfl⟩)
theorem St_plain {c : Nat} (h1 : c ≠ 42) (h2 : c ≠ 37) (u : List Nat) : St c u ↔ u = [c] := by
  constructor
  · rintro (h | h | h)
    · exact absurd h h1
    · exact absurd h.1 h2
    · exact h.2.2
  · intro h; exact .inr (.inr ⟨h1, h2, h⟩)
theorem Lk_plain {c : Nat} (h1 : c ≠ 42) (h2 : c ≠ 37) (p t : List Nat) (x : Nat) : Lk (p ++ [c]) (t ++ [x]) ↔ Lk p t ∧ x = c := by
  rw [Lk_snoc]
  constructor
  · rintro ⟨u, v, e, h3, h4⟩
    rw [St_plain h1 h2] at h4
    subst h4
    obtain ⟨rfl, e2⟩ := List.append_inj' e rfl
    injection e2 with e2 _
    exact ⟨h3, e2⟩
  · rintro ⟨h, rfl⟩; exact ⟨t, [x], rfl, h, (St_plain h1 h2 _).2 rfl⟩
theorem Lk_plain_nil {c : Nat} (h1 : c ≠ 42) (h2 : c ≠ 37) (p : List Nat) : ¬ Lk (p ++ [c]) [] := by
  rw [Lk_snoc]
  rintro ⟨u, v, e, _, h⟩
  rw [(St_plain h1 h2 _).1 h] at e
  have := congrArg List.length e
  simp at this
/-! as a table says it -/
def wildB (c : Nat) : Bool := decide (c = 42 ∨ c = 37)
theorem like_nil_s (k : List Nat) : likeF [] k = decide (k = []) := by
  rw [Bool.eq_iff_iff, like_iff, decide_eq_true_iff]; exact Iff.rfl
theorem like_zero (p : List Nat) (c : Nat) : likeF (p ++ [c]) [] = (wildB c && likeF p []) := by
  rw [Bool.eq_iff_iff, Bool.and_eq_true, like_iff, like_iff]
  unfold wildB
  rw [decide_eq_true_iff]
  by_cases h1 : c = 42
  · subst h1; rw [Lk_wild_nil St_star]; simp
  · by_cases h2 : c = 37
    · subst h2; rw [Lk_wild_nil St_pct]; simp
    · constructor
      · intro h; exact absurd h (Lk_plain_nil h1 h2 p)
      · rintro ⟨h | h, _⟩
        · exact absurd h h1
        · exact absurd h h2
theorem like_wild (p t : List Nat) (c x : Nat) (h : wildB c = true) : likeF (p ++ [c]) (t ++ [x]) = (likeF p (t ++ [x]) || (likeF (p ++ [c]) t && (decide (c = 42) || decide (x ≠ 47)))) := by
  rw [Bool.eq_iff_iff, Bool.or_eq_true, Bool.and_eq_true, Bool.or_eq_true, like_iff, like_iff, like_iff, decide_eq_true_iff, decide_eq_true_iff]
  rcases of_decide_eq_true h with rfl | rfl
  · rw [Lk_wild St_star]; simp
  · rw [Lk_wild St_pct]; simp
theorem like_one (p t : List Nat) (c x : Nat) (h : wildB c = false) : likeF (p ++ [c]) (t ++ [x]) = (likeF p t && decide (x = c)) := by
  have h := of_decide_eq_false h
  rw [Bool.eq_iff_iff, Bool.and_eq_true, like_iff, like_iff, decide_eq_true_iff]
  exact Lk_plain (fun e => h (.inl e)) (fun e => h (.inr e)) p t x
/-! what is like what -/
theorem like_self : ∀ {l : List Nat}, (∀ c ∈ l, c ≠ 42 ∧ c ≠ 37) → Lk l l
  | [], _ => rfl
  | c :: l, h => ⟨[c], l, rfl, .inr (.inr ⟨(h c (List.mem_cons_self ..)).1, (h c (List.mem_cons_self ..)).2, rfl⟩), like_self fun d hd => h d (List.mem_cons_of_mem _ hd)⟩
theorem like_star (l : List Nat) : Lk [42] l := (Lk_one 42 l).2 (.inl rfl)
theorem like_pct (l : List Nat) : Lk [37] l ↔ 47 ∉ l := by
  rw [Lk_one, St_pct]
  exact ⟨fun h hm => h 47 hm rfl, fun h y hy e => h (e ▸ hy)⟩
theorem like_behind {p s : List Nat} (h : Lk p s) : Lk (p ++ [42]) s := (Lk_snoc p 42 s).2 ⟨s, [], (List.append_nil s).symm, h, .inl rfl⟩
theorem like_ahead {p s : List Nat} (h : Lk p s) : Lk (42 :: p) s := ⟨[], s, rfl, .inl rfl, h⟩
theorem like_below {s : List Nat} (h : ∀ c ∈ s, c ≠ 42 ∧ c ≠ 37) (more : List Nat) : Lk (s ++ [47, 42]) (s ++ 47 :: more) :=
  (Lk_app s [47, 42] _).2 ⟨s, 47 :: more, rfl, like_self h, ⟨[47], more, rfl, .inr (.inr ⟨by decide, by decide, rfl⟩), like_star more⟩⟩
end Go.Proofs.YtcajmigkpcjbcaaDoor
