/-
  A part of the proof: see the last text.
-/
import Derived.Test.YtbogjfbfgbhdbaaGreatDoorSPackMath
namespace Go.Proofs.YtbogjfbfgbhdbaaGreatDoor
set_option linter.unusedVariables false
set_option linter.unusedSimpArgs false
def plainB (c : Nat) : Bool := decide (32 < c ∧ c ≤ 126 ∧ c ≠ 40 ∧ c ≠ 41 ∧ c ≠ 123 ∧ c ≠ 37 ∧ c ≠ 42 ∧ c ≠ 34 ∧ c ≠ 92)
def spotB (l : List Nat) (i : Nat) : Bool := plainB (l.getD i 0) && !decide (l.getD i 0 = 47 ∧ (i = 0 ∨ i + 1 = l.length ∨ l.getD (i - 1) 0 = 47))
def formB (l : List Nat) : Bool := decide (1 ≤ l.length ∧ l.length ≤ 40 ∧ (∀ i, i < l.length → spotB l i = true) ∧ l.count 47 ≤ 3)
def upC (c : Nat) : Nat := if 97 ≤ c ∧ c ≤ 122 then c - 32 else c
def inboxL : List Nat := [73, 78, 66, 79, 88]
def inboxB (l : List Nat) : Bool := decide ((l.take 5).map upC = inboxL ∧ (l.length = 5 ∨ l[5]? = some 47))
def cleanN (l : List Nat) : List Nat := if inboxB l = true then inboxL ++ l.drop 5 else l
def cleanE (l : List Nat) : Int := if formB l = true then 0 else 3
def cleanV (l : List Nat) : List Nat := if formB l = true then cleanN l else []
def rightN (l : List Nat) : Bool := decide (formB l = true ∧ cleanN l = l)
def aboveR (l : List Nat) : List (List Nat) := (List.range l.length).filterMap fun i => if l[i]? = some 47 then some (l.take i) else none
def aboveN (l : List Nat) : List (List Nat) := if rightN l = true then aboveR l else []
def belowN (l top : List Nat) : Bool := decide (top ∈ aboveN l)
theorem spot_of {l : List Nat} {i : Nat} (h : spotB l i = true) : plainB (l.getD i 0) = true ∧ ¬ (l.getD i 0 = 47 ∧ (i = 0 ∨ i + 1 = l.length ∨ l.getD (i - 1) 0 = 47)) := by
  unfold spotB at h
  rw [Bool.and_eq_true, Bool.not_eq_true'] at h
  exact ⟨h.1, of_decide_eq_false h.2⟩
theorem spot_mk {l : List Nat} {i : Nat} (h1 : plainB (l.getD i 0) = true) (h2 : ¬ (l.getD i 0 = 47 ∧ (i = 0 ∨ i + 1 = l.length ∨ l.getD (i - 1) 0 = 47))) : spotB l i = true := by
  unfold spotB
  rw [Bool.and_eq_true, Bool.not_eq_true']
  exact ⟨h1, decide_eq_false h2⟩
theorem form_mem {l : List Nat} (h : formB l = true) : ∀ c ∈ l, plainB c = true := fun c hc => by
  obtain ⟨i, hi, rfl⟩ := List.mem_iff_getElem.1 hc
  have := (spot_of ((of_decide_eq_true h).2.2.1 i hi)).1
  rwa [List.getD_eq_getElem?_getD, List.getElem?_eq_getElem hi] at this
theorem plain_lt {c : Nat} (h : plainB c = true) : 32 < c ∧ c ≤ 126 ∧ c ≠ 42 ∧ c ≠ 37 := by
  have := of_decide_eq_true h
  omega
theorem inbox_parts {l : List Nat} (h : inboxB l = true) : ∃ a r, l = a ++ r ∧ a.length = 5 ∧ a.map upC = inboxL ∧ (r = [] ∨ ∃ r', r = 47 :: r') := by
  obtain ⟨h1, h2⟩ := of_decide_eq_true h
  have hl : (l.take 5).length = 5 := by have := congrArg List.length h1; simpa [inboxL] using this
  refine ⟨l.take 5, l.drop 5, (List.take_append_drop 5 l).symm, hl, h1, ?_⟩
  rcases h2 with h2 | h2
  · exact .inl (List.drop_eq_nil_of_le (by omega))
  · obtain ⟨h5, he⟩ := List.getElem?_eq_some_iff.1 h2
    exact .inr ⟨l.drop 6, by rw [List.drop_eq_getElem_cons h5, he]⟩
theorem cleanN_parts {l a r : List Nat} (h : inboxB l = true) (e : l = a ++ r) (ha : a.length = 5) : cleanN l = inboxL ++ r := by
  unfold cleanN
  rw [if_pos h, e, List.drop_append_of_le_length (by omega), List.drop_eq_nil_of_le (by omega), List.nil_append]
theorem upC_letter {c d : Nat} (h : upC c = d) (hd : 65 ≤ d ∧ d ≤ 90) : 65 ≤ c ∧ c ≤ 122 ∧ ¬ (90 < c ∧ c < 97) := by
  unfold upC at h
  split at h <;> omega
theorem upC_five {a : List Nat} (h : a.map upC = inboxL) : ∀ i, i < 5 → 65 ≤ a.getD i 0 ∧ a.getD i 0 ≤ 122 ∧ ¬ (90 < a.getD i 0 ∧ a.getD i 0 < 97) := by
  intro i hi
  have hl : a.length = 5 := by have := congrArg List.length h; simpa [inboxL] using this
  have hx := congrArg (·[i]?) h
  simp only [List.getElem?_map] at hx
  rw [List.getElem?_eq_getElem (by omega)] at hx
  rw [List.getD_eq_getElem?_getD, List.getElem?_eq_getElem (by omega)]
  show 65 ≤ a[i] ∧ a[i] ≤ 122 ∧ _
  simp only [Option.map_some] at hx
  have hd : ∀ j, j < 5 → ∃ d, inboxL[j]? = some d ∧ 65 ≤ d ∧ d ≤ 90 := by decide
  obtain ⟨d, e1, e2⟩ := hd i hi
  rw [e1] at hx
  injection hx with hx
  exact upC_letter hx e2
theorem inboxL_up : inboxL.map upC = inboxL := by decide
theorem letter_plain {c : Nat} (h : 65 ≤ c ∧ c ≤ 122 ∧ ¬ (90 < c ∧ c < 97)) : plainB c = true ∧ c ≠ 47 := by
  refine ⟨decide_eq_true ?_, ?_⟩ <;> omega
theorem getD_app_left (a r : List Nat) {i : Nat} (h : i < a.length) : (a ++ r).getD i 0 = a.getD i 0 := by
  rw [List.getD_eq_getElem?_getD, List.getD_eq_getElem?_getD, List.getElem?_append_left h]
theorem getD_app_right (a r : List Nat) {i : Nat} (h : a.length ≤ i) : (a ++ r).getD i 0 = r.getD (i - a.length) 0 := by
  rw [List.getD_eq_getElem?_getD, List.getD_eq_getElem?_getD, List.getElem?_append_right h]
theorem form_inbox {a b r : List Nat} (ha : a.map upC = inboxL) (hb : b.map upC = inboxL) (h : formB (a ++ r) = true) : formB (b ++ r) = true := by
  have hla : a.length = 5 := by have := congrArg List.length ha; simpa [inboxL] using this
  have hlb : b.length = 5 := by have := congrArg List.length hb; simpa [inboxL] using this
  have hA := upC_five ha
  have hB := upC_five hb
  obtain ⟨h1, h2, h3, h4⟩ := of_decide_eq_true h
  rw [List.length_append] at h1 h2 h3
  have hcnt : ∀ c : List Nat, c.map upC = inboxL → c.count 47 = 0 := by
    intro c hc
    rw [List.count_eq_zero]
    intro hm
    have : upC 47 ∈ c.map upC := List.mem_map_of_mem hm
    rw [hc] at this
    exact absurd this (by decide)
  refine decide_eq_true ⟨by rw [List.length_append]; omega, by rw [List.length_append]; omega, fun i hi => ?_, ?_⟩
  · rw [List.length_append] at hi
    by_cases h5 : i < 5
    · obtain ⟨p1, p2⟩ := letter_plain (hB i h5)
      refine spot_mk ?_ ?_
      · rw [getD_app_left b r (by omega)]; exact p1
      · rw [getD_app_left b r (by omega)]; exact fun hx => p2 hx.1
    · obtain ⟨p1, p2⟩ := spot_of (h3 i (by omega))
      rw [getD_app_right a r (by omega), hla] at p1 p2
      rw [List.length_append, hla] at p2
      refine spot_mk ?_ ?_
      · rw [getD_app_right b r (by omega), hlb]; exact p1
      · rw [getD_app_right b r (by omega), hlb, List.length_append, hlb]
        rintro ⟨e, e2⟩
        refine p2 ⟨e, ?_⟩
        rcases e2 with e2 | e2 | e2
        · omega
        · exact .inr (.inl e2)
        · by_cases h6 : i = 5
          · subst h6
            rw [getD_app_left b r (by omega)] at e2
            exact absurd e2 (letter_plain (hB 4 (by omega))).2
          · rw [getD_app_right b r (by omega), hlb] at e2
            rw [getD_app_right a r (by omega), hla]
            exact .inr (.inr e2)
  · rw [List.count_append, hcnt a ha] at h4
    rw [List.count_append, hcnt b hb]
    exact h4
theorem form_clean (l : List Nat) : formB (cleanN l) = formB l := by
  by_cases h : inboxB l = true
  · obtain ⟨a, r, e, hl, ha, _⟩ := inbox_parts h
    rw [cleanN_parts h e hl, e, Bool.eq_iff_iff]
    exact ⟨form_inbox inboxL_up ha, form_inbox ha inboxL_up⟩
  · unfold cleanN; rw [if_neg h]
theorem right_form {l : List Nat} (h : formB l = false) : rightN l = false := decide_eq_false fun e => by rw [h] at e; cases e.1
def starF (f : List Nat → Bool) (g : Nat → Bool) : List Nat → Bool
  | [] => f []
  | x :: t => f (x :: t) || (g x && starF f g t)
def oneF (f : List Nat → Bool) (c : Nat) : List Nat → Bool
  | [] => false
  | x :: t => decide (x = c) && f t
def likeF : List Nat → List Nat → Bool
  | [], s => s.isEmpty
  | c :: p, s => if c = 42 then starF (likeF p) (fun _ => true) s else if c = 37 then starF (likeF p) (fun x => decide (x ≠ 47)) s else oneF (likeF p) c s
end Go.Proofs.YtbogjfbfgbhdbaaGreatDoor
namespace Go.Proofs.YtbogjfbfgbhdbaaGreatDoor
set_option linter.unusedVariables false
set_option linter.unusedSimpArgs false
def okF (f : Int) : Bool := decide (0 ≤ f ∧ f ≤ 31)
def apE (f m g : Int) : Int := if okF f = true ∧ okF g = true ∧ 0 ≤ m ∧ m ≤ 2 then 0 else 1
def apV (f m g : Int) : Int := if okF f = true ∧ okF g = true then (if m = 0 then g else if m = 1 then bits .or .i64 f g else if m = 2 then bits .andNot .i64 f g else 0) else 0
structure Mg where
  uid : Int
  flags : Int
  date : Int
  body : List Nat
theorem Mg.ext' {a b : Mg} (h1 : a.uid = b.uid) (h2 : a.flags = b.flags) (h3 : a.date = b.date) (h4 : a.body = b.body) : a = b := by
  obtain ⟨a1, a2, a3, a4⟩ := a
  obtain ⟨b1, b2, b3, b4⟩ := b
  simp only at h1 h2 h3 h4
  rw [h1, h2, h3, h4]
instance : DecidableEq Mg := fun a b =>
  if h : a.uid = b.uid ∧ a.flags = b.flags ∧ a.date = b.date ∧ a.body = b.body then .isTrue (Mg.ext' h.1 h.2.1 h.2.2.1 h.2.2.2) else .isFalse (fun e => h (by rw [e]; exact ⟨rfl, rfl, rfl, rfl⟩))
def noMg : Mg := ⟨0, 0, 0, []⟩
structure Bx where
  name : ByteArray
  valid : Int
  next : Int
  msgs : List Mg
theorem Bx.ext' {a b : Bx} (h1 : a.name = b.name) (h2 : a.valid = b.valid) (h3 : a.next = b.next) (h4 : a.msgs = b.msgs) : a = b := by
  obtain ⟨a1, a2, a3, a4⟩ := a
  obtain ⟨b1, b2, b3, b4⟩ := b
  simp only at h1 h2 h3 h4
  rw [h1, h2, h3, h4]
instance : DecidableEq Bx := fun a b =>
  if h : a.name = b.name ∧ a.valid = b.valid ∧ a.next = b.next ∧ a.msgs = b.msgs then .isTrue (Bx.ext' h.1 h.2.1 h.2.2.1 h.2.2.2) else .isFalse (fun e => h (by rw [e]; exact ⟨rfl, rfl, rfl, rfl⟩))
def okUID (n : Int) : Bool := decide (1 ≤ n ∧ n ≤ 4294967295)
def okMg (m : Mg) : Bool := decide (1 ≤ m.uid ∧ m.uid ≤ 4294967295 ∧ okF m.flags = true ∧ 0 ≤ m.date ∧ m.date ≤ 1099511627776 ∧ m.body.length ≤ 2000)
def OkTo (next : Int) (l : List Mg) : Prop := (∀ m ∈ l, okMg m = true ∧ m.uid < next) ∧ l.Pairwise (fun a b => a.uid < b.uid)
def OkBx (b : Bx) : Prop := 1 ≤ b.valid ∧ b.valid ≤ 4294967295 ∧ 1 ≤ b.next ∧ b.next ≤ 4294967296 ∧ b.msgs.length ≤ 40 ∧ OkTo b.next b.msgs
open Classical in
noncomputable def okBx (b : Bx) : Bool := decide (OkBx b)
theorem okBx_yes {b : Bx} (h : OkBx b) : okBx b = true := by unfold okBx; simpa using h
theorem okBx_no {b : Bx} (h : ¬ OkBx b) : okBx b = false := by unfold okBx; simpa using h
theorem okBx_iff {b : Bx} : okBx b = true ↔ OkBx b := by unfold okBx; simp
theorem okMg_of {m : Mg} (h : okMg m = true) : 1 ≤ m.uid ∧ m.uid ≤ 4294967295 ∧ okF m.flags = true ∧ 0 ≤ m.date ∧ m.date ≤ 1099511627776 ∧ m.body.length ≤ 2000 := by
  unfold okMg at h; simpa using h
theorem okMg_yes {m : Mg} (h : 1 ≤ m.uid ∧ m.uid ≤ 4294967295 ∧ okF m.flags = true ∧ 0 ≤ m.date ∧ m.date ≤ 1099511627776 ∧ m.body.length ≤ 2000) : okMg m = true := by
  unfold okMg; exact decide_eq_true h
theorem okMg_no {m : Mg} (h : ¬ (1 ≤ m.uid ∧ m.uid ≤ 4294967295 ∧ okF m.flags = true ∧ 0 ≤ m.date ∧ m.date ≤ 1099511627776 ∧ m.body.length ≤ 2000)) : okMg m = false := by
  unfold okMg; exact decide_eq_false h
theorem okTo_0 (next : Int) (l : List Mg) : OkTo next (l.take 0) := ⟨fun m h => (by cases h), List.Pairwise.nil⟩
theorem okTo_first {next : Int} {l : List Mg} {a : Mg} (ha : l[0]? = some a) (h1 : okMg a = true) (h2 : a.uid < next) : OkTo next (l.take 1) := by
  rw [List.take_add_one, ha]
  refine ⟨fun m hm => ?_, by simp⟩
  have e : m = a := by simpa using hm
  rw [e]; exact ⟨h1, h2⟩
theorem okTo_next {next : Int} {l : List Mg} {k : Nat} {p a : Mg} (h : OkTo next (l.take (k + 1))) (hp : l[k]? = some p) (ha : l[k + 1]? = some a) (h1 : okMg a = true) (h2 : a.uid < next) (h3 : p.uid < a.uid) : OkTo next (l.take (k + 2)) := by
  rw [List.take_add_one, ha]
  have e : l.take (k + 1) = l.take k ++ [p] := by rw [List.take_add_one, hp]; rfl
  refine ⟨fun m hm => ?_, ?_⟩
  · rcases List.mem_append.1 hm with hm | hm
    · exact h.1 m hm
    · have e2 : m = a := by simpa using hm
      rw [e2]; exact ⟨h1, h2⟩
  · have hpw := h.2
    rw [e] at hpw ⊢
    show (l.take k ++ [p] ++ [a]).Pairwise _
    rw [List.pairwise_append]
    refine ⟨hpw, List.pairwise_singleton .., fun x hx y hy => ?_⟩
    rw [List.mem_singleton.1 hy]
    rcases List.mem_append.1 hx with hx | hx
    · have := (List.pairwise_append.1 hpw).2.2 x hx p (List.mem_singleton_self p)
      omega
    · rw [List.mem_singleton.1 hx]; exact h3
theorem okTo_all {next : Int} {l : List Mg} {k : Nat} (h : OkTo next (l.take k)) (hk : l.length ≤ k) : OkTo next l := by
  rwa [List.take_of_length_le hk] at h
theorem okTo_not {next : Int} {l : List Mg} {k : Nat} {p a : Mg} (hp : l[k]? = some p) (ha : l[k + 1]? = some a) (h : a.uid ≤ p.uid) : ¬ OkTo next l := fun H => by
  have h1 : k + 1 < l.length := (List.getElem?_eq_some_iff.1 ha).1
  have h2 : k < l.length := by omega
  have := List.pairwise_iff_getElem.1 H.2 k (k + 1) h2 h1 (by omega)
  have e1 : l[k]'h2 = p := Option.some.inj (by rw [← List.getElem?_eq_getElem h2]; exact hp)
  have e2 : l[k + 1]'h1 = a := Option.some.inj (by rw [← List.getElem?_eq_getElem h1]; exact ha)
  rw [e1, e2] at this
  omega
def placeN : List Mg → Int → Nat
  | [], _ => 0
  | m :: l, u => if m.uid = u then 1 else if placeN l u = 0 then 0 else placeN l u + 1
theorem placeN_none {l : List Mg} {u : Int} (h : ∀ m ∈ l, m.uid ≠ u) : placeN l u = 0 := by
  induction l with
  | nil => rfl
  | cons m l ih =>
    unfold placeN
    rw [if_neg (h m List.mem_cons_self), if_pos (ih (fun x hx => h x (List.mem_cons_of_mem _ hx)))]
theorem placeN_hit {l : List Mg} {u : Int} {k : Nat} {a : Mg} (h : ∀ m ∈ l.take k, m.uid ≠ u) (hk : l[k]? = some a) (he : a.uid = u) : placeN l u = k + 1 := by
  induction l generalizing k with
  | nil => simp at hk
  | cons m l ih =>
    cases k with
    | zero =>
      simp only [List.getElem?_cons_zero, Option.some.injEq] at hk
      subst hk
      unfold placeN
      rw [if_pos he]
    | succ k =>
      rw [List.take_succ_cons] at h
      have e := ih (k := k) (fun x hx => h x (List.mem_cons_of_mem _ hx)) (by simpa using hk)
      unfold placeN
      rw [if_neg (h m List.mem_cons_self), e, if_neg (by omega)]
theorem missed {l : List Mg} {u : Int} {k : Nat} {a : Mg} (h : ∀ m ∈ l.take k, m.uid ≠ u) (ht : l.take (k + 1) = l.take k ++ [a]) (he : a.uid ≠ u) : ∀ m ∈ l.take (k + 1), m.uid ≠ u := by
  intro m hm
  rw [ht] at hm
  rcases List.mem_append.1 hm with hm | hm
  · exact h m hm
  · rw [List.mem_singleton.1 hm]; exact he
noncomputable def addE (b : Bx) (m : Mg) : Int :=
  open Classical in
  if ¬ (OkBx b ∧ okMg { m with uid := 1 } = true) then 1 else if 4294967295 < b.next then 13 else if b.msgs.length = 40 then 8 else 0
noncomputable def addB (b : Bx) (m : Mg) : Bx := if addE b m = 0 then { b with next := b.next + 1, msgs := b.msgs ++ [{ m with uid := b.next }] } else b
noncomputable def addN (b : Bx) (m : Mg) : Int := if addE b m = 0 then b.next else 0
theorem addE_arg {b : Bx} {m : Mg} (h : ¬ (OkBx b ∧ okMg { m with uid := 1 } = true)) : addE b m = 1 := by unfold addE; rw [if_pos h]
theorem addE_used {b : Bx} {m : Mg} (h : OkBx b) (h1 : okMg { m with uid := 1 } = true) (h2 : 4294967295 < b.next) : addE b m = 13 := by unfold addE; rw [if_neg (fun e => e ⟨h, h1⟩), if_pos h2]
theorem addE_full {b : Bx} {m : Mg} (h : OkBx b) (h1 : okMg { m with uid := 1 } = true) (h2 : ¬ 4294967295 < b.next) (h3 : b.msgs.length = 40) : addE b m = 8 := by unfold addE; rw [if_neg (fun e => e ⟨h, h1⟩), if_neg h2, if_pos h3]
theorem addE_ok {b : Bx} {m : Mg} (h : OkBx b) (h1 : okMg { m with uid := 1 } = true) (h2 : ¬ 4294967295 < b.next) (h3 : ¬ b.msgs.length = 40) : addE b m = 0 := by unfold addE; rw [if_neg (fun e => e ⟨h, h1⟩), if_neg h2, if_neg h3]
theorem addE_zero {b : Bx} {m : Mg} (h : addE b m = 0) : OkBx b ∧ okMg { m with uid := 1 } = true ∧ b.next ≤ 4294967295 ∧ b.msgs.length < 40 := by
  unfold addE at h
  by_cases h1 : OkBx b ∧ okMg { m with uid := 1 } = true
  · rw [if_neg (fun e => e h1)] at h
    by_cases h2 : 4294967295 < b.next
    · rw [if_pos h2] at h; omega
    · rw [if_neg h2] at h
      by_cases h3 : b.msgs.length = 40
      · rw [if_pos h3] at h; omega
      · have := h1.1.2.2.2.2.1
        exact ⟨h1.1, h1.2, by omega, by omega⟩
  · rw [if_pos h1] at h; omega
theorem addB_no {b : Bx} {m : Mg} (h : addE b m ≠ 0) : addB b m = b ∧ addN b m = 0 := by unfold addB addN; rw [if_neg h, if_neg h]; exact ⟨rfl, rfl⟩
theorem addB_ok {b : Bx} {m : Mg} (h : addE b m = 0) : addB b m = { b with next := b.next + 1, msgs := b.msgs ++ [{ m with uid := b.next }] } ∧ addN b m = b.next := by unfold addB addN; rw [if_pos h, if_pos h]; exact ⟨rfl, rfl⟩
theorem add_right {b : Bx} {m : Mg} (h : addE b m = 0) : OkBx (addB b m) := by
  obtain ⟨hb, hm, hn, hl⟩ := addE_zero h
  rw [(addB_ok h).1]
  obtain ⟨h1, h2, h3, h4, h5, h6, h7⟩ := hb
  have hk := okMg_of hm
  refine ⟨h1, h2, by show 1 ≤ b.next + 1; omega, by show b.next + 1 ≤ _; omega, by show (b.msgs ++ _).length ≤ 40; simp; omega, ?_, ?_⟩
  · intro x hx
    show okMg x = true ∧ x.uid < b.next + 1
    rcases List.mem_append.1 hx with hx | hx
    · have := h6 x hx; exact ⟨this.1, by omega⟩
    · rw [List.mem_singleton.1 hx]
      exact ⟨okMg_yes ⟨by show 1 ≤ b.next; omega, by show b.next ≤ _; omega, hk.2.2⟩, by show b.next < _; omega⟩
  · show (b.msgs ++ [_]).Pairwise _
    rw [List.pairwise_append]
    refine ⟨h7, List.pairwise_singleton .., fun x hx y hy => ?_⟩
    rw [List.mem_singleton.1 hy]
    exact (h6 x hx).2
def thereU (l : List Mg) (ids : List Int) : Bool := ids.all (fun u => placeN l u != 0)
theorem thereU_no {l : List Mg} {ids : List Int} {u : Int} (hu : u ∈ ids) (h : placeN l u = 0) : thereU l ids = false := by
  unfold thereU
  rw [List.all_eq_false]
  exact ⟨u, hu, by rw [h]; decide⟩
theorem thereU_snoc {l : List Mg} {ids : List Int} {u : Int} (h : thereU l ids = true) (hu : placeN l u ≠ 0) : thereU l (ids ++ [u]) = true := by
  unfold thereU at h ⊢
  rw [List.all_append, h]
  simp [hu]
def setF (mode flags : Int) (m : Mg) : Mg := { m with flags := apV m.flags mode flags }
def storeL (l : List Mg) (ids : List Int) (mode flags : Int) : List Mg := l.map (fun m => if m.uid ∈ ids then setF mode flags m else m)
noncomputable def storeE (b : Bx) (ids : List Int) (mode flags : Int) : Int :=
  open Classical in
  if ¬ (OkBx b ∧ apE 0 mode flags = 0) then 1 else if thereU b.msgs ids = false then 6 else 0
noncomputable def storeB (b : Bx) (ids : List Int) (mode flags : Int) : Bx := if storeE b ids mode flags = 0 then { b with msgs := storeL b.msgs ids mode flags } else b
theorem storeE_zero {b : Bx} {ids : List Int} {mode flags : Int} (h : storeE b ids mode flags = 0) : OkBx b ∧ apE 0 mode flags = 0 ∧ thereU b.msgs ids = true := by
  unfold storeE at h
  by_cases h1 : OkBx b ∧ apE 0 mode flags = 0
  · rw [if_neg (fun e => e h1)] at h
    cases h2 : thereU b.msgs ids
    · rw [h2, if_pos rfl] at h; omega
    · exact ⟨h1.1, h1.2, rfl⟩
  · rw [if_pos h1] at h; omega
theorem storeB_no {b : Bx} {ids : List Int} {mode flags : Int} (h : storeE b ids mode flags ≠ 0) : storeB b ids mode flags = b := by unfold storeB; rw [if_neg h]
theorem storeB_ok {b : Bx} {ids : List Int} {mode flags : Int} (h : storeE b ids mode flags = 0) : storeB b ids mode flags = { b with msgs := storeL b.msgs ids mode flags } := by unfold storeB; rw [if_pos h]
def goneL (l : List Mg) (ids : List Int) : List Mg := l.filter (fun m => decide (m.uid ∈ ids))
def leftL (l : List Mg) (ids : List Int) : List Mg := l.filter (fun m => decide (m.uid ∉ ids))
noncomputable def tkE (b : Bx) (ids : List Int) : Int :=
  open Classical in
  if ¬ OkBx b then 1 else if thereU b.msgs ids = false then 6 else 0
noncomputable def tkB (b : Bx) (ids : List Int) : Bx := if tkE b ids = 0 then { b with msgs := leftL b.msgs ids } else b
noncomputable def tkM (b : Bx) (ids : List Int) : List Mg := if tkE b ids = 0 then goneL b.msgs ids else []
theorem tkE_arg {b : Bx} {ids : List Int} (h : ¬ OkBx b) : tkE b ids = 1 := by unfold tkE; rw [if_pos h]
theorem tkE_none {b : Bx} {ids : List Int} (h : OkBx b) (h2 : thereU b.msgs ids = false) : tkE b ids = 6 := by unfold tkE; rw [if_neg (fun e => e h), if_pos h2]
theorem tkE_ok {b : Bx} {ids : List Int} (h : OkBx b) (h2 : thereU b.msgs ids = true) : tkE b ids = 0 := by unfold tkE; rw [if_neg (fun e => e h), if_neg (by rw [h2]; decide)]
theorem tkE_zero {b : Bx} {ids : List Int} (h : tkE b ids = 0) : OkBx b ∧ thereU b.msgs ids = true := by
  unfold tkE at h
  by_cases h1 : OkBx b
  · rw [if_neg (fun e => e h1)] at h
    cases h2 : thereU b.msgs ids
    · rw [h2, if_pos rfl] at h; omega
    · exact ⟨h1, rfl⟩
  · rw [if_pos h1] at h; omega
theorem tkB_no {b : Bx} {ids : List Int} (h : tkE b ids ≠ 0) : tkB b ids = b ∧ tkM b ids = [] := by unfold tkB tkM; rw [if_neg h, if_neg h]; exact ⟨rfl, rfl⟩
theorem tkB_ok {b : Bx} {ids : List Int} (h : tkE b ids = 0) : tkB b ids = { b with msgs := leftL b.msgs ids } ∧ tkM b ids = goneL b.msgs ids := by unfold tkB tkM; rw [if_pos h, if_pos h]; exact ⟨rfl, rfl⟩
theorem gone_snoc {l : List Mg} {k : Nat} {a : Mg} {ids : List Int} (ht : l.take (k + 1) = l.take k ++ [a]) (ha : a.uid ∈ ids) : goneL (l.take (k + 1)) ids = goneL (l.take k) ids ++ [a] ∧ leftL (l.take (k + 1)) ids = leftL (l.take k) ids := by
  unfold goneL leftL
  rw [ht, List.filter_append, List.filter_append]
  simp [List.filter_cons, ha]
theorem left_snoc {l : List Mg} {k : Nat} {a : Mg} {ids : List Int} (ht : l.take (k + 1) = l.take k ++ [a]) (ha : a.uid ∉ ids) : goneL (l.take (k + 1)) ids = goneL (l.take k) ids ∧ leftL (l.take (k + 1)) ids = leftL (l.take k) ids ++ [a] := by
  unfold goneL leftL
  rw [ht, List.filter_append, List.filter_append]
  simp [List.filter_cons, ha]
theorem left_le (l : List Mg) (ids : List Int) : (leftL l ids).length ≤ l.length := List.length_filter_le ..
end Go.Proofs.YtbogjfbfgbhdbaaGreatDoor
