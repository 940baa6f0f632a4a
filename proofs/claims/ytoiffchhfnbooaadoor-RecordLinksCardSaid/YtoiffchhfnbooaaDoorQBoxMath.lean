/-
  Mailboxes and messages, as plain data: which may be, places, counts, adding, storing, taking. No program is spoken of.
-/
import Derived.Test.YtoiffchhfnbooaaDoorQRowRel
namespace Go.Proofs.YtoiffchhfnbooaaDoor
set_option linter.unusedVariables false
set_option linter.unusedSimpArgs false
set_option linter.unusedVariables false
set_option linter.unusedSimpArgs false

def okF (f : Int) : Bool := decide (0 ≤ f ∧ f ≤ 31)
def apE (f m g : Int) : Int := if okF f = true ∧ okF g = true ∧ 0 ≤ m ∧ m ≤ 2 then 0 else 1
def apV (f m g : Int) : Int := if okF f = true ∧ okF g = true then (if m = 0 then g else if m = 1 then bits .or .i64 f g else if m = 2 then bits .andNot .i64 f g else 0) else 0
/-- a message -/
structure Mg where
  uid : Int
  flags : Int
  date : Int
  body : List Nat
theorem Mg.ext' {a b : Mg} (h1 : a.uid = b.uid) (h2 : a.flags = b.flags) (h3 : a.date = b.date) (h4 : a.body = b.body) : a = b := by
  obtain ⟨a1, a2, a3, a4⟩ := a
  obtain ⟨b1, b2, b3, b4⟩ := b
  simp only at h1 h2 h3 h4
  rw [h1, h2, h3, h4]
instance : DecidableEq Mg := fun a b =>
  if h : a.uid = b.uid ∧ a.flags = b.flags ∧ a.date = b.date ∧ a.body = b.body then .isTrue (Mg.ext' h.1 h.2.1 h.2.2.1 h.2.2.2) else .isFalse (fun e => h (by rw [e]; exact ⟨rfl, rfl, rfl, rfl⟩))
def noMg : Mg := ⟨0, 0, 0, []⟩
/-- a mailbox -/
structure Bx where
  name : ByteArray
  valid : Int
  next : Int
  msgs : List Mg
theorem Bx.ext' {a b : Bx} (h1 : a.name = b.name) (h2 : a.valid = b.valid) (h3 : a.next = b.next) (h4 : a.msgs = b.msgs) : a = b := by
  obtain ⟨a1, a2, a3, a4⟩ := a
  obtain ⟨b1, b2, b3, b4⟩ := b
  simp only at h1 h2 h3 h4
  rw [h1, h2, h3, h4]
instance : DecidableEq Bx := fun a b =>
  if h : a.name = b.name ∧ a.valid = b.valid ∧ a.next = b.next ∧ a.msgs = b.msgs then .isTrue (Bx.ext' h.1 h.2.1 h.2.2.1 h.2.2.2) else .isFalse (fun e => h (by rw [e]; exact ⟨rfl, rfl, rfl, rfl⟩))

/-! ### What may be -/
def okUID (n : Int) : Bool := decide (1 ≤ n ∧ n ≤ 4294967295)
def okMg (m : Mg) : Bool := decide (1 ≤ m.uid ∧ m.uid ≤ 4294967295 ∧ okF m.flags = true ∧ 0 ≤ m.date ∧ m.date ≤ 1099511627776 ∧ m.body.length ≤ 2000)
def OkTo (next : Int) (l : List Mg) : Prop := (∀ m ∈ l, okMg m = true ∧ m.uid < next) ∧ l.Pairwise (fun a b => a.uid < b.uid)
def OkBx (b : Bx) : Prop := 1 ≤ b.valid ∧ b.valid ≤ 4294967295 ∧ 1 ≤ b.next ∧ b.next ≤ 4294967296 ∧ b.msgs.length ≤ 40 ∧ OkTo b.next b.msgs
open Classical in
noncomputable def okBx (b : Bx) : Bool := decide (OkBx b)
theorem okBx_yes {b : Bx} (h : OkBx b) : okBx b = true := by unfold okBx; simpa using h
theorem okBx_no {b : Bx} (h : ¬ OkBx b) : okBx b = false := by unfold okBx; simpa using h
theorem okBx_iff {b : Bx} : okBx b = true ↔ OkBx b := by unfold okBx; simp
theorem okMg_of {m : Mg} (h : okMg m = true) : 1 ≤ m.uid ∧ m.uid ≤ 4294967295 ∧ okF m.flags = true ∧ 0 ≤ m.date ∧ m.date ≤ 1099511627776 ∧ m.body.length ≤ 2000 := by
  unfold okMg at h; simpa using h
theorem okMg_yes {m : Mg} (h : 1 ≤ m.uid ∧ m.uid ≤ 4294967295 ∧ okF m.flags = true ∧ 0 ≤ m.date ∧ m.date ≤ 1099511627776 ∧ m.body.length ≤ 2000) : okMg m = true := by
  unfold okMg; exact decide_eq_true h
theorem okMg_no {m : Mg} (h : ¬ (1 ≤ m.uid ∧ m.uid ≤ 4294967295 ∧ okF m.flags = true ∧ 0 ≤ m.date ∧ m.date ≤ 1099511627776 ∧ m.body.length ≤ 2000)) : okMg m = false := by
  unfold okMg; exact decide_eq_false h
theorem okTo_0 (next : Int) (l : List Mg) : OkTo next (l.take 0) := ⟨fun m h => (by cases h), List.Pairwise.nil⟩
theorem okTo_first {next : Int} {l : List Mg} {a : Mg} (ha : l[0]? = some a) (h1 : okMg a = true) (h2 : a.uid < next) : OkTo next (l.take 1) := by
  rw [List.take_add_one, ha]
  refine ⟨fun m hm => ?_, by simp⟩
  have e : m = a := by simpa using hm
  rw [e]; exact ⟨h1, h2⟩
theorem okTo_next {next : Int} {l : List Mg} {k : Nat} {p a : Mg} (h : OkTo next (l.take (k + 1))) (hp : l[k]? = some p) (ha : l[k + 1]? = some a) (h1 : okMg a = true) (h2 : a.uid < next) (h3 : p.uid < a.uid) : OkTo next (l.take (k + 2)) := by
  rw [List.take_add_one, ha]
  have e : l.take (k + 1) = l.take k ++ [p] := by rw [List.take_add_one, hp]; rfl
  refine ⟨fun m hm => ?_, ?_⟩
  · rcases List.mem_append.1 hm with hm | hm
    · exact h.1 m hm
    · have e2 : m = a := by simpa using hm
      rw [e2]; exact ⟨h1, h2⟩
  · have hpw := h.2
    rw [e] at hpw ⊢
    show (l.take k ++ [p] ++ [a]).Pairwise _
    rw [List.pairwise_append]
    refine ⟨hpw, List.pairwise_singleton .., fun x hx y hy => ?_⟩
    rw [List.mem_singleton.1 hy]
    rcases List.mem_append.1 hx with hx | hx
    · have := (List.pairwise_append.1 hpw).2.2 x hx p (List.mem_singleton_self p)
      omega
    · rw [List.mem_singleton.1 hx]; exact h3
theorem okTo_all {next : Int} {l : List Mg} {k : Nat} (h : OkTo next (l.take k)) (hk : l.length ≤ k) : OkTo next l := by
  rwa [List.take_of_length_le hk] at h
theorem okTo_not {next : Int} {l : List Mg} {k : Nat} {p a : Mg} (hp : l[k]? = some p) (ha : l[k + 1]? = some a) (h : a.uid ≤ p.uid) : ¬ OkTo next l := fun H => by
  have h1 : k + 1 < l.length := (List.getElem?_eq_some_iff.1 ha).1
  have h2 : k < l.length := by omega
  have := List.pairwise_iff_getElem.1 H.2 k (k + 1) h2 h1 (by omega)
  have e1 : l[k]'h2 = p := Option.some.inj (by rw [← List.getElem?_eq_getElem h2]; exact hp)
  have e2 : l[k + 1]'h1 = a := Option.some.inj (by rw [← List.getElem?_eq_getElem h1]; exact ha)
  rw [e1, e2] at this
  omega

/-! ### Places and counts -/
def placeN : List Mg → Int → Nat
  | [], _ => 0
  | m :: l, u => if m.uid = u then 1 else if placeN l u = 0 then 0 else placeN l u + 1
theorem placeN_none {l : List Mg} {u : Int} (h : ∀ m ∈ l, m.uid ≠ u) : placeN l u = 0 := by
  induction l with
  | nil => rfl
  | cons m l ih =>
    unfold placeN
    rw [if_neg (h m List.mem_cons_self), if_pos (ih (fun x hx => h x (List.mem_cons_of_mem _ hx)))]
theorem placeN_hit {l : List Mg} {u : Int} {k : Nat} {a : Mg} (h : ∀ m ∈ l.take k, m.uid ≠ u) (hk : l[k]? = some a) (he : a.uid = u) : placeN l u = k + 1 := by
  induction l generalizing k with
  | nil => simp at hk
  | cons m l ih =>
    cases k with
    | zero =>
      simp only [List.getElem?_cons_zero, Option.some.injEq] at hk
      subst hk
      unfold placeN
      rw [if_pos he]
    | succ k =>
      rw [List.take_succ_cons] at h
      have e := ih (k := k) (fun x hx => h x (List.mem_cons_of_mem _ hx)) (by simpa using hk)
      unfold placeN
      rw [if_neg (h m List.mem_cons_self), e, if_neg (by omega)]
theorem placeN_zero {l : List Mg} {u : Int} : placeN l u = 0 ↔ ∀ m ∈ l, m.uid ≠ u := by
  refine ⟨fun h => ?_, placeN_none⟩
  induction l with
  | nil => intro m hm; cases hm
  | cons m l ih =>
    unfold placeN at h
    by_cases h1 : m.uid = u
    · rw [if_pos h1] at h; omega
    · rw [if_neg h1] at h
      by_cases h2 : placeN l u = 0
      · intro x hx
        rcases List.mem_cons.1 hx with rfl | hx
        · exact h1
        · exact ih h2 x hx
      · rw [if_neg h2] at h; omega
theorem placeN_le (l : List Mg) (u : Int) : placeN l u ≤ l.length := by
  induction l with
  | nil => exact Nat.le_refl _
  | cons m l ih =>
    unfold placeN
    rw [List.length_cons]
    split
    · omega
    · split <;> omega
theorem placeN_at {l : List Mg} {u : Int} (h : placeN l u ≠ 0) : ∃ a, l[placeN l u - 1]? = some a ∧ a.uid = u := by
  induction l with
  | nil => exact absurd rfl h
  | cons m l ih =>
    unfold placeN at h ⊢
    by_cases h1 : m.uid = u
    · rw [if_pos h1]; exact ⟨m, rfl, h1⟩
    · rw [if_neg h1] at h ⊢
      by_cases h2 : placeN l u = 0
      · rw [if_pos h2] at h; exact absurd rfl h
      · rw [if_neg h2]
        obtain ⟨a, ha, hu⟩ := ih h2
        refine ⟨a, ?_, hu⟩
        obtain ⟨j, hj⟩ : ∃ j, placeN l u = j + 1 := ⟨placeN l u - 1, by omega⟩
        rw [hj] at ha ⊢
        simpa using ha
theorem missed {l : List Mg} {u : Int} {k : Nat} {a : Mg} (h : ∀ m ∈ l.take k, m.uid ≠ u) (ht : l.take (k + 1) = l.take k ++ [a]) (he : a.uid ≠ u) : ∀ m ∈ l.take (k + 1), m.uid ≠ u := by
  intro m hm
  rw [ht] at hm
  rcases List.mem_append.1 hm with hm | hm
  · exact h m hm
  · rw [List.mem_singleton.1 hm]; exact he
def hasF (f : Int) (m : Mg) : Bool := bits .and .i64 m.flags f == f
def cntN (l : List Mg) (f : Int) : Nat := (l.filter (hasF f)).length
theorem cntN_snoc (l : List Mg) (m : Mg) (f : Int) : cntN (l ++ [m]) f = cntN l f + if hasF f m = true then 1 else 0 := by
  unfold cntN
  rw [List.filter_append, List.length_append]
  cases h : hasF f m <;> simp [List.filter_cons, h]
theorem cntN_le (l : List Mg) (f : Int) : cntN l f ≤ l.length := List.length_filter_le ..

/-! ### Adding -/
noncomputable def addE (b : Bx) (m : Mg) : Int :=
  open Classical in
  if ¬ (OkBx b ∧ okMg { m with uid := 1 } = true) then 1 else if 4294967295 < b.next then 13 else if b.msgs.length = 40 then 8 else 0
noncomputable def addB (b : Bx) (m : Mg) : Bx := if addE b m = 0 then { b with next := b.next + 1, msgs := b.msgs ++ [{ m with uid := b.next }] } else b
noncomputable def addN (b : Bx) (m : Mg) : Int := if addE b m = 0 then b.next else 0
theorem addE_arg {b : Bx} {m : Mg} (h : ¬ (OkBx b ∧ okMg { m with uid := 1 } = true)) : addE b m = 1 := by unfold addE; rw [if_pos h]
theorem addE_used {b : Bx} {m : Mg} (h : OkBx b) (h1 : okMg { m with uid := 1 } = true) (h2 : 4294967295 < b.next) : addE b m = 13 := by unfold addE; rw [if_neg (fun e => e ⟨h, h1⟩), if_pos h2]
theorem addE_full {b : Bx} {m : Mg} (h : OkBx b) (h1 : okMg { m with uid := 1 } = true) (h2 : ¬ 4294967295 < b.next) (h3 : b.msgs.length = 40) : addE b m = 8 := by unfold addE; rw [if_neg (fun e => e ⟨h, h1⟩), if_neg h2, if_pos h3]
theorem addE_ok {b : Bx} {m : Mg} (h : OkBx b) (h1 : okMg { m with uid := 1 } = true) (h2 : ¬ 4294967295 < b.next) (h3 : ¬ b.msgs.length = 40) : addE b m = 0 := by unfold addE; rw [if_neg (fun e => e ⟨h, h1⟩), if_neg h2, if_neg h3]
theorem addE_zero {b : Bx} {m : Mg} (h : addE b m = 0) : OkBx b ∧ okMg { m with uid := 1 } = true ∧ b.next ≤ 4294967295 ∧ b.msgs.length < 40 := by
  unfold addE at h
  by_cases h1 : OkBx b ∧ okMg { m with uid := 1 } = true
  · rw [if_neg (fun e => e h1)] at h
    by_cases h2 : 4294967295 < b.next
    · rw [if_pos h2] at h; omega
    · rw [if_neg h2] at h
      by_cases h3 : b.msgs.length = 40
      · rw [if_pos h3] at h; omega
      · have := h1.1.2.2.2.2.1
        exact ⟨h1.1, h1.2, by omega, by omega⟩
  · rw [if_pos h1] at h; omega
theorem addB_no {b : Bx} {m : Mg} (h : addE b m ≠ 0) : addB b m = b ∧ addN b m = 0 := by unfold addB addN; rw [if_neg h, if_neg h]; exact ⟨rfl, rfl⟩
theorem addB_ok {b : Bx} {m : Mg} (h : addE b m = 0) : addB b m = { b with next := b.next + 1, msgs := b.msgs ++ [{ m with uid := b.next }] } ∧ addN b m = b.next := by unfold addB addN; rw [if_pos h, if_pos h]; exact ⟨rfl, rfl⟩
/-- what is added to leaves a mailbox that may be -/
theorem add_right {b : Bx} {m : Mg} (h : addE b m = 0) : OkBx (addB b m) := by
  obtain ⟨hb, hm, hn, hl⟩ := addE_zero h
  rw [(addB_ok h).1]
  obtain ⟨h1, h2, h3, h4, h5, h6, h7⟩ := hb
  have hk := okMg_of hm
  refine ⟨h1, h2, by show 1 ≤ b.next + 1; omega, by show b.next + 1 ≤ _; omega, by show (b.msgs ++ _).length ≤ 40; simp; omega, ?_, ?_⟩
  · intro x hx
    show okMg x = true ∧ x.uid < b.next + 1
    rcases List.mem_append.1 hx with hx | hx
    · have := h6 x hx; exact ⟨this.1, by omega⟩
    · rw [List.mem_singleton.1 hx]
      exact ⟨okMg_yes ⟨by show 1 ≤ b.next; omega, by show b.next ≤ _; omega, hk.2.2⟩, by show b.next < _; omega⟩
  · show (b.msgs ++ [_]).Pairwise _
    rw [List.pairwise_append]
    refine ⟨h7, List.pairwise_singleton .., fun x hx y hy => ?_⟩
    rw [List.mem_singleton.1 hy]
    exact (h6 x hx).2

/-! ### Which messages are meant -/
def thereU (l : List Mg) (ids : List Int) : Bool := ids.all (fun u => placeN l u != 0)
theorem thereU_no {l : List Mg} {ids : List Int} {u : Int} (hu : u ∈ ids) (h : placeN l u = 0) : thereU l ids = false := by
  unfold thereU
  rw [List.all_eq_false]
  exact ⟨u, hu, by rw [h]; decide⟩
theorem thereU_snoc {l : List Mg} {ids : List Int} {u : Int} (h : thereU l ids = true) (hu : placeN l u ≠ 0) : thereU l (ids ++ [u]) = true := by
  unfold thereU at h ⊢
  rw [List.all_append, h]
  simp [hu]
theorem thereU_mem {l : List Mg} {ids : List Int} (h : thereU l ids = true) {u : Int} (hu : u ∈ ids) : placeN l u ≠ 0 := by
  unfold thereU at h
  have := List.all_eq_true.1 h u hu
  simpa using this
/-! ### Storing -/
def setF (mode flags : Int) (m : Mg) : Mg := { m with flags := apV m.flags mode flags }
def storeL (l : List Mg) (ids : List Int) (mode flags : Int) : List Mg := l.map (fun m => if m.uid ∈ ids then setF mode flags m else m)
noncomputable def storeE (b : Bx) (ids : List Int) (mode flags : Int) : Int :=
  open Classical in
  if ¬ (OkBx b ∧ apE 0 mode flags = 0) then 1 else if thereU b.msgs ids = false then 6 else 0
noncomputable def storeB (b : Bx) (ids : List Int) (mode flags : Int) : Bx := if storeE b ids mode flags = 0 then { b with msgs := storeL b.msgs ids mode flags } else b
theorem storeE_arg {b : Bx} {ids : List Int} {mode flags : Int} (h : ¬ (OkBx b ∧ apE 0 mode flags = 0)) : storeE b ids mode flags = 1 := by unfold storeE; rw [if_pos h]
theorem storeE_none {b : Bx} {ids : List Int} {mode flags : Int} (h : OkBx b) (h1 : apE 0 mode flags = 0) (h2 : thereU b.msgs ids = false) : storeE b ids mode flags = 6 := by unfold storeE; rw [if_neg (fun e => e ⟨h, h1⟩), if_pos h2]
theorem storeE_ok {b : Bx} {ids : List Int} {mode flags : Int} (h : OkBx b) (h1 : apE 0 mode flags = 0) (h2 : thereU b.msgs ids = true) : storeE b ids mode flags = 0 := by unfold storeE; rw [if_neg (fun e => e ⟨h, h1⟩), if_neg (by rw [h2]; decide)]
theorem storeE_zero {b : Bx} {ids : List Int} {mode flags : Int} (h : storeE b ids mode flags = 0) : OkBx b ∧ apE 0 mode flags = 0 ∧ thereU b.msgs ids = true := by
  unfold storeE at h
  by_cases h1 : OkBx b ∧ apE 0 mode flags = 0
  · rw [if_neg (fun e => e h1)] at h
    cases h2 : thereU b.msgs ids
    · rw [h2, if_pos rfl] at h; omega
    · exact ⟨h1.1, h1.2, rfl⟩
  · rw [if_pos h1] at h; omega
theorem storeB_no {b : Bx} {ids : List Int} {mode flags : Int} (h : storeE b ids mode flags ≠ 0) : storeB b ids mode flags = b := by unfold storeB; rw [if_neg h]
theorem storeB_ok {b : Bx} {ids : List Int} {mode flags : Int} (h : storeE b ids mode flags = 0) : storeB b ids mode flags = { b with msgs := storeL b.msgs ids mode flags } := by unfold storeB; rw [if_pos h]
/-! ### Taking -/
def goneL (l : List Mg) (ids : List Int) : List Mg := l.filter (fun m => decide (m.uid ∈ ids))
def leftL (l : List Mg) (ids : List Int) : List Mg := l.filter (fun m => decide (m.uid ∉ ids))
noncomputable def tkE (b : Bx) (ids : List Int) : Int :=
  open Classical in
  if ¬ OkBx b then 1 else if thereU b.msgs ids = false then 6 else 0
noncomputable def tkB (b : Bx) (ids : List Int) : Bx := if tkE b ids = 0 then { b with msgs := leftL b.msgs ids } else b
noncomputable def tkM (b : Bx) (ids : List Int) : List Mg := if tkE b ids = 0 then goneL b.msgs ids else []
theorem tkE_arg {b : Bx} {ids : List Int} (h : ¬ OkBx b) : tkE b ids = 1 := by unfold tkE; rw [if_pos h]
theorem tkE_none {b : Bx} {ids : List Int} (h : OkBx b) (h2 : thereU b.msgs ids = false) : tkE b ids = 6 := by unfold tkE; rw [if_neg (fun e => e h), if_pos h2]
theorem tkE_ok {b : Bx} {ids : List Int} (h : OkBx b) (h2 : thereU b.msgs ids = true) : tkE b ids = 0 := by unfold tkE; rw [if_neg (fun e => e h), if_neg (by rw [h2]; decide)]
theorem tkE_zero {b : Bx} {ids : List Int} (h : tkE b ids = 0) : OkBx b ∧ thereU b.msgs ids = true := by
  unfold tkE at h
  by_cases h1 : OkBx b
  · rw [if_neg (fun e => e h1)] at h
    cases h2 : thereU b.msgs ids
    · rw [h2, if_pos rfl] at h; omega
    · exact ⟨h1, rfl⟩
  · rw [if_pos h1] at h; omega
theorem tkB_no {b : Bx} {ids : List Int} (h : tkE b ids ≠ 0) : tkB b ids = b ∧ tkM b ids = [] := by unfold tkB tkM; rw [if_neg h, if_neg h]; exact ⟨rfl, rfl⟩
theorem tkB_ok {b : Bx} {ids : List Int} (h : tkE b ids = 0) : tkB b ids = { b with msgs := leftL b.msgs ids } ∧ tkM b ids = goneL b.msgs ids := by unfold tkB tkM; rw [if_pos h, if_pos h]; exact ⟨rfl, rfl⟩
theorem gone_snoc {l : List Mg} {k : Nat} {a : Mg} {ids : List Int} (ht : l.take (k + 1) = l.take k ++ [a]) (ha : a.uid ∈ ids) : goneL (l.take (k + 1)) ids = goneL (l.take k) ids ++ [a] ∧ leftL (l.take (k + 1)) ids = leftL (l.take k) ids := by
  unfold goneL leftL
  rw [ht, List.filter_append, List.filter_append]
  simp [List.filter_cons, ha]
theorem left_snoc {l : List Mg} {k : Nat} {a : Mg} {ids : List Int} (ht : l.take (k + 1) = l.take k ++ [a]) (ha : a.uid ∉ ids) : goneL (l.take (k + 1)) ids = goneL (l.take k) ids ∧ leftL (l.take (k + 1)) ids = leftL (l.take k) ids ++ [a] := by
  unfold goneL leftL
  rw [ht, List.filter_append, List.filter_append]
  simp [List.filter_cons, ha]
theorem gone_le (l : List Mg) (ids : List Int) : (goneL l ids).length ≤ l.length := List.length_filter_le ..
theorem left_le (l : List Mg) (ids : List Int) : (leftL l ids).length ≤ l.length := List.length_filter_le ..
/-! ### The size of what is looked at -/
def sizeN (l : List Mg) : Nat := (l.map (fun m => m.body.length)).sum
theorem sizeN_snoc (l : List Mg) (m : Mg) : sizeN (l ++ [m]) = sizeN l + m.body.length := by unfold sizeN; simp
theorem sizeN_take (l : List Mg) (k : Nat) : sizeN (l.take k) ≤ sizeN l := by
  have h : sizeN l = sizeN (l.take k) + sizeN (l.drop k) := by
    conv => lhs; rw [← List.take_append_drop k l]
    unfold sizeN; rw [List.map_append, List.sum_append]
  omega
theorem sizeN_mem {l : List Mg} {m : Mg} (h : m ∈ l) : m.body.length ≤ sizeN l := by
  induction l with
  | nil => cases h
  | cons x l ih =>
    have e : sizeN (x :: l) = x.body.length + sizeN l := by unfold sizeN; simp
    rcases List.mem_cons.1 h with rfl | h
    · omega
    · have := ih h; omega
def greatX (b : Bx) : Bool := decide (5000 < b.msgs.length + sizeN b.msgs)
end Go.Proofs.YtoiffchhfnbooaaDoor
