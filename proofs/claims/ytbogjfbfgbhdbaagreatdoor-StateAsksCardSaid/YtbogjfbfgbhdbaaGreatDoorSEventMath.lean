/-
  A part of the proof: see the last text.
-/
import Derived.Test.YtbogjfbfgbhdbaaGreatDoorSPackMath
import Derived.Test.YtbogjfbfgbhdbaaGreatDoorSUidsMath
import Derived.Test.YtbogjfbfgbhdbaaGreatDoorSNameMath
import Derived.Below
import Derived.Deep.MidRow
import Derived.Deep.Draws
import Derived.WalkKit
import Derived.Lib.Hide
namespace Go.Proofs.YtbogjfbfgbhdbaaGreatDoor
set_option linter.unusedVariables false
set_option linter.unusedSimpArgs false
structure Ev where
  kind : Int
  at_ : Int
  box : ByteArray
  to_ : ByteArray
  ids : List Int
  set : List Rg
  mode : Int
  flags : Int
  date : Int
  n : Int
  body : List Nat
def evEq (a b : Ev) : Bool := decide (a.kind = b.kind) && (decide (a.at_ = b.at_) && (decide (a.box = b.box) && (decide (a.to_ = b.to_) && (decide (a.ids = b.ids) && (decide (a.set = b.set) && (decide (a.mode = b.mode) && (decide (a.flags = b.flags) && (decide (a.date = b.date) && (decide (a.n = b.n) && decide (a.body = b.body))))))))))
def letK : Nat → List Nat
  | 0 => [98]
  | 1 => [98]
  | 2 => [98, 116]
  | 3 => [98]
  | 4 => [98]
  | 5 => [98, 102, 100, 121]
  | 6 => [98, 105, 109, 102]
  | 7 => [98, 116, 105]
  | 8 => [98, 105]
  | 9 => [110]
  | 10 => [98, 110]
  | 11 => [98, 115]
  | 12 => [110]
  | 13 => [105]
  | _ => []
def nineL : List Nat := [98, 116, 105, 115, 109, 102, 100, 110, 121]
def partsN (k : Int) : List Nat := if 1 ≤ k ∧ k ≤ 14 then letK (k.toNat - 1) else []
theorem letK_lt (j : Nat) : ∀ x ∈ letK j, x < 128 := by
  by_cases h : j < 14
  · have : ∀ j : Fin 14, ∀ x ∈ letK j.val, x < 128 := by decide
    exact this ⟨j, h⟩
  · obtain ⟨i, rfl⟩ := Nat.exists_eq_add_of_le (by omega : 14 ≤ j)
    rw [show 14 + i = i + 14 by omega]
    intro x hx
    cases hx
theorem partsN_lt (k : Int) : ∀ x ∈ partsN k, x < 128 := by
  unfold partsN
  split
  · exact letK_lt _
  · intro x hx; cases hx
theorem letK_nine (j : Nat) : (∀ x ∈ letK j, x ∈ nineL) ∧ (letK j).Nodup ∧ (letK j).length ≤ 4 := by
  by_cases h : j < 14
  · have : ∀ j : Fin 14, (∀ x ∈ letK j.val, x ∈ nineL) ∧ (letK j.val).Nodup ∧ (letK j.val).length ≤ 4 := by decide
    exact this ⟨j, h⟩
  · obtain ⟨i, rfl⟩ := Nat.exists_eq_add_of_le (by omega : 14 ≤ j)
    rw [show 14 + i = i + 14 by omega]
    exact ⟨(by intro x hx; cases hx), List.nodup_nil, Nat.zero_le _⟩
theorem partsN_nine (k : Int) : (∀ x ∈ partsN k, x ∈ nineL) ∧ (partsN k).Nodup ∧ (partsN k).length ≤ 4 := by
  unfold partsN
  split
  · exact letK_nine _
  · exact ⟨(by intro x hx; cases hx), List.nodup_nil, Nat.zero_le _⟩
theorem kind_cases {k : Int} (h : 1 ≤ k ∧ k ≤ 14) : k = 1 ∨ k = 2 ∨ k = 3 ∨ k = 4 ∨ k = 5 ∨ k = 6 ∨ k = 7 ∨ k = 8 ∨ k = 9 ∨ k = 10 ∨ k = 11 ∨ k = 12 ∨ k = 13 ∨ k = 14 := by omega
def tmB (z : Int) : Bool := decide (0 ≤ z ∧ z ≤ 1099511627776)
def idsB (l : List Int) : Bool := decide (1 ≤ l.length ∧ l.length ≤ 60) && riseB l
def setB (l : List Rg) : Bool := decide (l.length ≤ 60 ∧ ∀ r ∈ l, okR r)
def modeB (z : Int) : Bool := decide (0 ≤ z ∧ z ≤ 2)
def noText : ByteArray := ⟨#[]⟩
def okQ (e : Ev) (c : Nat) : Bool :=
  if c = 98 then rightN (nats e.box) else if c = 116 then rightN (nats e.to_) else if c = 105 then idsB e.ids else if c = 115 then setB e.set else if c = 109 then modeB e.mode else
  if c = 102 then okF e.flags else if c = 100 then tmB e.date else if c = 110 then tmB e.n else decide (e.body.length ≤ 2000)
def outP (e : Ev) (c : Nat) : Ev :=
  if c = 98 then { e with box := noText } else if c = 116 then { e with to_ := noText } else if c = 105 then { e with ids := [] } else if c = 115 then { e with set := [] } else if c = 109 then { e with mode := 0 } else
  if c = 102 then { e with flags := 0 } else if c = 100 then { e with date := 0 } else if c = 110 then { e with n := 0 } else if c = 121 then { e with body := [] } else e
def bare (k t : Int) : Ev := ⟨k, t, noText, noText, [], [], 0, 0, 0, 0, []⟩
def rightE (e : Ev) : Bool := !(partsN e.kind).isEmpty && (tmB e.at_ && ((partsN e.kind).all (okQ e) && evEq ((partsN e.kind).foldl outP e) (bare e.kind e.at_)))
def endsL (l : List Rg) : List Int := l.flatMap fun r => [r.1, r.2]
theorem endsL_len (l : List Rg) : (endsL l).length = 2 * l.length := by
  unfold endsL
  induction l with
  | nil => rfl
  | cons r l ih => rw [List.flatMap_cons, List.length_append, ih, List.length_cons]; simp; omega
theorem endsL_snoc (l : List Rg) (r : Rg) : endsL (l ++ [r]) = endsL l ++ [r.1, r.2] := by unfold endsL; rw [List.flatMap_append]; rfl
theorem nine_cases {c : Nat} (h : c ∈ nineL) : c = 98 ∨ c = 116 ∨ c = 105 ∨ c = 115 ∨ c = 109 ∨ c = 102 ∨ c = 100 ∨ c = 110 ∨ c = 121 := by
  simpa [nineL] using h
end Go.Proofs.YtbogjfbfgbhdbaaGreatDoor
namespace Go.Proofs.YtbogjfbfgbhdbaaGreatDoor
set_option linter.unusedVariables false
set_option linter.unusedSimpArgs false
structure Tmb where
  id : Int
  box : ByteArray
  at_ : Int
  msg : Mg
structure Hol where
  id : Int
  box : ByteArray
  set : List Rg
structure Sta where
  clock : Int
  boxes : List Bx
  subs : List ByteArray
  rules : List Rul
  tombs : List Tmb
  holds : List Hol
  nv : Int
  nt : Int
  nh : Int
def inboxS : ByteArray := ⟨#[73, 78, 66, 79, 88]⟩
def staNew : Sta := ⟨0, [⟨inboxS, 1, 1, []⟩], [], [], [], [], 2, 1, 1⟩
def rightS (b : ByteArray) : Bool := rightN (nats b)
def NextOk (n : Int) : Prop := 1 ≤ n ∧ n ≤ 4294967296
structure OkBoxes (nv : Int) (l : List Bx) : Prop where
  each : ∀ b ∈ l, OkBx b ∧ rightS b.name = true ∧ b.valid < nv
  rise : l.Pairwise (fun a b => ltS a.name b.name)
  vals : l.Pairwise (fun a b => a.valid ≠ b.valid)
  inbox : ∃ b ∈ l, b.name = inboxS
def OkSubs (l : List ByteArray) : Prop := (∀ x ∈ l, rightS x = true) ∧ l.Pairwise ltS
def OkRules (l : List Rul) : Prop := (∀ r ∈ l, rightS r.1 = true ∧ 1 ≤ r.2 ∧ r.2 ≤ 1099511627776) ∧ riseR l
def OkTombs (clock nt : Int) (l : List Tmb) : Prop := (∀ t ∈ l, 1 ≤ t.id ∧ t.id < nt ∧ rightS t.box = true ∧ 0 ≤ t.at_ ∧ t.at_ ≤ clock ∧ okMg t.msg = true) ∧ l.Pairwise (fun a b => a.id < b.id)
def OkHolds (nh : Int) (l : List Hol) : Prop := (∀ h ∈ l, 1 ≤ h.id ∧ h.id < nh ∧ rightS h.box = true ∧ (h.set ≠ [] → rightU h.set = true)) ∧ l.Pairwise (fun a b => a.id < b.id)
structure OkSta (s : Sta) : Prop where
  clock : 0 ≤ s.clock ∧ s.clock ≤ 1099511627776
  nv : NextOk s.nv
  nt : NextOk s.nt
  nh : NextOk s.nh
  lens : s.boxes.length ≤ 16 ∧ s.subs.length ≤ 16 ∧ s.rules.length ≤ 16 ∧ s.tombs.length ≤ 60 ∧ s.holds.length ≤ 16
  boxes : OkBoxes s.nv s.boxes
  subs : OkSubs s.subs
  rules : OkRules s.rules
  tombs : OkTombs s.clock s.nt s.tombs
  holds : OkHolds s.nh s.holds
def boxN : List Bx → ByteArray → Nat
  | [], _ => 0
  | b :: l, u => if b.name = u then 1 else if boxN l u = 0 then 0 else boxN l u + 1
def noBx : Bx := ⟨noText, 0, 0, []⟩
def boxAt (l : List Bx) (name : ByteArray) : Bx := l.getD (boxN l name - 1) noBx
def putB (l : List Bx) (b : Bx) : List Bx := l.takeWhile (fun x => decide (ltS x.name b.name)) ++ b :: l.dropWhile (fun x => decide (ltS x.name b.name))
def buryE (s : Sta) (n : Nat) : Int := if 60 < s.tombs.length + n then 8 else if 4294967296 < s.nt + n then 13 else 0
def buryL (nt : Int) (box : ByteArray) (clock : Int) : List Mg → List Tmb
  | [] => []
  | m :: l => ⟨nt, box, clock, m⟩ :: buryL (nt + 1) box clock l
def buryS (s : Sta) (box : ByteArray) (l : List Mg) : Sta := { s with tombs := s.tombs ++ buryL s.nt box s.clock l, nt := s.nt + l.length }
def createS (s : Sta) (name : ByteArray) : Sta × Int :=
  if boxN s.boxes name ≠ 0 then (s, 7) else if s.boxes.length = 16 then (s, 8) else if 4294967295 < s.nv then (s, 13) else ({ s with boxes := putB s.boxes ⟨name, s.nv, 1, []⟩, nv := s.nv + 1 }, 0)
def removeS (s : Sta) (name : ByteArray) : Sta × Int :=
  if boxN s.boxes name = 0 then (s, 6) else if name = inboxS then (s, 1) else
  let l := (boxAt s.boxes name).msgs
  if buryE s l.length ≠ 0 then (s, buryE s l.length) else (buryS { s with boxes := s.boxes.eraseIdx (boxN s.boxes name - 1) } name l, 0)
def belowS (l top : ByteArray) : Bool := belowN (nats l) (nats top)
def movesB (a : ByteArray) (b : Bx) : Bool := decide (b.name = a) || belowS b.name a
def newName (a to_ name : ByteArray) : ByteArray := ⟨(to_.data.toList ++ name.data.toList.drop a.data.toList.length).toArray⟩
def goL (s : Sta) (a to_ : ByteArray) : List Bx := (s.boxes.filter (movesB a)).map fun b => { b with name := newName a to_ b.name }
def stayL (s : Sta) (a : ByteArray) : List Bx := s.boxes.filter fun b => !movesB a b
def renameS (s : Sta) (a to_ : ByteArray) : Sta × Int :=
  if boxN s.boxes a = 0 then (s, 6) else if a = inboxS ∨ to_ = a ∨ belowS to_ a = true then (s, 1) else
  if ¬ (∀ b ∈ goL s a to_, rightS b.name = true) then (s, 3) else
  if ¬ (∀ b ∈ goL s a to_, boxN (stayL s a) b.name = 0) then (s, 7) else ({ s with boxes := (goL s a to_).foldl putB (stayL s a) }, 0)
def subS (s : Sta) (name : ByteArray) : Sta × Int :=
  if ∃ x ∈ s.subs, x = name then (s, 7) else if s.subs.length = 16 then (s, 8) else
  ({ s with subs := s.subs.filter (fun x => decide (ltS x name)) ++ name :: s.subs.filter (fun x => decide (ltS name x)) }, 0)
def forgetS (s : Sta) (name : ByteArray) : Sta × Int :=
  if ∃ x ∈ s.subs, x = name then ({ s with subs := s.subs.filter (fun x => decide (ltS x name)) ++ s.subs.filter (fun x => decide (ltS name x)) }, 0) else (s, 6)
def setAt (s : Sta) (name : ByteArray) (b : Bx) : Sta := { s with boxes := s.boxes.set (boxN s.boxes name - 1) b }
noncomputable def appendS (s : Sta) (name : ByteArray) (m : Mg) : Sta × Int :=
  if boxN s.boxes name = 0 then (s, 6) else (setAt s name (addB (boxAt s.boxes name) m), addE (boxAt s.boxes name) m)
noncomputable def storeS (s : Sta) (e : Ev) : Sta × Int :=
  if boxN s.boxes e.box = 0 then (s, 6) else (setAt s e.box (storeB (boxAt s.boxes e.box) e.ids e.mode e.flags), storeE (boxAt s.boxes e.box) e.ids e.mode e.flags)
noncomputable def expungeS (s : Sta) (e : Ev) : Sta × Int :=
  if boxN s.boxes e.box = 0 then (s, 6) else
  if tkE (boxAt s.boxes e.box) e.ids ≠ 0 then (s, tkE (boxAt s.boxes e.box) e.ids) else
  let l := tkM (boxAt s.boxes e.box) e.ids
  if buryE s l.length ≠ 0 then (s, buryE s l.length) else (buryS (setAt s e.box (tkB (boxAt s.boxes e.box) e.ids)) e.box l, 0)
def findS (l : List Mg) (u : Int) : Mg := l.getD (placeN l u - 1) noMg
noncomputable def copyL (b : Bx) : List Mg → Bx × Int
  | [] => (b, 0)
  | m :: l => if addE b m = 0 then copyL (addB b m) l else (b, addE b m)
noncomputable def copyS (s : Sta) (e : Ev) : Sta × Int :=
  if boxN s.boxes e.box = 0 ∨ boxN s.boxes e.to_ = 0 ∨ thereU (boxAt s.boxes e.box).msgs e.ids = false then (s, 6) else
  let x := copyL (boxAt s.boxes e.to_) (e.ids.map (findS (boxAt s.boxes e.box).msgs))
  (setAt s e.to_ x.1, x.2)
def tombO (s : Sta) (id : Int) : Option Tmb := s.tombs.find? fun t => decide (t.id = id)
noncomputable def restoreS (s : Sta) (id : Int) : Sta × Int :=
  match tombO s id with
  | none => (s, 6)
  | some t => if boxN s.boxes t.box = 0 then (s, 6) else
    ({ setAt s t.box (addB (boxAt s.boxes t.box) t.msg) with tombs := s.tombs.filter fun x => decide (x.id ≠ id) }, addE (boxAt s.boxes t.box) t.msg)
def ruleS (s : Sta) (box : ByteArray) (keep : Int) : Sta × Int := ({ s with rules := setR s.rules box keep }, if 16 < (setR s.rules box keep).length then 8 else 0)
def holdS (s : Sta) (e : Ev) : Sta × Int :=
  if s.holds.length = 16 then (s, 8) else if 4294967295 < s.nh then (s, 13) else ({ s with holds := s.holds ++ [⟨s.nh, e.box, e.set⟩], nh := s.nh + 1 }, 0)
def releaseS (s : Sta) (id : Int) : Sta × Int :=
  if ∃ h ∈ s.holds, h.id = id then ({ s with holds := s.holds.filter fun h => decide (h.id ≠ id) }, 0) else (s, 6)
def Tmb.tm (t : Tmb) : Tm := ⟨t.id, t.box, t.at_, t.msg.uid, t.msg.flags, t.msg.date, none, 0, 0⟩
def Hol.hh (h : Hol) : Hh := ⟨h.id, h.box, none, 0, 0, h.set⟩
def mayGo (s : Sta) (t : Tmb) : Bool := goesB s.rules (s.holds.map Hol.hh) s.clock t.tm
def purgeS (s : Sta) (ids : List Int) : Sta × Int :=
  if ¬ (∀ u ∈ ids, ∃ t ∈ s.tombs, t.id = u) then (s, 6) else
  if ¬ (∀ t ∈ s.tombs, t.id ∈ ids → mayGo s t = true) then (s, 12) else ({ s with tombs := s.tombs.filter fun t => decide (t.id ∉ ids) }, 0)
noncomputable def doS (s : Sta) (e : Ev) : Sta × Int :=
  if e.kind = 1 then createS s e.box else if e.kind = 2 then removeS s e.box else if e.kind = 3 then renameS s e.box e.to_ else
  if e.kind = 4 then subS s e.box else if e.kind = 5 then forgetS s e.box else
  if e.kind = 6 then appendS s e.box ⟨0, e.flags, e.date, e.body⟩ else if e.kind = 7 then storeS s e else if e.kind = 8 then copyS s e else
  if e.kind = 9 then expungeS s e else if e.kind = 10 then restoreS s e.n else if e.kind = 11 then ruleS s e.box e.n else
  if e.kind = 12 then holdS s e else if e.kind = 13 then releaseS s e.n else if e.kind = 14 then purgeS s e.ids else (s, 0)
def tick (s : Sta) (t : Int) : Sta := { s with clock := max s.clock t }
open Classical in
noncomputable def appE (s : Sta) (e : Ev) : Int := if OkSta s ∧ rightE e = true then (doS (tick s e.at_) e).2 else 1
noncomputable def appS (s : Sta) (e : Ev) : Sta := if appE s e = 0 then (doS (tick s e.at_) e).1 else s
theorem boxN_none {l : List Bx} {u : ByteArray} : boxN l u = 0 ↔ ∀ b ∈ l, b.name ≠ u := by
  induction l with
  | nil => exact ⟨fun _ b hb => (by cases hb), fun _ => rfl⟩
  | cons b l ih =>
    unfold boxN
    by_cases h1 : b.name = u
    · rw [if_pos h1]
      exact ⟨fun h => by omega, fun h => absurd h1 (h b List.mem_cons_self)⟩
    · rw [if_neg h1]
      by_cases h2 : boxN l u = 0
      · rw [if_pos h2]
        refine ⟨fun _ x hx => ?_, fun _ => rfl⟩
        rcases List.mem_cons.1 hx with rfl | hx
        · exact h1
        · exact ih.1 h2 x hx
      · rw [if_neg h2]
        refine ⟨fun h => by omega, fun h => absurd (ih.2 fun x hx => h x (List.mem_cons_of_mem _ hx)) h2⟩
theorem boxN_le (l : List Bx) (u : ByteArray) : boxN l u ≤ l.length := by
  induction l with
  | nil => exact Nat.le_refl _
  | cons b l ih => unfold boxN; rw [List.length_cons]; split; omega; split <;> omega
theorem boxN_at {l : List Bx} {u : ByteArray} (h : boxN l u ≠ 0) : ∃ b, l[boxN l u - 1]? = some b ∧ b.name = u := by
  induction l with
  | nil => exact absurd rfl h
  | cons b l ih =>
    unfold boxN at h ⊢
    by_cases h1 : b.name = u
    · rw [if_pos h1]; exact ⟨b, rfl, h1⟩
    · rw [if_neg h1] at h ⊢
      by_cases h2 : boxN l u = 0
      · rw [if_pos h2] at h; exact absurd rfl h
      · rw [if_neg h2]
        obtain ⟨a, ha, hu⟩ := ih h2
        refine ⟨a, ?_, hu⟩
        obtain ⟨j, hj⟩ : ∃ j, boxN l u = j + 1 := ⟨boxN l u - 1, by omega⟩
        rw [hj] at ha ⊢
        simpa using ha
theorem boxAt_get {l : List Bx} {u : ByteArray} (h : boxN l u ≠ 0) : l[boxN l u - 1]? = some (boxAt l u) ∧ (boxAt l u).name = u ∧ boxAt l u ∈ l := by
  obtain ⟨b, hb, hu⟩ := boxN_at h
  have e : boxAt l u = b := by unfold boxAt; simp [hb]
  rw [e]
  exact ⟨hb, hu, List.mem_of_getElem? hb⟩
theorem pair_set {α : Type} {R : α → α → Prop} {l : List α} {i : Nat} {a b : α} (h : l.Pairwise R) (hi : l[i]? = some a) (h1 : ∀ x, R a x → R b x) (h2 : ∀ x, R x a → R x b) : (l.set i b).Pairwise R := by
  induction l generalizing i with
  | nil => simp at hi
  | cons x l ih =>
    rw [List.pairwise_cons] at h
    cases i with
    | zero =>
      have e : x = a := by simpa using hi
      subst e
      rw [List.set_cons_zero, List.pairwise_cons]
      exact ⟨fun y hy => h1 y (h.1 y hy), h.2⟩
    | succ i =>
      rw [List.set_cons_succ, List.pairwise_cons]
      have hi' : l[i]? = some a := by simpa using hi
      refine ⟨fun y hy => ?_, ih h.2 hi'⟩
      rcases List.mem_or_eq_of_mem_set hy with hy | rfl
      · exact h.1 y hy
      · exact h2 x (h.1 a (List.mem_of_getElem? hi'))
theorem OkBoxes.set {nv : Int} {l : List Bx} (h : OkBoxes nv l) {i : Nat} {a b : Bx} (hi : l[i]? = some a) (hb : OkBx b) (hn : b.name = a.name) (hv : b.valid = a.valid) : OkBoxes nv (l.set i b) := by
  have ha := h.each a (List.mem_of_getElem? hi)
  refine ⟨fun x hx => ?_, pair_set h.rise hi (fun x hx => by rw [hn]; exact hx) (fun x hx => by rw [hn]; exact hx), pair_set h.vals hi (fun x hx => by rw [hv]; exact hx) (fun x hx => by rw [hv]; exact hx), ?_⟩
  · rcases List.mem_or_eq_of_mem_set hx with hx | rfl
    · exact h.each x hx
    · exact ⟨hb, by rw [hn]; exact ha.2.1, by rw [hv]; exact ha.2.2⟩
  · obtain ⟨x, hx, he⟩ := h.inbox
    obtain ⟨j, hj⟩ := List.mem_iff_getElem?.1 hx
    by_cases hij : i = j
    · subst hij
      have : a = x := Option.some.inj (hi.symm.trans hj)
      subst this
      exact ⟨b, List.mem_of_getElem? (i := i) (by rw [List.getElem?_set_self (List.getElem?_eq_some_iff.1 hi).1]), by rw [hn]; exact he⟩
    · exact ⟨x, List.mem_of_getElem? (i := j) (by rw [List.getElem?_set_ne hij]; exact hj), he⟩
theorem okTombs_more {c c2 nt nt2 : Int} {l : List Tmb} (h : OkTombs c nt l) (hc : c ≤ c2) (hn : nt ≤ nt2) : OkTombs c2 nt2 l :=
  ⟨fun t ht => by have := h.1 t ht; exact ⟨this.1, by omega, this.2.2.1, this.2.2.2.1, by omega, this.2.2.2.2.2⟩, h.2⟩
theorem mem_bury {nt : Int} {box : ByteArray} {clock : Int} {l : List Mg} {t : Tmb} (h : t ∈ buryL nt box clock l) : nt ≤ t.id ∧ t.id < nt + l.length ∧ t.box = box ∧ t.at_ = clock ∧ t.msg ∈ l := by
  induction l generalizing nt with
  | nil => cases h
  | cons m l ih =>
    unfold buryL at h
    rw [List.length_cons]
    rcases List.mem_cons.1 h with rfl | h
    · exact ⟨Int.le_refl _, by simp; omega, rfl, rfl, List.mem_cons_self⟩
    · have := ih h
      exact ⟨by omega, by push_cast; omega, this.2.2.1, this.2.2.2.1, List.mem_cons_of_mem _ this.2.2.2.2⟩
theorem bury_rise (nt : Int) (box : ByteArray) (clock : Int) (l : List Mg) : (buryL nt box clock l).Pairwise (fun a b => a.id < b.id) := by
  induction l generalizing nt with
  | nil => exact List.Pairwise.nil
  | cons m l ih =>
    unfold buryL
    rw [List.pairwise_cons]
    exact ⟨fun t ht => by have := (mem_bury ht).1; show nt < t.id; omega, ih _⟩
theorem bury_len (nt : Int) (box : ByteArray) (clock : Int) (l : List Mg) : (buryL nt box clock l).length = l.length := by
  induction l generalizing nt with
  | nil => rfl
  | cons m l ih => unfold buryL; rw [List.length_cons, List.length_cons, ih]
theorem buryE_ok {s : Sta} {n : Nat} (h : buryE s n = 0) : s.tombs.length + n ≤ 60 ∧ s.nt + n ≤ 4294967296 := by
  unfold buryE at h
  split at h
  · omega
  · split at h
    · omega
    · omega
theorem bury_tombs {c nt : Int} {l : List Tmb} (h : OkTombs c nt l) (h0 : 0 ≤ c) {box : ByteArray} (hb : rightS box = true) {ms : List Mg} (hm : ∀ m ∈ ms, okMg m = true) (hn : 1 ≤ nt) : OkTombs c (nt + ms.length) (l ++ buryL nt box c ms) := by
  refine ⟨fun t ht => ?_, ?_⟩
  · rcases List.mem_append.1 ht with ht | ht
    · have := h.1 t ht; exact ⟨this.1, by omega, this.2.2⟩
    · obtain ⟨h1, h2, h3, h4, h5⟩ := mem_bury ht
      exact ⟨by omega, h2, by rw [h3]; exact hb, by omega, by omega, hm _ h5⟩
  · rw [List.pairwise_append]
    exact ⟨h.2, bury_rise _ _ _ _, fun a ha b hb2 => by have h1 := (h.1 a ha).2.1; have h2 := (mem_bury hb2).1; omega⟩
theorem okTombs_filter {c nt : Int} {l : List Tmb} (h : OkTombs c nt l) (p : Tmb → Bool) : OkTombs c nt (l.filter p) :=
  ⟨fun t ht => h.1 t (List.mem_filter.1 ht).1, h.2.filter p⟩
theorem okHolds_filter {nh : Int} {l : List Hol} (h : OkHolds nh l) (p : Hol → Bool) : OkHolds nh (l.filter p) :=
  ⟨fun t ht => h.1 t (List.mem_filter.1 ht).1, h.2.filter p⟩
end Go.Proofs.YtbogjfbfgbhdbaaGreatDoor
namespace Go.Proofs.YtbogjfbfgbhdbaaGreatDoor
set_option linter.unusedVariables false
set_option linter.unusedSimpArgs false
open Go.RowKit
theorem ret_int {k : IntKind} {a b : Int} (h : a = b) : Ending.returned (.int k a) = .returned (.int k b) := by rw [h]
def byteAt (l : List Nat) (i : Nat) : Nat := l.getD i 0
def Bytes (w : World) (B : Nat) (A : Option Addr) (n : Nat) (l : List Nat) : Prop :=
  l.length = n ∧ (∀ x ∈ l, x < 256) ∧ (0 < n → ∃ b o, A = some ⟨b, o, none⟩ ∧ b < B ∧ ∀ i, i < n → w.cell? ⟨b, o + i, none⟩ = some (.int .u8 ((byteAt l i : Nat) : Int)))
section
variable {w w' : World} {B B' n : Nat} {A : Option Addr} {l : List Nat}
theorem Bytes.nil : Bytes w B A 0 [] := ⟨rfl, by simp, fun h => absurd h (Nat.lt_irrefl _)⟩
theorem Bytes.keep (h : Bytes w B A n l) (hk : ∀ p : Addr, p.block < B → w'.cell? p = w.cell? p) : Bytes w' B A n l :=
  ⟨h.1, h.2.1, fun hn => by
    obtain ⟨b, o, e, hb, hc⟩ := h.2.2 hn
    exact ⟨b, o, e, hb, fun i hi => (hk _ hb).trans (hc i hi)⟩⟩
theorem Bytes.more (h : Bytes w B A n l) (hB : B ≤ B') : Bytes w B' A n l :=
  ⟨h.1, h.2.1, fun hn => by
    obtain ⟨b, o, e, hb, hc⟩ := h.2.2 hn
    exact ⟨b, o, e, by omega, hc⟩⟩
theorem Bytes.below (h : Bytes w B A n l) (hb : Below B' w w') (hB : B ≤ B') : Bytes w' B A n l := h.keep fun _ hp => hb.cell (by omega)
theorem Bytes.later (h : Bytes w w.heap.size A n l) (hb : Below w.heap.size w w') : Bytes w' w'.heap.size A n l := (h.below hb (Nat.le_refl _)).more hb.size
theorem Bytes.drewN (h : Bytes w B A n l) (k : Nat) : Bytes (w.drewN k) B A n l := h
theorem Bytes.drew (h : Bytes w B A n l) : Bytes w.drew B A n l := h
theorem Bytes.lt (h : Bytes w B A n l) (i : Nat) : byteAt l i < 256 := by
  unfold byteAt
  rw [List.getD_eq_getElem?_getD]
  cases hx : l[i]? with
  | none => simp
  | some x => exact h.2.1 x (List.mem_of_getElem? hx)
theorem Bytes.at_ {k : Nat} (h : Bytes w B A n l) (hk : k < n) : ∃ b o, A = some ⟨b, o, none⟩ ∧ b < B ∧ w.cell? ⟨b, o + k, none⟩ = some (.int .u8 ((byteAt l k : Nat) : Int)) := by
  obtain ⟨b, o, e, hb, hc⟩ := h.2.2 (by omega)
  exact ⟨b, o, e, hb, hc k hk⟩
end
def textAt (ls : List (List Nat)) (i : Nat) : List Nat := ls.getD i []
def Bss (w : World) (B : Nat) (A : Option Addr) (n : Nat) (ls : List (List Nat)) : Prop :=
  ls.length = n ∧ (0 < n → ∃ b o, A = some ⟨b, o, none⟩ ∧ b < B ∧ ∀ i, i < n → ∃ A' n' c', w.cell? ⟨b, o + i, none⟩ = some (.slice A' n' c') ∧ n' ≤ 140737488355328 ∧ Bytes w B A' n' (textAt ls i))
section
variable {w w' : World} {B B' n : Nat} {A : Option Addr} {ls : List (List Nat)}
theorem Bss.nil : Bss w B A 0 [] := ⟨rfl, fun h => absurd h (Nat.lt_irrefl _)⟩
theorem Bss.keep (h : Bss w B A n ls) (hk : ∀ p : Addr, p.block < B → w'.cell? p = w.cell? p) : Bss w' B A n ls :=
  ⟨h.1, fun hn => by
    obtain ⟨b, o, e, hb, hc⟩ := h.2 hn
    refine ⟨b, o, e, hb, fun i hi => ?_⟩
    obtain ⟨A', n', c', h1, h2, h3⟩ := hc i hi
    exact ⟨A', n', c', (hk _ hb).trans h1, h2, h3.keep hk⟩⟩
theorem Bss.more (h : Bss w B A n ls) (hB : B ≤ B') : Bss w B' A n ls :=
  ⟨h.1, fun hn => by
    obtain ⟨b, o, e, hb, hc⟩ := h.2 hn
    refine ⟨b, o, e, by omega, fun i hi => ?_⟩
    obtain ⟨A', n', c', h1, h2, h3⟩ := hc i hi
    exact ⟨A', n', c', h1, h2, h3.more hB⟩⟩
theorem Bss.below (h : Bss w B A n ls) (hb : Below B' w w') (hB : B ≤ B') : Bss w' B A n ls := h.keep fun _ hp => hb.cell (by omega)
theorem Bss.later (h : Bss w w.heap.size A n ls) (hb : Below w.heap.size w w') : Bss w' w'.heap.size A n ls := (h.below hb (Nat.le_refl _)).more hb.size
theorem Bss.at_ {k : Nat} (h : Bss w B A n ls) (hk : k < n) : ∃ b o A' n' c', A = some ⟨b, o, none⟩ ∧ b < B ∧ w.cell? ⟨b, o + k, none⟩ = some (.slice A' n' c') ∧ n' ≤ 140737488355328 ∧ Bytes w B A' n' (textAt ls k) := by
  obtain ⟨b, o, e, hb, hc⟩ := h.2 (by omega)
  obtain ⟨A', n', c', h1, h2, h3⟩ := hc k hk
  exact ⟨b, o, A', n', c', e, hb, h1, h2, h3⟩
theorem Bss.one (w : World) {B : Nat} {A : Option Addr} {n c : Nat} {l : List Nat} (h : Bytes w B A n l) (hn : n ≤ 140737488355328) (hB : B ≤ w.heap.size) (t : TypeId) :
    Bss (w.alloc (.cells #[.slice A n c] t)) (w.heap.size + 1) (some ⟨w.heap.size, 0, none⟩) 1 [l] := by
  refine ⟨rfl, fun _ => ⟨w.heap.size, 0, rfl, by omega, fun i hi => ?_⟩⟩
  obtain rfl : i = 0 := by omega
  refine ⟨A, n, c, ?_, hn, ((h.keep (fun p hp => World.cell?_alloc_lt w _ p (by omega))).more (by omega))⟩
  rw [cell_of_row _ _ _ _ _ _ (heap_alloc_new w _)]
  rfl
end
end Go.Proofs.YtbogjfbfgbhdbaaGreatDoor
