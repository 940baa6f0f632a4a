/-
 A part of the proof: see the last text.
-/
import Derived.Test.YtcdehejgnnnimaaGreatDoorSBytes
import Derived.Deep.MidRow
import Derived.Maps.OwnSet
import Derived.Maps.RangeWalk
import Derived.Sort.KeysCollected
import Derived.Sort.Statements
import Derived.Shelf.SlSortCmp.WholeK
import Derived.Shelf.SlSortCmp.NoneTotal
import Derived.Sort.Grow
namespace Go.Proofs.YtcdehejgnnnimaaGreatDoor
set_option linter.unusedVariables false
set_option linter.unusedSimpArgs false
open Go.RowKit
def ColK {α : Type} (k : Nat) (f : α → List Value) (w : World) (B : Nat) (A : Option Addr) (n : Nat) (l : List α) : Prop :=
 l.length = n ∧ (0 < n → ∃ b o, A = some ⟨b, o, none⟩ ∧ b < B ∧ ∀ i a, l[i]? = some a → w.rangeAt b (o + i * k) (f a))
theorem rangeAtK_keep {w w' : World} {b o : Nat} {cs : List Value} (h : w.rangeAt b o cs) (hk : ∀ i, w'.cell? ⟨b, i, none⟩ = w.cell? ⟨b, i, none⟩) : w'.rangeAt b o cs := fun j v hv => by rw [hk]; exact h j v hv
section
variable {α : Type} {k : Nat} {f : α → List Value} {w w' : World} {B B' n : Nat} {A : Option Addr} {l : List α}
theorem ColK.nil : ColK k f w B A 0 [] := ⟨rfl, fun h => absurd h (by omega)⟩
theorem ColK.keep (h : ColK k f w B A n l) (hk : ∀ p : Addr, p.block < B → w'.cell? p = w.cell? p) : ColK k f w' B A n l := by
 refine ⟨h.1, fun hn => ?_⟩
 obtain ⟨b, o, rfl, hb, hc⟩ := h.2 hn
 exact ⟨b, o, rfl, hb, fun i a ha => rangeAtK_keep (hc i a ha) (fun j => hk ⟨b, j, none⟩ hb)⟩
theorem ColK.more (h : ColK k f w B A n l) (hB : B ≤ B') : ColK k f w B' A n l := by
 refine ⟨h.1, fun hn => ?_⟩
 obtain ⟨b, o, rfl, hb, hc⟩ := h.2 hn
 exact ⟨b, o, rfl, by omega, hc⟩
theorem ColK.below (h : ColK k f w B A n l) (hb : Below B' w w') (hB : B ≤ B') : ColK k f w' B A n l := h.keep fun p hp => hb.cell (p := p) (by omega)
theorem ColK.later (h : ColK k f w w.heap.size A n l) (hb : Below w.heap.size w w') : ColK k f w' w'.heap.size A n l := (h.below hb (Nat.le_refl _)).more hb.size
theorem ColK.at_ {j : Nat} (h : ColK k f w B A n l) (hj : j < n) : ∃ b o a, A = some ⟨b, o, none⟩ ∧ b < B ∧ l[j]? = some a ∧ l.take (j + 1) = l.take j ++ [a] ∧ w.rangeAt b (o + j * k) (f a) := by
 obtain ⟨b, o, rfl, hb, hc⟩ := h.2 (by omega)
 have hl : j < l.length := by rw [h.1]; exact hj
 refine ⟨b, o, l[j], rfl, hb, List.getElem?_eq_getElem hl, ?_, hc j _ (List.getElem?_eq_getElem hl)⟩
 rw [List.take_add_one, List.getElem?_eq_getElem hl]; rfl
end
def OwnK {α : Type} (k : Nat) (f : α → List Value) (w : World) (base : Nat) (e : TypeId) (A : Option Addr) (n c : Nat) (l : List α) : Prop :=
 w.ownsRow base e k (.slice A n c) n (l.flatMap f) ∧ l.length = n ∧ ∀ a, (f a).length = k
section
variable {α : Type} {k : Nat} {f : α → List Value} {w w' : World} {base n c : Nat} {e : TypeId} {A : Option Addr} {l : List α}
theorem flat_len (hk : ∀ a, (f a).length = k) (l : List α) : (l.flatMap f).length = l.length * k := by
 induction l with
 | nil => simp
 | cons a l ih => rw [List.flatMap_cons, List.length_append, ih, hk, List.length_cons, Nat.add_mul]; omega
theorem flat_get (hk : ∀ a, (f a).length = k) : ∀ (l : List α) (i : Nat) (a : α), l[i]? = some a → ∀ j v, (f a)[j]? = some v → (l.flatMap f)[i * k + j]? = some v
 | b :: l, 0, a, h, j, v, hv => by
   cases h
   have hj : j < (f b).length := (List.getElem?_eq_some_iff.1 hv).1
   rw [List.flatMap_cons, List.getElem?_append_left (by omega)]
   simpa using hv
 | b :: l, i + 1, a, h, j, v, hv => by
   rw [List.flatMap_cons, List.getElem?_append_right (by rw [hk, Nat.add_mul]; omega), hk, show (i + 1) * k + j - k = i * k + j by rw [Nat.add_mul]; omega]
   exact flat_get hk l i a h j v hv
theorem OwnK.nil (hk : ∀ a, (f a).length = k) : OwnK k f w base e none 0 0 [] := ⟨⟨by simp, .inl ⟨rfl, rfl⟩⟩, rfl, hk⟩
theorem OwnK.len (h : OwnK k f w base e A n c l) : l.length = n := h.2.1
theorem OwnK.below (h : OwnK k f w base e A n c l) (hb : Below w.heap.size w w') : OwnK k f w' base e A n c l := by
 refine ⟨⟨h.1.1, ?_⟩, h.2⟩
 rcases h.1.2 with h0 | ⟨g, cap, cur, hv, hg, hh, r⟩
 ·exact .inl h0
 ·exact .inr ⟨g, cap, cur, hv, hg, (hb.block g (Array.getElem?_eq_some_iff.1 hh).1).trans hh, r⟩
theorem OwnK.alloc (h : OwnK k f w base e A n c l) (o : Obj) : OwnK k f (w.alloc o) base e A n c l := h.below ((Below.refl _ _).alloc (Nat.le_refl _) _)
theorem OwnK.from_ {base' : Nat} (h : OwnK k f w base e A n c l) (hb : base' ≤ base) : OwnK k f w base' e A n c l := by
 refine ⟨⟨h.1.1, ?_⟩, h.2⟩
 rcases h.1.2 with h0 | ⟨g, cap, cur, hv, hg, r⟩
 ·exact .inl h0
 ·exact .inr ⟨g, cap, cur, hv, Nat.le_trans hb hg, r⟩
theorem OwnK.cap (h : OwnK k f w base e A n c l) : n ≤ c ∧ c ≤ maxLen := by
 rcases h.1.2 with ⟨hv, h0⟩ | ⟨g, cap, cur, hv, _, _, h1, h2, _⟩
 ·injection hv with _ _ hc; subst hc; exact ⟨by omega, by unfold maxLen; omega⟩
 ·injection hv with _ _ hc; subst hc; exact ⟨h1, h2⟩
theorem OwnK.block (h : OwnK k f w base e A n c l) (hn : 0 < n) : ∃ g cur, A = some ⟨g, 0, none⟩ ∧ base ≤ g ∧ w.heap[g]? = some (.cells cur e (0, 0)) ∧ cur.size = c * k ∧ cur.toList.take (n * k) = l.flatMap f := by
 rcases h.1.2 with ⟨_, h0⟩ | ⟨g, cap, cur, hv, hg, hh, h1, h2, h3, h4⟩
 ·omega
 ·injection hv with hA _ hc
  subst hA hc
  exact ⟨g, cur, rfl, hg, hh, h3, h4⟩
theorem OwnK.range (h : OwnK k f w base e A n c l) (hn : 0 < n) : ∃ g, A = some ⟨g, 0, none⟩ ∧ base ≤ g ∧ g < w.heap.size ∧ ∀ i a, l[i]? = some a → w.rangeAt g (i * k) (f a) := by
 obtain ⟨g, cur, rfl, hg, hh, hcs, htk⟩ := h.block hn
 refine ⟨g, rfl, hg, (Array.getElem?_eq_some_iff.1 hh).1, fun i a ha j v hv => ?_⟩
 have h1 := flat_get h.2.2 l i a ha j v hv
 have hi : i < l.length := (List.getElem?_eq_some_iff.1 ha).1
 have hj : j < k := by rw [← h.2.2 a]; exact (List.getElem?_eq_some_iff.1 hv).1
 rw [← htk, List.getElem?_take, if_pos (by
  have : (i + 1) * k ≤ n * k := Nat.mul_le_mul_right k (by rw [← h.len]; omega)
  rw [Nat.add_mul] at this; omega)] at h1
 rw [cell_of_row w g (i * k + j) cur e (0, 0) hh]
 simpa only [Array.getElem?_toList] using h1
theorem OwnK.col (h : OwnK k f w base e A n c l) : ColK k f w w.heap.size A n l := by
 refine ⟨h.len, fun hn => ?_⟩
 obtain ⟨g, rfl, _, hg, hr⟩ := h.range hn
 exact ⟨g, 0, rfl, hg, fun i a ha => by rw [Nat.zero_add]; exact hr i a ha⟩
end
section
variable {P : Program} {α : Type} {k : Nat} {f : α → List Value}
theorem wpList_append_k {ops : Array Oper} {rest : List Oper} {o : Oper} {a : Act} {w : World} {Q : Exit → Act → World → Prop} (hgd : o.guard = none) (s x : Operand) (t : TypeId)
 (ho : o.op = .call { callee := .builtin .append, args := #[s, x], argTypes := #[t, t] }) {e : TypeId} (ht : P.underlying t = some (.slice e)) {zv : Value} {by_ : Nat}
 (he : (P.info? e).map (fun i => (i.zero, i.size, i.bytes)) = some (some zv, k, by_)) (hzc : zv.cells.size = k) (hk0 : 0 < k) (hby : by_ ≤ 100)
 (base : Nat) (A : Option Addr) (n c : Nat) (l : List α) (hs : a.eval s = .slice A n c) (hown : OwnK k f w base e A n c l)
 (b off : Nat) (v : α) (hx : a.eval x = .slice (some ⟨b, off, none⟩) 1 1) (hc : w.rangeAt b off (f v)) (hv : ∀ u ∈ f v, u.oneCell' = true) (hn : n ≤ 1000000) (hbase : base ≤ w.heap.size)
 (h : ∀ A2 c2 w', OwnK k f w' base e A2 (n + 1) c2 (l ++ [v]) → Below base w w' → w.grownBy w' (Value.slice A n c).ownBlock → wpList P ops Q rest (a.put o.dst (.slice A2 (n + 1) c2)) w') : wpList P ops Q (o :: rest) a w :=
 wpList_plain hgd fun _ hK => by
  obtain ⟨i, hi, hz, hs', hby'⟩ := info_parts he
  obtain ⟨v', w', hrun, h1, h2, _, _⟩ := run_append_own_at (P := P) w base t o.type e i zv k by_ ht hi hz hs' hby' hzc hk0 (.slice A n c) n (l.flatMap f) hown.1 ⟨b, off, none⟩ 1 1 (f v) (by rw [hown.2.2, Nat.one_mul])
   (fun j u hu => by rw [Addr.add_mid]; exact hc j u hu) hv (by unfold maxLen; omega) (Nat.le_trans (Nat.mul_le_mul_left _ hby) (by omega)) hbase
  have hsh : ∃ A2 c2, v' = .slice A2 (n + 1) c2 := by
   rcases h1.2 with ⟨rfl, h0⟩ | ⟨g, cap, cur, rfl, _⟩
   ·omega
   ·exact ⟨_, _, rfl⟩
  obtain ⟨A2, c2, rfl⟩ := hsh
  unfold Oper.wp execOp
  simp only [ho, resolve, invoke, builtin, Sem.run_bind, Sem.run_pure, Result.andThen_ok, List.map_toArray, List.map_cons, List.map_nil, hs, hx, hrun]
  refine hK _ _ (h A2 c2 w' ⟨?_, by rw [List.length_append, hown.len]; rfl, hown.2.2⟩ ((Below.refl _ _).grown h2 hbase (fun k hk => (hown.1.lt k hk).1)) h2)
  rw [List.flatMap_append, List.flatMap_singleton]
  exact h1
end
end Go.Proofs.YtcdehejgnnnimaaGreatDoor
namespace Go.Proofs.YtcdehejgnnnimaaGreatDoor
set_option linter.unusedVariables false
set_option linter.unusedSimpArgs false
open Go.Maps
abbrev Pr := ByteArray × ByteArray
def keyL (s : ByteArray) : Lit := .string s.data.toList
def pairD (k v : ByteArray) : DataW Unit := .agg [.lit (keyL k), .lit (keyL v)]
def pairV (k v : ByteArray) : Value := .agg #[.string k, .string v]
def pairElem : Value → Option (DataW Unit × List MemPlace)
 | .agg ⟨[.string k, .string v]⟩ => some (pairD k v, [])
 | _ => none
theorem pairElem_mk (k v : ByteArray) : pairElem (pairV k v) = some (pairD k v, []) := rfl
theorem pairElem_inv {v : Value} {z : DataW Unit × List MemPlace} (h : pairElem v = some z) : ∃ a b, v = pairV a b ∧ z = (pairD a b, []) := by
 unfold pairElem at h
 split at h
 ·rename_i k v
  cases h
  exact ⟨k, v, rfl, rfl⟩
 ·cases h
theorem data_eq {a b : ByteArray} (h : a.data.toList = b.data.toList) : a = b := by
 obtain ⟨⟨a⟩⟩ := a
 obtain ⟨⟨b⟩⟩ := b
 cases h
 rfl
theorem keyL_inj {a b : ByteArray} (h : keyL a = keyL b) : a = b := data_eq (by injection h)
theorem pairD_inj {a b c d : ByteArray} (h : pairD a b = pairD c d) : a = c ∧ b = d := by
 unfold pairD at h
 injection h with h
 injection h with h1 h2
 injection h2 with h2 _
 injection h1 with h1
 injection h2 with h2
 exact ⟨keyL_inj h1, keyL_inj h2⟩
theorem keyL_is (s : ByteArray) : WideAt.IsKeyLit (keyL s) := trivial
abbrev Fn := ByteArray → Option ByteArray
def updF (f : Fn) (k : ByteArray) (o : Option ByteArray) : Fn := fun s => if s = k then o else f s
def Reads (D : DataW Unit) (f : Fn) : Prop := Tidy D ∧ ∀ s, (∀ x, f s = some x → ∀ zd, D.atKey (keyL s) zd = pairD s x) ∧ (f s = none → has D (keyL s) = false)
theorem Reads.empty : Reads (.map []) (fun _ => none) := ⟨tidy_empty, fun s => ⟨fun x h => (by cases h), fun _ => rfl⟩⟩
theorem Reads.put {D : DataW Unit} {f : Fn} (h : Reads D f) (k v : ByteArray) : Reads (D.put (keyL k) (pairD k v)) (updF f k (some v)) := by
 refine ⟨h.1.put (keyL_is k) _, fun s => ?_⟩
 by_cases e : s = k
 ·subst e
  refine ⟨fun x hx zd => ?_, fun hx => ?_⟩
  ·unfold updF at hx
   rw [if_pos rfl] at hx
   cases hx
   exact atKey_put_same h.1.isMap (keyL_is s) _ zd
  ·unfold updF at hx
   rw [if_pos rfl] at hx
   cases hx
 ·have hne : keyL s ≠ keyL k := fun q => e (keyL_inj q)
  refine ⟨fun x hx zd => ?_, fun hx => ?_⟩
  ·unfold updF at hx
   rw [if_neg e] at hx
   rw [atKey_put_other hne]
   exact (h.2 s).1 x hx zd
  ·unfold updF at hx
   rw [if_neg e] at hx
   rw [has_put_other hne]
   exact (h.2 s).2 hx
theorem Reads.del {D : DataW Unit} {f : Fn} (h : Reads D f) (k : ByteArray) : Reads (D.del (keyL k)) (updF f k none) := by
 refine ⟨h.1.del _, fun s => ?_⟩
 by_cases e : s = k
 ·subst e
  refine ⟨fun x hx zd => ?_, fun hx => has_del_same⟩
  unfold updF at hx
  rw [if_pos rfl] at hx
  cases hx
 ·have hne : keyL s ≠ keyL k := fun q => e (keyL_inj q)
  refine ⟨fun x hx zd => ?_, fun hx => ?_⟩
  ·unfold updF at hx
   rw [if_neg e] at hx
   rw [atKey_del_other hne]
   exact (h.2 s).1 x hx zd
  ·unfold updF at hx
   rw [if_neg e] at hx
   rw [has_del_other hne]
   exact (h.2 s).2 hx
theorem Reads.has {D : DataW Unit} {f : Fn} (h : Reads D f) (s : ByteArray) : has D (keyL s) = (f s).isSome := by
 cases hf : f s with
 | none => exact (h.2 s).2 hf
 | some x => exact has_true_of_atKey (fun z => (h.2 s).1 x hf z)
theorem Reads.at_ {D : DataW Unit} {f : Fn} (h : Reads D f) {s a b : ByteArray} (hat : ∀ zd, D.atKey (keyL s) zd = pairD a b) : a = s ∧ f s = some b := by
 have h1 : Maps.has D (keyL s) = true := has_true_of_atKey hat
 rw [h.has] at h1
 obtain ⟨x, hx⟩ := Option.isSome_iff_exists.1 h1
 have := (h.2 s).1 x hx .nil
 rw [hat] at this
 obtain ⟨rfl, rfl⟩ := pairD_inj this
 exact ⟨rfl, hx⟩
def ltK (a b : ByteArray) : Prop := a.data.toList < b.data.toList
def Rising (l : List Pr) : Prop := l.Pairwise (fun p q => ltK p.1 q.1)
theorem ltK_irrefl (a : ByteArray) : ¬ ltK a a := List.lt_irrefl _
theorem ltK_trans {a b c : ByteArray} (h : ltK a b) (h2 : ltK b c) : ltK a c := List.lt_trans h h2
theorem ltK_tri (a b : ByteArray) : ltK a b ∨ a = b ∨ ltK b a := by
 by_cases h : ltK a b
 ·exact .inl h
 ·by_cases h2 : ltK b a
  ·exact .inr (.inr h2)
  ·exact .inr (.inl (data_eq (List.le_antisymm (List.not_lt.1 h2) (List.not_lt.1 h))))
def Lists (l : List Pr) (f : Fn) : Prop := Rising l ∧ ∀ k v, (k, v) ∈ l ↔ f k = some v
theorem rising_ext : ∀ {l m : List Pr}, Rising l → Rising m → (∀ p, p ∈ l ↔ p ∈ m) → l = m
 | [], [], _, _, _ => rfl
 | [], q :: m, _, _, h => by have := (h q).2 (List.mem_cons_self ..); cases this
 | p :: l, [], _, _, h => by have := (h p).1 (List.mem_cons_self ..); cases this
 | p :: l, q :: m, h1, h2, h => by
   have a1 := List.pairwise_cons.1 h1
   have a2 := List.pairwise_cons.1 h2
   have e : p = q := by
    rcases List.mem_cons.1 ((h p).1 (List.mem_cons_self ..)) with e | hp
    ·exact e
    ·rcases List.mem_cons.1 ((h q).2 (List.mem_cons_self ..)) with e | hq
     ·exact e.symm
     ·exact absurd (ltK_trans (a1.1 q hq) (a2.1 p hp)) (ltK_irrefl _)
   subst e
   congr 1
   refine rising_ext a1.2 a2.2 fun r => ?_
   constructor
   ·intro hr
    rcases List.mem_cons.1 ((h r).1 (List.mem_cons_of_mem _ hr)) with e | h3
    ·subst e; exact absurd (a1.1 r hr) (ltK_irrefl _)
    ·exact h3
   ·intro hr
    rcases List.mem_cons.1 ((h r).2 (List.mem_cons_of_mem _ hr)) with e | h3
    ·subst e; exact absurd (a2.1 r hr) (ltK_irrefl _)
    ·exact h3
theorem Lists.unique {l m : List Pr} {f : Fn} (h : Lists l f) (h2 : Lists m f) : l = m :=
 rising_ext h.1 h2.1 fun p => by obtain ⟨k, v⟩ := p; rw [h.2, h2.2]
def fnOf (l : List Pr) : Fn := fun k => (l.find? (fun p => p.1 = k)).map (·.2)
theorem lists_fnOf {l : List Pr} (h : Rising l) : Lists l (fnOf l) := by
 refine ⟨h, fun k v => ?_⟩
 induction l with
 | nil => exact ⟨fun h => (by cases h), fun h => (by cases h)⟩
 | cons p l ih =>
   have a := List.pairwise_cons.1 h
   have ih := ih a.2
   unfold fnOf at ih ⊢
   rw [List.find?_cons]
   by_cases e : p.1 = k
   ·have hd : decide (p.1 = k) = true := decide_eq_true e
    rw [hd]
    constructor
    ·intro hm
     rcases List.mem_cons.1 hm with rfl | hm
     ·rfl
     ·have := a.1 _ hm
      rw [e] at this
      exact absurd this (ltK_irrefl _)
    ·intro hm
     injection hm with hm
     obtain ⟨pk, pv⟩ := p
     cases e; cases hm
     exact List.mem_cons_self ..
   ·have hd : decide (p.1 = k) = false := decide_eq_false e
    rw [hd]
    rw [List.mem_cons]
    constructor
    ·rintro (rfl | hm)
     ·exact absurd rfl e
     ·exact ih.1 hm
    ·intro hm
     exact .inr (ih.2 hm)
theorem Lists.eq_fn {l : List Pr} {f : Fn} (h : Lists l f) : f = fnOf l := by
 funext k
 have h2 := lists_fnOf h.1
 cases hf : f k with
 | some v => exact ((h2.2 k v).1 ((h.2 k v).2 hf)).symm
 | none =>
   cases hg : fnOf l k with
   | none => rfl
   | some v =>
     have := (h.2 k v).1 ((h2.2 k v).2 hg)
     rw [hf] at this; cases this
def Came (D : DataW Unit) (f : Fn) (left : Lit → Bool) (l : List Pr) : Prop := Collected D left (l.map (·.1.data.toList)) ∧ ∀ p ∈ l, f p.1 = some p.2
theorem Came.start (D : DataW Unit) (f : Fn) : Came D f (has D) [] := ⟨Collected.start D, fun p h => by cases h⟩
theorem Came.step {D : DataW Unit} {f : Fn} {left : Lit → Bool} {l : List Pr} (h : Came D f left l) (hr : Reads D f) {s a b : ByteArray} (hl : left (keyL s) = true) (hat : ∀ zd, D.atKey (keyL s) zd = pairD a b) :
 Came D f (fun z => left z && !z.sameKey (keyL s)) (l ++ [(a, b)]) := by
 obtain ⟨rfl, hf⟩ := hr.at_ hat
 refine ⟨?_, fun p hp => ?_⟩
 ·rw [List.map_append, List.map_singleton]
  exact h.1.step hl hat
 ·rcases List.mem_append.1 hp with hp | hp
  ·exact h.2 p hp
  ·rw [List.mem_singleton.1 hp]; exact hf
theorem Came.all {D : DataW Unit} {f : Fn} {left : Lit → Bool} {l : List Pr} (h : Came D f left l) (hr : Reads D f) (hl : ∀ k, left k = false) : (l.map (·.1)).Nodup ∧ ∀ k v, (k, v) ∈ l ↔ f k = some v := by
 refine ⟨?_, fun k v => ⟨fun hm => h.2 _ hm, fun hf => ?_⟩⟩
 ·have := h.1.1
  rw [show (l.map fun p => p.1.data.toList) = (l.map (·.1)).map (fun s => s.data.toList) by rw [List.map_map]; rfl] at this
  exact List.Pairwise.of_map _ (fun a b h e => h (by rw [e])) this
 ·have hh : Maps.has D (keyL k) = true := by rw [hr.has, hf]; rfl
  have hm := (h.1.2 k.data.toList).2 ⟨hh, hl _⟩
  obtain ⟨p, hp, he⟩ := List.mem_map.1 hm
  have e1 : p.1 = k := data_eq he
  have := h.2 p hp
  rw [e1, hf] at this
  obtain ⟨pk, pv⟩ := p
  cases e1
  cases this
  exact hp
theorem Came.sorted {f : Fn} {l m : List Pr} (hn : (l.map (·.1)).Nodup) (hm : ∀ k v, (k, v) ∈ l ↔ f k = some v) (hp : m.Perm l) (hs : m.Pairwise (fun p q => ¬ ltK q.1 p.1)) : Lists m f := by
 have hn2 : (m.map (·.1)).Nodup := (hp.map _).nodup_iff.2 hn
 refine ⟨?_, fun k v => by rw [hp.mem_iff]; exact hm k v⟩
 have hne : m.Pairwise (fun p q => p.1 ≠ q.1) := List.pairwise_map.1 hn2
 refine (hs.and hne).imp fun {p q} h => ?_
 rcases ltK_tri p.1 q.1 with h1 | h1 | h1
 ·exact h1
 ·exact absurd h1 h.2
 ·exact absurd h1 h.1
end Go.Proofs.YtcdehejgnnnimaaGreatDoor
namespace Go.Proofs.YtcdehejgnnnimaaGreatDoor
set_option linter.unusedVariables false
set_option linter.unusedSimpArgs false
open Go.Sort Go.Proofs Go.RowKit Go.Shelf
section
variable {α : Type} [Inhabited α] {k : Nat} {f : α → List Value} {w : World} {base n c : Nat} {e : TypeId} {A : Option Addr} {l : List α}
theorem flatK_list (hk : ∀ a, (f a).length = k) (hk0 : 0 < k) (l : List α) : flatK f k l.toArray = (l.flatMap f).toArray := by
 refine ext_get! (by simp [flat_len hk]) (fun t ht => ?_)
 have ht' : t < l.length * k := by simpa using ht
 rw [get_flatK f k l.toArray t (by simpa using ht')]
 have hi : t / k < l.length := (Nat.div_lt_iff_lt_mul hk0).2 ht'
 have hj : t % k < (f l[t / k]).length := by rw [hk]; exact Nat.mod_lt _ hk0
 have h1 := flat_get hk l (t / k) l[t / k] (List.getElem?_eq_getElem hi) (t % k) _ (List.getElem?_eq_getElem hj)
 rw [show t / k * k + t % k = t by rw [Nat.mul_comm]; exact Nat.div_add_mod t k] at h1
 have e1 : l.toArray[t / k]! = l[t / k] := by simp [hi]
 rw [e1]
 have h2 : (l.flatMap f).toArray[t]! = (f l[t / k])[t % k] := by
  rw [getElem!_def]
  simp [h1]
 rw [h2]
 simp [hj]
theorem heap_sortK {g m : Nat} {os : Array Obj} {cur : Array Value} {fr : Nat × Nat} (F : Array Value) (hb : w.heap[g]? = some (.cells cur e fr)) :
 (grow (putRow id (Sort.ahead w m) g 0 F) os).heap[g]? = some (.cells (putCells id 0 F cur) e fr) := by
 have hg : g < w.heap.size := (Array.getElem?_eq_some_iff.1 hb).1
 rw [heap_grow_old _ _ (by simpa using hg)]
 simp [putRow, mapBlock, Sort.ahead, Array.getElem?_modify, hb, onCells]
theorem grownBy_sortK {g m : Nat} {os : Array Obj} (F : Array Value) : w.grownBy (grow (putRow id (Sort.ahead w m) g 0 F) os) (some g) := by
 refine ⟨rfl, rfl, rfl, by simp, fun k hk hne => ?_⟩
 rw [heap_grow_old _ _ (by simpa using hk)]
 have : g ≠ k := fun e => hne (by rw [e])
 simp [putRow, mapBlock, Sort.ahead, Array.getElem?_modify, this]
theorem take_putK (cur : Array Value) (ts : List Value) (h : ts.length ≤ cur.size) : (putCells id 0 ts.toArray cur).toList.take ts.length = ts := by
 apply List.ext_getElem?
 intro j
 by_cases hj : j < ts.length
 ·rw [List.getElem?_take_of_lt hj, Array.getElem?_toList]
  simp [putCells, hj, show j < cur.size by omega]
 ·rw [List.getElem?_take_eq_none (by omega), List.getElem?_eq_none (by omega)]
theorem OwnK.holds (h : OwnK k f w base e A n c l) (hk0 : 0 < k) (hn : 0 < n) : ∃ g, A = some ⟨g, 0, none⟩ ∧ g < w.heap.size ∧ HoldsK f k w g 0 l.toArray ∧
 ∀ (m : List α) (q : Nat) (os : Array Obj), m.length = l.length → OwnK k f (sortWorldK f k w g 0 q m.toArray os) base e A n c m ∧ w.grownBy (sortWorldK f k w g 0 q m.toArray os) (some g) := by
 have hcap := h.cap
 have hlen := h.len
 obtain ⟨g, cur, rfl, hg, hh, hcs, htk⟩ := h.block hn
 have hle : n * k ≤ c * k := Nat.mul_le_mul_right k hcap.1
 refine ⟨g, rfl, (Array.getElem?_eq_some_iff.1 hh).1, fun j hj => ?_, fun m q os hm => ⟨⟨⟨?_, .inr ⟨g, c, putCells id 0 (flatK f k m.toArray) cur, rfl, hg, ?_, hcap.1, hcap.2, ?_, ?_⟩⟩, by rw [hm]; exact hlen, h.2.2⟩, ?_⟩⟩
 ·rw [flatK_list h.2.2 hk0] at hj ⊢
  have hj' : j < (l.flatMap f).length := by simpa using hj
  refine ⟨?_, by simp [World.frozen?, hh]⟩
  have h1 : (cur.toList.take (n * k))[j]? = (l.flatMap f)[j]? := by rw [htk]
  rw [List.getElem?_take_of_lt (by rw [flat_len h.2.2, hlen] at hj'; exact hj')] at h1
  simp only [World.cell?, hh, Nat.zero_add]
  simp only [Option.isSome_none, Bool.false_eq_true, if_false]
  rw [← Array.getElem?_toList, h1, List.getElem?_eq_getElem hj']
  simp
  rw [List.getElem?_eq_getElem hj']
  rfl
 ·rw [flat_len h.2.2, hm, hlen]
 ·unfold sortWorldK putRowK
  exact heap_sortK _ hh
 ·simp [putCells, hcs]
 ·rw [flatK_list h.2.2 hk0]
  have := take_putK cur (m.flatMap f) (by rw [flat_len h.2.2, hm, hlen, hcs]; exact hle)
  rwa [flat_len h.2.2, hm, hlen] at this
 ·unfold sortWorldK putRowK
  exact grownBy_sortK _
theorem perm_of {d d' : Array α} (h : PermIn 0 d.size d d') : d'.toList.Perm d.toList := by
 have h2 := h.2.2
 rw [show d.extract 0 d.size = d by simp, show d'.extract 0 d.size = d' by rw [← h.1]; simp] at h2
 exact h2
theorem pairwise_of {lt : α → α → Bool} {d : Array α} (h : SortedIn lt 0 d.size d) : d.toList.Pairwise (fun p q => lt q p = false) := by
 rw [List.pairwise_iff_getElem]
 intro i j hi hj hij
 have h1 := h i j (Nat.zero_le _) hij (by simpa using hj)
 have a1 : d[i]! = d.toList[i] := by
  have : i < d.size := by simpa using hi
  simp [this]
 have a2 : d[j]! = d.toList[j] := by
  have : j < d.size := by simpa using hj
  simp [this]
 rwa [a1, a2] at h1
end
end Go.Proofs.YtcdehejgnnnimaaGreatDoor
