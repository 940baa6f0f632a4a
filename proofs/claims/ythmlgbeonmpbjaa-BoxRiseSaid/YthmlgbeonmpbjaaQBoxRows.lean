/-
  Messages and mailboxes as they lie in memory: slices of messages that are read (MsgsIn), those of a call's own (OwnM), append of one.
-/
import Derived.Test.YthmlgbeonmpbjaaQBoxMath
import Derived.Test.YthmlgbeonmpbjaaQTextOwn
import Derived.Test.YthmlgbeonmpbjaaQRowK
import Derived.Test.YthmlgbeonmpbjaaQAppK
import Derived.Test.YthmlgbeonmpbjaaQWide
import Derived.Test.YthmlgbeonmpbjaaChecked
namespace Go.Proofs.Ythmlgbeonmpbjaa
set_option linter.unusedVariables false
set_option linter.unusedSimpArgs false
open Go.RowKit
set_option linter.unusedVariables false
set_option linter.unusedSimpArgs false

/-- a message with where its bytes lie -/
structure Hd where
  m : Mg
  A : Option Addr
  n : Nat
  c : Nat
def hdC (h : Hd) : List Value := [.int .i64 h.m.uid, .int .i64 h.m.flags, .int .i64 h.m.date, .slice h.A h.n h.c]
theorem hdC_len (h : Hd) : (hdC h).length = 4 := rfl
theorem hdC_one (h : Hd) : ∀ u ∈ hdC h, u.oneCell' = true := by
  intro u hu
  unfold hdC at hu
  simp only [List.mem_cons, List.not_mem_nil, or_false] at hu
  rcases hu with rfl | rfl | rfl | rfl <;> rfl
def HdIn (w : World) (B : Nat) (h : Hd) : Prop := Bytes w B h.A h.n h.m.body ∧ h.n ≤ 140737488355328
theorem HdIn.keep {w w' : World} {B : Nat} {h : Hd} (H : HdIn w B h) (hk : ∀ p : Addr, p.block < B → w'.cell? p = w.cell? p) : HdIn w' B h := ⟨H.1.keep hk, H.2⟩
theorem HdIn.more {w : World} {B B' : Nat} {h : Hd} (H : HdIn w B h) (hB : B ≤ B') : HdIn w B' h := ⟨H.1.more hB, H.2⟩
theorem HdIn.below {w w' : World} {B B' : Nat} {h : Hd} (H : HdIn w B h) (hb : Below B' w w') (hB : B ≤ B') : HdIn w' B h := ⟨H.1.below hb hB, H.2⟩
theorem HdIn.later {w w' : World} {h : Hd} (H : HdIn w w.heap.size h) (hb : Below w.heap.size w w') : HdIn w' w'.heap.size h := ⟨H.1.later hb, H.2⟩
/-- the slice (A, n) holds messages, they and their bytes below block B -/
def MsgsIn (w : World) (B : Nat) (A : Option Addr) (n : Nat) (l : List Mg) : Prop := ∃ hs : List Hd, ColK 4 hdC w B A n hs ∧ (∀ h ∈ hs, HdIn w B h) ∧ hs.map Hd.m = l
section
variable {w w' : World} {B B' n : Nat} {A : Option Addr} {l : List Mg}
theorem MsgsIn.nil : MsgsIn w B A 0 [] := ⟨[], ColK.nil, fun h hh => (by cases hh), rfl⟩
theorem MsgsIn.len (h : MsgsIn w B A n l) : l.length = n := by
  obtain ⟨hs, h1, _, h3⟩ := h
  rw [← h3, List.length_map, h1.1]
theorem MsgsIn.keep (h : MsgsIn w B A n l) (hk : ∀ p : Addr, p.block < B → w'.cell? p = w.cell? p) : MsgsIn w' B A n l := by
  obtain ⟨hs, h1, h2, h3⟩ := h
  exact ⟨hs, h1.keep hk, fun x hx => (h2 x hx).keep hk, h3⟩
theorem MsgsIn.more (h : MsgsIn w B A n l) (hB : B ≤ B') : MsgsIn w B' A n l := by
  obtain ⟨hs, h1, h2, h3⟩ := h
  exact ⟨hs, h1.more hB, fun x hx => (h2 x hx).more hB, h3⟩
theorem MsgsIn.below (h : MsgsIn w B A n l) (hb : Below B' w w') (hB : B ≤ B') : MsgsIn w' B A n l := h.keep fun p hp => hb.cell (p := p) (by omega)
theorem MsgsIn.later (h : MsgsIn w w.heap.size A n l) (hb : Below w.heap.size w w') : MsgsIn w' w'.heap.size A n l := (h.below hb (Nat.le_refl _)).more hb.size
theorem MsgsIn.at_ {j : Nat} (h : MsgsIn w B A n l) (hj : j < n) : ∃ b o x, A = some ⟨b, o, none⟩ ∧ b < B ∧ l[j]? = some x.m ∧ l.take (j + 1) = l.take j ++ [x.m] ∧ w.rangeAt b (o + j * 4) (hdC x) ∧ HdIn w B x := by
  obtain ⟨hs, h1, h2, rfl⟩ := h
  obtain ⟨b, o, x, rfl, hb, hx, ht, hr⟩ := h1.at_ hj
  have hx' : (hs.map Hd.m)[j]? = some x.m := by rw [List.getElem?_map, hx]; rfl
  exact ⟨b, o, x, rfl, hb, hx', take_snoc_l _ _ _ hx', hr, h2 x (List.mem_of_getElem? hx)⟩
end
/-- a slice of messages of one's own, from block base on, their bytes too -/
def OwnM (w : World) (base : Nat) (A : Option Addr) (n c : Nat) (l : List Mg) : Prop := ∃ hs : List Hd, OwnK 4 hdC w base 27 A n c hs ∧ (∀ h ∈ hs, OwnB w base 5 h.A h.n h.c h.m.body) ∧ hs.map Hd.m = l
theorem ownsB_kept {w w' : World} {base : Nat} {e : TypeId} {k : Nat} {v : Value} {n : Nat} {xs : List Value} {row : Option Nat} (h : w.ownsRow base e k v n xs) (hg : w.grownBy w' row) (hne : ∀ b cs fr, row = some b → base ≤ b → w.heap[b]? ≠ some (.cells cs e fr)) : w'.ownsRow base e k v n xs := by
  refine ⟨h.1, ?_⟩
  rcases h.2 with h0 | ⟨g, cap, cur, hv, hg', hh, r⟩
  · exact .inl h0
  · exact .inr ⟨g, cap, cur, hv, hg', (hg.block g (Array.getElem?_eq_some_iff.1 hh).1 (fun q => hne g _ _ q.symm hg' hh)).trans hh, r⟩
theorem ownsB_type {w : World} {base : Nat} {e e' : TypeId} {k : Nat} {v : Value} {n : Nat} {xs : List Value} (h : w.ownsRow base e k v n xs) (hee : e ≠ e') : ∀ b cs fr, v.ownBlock = some b → w.heap[b]? ≠ some (.cells cs e' fr) := by
  intro b cs fr hb hh
  rcases h.2 with ⟨rfl, _⟩ | ⟨g, cap, cur, rfl, _, hg, _⟩
  · cases hb
  · cases hb
    rw [hg] at hh
    injection hh with hh
    injection hh with _ h2 _
    exact hee h2
theorem info_msg : (Try.prog.info? 27).map (fun i => (i.zero, i.size, i.bytes)) = some (some (.agg #[.int .i64 0, .int .i64 0, .int .i64 0, .slice none 0 0]), 4, 48) := by kernel_rfl
theorem grownBy_cell (w : World) (b i : Nat) (v : Value) : w.grownBy (w.setCell ⟨b, i, none⟩ v) (some b) :=
  ⟨rfl, rfl, rfl, by simp [World.setCell], fun k hk hne => Below.heap_setCell w ⟨b, i, none⟩ v k (fun e => hne (by rw [e]))⟩
section
variable {w w' : World} {base n c : Nat} {A : Option Addr} {l : List Mg}
theorem OwnM.nil : OwnM w base none 0 0 [] := ⟨[], OwnK.nil hdC_len, fun h hh => (by cases hh), rfl⟩
theorem OwnM.empty (w : World) : OwnM (w.alloc (.cells #[] 27)) w.heap.size (some ⟨w.heap.size, 0, none⟩) 0 0 [] := ⟨[], OwnK.empty hdC_len w 27, fun h hh => (by cases hh), rfl⟩
theorem OwnM.len (h : OwnM w base A n c l) : l.length = n := by
  obtain ⟨hs, h1, _, h3⟩ := h
  rw [← h3, List.length_map, h1.len]
theorem OwnM.cap (h : OwnM w base A n c l) : n ≤ c ∧ c ≤ maxLen := by
  obtain ⟨hs, h1, _, h3⟩ := h
  exact h1.cap
theorem OwnM.below (h : OwnM w base A n c l) (hb : Below w.heap.size w w') : OwnM w' base A n c l := by
  obtain ⟨hs, h1, h2, h3⟩ := h
  exact ⟨hs, h1.below hb, fun x hx => (h2 x hx).below hb, h3⟩
theorem OwnM.from_ {base' : Nat} (h : OwnM w base A n c l) (hb : base' ≤ base) : OwnM w base' A n c l := by
  obtain ⟨hs, h1, h2, h3⟩ := h
  exact ⟨hs, h1.from_ hb, fun x hx => (h2 x hx).base_le hb, h3⟩
theorem OwnM.kept {row : Option Nat} (h : OwnM w base A n c l) (hg : w.grownBy w' row) (hne : ∀ b cs t fr, row = some b → base ≤ b → w.heap[b]? = some (.cells cs t fr) → t ≠ 27 ∧ t ≠ 5) : OwnM w' base A n c l := by
  obtain ⟨hs, h1, h2, h3⟩ := h
  refine ⟨hs, ⟨ownsB_kept h1.1 hg (fun b cs fr e hb hh => (hne b cs _ fr e hb hh).1 rfl), h1.2⟩, fun x hx => ⟨ownsB_kept (h2 x hx).1 hg (fun b cs fr e hb hh => (hne b cs _ fr e hb hh).2 rfl), (h2 x hx).2⟩, h3⟩
theorem OwnM.far {b : Nat} (h : OwnM w base A n c l) (hg : w.grownBy w' (some b)) (hb : b < base) : OwnM w' base A n c l :=
  h.kept hg fun b' cs t fr e hb' _ => by injection e with e; omega
theorem OwnM.boxed {b : Nat} {cs : Array Value} {t : TypeId} (h : OwnM w base A n c l) (hg : w.grownBy w' (some b)) (hb : Bk w b t cs) (ht : t ≠ 27 ∧ t ≠ 5) : OwnM w' base A n c l :=
  h.kept hg fun b' cs' t' fr e _ hh => by
    injection e with e
    subst e
    unfold Bk at hb
    rw [hb] at hh
    injection hh with hh
    injection hh with _ h2 _
    rw [← h2]; exact ht
theorem OwnM.msgs (h : OwnM w base A n c l) (hl : ∀ m ∈ l, m.body.length ≤ 140737488355328) : MsgsIn w w.heap.size A n l := by
  obtain ⟨hs, h1, h2, rfl⟩ := h
  refine ⟨hs, h1.col, fun x hx => ⟨(h2 x hx).bytes, ?_⟩, rfl⟩
  rw [← (h2 x hx).len]
  exact hl x.m (List.mem_map.2 ⟨x, hx, rfl⟩)
/-- message j of one's own -/
theorem OwnM.at_ {j : Nat} (h : OwnM w base A n c l) (hj : j < n) : ∃ g x, A = some ⟨g, 0, none⟩ ∧ base ≤ g ∧ g < w.heap.size ∧ l[j]? = some x.m ∧ l.take (j + 1) = l.take j ++ [x.m] ∧ w.rangeAt g (j * 4) (hdC x) ∧ OwnB w base 5 x.A x.n x.c x.m.body := by
  obtain ⟨hs, h1, h2, rfl⟩ := h
  obtain ⟨g, rfl, hg, hl, hr⟩ := h1.range (by omega)
  have hj' : j < hs.length := by rw [h1.len]; exact hj
  have hx : hs[j]? = some hs[j] := List.getElem?_eq_getElem hj'
  have hx' : (hs.map Hd.m)[j]? = some hs[j].m := by rw [List.getElem?_map, hx]; rfl
  exact ⟨g, hs[j], rfl, hg, hl, hx', take_snoc_l _ _ _ hx', hr j _ hx, h2 _ (List.mem_of_getElem? hx)⟩
end
section
variable {P : Program} {α : Type} {k : Nat} {f : α → List Value}
/-- append(s, v): and where the answer lies -/
theorem wpList_append_at {ops : Array Oper} {rest : List Oper} {o : Oper} {a : Act} {w : World} {Q : Exit → Act → World → Prop} (hgd : o.guard = none) (s x : Operand) (t : TypeId)
    (ho : o.op = .call { callee := .builtin .append, args := #[s, x], argTypes := #[t, t] }) {e : TypeId} (ht : P.underlying t = some (.slice e)) {zv : Value} {by_ : Nat}
    (he : (P.info? e).map (fun i => (i.zero, i.size, i.bytes)) = some (some zv, k, by_)) (hzc : zv.cells.size = k) (hk0 : 0 < k) (hby : by_ ≤ 100)
    (base : Nat) (A : Option Addr) (n c : Nat) (l : List α) (hs : a.eval s = .slice A n c) (hown : OwnK k f w base e A n c l)
    (b off : Nat) (v : α) (hx : a.eval x = .slice (some ⟨b, off, none⟩) 1 1) (hc : w.rangeAt b off (f v)) (hv : ∀ u ∈ f v, u.oneCell' = true) (hn : n ≤ 1000000) (hbase : base ≤ w.heap.size)
    (h : ∀ A2 c2 w', OwnK k f w' base e A2 (n + 1) c2 (l ++ [v]) → Below base w w' → w.grownBy w' (Value.slice A n c).ownBlock → ((Value.slice A2 (n + 1) c2).ownBlock = (Value.slice A n c).ownBlock ∨ (Value.slice A2 (n + 1) c2).ownBlock = some w.heap.size) → wpList P ops Q rest (a.put o.dst (.slice A2 (n + 1) c2)) w') : wpList P ops Q (o :: rest) a w :=
  wpList_plain hgd fun _ hK => by
    obtain ⟨i, hi, hz, hs', hby'⟩ := info_parts he
    obtain ⟨v', w', hrun, h1, h2, _, h4⟩ := run_append_own_at (P := P) w base t o.type e i zv k by_ ht hi hz hs' hby' hzc hk0 (.slice A n c) n (l.flatMap f) hown.1 ⟨b, off, none⟩ 1 1 (f v) (by rw [hown.2.2, Nat.one_mul])
      (fun j u hu => by rw [Addr.add_mid]; exact hc j u hu) hv (by unfold maxLen; omega) (Nat.le_trans (Nat.mul_le_mul_left _ hby) (by omega)) hbase
    have hsh : ∃ A2 c2, v' = .slice A2 (n + 1) c2 := by
      rcases h1.2 with ⟨rfl, h0⟩ | ⟨g, cap, cur, rfl, _⟩
      · omega
      · exact ⟨_, _, rfl⟩
    obtain ⟨A2, c2, rfl⟩ := hsh
    unfold Oper.wp execOp
    simp only [ho, resolve, invoke, builtin, Sem.run_bind, Sem.run_pure, Result.andThen_ok, List.map_toArray, List.map_cons, List.map_nil, hs, hx, hrun]
    refine hK _ _ (h A2 c2 w' ⟨?_, by rw [List.length_append, hown.len]; rfl, hown.2.2⟩ ((Below.refl _ _).grown h2 hbase (fun k hk => (hown.1.lt k hk).1)) h2 h4)
    rw [List.flatMap_append, List.flatMap_singleton]
    exact h1
end
/-- append(msgs, m), all of one's own: the message lies in a new block -/
theorem wpList_append_m {ops : Array Oper} {rest : List Oper} {o : Oper} {a : Act} {w : World} {Q : Exit → Act → World → Prop} (hgd : o.guard = none) (s x : Operand)
    (ho : o.op = .call { callee := .builtin .append, args := #[s, x], argTypes := #[22, 22] })
    (base : Nat) (A : Option Addr) (n c : Nat) (l : List Mg) (hs : a.eval s = .slice A n c) (hown : OwnM w base A n c l)
    (b off : Nat) (v : Hd) (hx : a.eval x = .slice (some ⟨b, off, none⟩) 1 1) (hc : w.rangeAt b off (hdC v)) (hv : OwnB w base 5 v.A v.n v.c v.m.body) (hn : n ≤ 1000000) (hbase : base ≤ w.heap.size)
    (h : ∀ A2 c2 w', OwnM w' base A2 (n + 1) c2 (l ++ [v.m]) → Below base w w' → w.grownBy w' (Value.slice A n c).ownBlock → wpList Try.prog ops Q rest (a.put o.dst (.slice A2 (n + 1) c2)) w') : wpList Try.prog ops Q (o :: rest) a w := by
  obtain ⟨us, h1, h2, rfl⟩ := hown
  refine wpList_append_k (k := 4) (f := hdC) hgd s x 22 ho Try.underlying22 info_msg rfl (by omega) (by omega) base A n c us hs h1 b off v hx hc (hdC_one v) hn hbase ?_
  intro A2 c2 w' ho2 hb2 hg2
  have hne := ownsB_type h1.1 (show 27 ≠ 5 by decide)
  refine h A2 c2 w' ⟨us ++ [v], ho2, fun y hy => ?_, by rw [List.map_append]; rfl⟩ hb2 hg2
  have hall : OwnB w base 5 y.A y.n y.c y.m.body := by
    rcases List.mem_append.1 hy with hy | hy
    · exact h2 y hy
    · rw [List.mem_singleton.1 hy]; exact hv
  exact ⟨ownsB_kept hall.1 hg2 (fun b cs fr e _ => hne b cs fr e), hall.2⟩
/-- a mailbox as a value -/
def BxV (b : Bx) (A : Option Addr) (n c : Nat) : Value := .agg #[.string b.name, .int .i64 b.valid, .int .i64 b.next, .slice A n c]
end Go.Proofs.Ythmlgbeonmpbjaa
