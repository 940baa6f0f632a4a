/-
  The law RecordLinks' memory: a list of events that came in; records and chains of one's own.
-/
import Derived.Test.YtoiffchhfnbooaaDoorQRecMath
import Derived.Test.YtoiffchhfnbooaaDoorQLaid
import Derived.Test.YtoiffchhfnbooaaDoorQRecH
import Derived.Test.YtoiffchhfnbooaaDoorQNameB
import Derived.Test.YtoiffchhfnbooaaDoorQEventM
import Derived.Great.BuildSlice
namespace Go.Proofs.YtoiffchhfnbooaaDoor
set_option linter.unusedVariables false
set_option linter.unusedSimpArgs false
open Go.RowKit
set_option linter.unusedVariables false
set_option linter.unusedSimpArgs false

def evL (h : Eh) : List Value := (evC h).toList
theorem EvIn.keep15 {w w' : World} {B : Nat} {h : Eh} (H : EvIn w B h) (hk : ∀ p : Addr, p.block < B → w'.cell? p = w.cell? p) : EvIn w' B h := ⟨H.1.keep hk, H.2.1.keep hk, H.2.2.1.keep hk, H.2.2.2⟩
def EvsIn (w : World) (B : Nat) (A : Option Addr) (n : Nat) (l : List Eh) : Prop := ColK 11 evL w B A n l ∧ ∀ h ∈ l, EvIn w B h
theorem EvsIn.later {w w' : World} {A : Option Addr} {n : Nat} {l : List Eh} (h : EvsIn w w.heap.size A n l) (hb : Below w.heap.size w w') : EvsIn w' w'.heap.size A n l := ⟨h.1.later hb, fun x hx => (h.2 x hx).later hb⟩
theorem EvsIn.at_ {w : World} {B n j : Nat} {A : Option Addr} {l : List Eh} (h : EvsIn w B A n l) (hj : j < n) : ∃ b o x, A = some ⟨b, o, none⟩ ∧ b < B ∧ l[j]? = some x ∧ w.rangeAt b (o + j * 11) (evC x).toList ∧ EvIn w B x := by
  obtain ⟨b, o, x, rfl, hb, hx, _, hr⟩ := h.1.at_ hj
  exact ⟨b, o, x, rfl, hb, hx, hr, h.2 x (List.mem_of_getElem? hx)⟩
theorem opensEvs : Opens Tryd.prog 22 evRel.slice := opens_slice Tryd.underlying22 (by kernel_rfl) (by decide) (by rw [show Tryd.prog.bytesOf 34 = 152 from by kernel_rfl]; omega) opensEv
theorem evs_of {w : World} {B : Nat} {A : Option Addr} {n c : Nat} {l : List Eh} (h : evRel.slice.R w B [.slice A n c] l) : EvsIn w B A n l ∧ n ≤ 140737488355328 := by
  obtain ⟨A1, n1, c1, e, h1, h2, h3, h4, h5⟩ := h
  injection e with e _
  injection e with e1 e2 e3
  subst e1; subst e2; subst e3
  refine ⟨⟨⟨h4, fun hn => ?_⟩, fun x hx => ?_⟩, h3⟩
  · obtain ⟨b, o, e, hb, hr⟩ := h5 hn
    refine ⟨b, o, e, hb, fun i a ha => ?_⟩
    obtain ⟨cs, hc, hcs⟩ := hr i a ha
    rw [show cs = evL a from hcs.1] at hc
    exact hc
  · obtain ⟨i, hi⟩ := List.getElem?_of_mem hx
    have hn : 0 < n := by
      have := (List.getElem?_eq_some_iff.1 hi).1
      omega
    obtain ⟨b, o, e, hb, hr⟩ := h5 hn
    obtain ⟨cs, hc, hcs⟩ := hr i x hi
    exact hcs.2
/-! ### Chains and records of one's own -/
def chL (c : { c : Ch // c.Ok }) : List Value := (chC c.1).toList
theorem chL_len (c : { c : Ch // c.Ok }) : (chL c).length = 33 := by unfold chL; rw [Array.length_toList, chC_size c.2]
theorem chL_one (c : { c : Ch // c.Ok }) : ∀ u ∈ chL c, u.oneCell' = true := chC_one c.1
def oneV (v : Value) : List Value := [v]
theorem oneV_len (v : Value) : (oneV v).length = 1 := rfl
theorem info_chK : (Tryd.prog.info? 26).map (fun i => (i.zero, i.size, i.bytes)) = some (some (.agg (chC ch0)), 33, 40) := by kernel_rfl
theorem info_bytesK15 : (Tryd.prog.info? 32).map (fun i => (i.zero, i.size, i.bytes)) = some (some (.slice none 0 0), 1, 24) := by kernel_rfl
theorem fill_ch {c : Ch} (hc : c.Ok) (z : Value) : Instr.fill (fun i => some (i * 33, 33)) ((Array.range (1 * 33)).map (z.cells[· % z.cells.size]!)) [(0, .agg (chC c))] = some (chC c) := by
  have hl : (chC c).size = 33 := chC_size hc
  generalize hb : (Array.range (1 * 33)).map (z.cells[· % z.cells.size]!) = base
  have hbs : base.size = 33 := by rw [← hb]; simp
  have h1 := fold_set15 0 (chC c).toList 0 base (by rw [hbs, Array.length_toList, hl]; omega)
  have hcc : (Value.agg (chC c)).cells = chC c := rfl
  unfold Instr.fill
  simp only [hcc, hl, hbs]
  show (if (33 ≠ 33 || 0 * 33 + 33 > 33) = true then none else Instr.fill _ _ []) = _
  simp only [Instr.fill]
  refine congrArg some ?_
  apply Array.ext'
  have h2 : ((chC c).zipIdx.foldl (fun (cs : Array Value) (y : Value × Nat) => cs.setIfInBounds (0 + y.2) y.1) base).toList = splice base.toList (0 + 0) (chC c).toList := by
    rw [← Array.foldl_toList, Array.toList_zipIdx]
    rw [h1]
  have h3 : splice base.toList (0 + 0) (chC c).toList = (chC c).toList := splice_all (by rw [Array.length_toList, Array.length_toList, hl, hbs])
  rw [h3] at h2
  simpa using h2
theorem wp_bslice_ch {o : Oper} {a : Act} {w : World} {K : Act → World → Prop} {Q : Exit → Act → World → Prop} (x : Operand) (ho : o.op = .buildSlice 28 1 #[(0, x)]) (c : Ch) (hx : a.eval x = .agg (chC c)) (hc : c.Ok)
    (hK : K (a.put o.dst (.slice (some ⟨w.heap.size, 0, none⟩) 1 1)) (w.alloc (.cells (chC c) 26))) : o.wp Tryd.prog a w K Q := by
  obtain ⟨ie, hie, hiz, his, hib⟩ := info_parts info_chK
  refine wp_buildSlice 28 26 1 #[(0, x)] ho (chC c) ie (.agg (chC ch0)) Tryd.underlying28 hie hiz (by rw [his]; omega) (by rw [his]; omega) ?_ hK
  have e : (Array.map (fun (y : Nat × Operand) => match y with | (i, x) => (i, a.eval x)) #[(0, x)]).toList = [(0, .agg (chC c))] := by simp [hx]
  rw [his, e]
  exact fill_ch hc _
def RecsIn (w : World) (base : Nat) (us : List Value) (l : List Rc) : Prop :=
  us.length = l.length ∧ ∀ (i : Nat) (r : Rc), l[i]? = some r → ∃ A n c, us[i]? = some (.slice A n c) ∧ n ≤ 1000000 ∧ OwnB w base 5 A n c r.bytes
theorem RecsIn.below {w w' : World} {base : Nat} {us : List Value} {l : List Rc} (h : RecsIn w base us l) (hb : Below w.heap.size w w') : RecsIn w' base us l :=
  ⟨h.1, fun i r hr => by
    obtain ⟨A, n, c, h1, h2, h3⟩ := h.2 i r hr
    exact ⟨A, n, c, h1, h2, h3.below hb⟩⟩
theorem RecsIn.nil (w : World) (B : Nat) : RecsIn w B [] [] := ⟨rfl, fun i r h => by simp at h⟩
theorem RecsIn.snoc {w : World} {B : Nat} {us : List Value} {l : List Rc} (h : RecsIn w B us l) {A : Option Addr} {n c : Nat} {r : Rc} (h1 : n ≤ 1000000) (h4 : OwnB w B 5 A n c r.bytes) : RecsIn w B (us ++ [.slice A n c]) (l ++ [r]) := by
  refine ⟨by rw [List.length_append, List.length_append, h.1]; rfl, fun i x hx => ?_⟩
  by_cases hi : i < l.length
  · rw [List.getElem?_append_left hi] at hx
    rw [List.getElem?_append_left (by rw [h.1]; exact hi)]
    exact h.2 i x hx
  · rw [List.getElem?_append_right (by omega)] at hx
    have hil : i < l.length + 1 := by
      have := (List.getElem?_eq_some_iff.1 hx).1
      simp only [List.length_singleton] at this
      omega
    obtain rfl : i = l.length := by omega
    rw [Nat.sub_self] at hx
    cases hx
    rw [List.getElem?_append_right (by rw [h.1]; exact Nat.le_refl _), h.1, Nat.sub_self]
    exact ⟨A, n, c, rfl, h1, h4⟩
/-- slices of one's own of unlike types lie apart -/
theorem row_apart15 {k m : Nat} {w : World} {base base2 n1 c1 n2 c2 : Nat} {e1 e2 : TypeId} {A1 A2 : Option Addr} {l1 l2 : List Value} (h1 : w.ownsRow base e1 k (.slice A1 n1 c1) n1 l1) (h2 : w.ownsRow base2 e2 m (.slice A2 n2 c2) n2 l2) (hne : e1 ≠ e2) :
    (Value.slice A2 n2 c2).ownBlock = none ∨ (Value.slice A2 n2 c2).ownBlock ≠ (Value.slice A1 n1 c1).ownBlock := by
  rcases h2.2 with ⟨hv, _⟩ | ⟨g2, cap2, cur2, hv2, _, hh2, _⟩
  · left; rw [hv]; rfl
  · right
    rcases h1.2 with ⟨hv, _⟩ | ⟨g1, cap1, cur1, hv1, _, hh1, _⟩
    · rw [hv, hv2]; simp [Value.ownBlock]
    · rw [hv1, hv2]
      intro e
      have e' : g2 = g1 := by simpa [Value.ownBlock] using e
      subst e'
      rw [hh1] at hh2
      injection hh2 with hh2
      injection hh2 with _ ht
      exact hne ht
theorem Bk.keptR {w w' : World} {b : Nat} {t : TypeId} {cs : Array Value} {row : Option Nat} (h : Bk w b t cs) (hg : w.grownBy w' row) (hne : some b ≠ row) : Bk w' b t cs := (hg.block b h.lt hne).trans h
theorem RecsIn.keptR {w w' : World} {base n1 c1 k : Nat} {e1 : TypeId} {A1 : Option Addr} {l1 : List Value} {us : List Value} {l : List Rc} (h : RecsIn w base us l) (h1 : w.ownsRow base e1 k (.slice A1 n1 c1) n1 l1) (hne : e1 ≠ 5) (hg : w.grownBy w' (Value.slice A1 n1 c1).ownBlock) : RecsIn w' base us l :=
  ⟨h.1, fun i r hr => by
    obtain ⟨A, n, c, q1, q2, q3⟩ := h.2 i r hr
    exact ⟨A, n, c, q1, q2, q3.1.kept hg (row_apart15 h1 q3.1 hne), q3.2⟩⟩
theorem own_row15 {w : World} {base n c g : Nat} {e t : TypeId} {A : Option Addr} {l : List Nat} {cs : Array Value} (h : OwnB w base e A n c l) (hg : Bk w g t cs) (hne : e ≠ t) (cs' : Array Value) : OwnB (w.setRow g cs') base e A n c l := by
  refine ⟨h.1.kept (grownBy_setRow hg cs') ?_, h.2⟩
  rcases h.1.2 with ⟨hv, _⟩ | ⟨g2, cap2, cur2, hv2, _, hh2, _⟩
  · left; rw [hv]; rfl
  · right
    rw [hv2]
    intro e'
    have e2 : g2 = g := by simpa [Value.ownBlock] using e'
    subst e2
    rw [show w.heap[g2]? = _ from hg] at hh2
    injection hh2 with hh2
    injection hh2 with _ ht
    exact hne ht.symm
/-- what holds between the rounds -/
structure LkSt (w : World) (b5 : Nat) (rs : List Rc) (cur : Ch) (us : List Value) (n6 n7 : Nat) (L7 : List { c : Ch // c.Ok }) (A6 : Option Addr) (c6 : Nat) (A7 : Option Addr) (c7 : Nat) (W : World) : Prop where
  bx : Bk W b5 26 (chC cur)
  rec_ : OwnK 1 oneV W (b5 + 1) 32 A6 n6 c6 us
  ins : ∃ us0, RecsIn W (b5 + 1) us0 rs ∧ us0 <+: us
  chn : OwnK 33 chL W (b5 + 1) 26 A7 n7 c7 L7
  lo : w.heap.size ≤ b5
  hb : Below w.heap.size w W
section
variable {w W W' : World} {b5 n6 n7 c6 c7 : Nat} {rs : List Rc} {cur : Ch} {us : List Value} {L7 : List { c : Ch // c.Ok }} {A6 A7 : Option Addr}
theorem LkSt.next (h : LkSt w b5 rs cur us n6 n7 L7 A6 c6 A7 c7 W) (hb : Below W.heap.size W W') : LkSt w b5 rs cur us n6 n7 L7 A6 c6 A7 c7 W' :=
  ⟨h.bx.below hb h.bx.lt, h.rec_.below hb, by obtain ⟨u, h1, h2⟩ := h.ins; exact ⟨u, h1.below hb, h2⟩, h.chn.below hb, h.lo, h.hb.trans (hb.mono h.hb.size)⟩
theorem LkSt.app6 (h : LkSt w b5 rs cur us n6 n7 L7 A6 c6 A7 c7 W) {s : Nat} {v : Value} (hs : Bk W s 32 #[v]) (hv : v.oneCell' = true) (hn : n6 ≤ 1000) (ty : TypeId) :
    ∃ A6' c6' W', (Builtin.append_ #[27, 27] ty #[.slice A6 n6 c6, .slice (some ⟨s, 0, none⟩) 1 1]).run Tryd.prog W = .ok (.slice A6' (n6 + 1) c6') W' ∧ LkSt w b5 rs cur (us ++ [v]) (n6 + 1) n7 L7 A6' c6' A7 c7 W' ∧ W.grownBy W' (Value.slice A6 n6 c6).ownBlock := by
  obtain ⟨A2, c2, w', hrun, ho, hb, hg⟩ := run_append_ks (P := Tryd.prog) (c' := 1) h.rec_ 27 ty Tryd.underlying27 info_bytesK15 rfl (by omega) (by omega) (us := [v]) (B := s + 1) (A' := some ⟨s, 0, none⟩) (m := 1)
    ⟨rfl, fun _ => ⟨s, 0, rfl, Nat.lt_succ_self _, fun i a ha => by
      match i, ha with
      | 0, ha => cases ha; exact fun j u hu => by rw [Nat.zero_mul, Nat.zero_add, hs.cell]; simpa [oneV] using hu⟩⟩ (fun u hu x hx => by rw [List.mem_singleton.1 hu] at hx; rw [List.mem_singleton.1 hx]; exact hv) (by omega) h.bx.lt
  have hne : some b5 ≠ (Value.slice A6 n6 c6).ownBlock := fun e => by have := (h.rec_.1.lt b5 e.symm).1; omega
  refine ⟨A2, c2, w', hrun, ⟨h.bx.keptR hg hne, ho, ?_, ⟨h.chn.1.kept hg (row_apart15 h.rec_.1 h.chn.1 (by decide)), h.chn.2⟩, h.lo, h.hb.trans (hb.mono (by have := h.lo; omega))⟩, hg⟩
  obtain ⟨u, h1, h2⟩ := h.ins
  exact ⟨u, h1.keptR h.rec_.1 (by decide) hg, h2.trans (List.prefix_append _ _)⟩
theorem LkSt.app7 (h : LkSt w b5 rs cur us n6 n7 L7 A6 c6 A7 c7 W) {s : Nat} (x : { c : Ch // c.Ok }) (hs : Bk W s 26 (chC x.1)) (hn : n7 ≤ 1000) (ty : TypeId) :
    ∃ A7' c7' W', (Builtin.append_ #[28, 28] ty #[.slice A7 n7 c7, .slice (some ⟨s, 0, none⟩) 1 1]).run Tryd.prog W = .ok (.slice A7' (n7 + 1) c7') W' ∧ LkSt w b5 rs cur us n6 (n7 + 1) (L7 ++ [x]) A6 c6 A7' c7' W' ∧ W.grownBy W' (Value.slice A7 n7 c7).ownBlock := by
  obtain ⟨A2, c2, w', hrun, ho, hb, hg⟩ := run_append_ks (P := Tryd.prog) (c' := 1) h.chn 28 ty Tryd.underlying28 info_chK (chC_size ch0_ok) (by omega) (by omega) (us := [x]) (B := s + 1) (A' := some ⟨s, 0, none⟩) (m := 1)
    ⟨rfl, fun _ => ⟨s, 0, rfl, Nat.lt_succ_self _, fun i a ha => by
      match i, ha with
      | 0, ha => cases ha; exact fun j u hu => by rw [Nat.zero_mul]; exact hs.range j u hu⟩⟩ (fun u hu y hy => by rw [List.mem_singleton.1 hu] at hy; exact chL_one x y hy) (by omega) h.bx.lt
  have hne : some b5 ≠ (Value.slice A7 n7 c7).ownBlock := fun e => by have := (h.chn.1.lt b5 e.symm).1; omega
  refine ⟨A2, c2, w', hrun, ⟨h.bx.keptR hg hne, ⟨h.rec_.1.kept hg (row_apart15 h.chn.1 h.rec_.1 (by decide)), h.rec_.2⟩, ?_, ho, h.lo, h.hb.trans (hb.mono (by have := h.lo; omega))⟩, hg⟩
  obtain ⟨u, h1, h2⟩ := h.ins
  exact ⟨u, h1.keptR h.chn.1 (by decide) hg, h2⟩
theorem LkSt.store (h : LkSt w b5 rs cur us n6 n7 L7 A6 c6 A7 c7 W) (X : Ch) : LkSt w b5 rs X us n6 n7 L7 A6 c6 A7 c7 (W.setRow b5 (chC X)) := by
  have hg := grownBy_setRow h.bx (chC X)
  have n6' : (Value.slice A6 n6 c6).ownBlock = none ∨ (Value.slice A6 n6 c6).ownBlock ≠ some b5 := .inr fun e => by have := (h.rec_.1.lt b5 e).1; omega
  have n7' : (Value.slice A7 n7 c7).ownBlock = none ∨ (Value.slice A7 n7 c7).ownBlock ≠ some b5 := .inr fun e => by have := (h.chn.1.lt b5 e).1; omega
  refine ⟨h.bx.setRow_same _, ⟨h.rec_.1.kept hg n6', h.rec_.2⟩, ?_, ⟨h.chn.1.kept hg n7', h.chn.2⟩, h.lo, below_setRow h.hb h.lo _⟩
  obtain ⟨u, h1, h2⟩ := h.ins
  refine ⟨u, ⟨h1.1, fun i r hr => ?_⟩, h2⟩
  obtain ⟨A, n, c, q1, q2, q3⟩ := h1.2 i r hr
  exact ⟨A, n, c, q1, q2, own_row15 q3 h.bx (by decide) _⟩
/-- a record and its chain more -/
theorem LkSt.more (h : LkSt w b5 rs cur us n6 n7 L7 A6 c6 A7 c7 W) {r : Rc} {A9 : Option Addr} {N9 k9 : Nat} {us0 : List Value} (hu : us = us0 ++ [.slice A9 N9 k9]) (hl : us0.length = rs.length) (hn : N9 ≤ 1000000) (ho : OwnB W (b5 + 1) 5 A9 N9 k9 r.bytes) : LkSt w b5 (rs ++ [r]) cur us n6 n7 L7 A6 c6 A7 c7 W := by
  refine ⟨h.bx, h.rec_, ?_, h.chn, h.lo, h.hb⟩
  obtain ⟨u, h1, h2⟩ := h.ins
  have hu0 : u = us0 := by
    rw [hu] at h2
    obtain ⟨t, ht⟩ := h2
    have := congrArg (List.take rs.length) ht
    rw [List.take_append_of_le_length (by rw [h1.1]; exact Nat.le_refl _), List.take_append_of_le_length (by rw [hl]; exact Nat.le_refl _), List.take_of_length_le (by rw [h1.1]; exact Nat.le_refl _), List.take_of_length_le (by rw [hl]; exact Nat.le_refl _)] at this
    exact this
  subst hu0
  exact ⟨us, by rw [hu]; exact h1.snoc hn ho, List.prefix_refl _⟩
end
end Go.Proofs.YtoiffchhfnbooaaDoor
