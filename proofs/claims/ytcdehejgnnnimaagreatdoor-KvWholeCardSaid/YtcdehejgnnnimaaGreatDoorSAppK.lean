/-
 A part of the proof: see the last text.
-/
import Derived.Test.YtcdehejgnnnimaaGreatDoorSKvRise
import Derived.Test.YtcdehejgnnnimaaGreatDoorSRowK
import Derived.Test.YtcdehejgnnnimaaGreatDoorSAppV
namespace Go.Proofs.YtcdehejgnnnimaaGreatDoor
set_option linter.unusedVariables false
set_option linter.unusedSimpArgs false
open Go.RowKit
set_option linter.unusedVariables false
set_option linter.unusedSimpArgs false
def Spot (l : List Pr) (x : ByteArray) (k : Nat) : Prop := k ≤ l.length ∧ (∀ p ∈ l.take k, ltK p.1 x) ∧ ∀ p, l[k]? = some p → ¬ ltK p.1 x
theorem rising_parts {a b : List Pr} (h : Rising (a ++ b)) : Rising a ∧ Rising b ∧ ∀ p ∈ a, ∀ q ∈ b, ltK p.1 q.1 := List.pairwise_append.1 h
theorem fn_none {l : List Pr} {f : Fn} {x : ByteArray} (h : Lists l f) (hn : ∀ p ∈ l, p.1 ≠ x) : f x = none := by
 cases hf : f x with
 | none => rfl
 | some v => exact absurd rfl (hn (x, v) ((h.2 x v).2 hf))
theorem updF_same {f : Fn} {x : ByteArray} (h : f x = none) : updF f x none = f := by
 funext s
 unfold updF
 by_cases hs : s = x
 ·rw [if_pos hs, hs, h]
 ·rw [if_neg hs]
theorem updF_twice (f : Fn) (x : ByteArray) (o o' : Option ByteArray) : updF (updF f x o) x o' = updF f x o' := by
 funext s
 unfold updF
 by_cases hs : s = x
 ·rw [if_pos hs, if_pos hs]
 ·rw [if_neg hs, if_neg hs, if_neg hs]
theorem lists_del {a b : List Pr} {x u : ByteArray} {f : Fn} (h : Lists (a ++ (x, u) :: b) f) : Lists (a ++ b) (updF f x none) ∧ (∀ p ∈ a, ltK p.1 x) ∧ ∀ p ∈ b, ltK x p.1 := by
 obtain ⟨ha, hb, hab⟩ := rising_parts h.1
 obtain ⟨hxb, hb'⟩ := List.pairwise_cons.1 hb
 have hA : ∀ p ∈ a, ltK p.1 x := fun p hp => hab p hp (x, u) (List.mem_cons_self ..)
 have hB : ∀ p ∈ b, ltK x p.1 := fun p hp => hxb p hp
 refine ⟨⟨List.pairwise_append.2 ⟨ha, hb', fun p hp q hq => hab p hp q (List.mem_cons_of_mem _ hq)⟩, fun k v => ?_⟩, hA, hB⟩
 unfold updF
 by_cases hk : k = x
 ·subst hk
  rw [if_pos rfl]
  constructor
  ·intro hm
   rcases List.mem_append.1 hm with hm | hm
   ·exact absurd (hA _ hm) (ltK_irrefl _)
   ·exact absurd (hB _ hm) (ltK_irrefl _)
  ·intro hm; cases hm
 ·rw [if_neg hk, ← h.2 k v]
  constructor
  ·intro hm
   rcases List.mem_append.1 hm with hm | hm
   ·exact List.mem_append_left _ hm
   ·exact List.mem_append_right _ (List.mem_cons_of_mem _ hm)
  ·intro hm
   rcases List.mem_append.1 hm with hm | hm
   ·exact List.mem_append_left _ hm
   ·rcases List.mem_cons.1 hm with hm | hm
    ·injection hm with h1 _; exact absurd h1 hk
    ·exact List.mem_append_right _ hm
theorem lists_ins {a b : List Pr} {x v : ByteArray} {f : Fn} (h : Lists (a ++ b) f) (hA : ∀ p ∈ a, ltK p.1 x) (hB : ∀ p ∈ b, ltK x p.1) : Lists (a ++ (x, v) :: b) (updF f x (some v)) := by
 obtain ⟨ha, hb, hab⟩ := rising_parts h.1
 refine ⟨List.pairwise_append.2 ⟨ha, List.pairwise_cons.2 ⟨fun p hp => hB p hp, hb⟩, fun p hp q hq => ?_⟩, fun k u => ?_⟩
 ·rcases List.mem_cons.1 hq with hq | hq
  ·rw [hq]; exact hA p hp
  ·exact hab p hp q hq
 ·unfold updF
  by_cases hk : k = x
  ·subst hk
   rw [if_pos rfl]
   constructor
   ·intro hm
    rcases List.mem_append.1 hm with hm | hm
    ·exact absurd (hA _ hm) (ltK_irrefl _)
    ·rcases List.mem_cons.1 hm with hm | hm
     ·injection hm with _ h2; rw [h2]
     ·exact absurd (hB _ hm) (ltK_irrefl _)
   ·intro hm
    cases hm
    exact List.mem_append_right _ (List.mem_cons_self ..)
  ·rw [if_neg hk, ← h.2 k u]
   constructor
   ·intro hm
    rcases List.mem_append.1 hm with hm | hm
    ·exact List.mem_append_left _ hm
    ·rcases List.mem_cons.1 hm with hm | hm
     ·injection hm with h1 _; exact absurd h1 hk
     ·exact List.mem_append_right _ hm
   ·intro hm
    rcases List.mem_append.1 hm with hm | hm
    ·exact List.mem_append_left _ hm
    ·exact List.mem_append_right _ (List.mem_cons_of_mem _ hm)
theorem cut_at {l : List Pr} {k : Nat} {p : Pr} (h : l[k]? = some p) : l = l.take k ++ p :: l.drop (k + 1) := by
 obtain ⟨hk, e⟩ := List.getElem?_eq_some_iff.1 h
 rw [← e, ← List.drop_eq_getElem_cons hk, List.take_append_drop]
theorem step_del {l : List Pr} {f : Fn} {x v u : ByteArray} {k : Nat} (h : Lists l f) (hk : l[k]? = some (x, u)) : Lists (l.take k ++ l.drop (k + 1)) (stepF f (x, v, true)) := by
 rw [cut_at hk] at h
 have := (lists_del h).1
 unfold stepF
 exact this
theorem step_set {l : List Pr} {f : Fn} {x v u : ByteArray} {k : Nat} (h : Lists l f) (hk : l[k]? = some (x, u)) : Lists (l.set k (x, v)) (stepF f (x, v, false)) := by
 have hs : l.set k (x, v) = l.take k ++ (x, v) :: l.drop (k + 1) := by
  rw [List.set_eq_take_append_cons_drop, if_pos (List.getElem?_eq_some_iff.1 hk).1]
 rw [hs]
 rw [cut_at hk] at h
 obtain ⟨h1, h2, h3⟩ := lists_del h
 have := lists_ins (v := v) h1 h2 h3
 rw [updF_twice] at this
 unfold stepF
 exact this
theorem Spot.over {l : List Pr} {f : Fn} {x : ByteArray} {k : Nat} (hs : Spot l x k) (h : Lists l f) (hn : ∀ u, l[k]? ≠ some (x, u)) : ∀ p ∈ l.drop k, ltK x p.1 := by
 intro p hp
 cases hd : l[k]? with
 | none =>
   rw [List.drop_eq_nil_of_le (by rcases Nat.lt_or_ge k l.length with h | h; (rw [List.getElem?_eq_getElem h] at hd; cases hd); exact h)] at hp
   cases hp
 | some q =>
   obtain ⟨y, u⟩ := q
   have hy := hs.2.2 _ hd
   have hyx : ltK x y := by
    rcases ltK_tri y x with h1 | h1 | h1
    ·exact absurd h1 hy
    ·exact absurd (by rw [hd, h1]) (hn u)
    ·exact h1
   have hr : Rising (l.take k ++ l.drop k) := by rw [List.take_append_drop]; exact h.1
   have hb := (rising_parts hr).2.1
   obtain ⟨hkl, e⟩ := List.getElem?_eq_some_iff.1 hd
   rw [List.drop_eq_getElem_cons hkl] at hp hb
   rcases List.mem_cons.1 hp with hp | hp
   ·rw [hp, e]; exact hyx
   ·have := (List.pairwise_cons.1 hb).1 p hp
    rw [e] at this
    exact ltK_trans hyx this
theorem step_none {l : List Pr} {f : Fn} {x v : ByteArray} {k : Nat} (hs : Spot l x k) (h : Lists l f) (hn : ∀ u, l[k]? ≠ some (x, u)) : Lists l (stepF f (x, v, true)) := by
 have ho := hs.over h hn
 have hf : f x = none := by
  refine fn_none h (fun p hp => ?_)
  rw [← List.take_append_drop k l] at hp
  rcases List.mem_append.1 hp with hp | hp
  ·intro e; have := hs.2.1 p hp; rw [e] at this; exact ltK_irrefl _ this
  ·intro e; have := ho p hp; rw [e] at this; exact ltK_irrefl _ this
 unfold stepF
 show Lists l (updF f x none)
 rw [updF_same hf]
 exact h
theorem step_ins {l : List Pr} {f : Fn} {x v : ByteArray} {k : Nat} (hs : Spot l x k) (h : Lists l f) (hn : ∀ u, l[k]? ≠ some (x, u)) : Lists (l.take k ++ [(x, v)] ++ l.drop k) (stepF f (x, v, false)) := by
 have h' : Lists (l.take k ++ l.drop k) f := by rw [List.take_append_drop]; exact h
 have := lists_ins (v := v) h' hs.2.1 (hs.over h hn)
 unfold stepF
 rw [List.append_assoc]
 exact this
end Go.Proofs.YtcdehejgnnnimaaGreatDoor
namespace Go.Proofs.YtcdehejgnnnimaaGreatDoor
set_option linter.unusedVariables false
set_option linter.unusedSimpArgs false
open Go.RowKit
section
variable {P : Program} {α : Type} {k : Nat} {f : α → List Value}
theorem OwnK.empty (hk : ∀ a, (f a).length = k) (w : World) (e : TypeId) : OwnK k f (w.alloc (.cells #[] e)) w.heap.size e (some ⟨w.heap.size, 0, none⟩) 0 0 [] :=
 ⟨⟨by simp, .inr ⟨w.heap.size, 0, #[], rfl, Nat.le_refl _, heap_alloc_new w _, by omega, by unfold maxLen; omega, by simp, by simp⟩⟩, rfl, hk⟩
theorem run_append_ks {w : World} {base : Nat} {e : TypeId} {A : Option Addr} {n c : Nat} {l : List α} (ho : OwnK k f w base e A n c l) (t ty : TypeId) (ht : P.underlying t = some (.slice e)) {zv : Value} {by_ : Nat}
 (he : (P.info? e).map (fun i => (i.zero, i.size, i.bytes)) = some (some zv, k, by_)) (hzc : zv.cells.size = k) (hk0 : 0 < k) (hby : by_ ≤ 100) {A' : Option Addr} {m c' B : Nat} {us : List α} (hu : ColK k f w B A' m us) (hone : ∀ u ∈ us, ∀ v ∈ f u, v.oneCell' = true) (hnm : n + m ≤ 1000000) (hbase : base ≤ w.heap.size) :
 ∃ A2 c2 w', (Builtin.append_ #[t, t] ty #[.slice A n c, .slice A' m c']).run P w = .ok (.slice A2 (n + m) c2) w' ∧ OwnK k f w' base e A2 (n + m) c2 (l ++ us) ∧ Below base w w' ∧ w.grownBy w' (Value.slice A n c).ownBlock := by
 obtain ⟨i, hi, hz, hs, hby'⟩ := info_parts he
 have hul := hu.1
 cases A' with
 | none =>
   have hm : m = 0 := by
    rcases Nat.eq_zero_or_pos m with h | h
    ·exact h
    ·obtain ⟨b, o, h', _⟩ := hu.2 h; cases h'
   subst hm
   have hl' : us = [] := List.eq_nil_of_length_eq_zero hul
   subst hl'
   refine ⟨A, c, w, ?_, by simpa using ho, Below.refl _ _, World.grownBy.refl _ _⟩
   have hcc := ho.cap.1
   cases A with
   | none =>
     rcases ho.1.2 with ⟨hv, h0⟩ | ⟨g, cap, cur, hv, _⟩
     ·injection hv with _ _ hc
      subst hc; subst h0
      simp [Builtin.append_, run_underlying ht, sizeOf, typeInfo, hi, Builtin.lenOf, Builtin.firstCells]
     ·cases hv
   | some a => simp [Builtin.append_, run_underlying ht, sizeOf, typeInfo, hi, Builtin.lenOf, Builtin.firstCells, hcc, storeCells]
 | some ad =>
   have hnews : ∀ (j : Nat) (u : Value), (us.flatMap f)[j]? = some u → w.cell? (ad.add j) = some u := by
    intro j u hju
    have hj : j < (us.flatMap f).length := (List.getElem?_eq_some_iff.1 hju).1
    rw [flat_len ho.2.2, hul] at hj
    have hm0 : 0 < m := by rcases Nat.eq_zero_or_pos m with h | h; (rw [h, Nat.zero_mul] at hj; omega); exact h
    obtain ⟨b, o, h', _, hcc⟩ := hu.2 hm0
    injection h' with h'
    subst h'
    rw [Addr.add_mid]
    have hq : j / k < us.length := by rw [hul]; exact Nat.div_lt_of_lt_mul (by rw [Nat.mul_comm]; exact hj)
    have hr := hcc (j / k) _ (List.getElem?_eq_getElem hq)
    have hjj : j / k * k + j % k = j := by rw [Nat.mul_comm]; exact Nat.div_add_mod j k
    have hmod : j % k < k := Nat.mod_lt _ hk0
    have hfl : j % k < (f us[j / k]).length := by rw [ho.2.2]; exact hmod
    have h2 := flat_get ho.2.2 us (j / k) _ (List.getElem?_eq_getElem hq) (j % k) _ (List.getElem?_eq_getElem hfl)
    rw [hjj, hju] at h2
    have h3 := hr (j % k) _ (List.getElem?_eq_getElem hfl)
    rw [Nat.add_assoc, hjj] at h3
    rw [h3]
    exact h2.symm
   obtain ⟨v', w', hrun, h1, h2, _, _⟩ := run_append_own_at (P := P) w base t ty e i zv k by_ ht hi hz hs hby' hzc hk0 (.slice A n c) n (l.flatMap f) ho.1 ad m c' (us.flatMap f) (by rw [flat_len ho.2.2, hul]) hnews (fun u hu' => by obtain ⟨a, ha, hau⟩ := List.mem_flatMap.1 hu'; exact hone a ha u hau) (by unfold maxLen; omega) (Nat.le_trans (Nat.mul_le_mul_left _ hby) (by omega)) hbase
   have hsh : ∃ A2 c2, v' = .slice A2 (n + m) c2 := by
    rcases h1.2 with ⟨rfl, h0⟩ | ⟨g, cap, cur, rfl, _⟩
    ·rw [h0]; exact ⟨_, _, rfl⟩
    ·exact ⟨_, _, rfl⟩
   obtain ⟨A2, c2, rfl⟩ := hsh
   refine ⟨A2, c2, w', hrun, ⟨?_, by rw [List.length_append, ho.len, hul], ho.2.2⟩, (Below.refl _ _).grown h2 hbase (fun k hk => (ho.1.lt k hk).1), h2⟩
   rw [List.flatMap_append]
   exact h1
theorem wp_append_ks {o : Oper} {a : Act} {w w' : World} {K : Act → World → Prop} {Q : Exit → Act → World → Prop} {s x : Operand} {t : TypeId} {v y z : Value} (ho : o.op = .call { callee := .builtin .append, args := #[s, x], argTypes := #[t, t] })
 (hs : a.eval s = v) (hx : a.eval x = y) (hrun : (Builtin.append_ #[t, t] o.type #[v, y]).run P w = .ok z w') (hK : K (a.put o.dst z) w') : o.wp P a w K Q := by
 unfold Oper.wp execOp
 simp only [ho, resolve, invoke, builtin, Sem.run_bind, Sem.run_pure, Result.andThen_ok, List.map_toArray, List.map_cons, List.map_nil, hs, hx, hrun]
 exact hK
theorem ColK.to {w : World} {B n : Nat} {A : Option Addr} {l : List α} (h : ColK k f w B A n l) {j : Nat} (hj : j ≤ n) : ColK k f w B A j (l.take j) := by
 refine ⟨by rw [List.length_take, h.1]; omega, fun hj0 => ?_⟩
 obtain ⟨b, o, e, hb, hc⟩ := h.2 (by omega)
 refine ⟨b, o, e, hb, fun i a hi => hc i a ?_⟩
 have hij : i < j := by have := (List.getElem?_eq_some_iff.1 hi).1; rw [List.length_take] at this; omega
 rwa [List.getElem?_take_of_lt hij] at hi
theorem ColK.from_ {w : World} {B n b o : Nat} {l : List α} (h : ColK k f w B (some ⟨b, o, none⟩) n l) {j : Nat} (hj : j ≤ n) : ColK k f w B (some ⟨b, o + j * k, none⟩) (n - j) (l.drop j) := by
 refine ⟨by rw [List.length_drop, h.1], fun hj0 => ?_⟩
 obtain ⟨b', o', e, hb, hc⟩ := h.2 (by omega)
 injection e with e
 injection e with e1 e2
 subst e1; subst e2
 refine ⟨b, o + j * k, rfl, hb, fun i a hi => ?_⟩
 rw [List.getElem?_drop] at hi
 have := hc (j + i) a hi
 rwa [show o + (j + i) * k = o + j * k + i * k by rw [Nat.add_mul]; omega] at this
end
end Go.Proofs.YtcdehejgnnnimaaGreatDoor
namespace Go.Proofs.YtcdehejgnnnimaaGreatDoor
set_option linter.unusedVariables false
set_option linter.unusedSimpArgs false
open Go.RowKit
set_option linter.unusedVariables false
set_option linter.unusedSimpArgs false
theorem below_drewK {B : Nat} {a w : World} (h : Below B a w) (q : Nat) : Below B a (w.drewN q) := ⟨h.os, h.tape, h.output, h.size, h.block⟩
def toA (A : Option Addr) (c : Nat) : Option Addr := if c = 0 then A else A.map (·.add 0)
def fromA (A : Option Addr) (j c : Nat) : Option Addr := if c = j then A else A.map (·.add (j * 2))
theorem size_pairK (w : World) : (sizeOf (Tryz.prog.elem 33)).run Tryz.prog w = .ok 2 w := by
 have hel : Tryz.prog.elem 33 = 60 := by simp [Program.elem, Tryz.underlying33]
 obtain ⟨i, hi, _, hs, _⟩ := info_parts info_pair
 rw [hel]
 simp [sizeOf, hs, go_sem, run_typeInfo _ hi]
theorem und_pairs : Tryz.prog.underlying 33 = some (.slice (Tryz.prog.elem 33)) := by
 have hel : Tryz.prog.elem 33 = 60 := by simp [Program.elem, Tryz.underlying33]
 rw [hel]; exact Tryz.underlying33
theorem exec_toP {o : Oper} {ρ : Operand → Value} {x hi : Operand} {A : Option Addr} {n c k : Nat} {w : World} (ho : o.op = .slice 33 x none (some hi) none) (hx : ρ x = .slice A n c) (hh : ρ hi = .int .i64 (k : Int)) (hk : k ≤ c) :
 (execOp ρ o).run Tryz.prog w = .ok (.value (.slice (toA A c) k c)) w := by
 have hrun : (Instr.sliceAt 33 (.slice A n c) none (some (.int .i64 (k : Int))) none).run Tryz.prog w = .ok (.slice (toA A c) k c) w := by
  rw [run_sliceAt_slice w 33 _ _ _ _ und_pairs, run_slice_h w 33 _ n c und_pairs .i64 (k : Int) (by omega) (by omega), size_pairK]
  simp [Result.andThen_ok, sliced, toA]
 unfold execOp
 simp [ho, hx, hh, hrun]
theorem exec_fromP {o : Oper} {ρ : Operand → Value} {x lo : Operand} {A : Option Addr} {n c j : Nat} {w : World} (ho : o.op = .slice 33 x (some lo) none none) (hx : ρ x = .slice A n c) (hl : ρ lo = .int .i64 (j : Int)) (hj : j ≤ n) (hc : n ≤ c) :
 (execOp ρ o).run Tryz.prog w = .ok (.value (.slice (fromA A j c) (n - j) (c - j))) w := by
 have hrun : (Instr.sliceAt 33 (.slice A n c) (some (.int .i64 (j : Int))) none none).run Tryz.prog w = .ok (.slice (fromA A j c) (n - j) (c - j)) w := by
  rw [run_sliceAt_slice w 33 _ _ _ _ und_pairs, run_slice_l w 33 _ n c und_pairs .i64 (j : Int) (by omega) (by omega), size_pairK]
  simp [Result.andThen_ok, sliced, fromA]
 unfold execOp
 simp [ho, hx, hl, hrun]
theorem ColK.toP {α : Type} {f : α → List Value} {w : World} {B n c k : Nat} {A : Option Addr} {l : List α} (h : ColK 2 f w B A n l) (hk : k ≤ n) : ColK 2 f w B (toA A c) k (l.take k) := by
 unfold toA
 split
 ·exact h.to hk
 ·have := h.to hk
  refine ⟨this.1, fun h0 => ?_⟩
  obtain ⟨b, o, e, hb, hc⟩ := this.2 h0
  exact ⟨b, o, by rw [e]; rfl, hb, hc⟩
theorem ColK.fromP {α : Type} {f : α → List Value} {w : World} {B n c j : Nat} {A : Option Addr} {l : List α} (h : ColK 2 f w B A n l) (hj : j ≤ n) (hnc : n ≤ c) : ColK 2 f w B (fromA A j c) (n - j) (l.drop j) := by
 rcases Nat.lt_or_ge j n with hlt | hge
 ·unfold fromA
  rw [if_neg (by omega)]
  obtain ⟨b, o, e, _, _⟩ := h.2 (by omega)
  subst e
  have := h.from_ hj
  simpa [Addr.add_mid] using this
 ·have : n - j = 0 := by omega
  rw [this, List.drop_eq_nil_of_le (by rw [h.1]; omega)]
  exact ColK.nil
theorem flat_setK {α : Type} {k : Nat} {f : α → List Value} (hk : ∀ a, (f a).length = k) (a' : α) (j : Nat) (v : Value) (hj : j < k) : ∀ (l : List α) (i : Nat) (a : α), l[i]? = some a → f a' = (f a).set j v → (l.set i a').flatMap f = (l.flatMap f).set (i * k + j) v
 | [], _, _, h, _ => by simp at h
 | b :: l, 0, a, h, e => by
   cases h
   rw [List.set_cons_zero, List.flatMap_cons, List.flatMap_cons, e, Nat.zero_mul, Nat.zero_add, List.set_append_left _ _ (by rw [hk]; exact hj)]
 | b :: l, i + 1, a, h, e => by
   rw [List.set_cons_succ, List.flatMap_cons, List.flatMap_cons, flat_setK hk a' j v hj l i a h e, List.set_append_right _ _ (by rw [hk, Nat.add_mul]; omega), hk, show (i + 1) * k + j - k = i * k + j by rw [Nat.add_mul]; omega]
theorem OwnK.putK {α : Type} {k : Nat} {f : α → List Value} {w : World} {base n c : Nat} {e : TypeId} {A : Option Addr} {l : List α} (h : OwnK k f w base e A n c l) {i j : Nat} {a a' : α} (hi : l[i]? = some a) (hj : j < k) (v : Value) (hf : f a' = (f a).set j v) :
 ∃ g, A = some ⟨g, 0, none⟩ ∧ base ≤ g ∧ g < w.heap.size ∧ w.frozen? ⟨g, i * k + j, none⟩ = false ∧ w.cell? ⟨g, i * k + j, none⟩ = (f a)[j]? ∧ OwnK k f (w.setCell ⟨g, i * k + j, none⟩ v) base e A n c (l.set i a') := by
 have hlen := h.len
 have hil : i < l.length := (List.getElem?_eq_some_iff.1 hi).1
 obtain ⟨g', hA', _, hlt, hr⟩ := h.range (by omega)
 rcases h.1.2 with ⟨_, h0⟩ | ⟨g, cap, cur, hv, hg, hh, hnc, hcm, hcs, htk⟩
 ·omega
 ·injection hv with hA _ hc
  subst hA hc
  injection hA' with hA'
  injection hA' with hA'
  subst hA'
  have hcell := hr i a hi j ((f a)[j]'(by rw [h.2.2]; exact hj)) (List.getElem?_eq_getElem (by rw [h.2.2]; exact hj))
  refine ⟨g, rfl, hg, hlt, frozen_of_row w g _ cur _ hh, by rw [hcell, List.getElem?_eq_getElem], ?_, by rw [List.length_set]; exact hlen, h.2.2⟩
  refine ⟨by rw [flat_len h.2.2, List.length_set, hlen], .inr ⟨g, c, cur.setIfInBounds (i * k + j) v, rfl, hg, heap_setCell_same w g _ cur _ _ hh, hnc, hcm, by simpa using hcs, ?_⟩⟩
  rw [Array.toList_setIfInBounds, List.take_set, htk, flat_setK h.2.2 a' j v hj l i a hi hf]
def DoAt (w : World) (A' : Option Addr) (n' : Nat) (cs : List Chg) (A : Option Addr) (n c : Nat) (os : List Pr) (W : World) : Prop :=
 OwnK 2 pairC W w.heap.size 60 A n c os ∧ ColK 3 chgC W w.heap.size A' n' cs ∧ Below w.heap.size w W
theorem DoAt.below {w W W' : World} {A' A : Option Addr} {n' n c : Nat} {cs : List Chg} {os : List Pr} (h : DoAt w A' n' cs A n c os W) (hb : Below W.heap.size W W') : DoAt w A' n' cs A n c os W' :=
 ⟨h.1.below hb, h.2.1.below hb h.2.2.size, h.2.2.trans (hb.mono h.2.2.size)⟩
theorem DoAt.drewN {w W : World} {A' A : Option Addr} {n' n c : Nat} {cs : List Chg} {os : List Pr} (h : DoAt w A' n' cs A n c os W) (q : Nat) : DoAt w A' n' cs A n c os (W.drewN q) := h.below (below_drewK (Below.refl _ _) q)
theorem app_own {V : World} {base : Nat} {A A' : Option Addr} {n c m c' B : Nat} {os us : List Pr} (ho : OwnK 2 pairC V base 60 A n c os) (hu : ColK 2 pairC V B A' m us) (hnm : n + m ≤ 1000000) (hbase : base ≤ V.heap.size) :
 ∃ A2 c2 w', (Builtin.append_ #[33, 33] 33 #[.slice A n c, .slice A' m c']).run Tryz.prog V = .ok (.slice A2 (n + m) c2) w' ∧ OwnK 2 pairC w' base 60 A2 (n + m) c2 (os ++ us) ∧ V.grownBy w' (Value.slice A n c).ownBlock ∧ Below base V w' := by
 obtain ⟨A2, c2, w', h1, h2, h3, h4⟩ := run_append_ks (P := Tryz.prog) ho 33 33 Tryz.underlying33 info_pair rfl (by omega) (by omega) hu (fun u _ => pairC_one u) hnm hbase (c' := c')
 exact ⟨A2, c2, w', h1, h2, h4, h3⟩
theorem pair_fresh (w : World) (k v : ByteArray) : ColK 2 pairC (w.alloc (.cells #[.string k, .string v] 60)) (w.alloc (.cells #[.string k, .string v] 60)).heap.size (some ⟨w.heap.size, 0, none⟩) 1 [(k, v)] := by
 refine ⟨rfl, fun _ => ⟨w.heap.size, 0, rfl, by simp, fun i a hi => ?_⟩⟩
 cases i with
 | zero =>
   cases hi
   intro j u hu
   rw [show 0 + 0 * 2 + j = j by omega, cell_of_row _ w.heap.size j _ _ (0, 0) (heap_alloc_new w _)]
   unfold pairC at hu
   simpa using hu
 | succ i => simp at hi
theorem DoAt.chg {w W : World} {A : Option Addr} {b o n' n c k : Nat} {cs : List Chg} {os : List Pr} {ck cv : ByteArray} {cg : Bool} (h : DoAt w (some ⟨b, o, none⟩) n' cs A n c os W) (hk : cs[k]? = some (ck, cv, cg)) :
 W.cell? ⟨b, o + k * 3, none⟩ = some (.string ck) ∧ W.cell? ⟨b, o + k * 3 + 1, none⟩ = some (.string cv) ∧ W.cell? ⟨b, o + k * 3 + 2, none⟩ = some (.bool cg) := by
 have hl := h.2.1.1
 have hlt := (List.getElem?_eq_some_iff.1 hk).1
 obtain ⟨b', o', e, _, hc⟩ := h.2.1.2 (by omega)
 injection e with e
 injection e with e1 e2
 subst e1 e2
 have := hc k _ hk
 exact ⟨by have h0 := this 0 _ rfl; rwa [Nat.add_zero] at h0, this 1 _ rfl, this 2 _ rfl⟩
theorem DoAt.pair {w W : World} {A' : Option Addr} {g n' n c q : Nat} {cs : List Chg} {os : List Pr} {xk xv : ByteArray} (h : DoAt w A' n' cs (some ⟨g, 0, none⟩) n c os W) (hq : os[q]? = some (xk, xv)) :
 W.cell? ⟨g, q * 2, none⟩ = some (.string xk) ∧ W.cell? ⟨g, q * 2 + 1, none⟩ = some (.string xv) := by
 have hl := h.1.len
 have hlt := (List.getElem?_eq_some_iff.1 hq).1
 obtain ⟨g', e, _, _, hc⟩ := h.1.range (by omega)
 injection e with e
 injection e with e1 e2
 subst e1
 have := hc q _ hq
 exact ⟨by have h0 := this 0 _ rfl; rwa [Nat.add_zero] at h0, this 1 _ rfl⟩
theorem DoAt.put {w W : World} {A A' : Option Addr} {n' n c q : Nat} {cs : List Chg} {os : List Pr} {xk xv cv : ByteArray} (h : DoAt w A' n' cs A n c os W) (hq : os[q]? = some (xk, xv)) :
 ∃ g, A = some ⟨g, 0, none⟩ ∧ W.frozen? ⟨g, q * 2 + 1, none⟩ = false ∧ W.cell? ⟨g, q * 2 + 1, none⟩ = some (.string xv) ∧ DoAt w A' n' cs A n c (os.set q (xk, cv)) (W.setCell ⟨g, q * 2 + 1, none⟩ (.string cv)) := by
 obtain ⟨g, e, hg, hlt, hf, hc, ho⟩ := h.1.putK (j := 1) (a' := (xk, cv)) hq (by omega) (.string cv) rfl
 have hb : Below w.heap.size w (W.setCell ⟨g, q * 2 + 1, none⟩ (.string cv)) := h.2.2.setCell hg _
 have hbW : Below w.heap.size W (W.setCell ⟨g, q * 2 + 1, none⟩ (.string cv)) := (Below.refl _ _).setCell hg _
 exact ⟨g, e, hf, hc, ho, h.2.1.below hbW (Nat.le_refl _), hb⟩
theorem DoAt.anew {w W V : World} {A A' A2 : Option Addr} {n' n c n2 c2 : Nat} {cs : List Chg} {os us : List Pr} (h : DoAt w A' n' cs A n c os W) (hb : Below W.heap.size W V) (ho : OwnK 2 pairC V W.heap.size 60 A2 n2 c2 us) : DoAt w A' n' cs A2 n2 c2 us V :=
 ⟨ho.from_ h.2.2.size, h.2.1.below hb h.2.2.size, h.2.2.trans (hb.mono h.2.2.size)⟩
end Go.Proofs.YtcdehejgnnnimaaGreatDoor
