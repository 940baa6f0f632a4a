/-
 A part of the proof: see the last text.
-/
import Derived.Test.YtcdehejgnnnimaaGreatDoorSSecWalksA
import Derived.Test.YtcdehejgnnnimaaGreatDoorSSecWords
import Derived.Maps.AppendAt
namespace Go.Proofs.YtcdehejgnnnimaaGreatDoor
set_option linter.unusedVariables false
set_option linter.unusedSimpArgs false
open Go.RowKit
def RowsOut (w : World) (base : Nat) (e : TypeId) (k : Nat) (v : Value) (n : Nat) (xs : List (List Value)) : Prop :=
 ∃ A c, v = .slice A n c ∧ n ≤ c ∧ c ≤ maxLen ∧ xs.length = n ∧ (∀ x ∈ xs, x.length = k) ∧
   (0 < n → ∃ g cs, A = some ⟨g, 0, none⟩ ∧ base ≤ g ∧ Bk w g e cs ∧ n * k ≤ cs.size ∧ ∀ (j : Nat) (u : Value), xs.flatten[j]? = some u → cs[j]? = some u)
theorem RowsOut.arr {w : World} {base k n : Nat} {e : TypeId} {v : Value} {xs : List (List Value)} (h : RowsOut w base e k v n xs) :
 ∃ A c, v = .slice A n c ∧ n ≤ c ∧ c ≤ maxLen ∧ Arr w w.heap.size k A n xs := by
 obtain ⟨A, c, rfl, h1, h2, h3, h4, h5⟩ := h
 refine ⟨A, c, rfl, h1, h2, h3, h4, fun hn => ?_⟩
 obtain ⟨g, cs, rfl, _, hB, _, hc⟩ := h5 hn
 exact (Arr.of_bk hB h3 h4 hc w.heap.size hB.lt).2.2 hn
theorem RowsOut.box {w : World} {base k n : Nat} {e : TypeId} {v : Value} {xs : List (List Value)} (h : RowsOut w base e k v n xs) {p : Addr} (hp : p.block < base) (u : Value) : RowsOut (w.setCell p u) base e k v n xs := by
 obtain ⟨A, c, rfl, h1, h2, h3, h4, h5⟩ := h
 exact ⟨A, c, rfl, h1, h2, h3, h4, fun hn => by
  obtain ⟨g, cs, e1, e2, e3, e4⟩ := h5 hn
  exact ⟨g, cs, e1, e2, e3.far (by omega) _, e4⟩⟩
theorem RowsOut.below {w w' : World} {base k n : Nat} {e : TypeId} {v : Value} {xs : List (List Value)} (h : RowsOut w base e k v n xs) (hb : Below w.heap.size w w') : RowsOut w' base e k v n xs := by
 obtain ⟨A, c, rfl, h1, h2, h3, h4, h5⟩ := h
 exact ⟨A, c, rfl, h1, h2, h3, h4, fun hn => by
  obtain ⟨g, cs, e1, e2, e3, e4⟩ := h5 hn
  exact ⟨g, cs, e1, e2, e3.below hb e3.lt, e4⟩⟩
section
variable {P : Program}
theorem run_append_nil_rows (w : World) (t ty e : TypeId) (i : TypeInfo) (ht : P.underlying t = some (.slice e)) (hi : P.info? e = some i) (g : Nat) (cur : Array Value) (_hB : Bk w g e cur) (c : Nat) :
 (Builtin.append_ #[t, t] ty #[.slice (some ⟨g, 0, none⟩) 0 0, .slice none 0 c]).run P w = .ok (.slice (some ⟨g, 0, none⟩) 0 0) w := by
 simp [Builtin.append_, run_underlying ht, sizeOf, typeInfo, hi, Builtin.lenOf, Builtin.firstCells, storeCells]
theorem run_append_rows (w : World) (t ty e : TypeId) (z : Value) (k bytes : Nat) (ht : P.underlying t = some (.slice e)) (he : (P.info? e).map (fun i => (i.zero, i.size, i.bytes)) = some (some z, k, bytes))
 (hzs : z.cells.size = k) (hk : 0 < k) (hby : bytes ≤ 1000) (g : Nat) (hB : Bk w g e #[])
 (B : Nat) (A : Option Addr) (n c : Nat) (xs : List (List Value)) (hA : Arr w B k A n xs) (h1 : ∀ x ∈ xs, ∀ v ∈ x, v.oneCell' = true) (hn : n ≤ 1000000) :
 ∃ v' w', (Builtin.append_ #[t, t] ty #[.slice (some ⟨g, 0, none⟩) 0 0, .slice A n c]).run P w = .ok v' w' ∧ RowsOut w' g e k v' n xs ∧ w.grownBy w' (some g) := by
 obtain ⟨i, hi, hz, hs, hb⟩ := info_parts he
 have hg : g ≤ w.heap.size := Nat.le_of_lt hB.lt
 cases A with
 | none =>
   have hn0 : n = 0 := by
    rcases Nat.eq_zero_or_pos n with h | h
    ·exact h
    ·obtain ⟨b, o, h', _⟩ := hA.2.2 h; cases h'
   subst hn0
   exact ⟨_, w, run_append_nil_rows w t ty e i ht hi g #[] hB c, ⟨_, 0, rfl, Nat.le_refl _, by unfold maxLen; omega, hA.1, hA.2.1, fun h => absurd h (by omega)⟩, World.grownBy.refl w _⟩
 | some ad =>
   have hown : w.ownsRow g e k (.slice (some ⟨g, 0, none⟩) 0 0) 0 [] := ⟨by simp, .inr ⟨g, 0, #[], rfl, Nat.le_refl _, hB, Nat.le_refl _, by unfold maxLen; omega, by simp, by simp⟩⟩
   have hl : xs.flatten.length = n * k := Arr.flat_length hA
   have hnews : ∀ (j : Nat) (u : Value), xs.flatten[j]? = some u → w.cell? (ad.add j) = some u := by
    intro j u hu
    rcases Nat.eq_zero_or_pos n with h | h
    ·have : j < xs.flatten.length := (List.getElem?_eq_some_iff.1 hu).1
     rw [hl, h] at this
     omega
    ·obtain ⟨b, o, h', _, hc⟩ := hA.2.2 h
     injection h' with h'
     subst h'
     rw [Addr.add_mid]
     exact Arr.flat hA.2.1 hc j u hu
   have h1' : ∀ u ∈ xs.flatten, u.oneCell' = true := by
    intro v hv
    obtain ⟨x, hx, hvx⟩ := List.mem_flatten.1 hv
    exact h1 x hx v hvx
   have hbb : (0 + n) * bytes ≤ 140737488355328 := by
    have := Nat.mul_le_mul (show 0 + n ≤ 1000000 by omega) hby
    omega
   obtain ⟨v', w', hrun, ho, hgr, _, hob⟩ := run_append_own_at (P := P) w g t ty e i z k bytes ht hi hz hs hb hzs hk (.slice (some ⟨g, 0, none⟩) 0 0) 0 [] hown ad n c xs.flatten hl hnews h1' (by unfold maxLen; omega) hbb hg
   refine ⟨v', w', hrun, ?_, hgr⟩
   rw [Nat.zero_add, List.nil_append] at ho
   rcases ho.2 with ⟨rfl, h0⟩ | ⟨g', cap, cur, rfl, hgg, hh, hnc, hcm, hcs, htk⟩
   ·subst h0
    exact ⟨none, 0, rfl, Nat.le_refl _, by unfold maxLen; omega, hA.1, hA.2.1, fun h => absurd h (by omega)⟩
   ·refine ⟨_, cap, rfl, hnc, hcm, hA.1, hA.2.1, fun _ => ⟨g', cur, rfl, hgg, hh, ?_, fun j u hu => ?_⟩⟩
    ·rw [hcs]; exact Nat.mul_le_mul_right k hnc
    ·rw [← htk, List.getElem?_take] at hu
     split at hu
     ·simpa using hu
     ·cases hu
theorem wpList_append_rows {ops : Array Oper} {rest : List Oper} {o : Oper} {a : Act} {w : World} {Q : Exit → Act → World → Prop} (hgd : o.guard = none) (s x : Operand) (t : TypeId)
 (ho : o.op = .call { callee := .builtin .append, args := #[s, x], argTypes := #[t, t] }) (e : TypeId) (z : Value) (k bytes : Nat) (ht : P.underlying t = some (.slice e))
 (he : (P.info? e).map (fun i => (i.zero, i.size, i.bytes)) = some (some z, k, bytes))
 (hzs : z.cells.size = k) (hk : 0 < k) (hby : bytes ≤ 1000) (g : Nat) (hs : a.eval s = .slice (some ⟨g, 0, none⟩) 0 0) (hB : Bk w g e #[])
 (B : Nat) (A : Option Addr) (n c : Nat) (xs : List (List Value)) (hx : a.eval x = .slice A n c) (hA : Arr w B k A n xs) (h1 : ∀ x ∈ xs, ∀ v ∈ x, v.oneCell' = true) (hn : n ≤ 1000000)
 (h : ∀ v' w', RowsOut w' g e k v' n xs → w.grownBy w' (some g) → wpList P ops Q rest (a.put o.dst v') w') : wpList P ops Q (o :: rest) a w :=
 wpList_plain hgd fun _ hK => by
  obtain ⟨v', w', hrun, h2, h3⟩ := run_append_rows (P := P) w t o.type e z k bytes ht he hzs hk hby g hB B A n c xs hA h1 hn
  refine wp_value (v := v') (w' := w') ?_ (hK _ _ (h v' w' h2 h3))
  unfold execOp
  simp only [ho]
  simp [resolve, invoke, builtin, hs, hx, hrun]
end
theorem info_sec : (Tryz.prog.info? 84).map (fun i => (i.zero, i.size, i.bytes)) = some (some (.agg (Array.replicate 64 (.int .u8 0))), 64, 64) := by kernel_rfl
set_option maxRecDepth 20000 in
set_option maxHeartbeats 400000 in
theorem clone_any (A : Option Addr) (n c : Nat) (xs : List (List Int)) (w : World) (hn : n ≤ 1000000) (hA : Arr w w.heap.size 64 A n (xs.map secv)) :
 Calls Tryz.prog 103 #[.slice A n c] w fun e w' => ∃ v', e = .returned v' ∧ RowsOut w' w.heap.size 84 64 v' n (xs.map secv) ∧ Below w.heap.size w w' := by
 cases A with
 | none =>
   have hn0 : n = 0 := by
    rcases Nat.eq_zero_or_pos n with h | h
    ·exact h
    ·obtain ⟨b, o, h', _⟩ := hA.2.2 h; cases h'
   subst hn0
   have heq := fun W => Lib.run_eql_slice_nil (P := Tryz.prog) W 24 84 none 0 c 0 0 Tryz.underlying24
   go_enter Tryz.func103, Tryz.ntmps103
   go_wp2
   go_ret
   exact ⟨_, rfl, ⟨_, 0, rfl, Nat.le_refl _, by simp, hA.1, hA.2.1, fun h => absurd h (by omega)⟩, Below.refl _ _⟩
 | some ad =>
   have heq := fun W => Lib.run_eql_slice_nil (P := Tryz.prog) W 24 84 (some ad) n c 0 0 Tryz.underlying24
   have HA := Lib.hid hA
   clear hA
   go_enter Tryz.func103, Tryz.ntmps103
   go_wp2_with ((with_reducible show wpList _ _ _ (⟨some 7, _, _, _, _, _⟩ :: _) _ _); refine hold ?_)
   refine held (wpList_append_rows rfl (.tmp 5) (.tmp 6) 24 rfl 84 (.agg (Array.replicate 64 (.int .u8 0))) 64 64 Tryz.underlying24 info_sec (by simp [Value.cells]) (by omega) (by omega) w.heap.size rfl (Bk.new _ _ _) w.heap.size (some ad) n c (xs.map secv) rfl
    (HA.out.below ((Below.refl w.heap.size w).alloc (Nat.le_refl _) _) (Nat.le_refl _)) (fun x hx => by obtain ⟨y, _, rfl⟩ := List.mem_map.1 hx; exact secv_one y) hn ?_)
   intro v' w' hR hg
   have hb : Below w.heap.size w w' := ((Below.refl w.heap.size w).alloc (Nat.le_refl _) _).grown hg (by simp) (fun k e => by cases e; exact Nat.le_refl _)
   go_wp2
   go_ret
   exact ⟨v', rfl, hR, hb⟩
end Go.Proofs.YtcdehejgnnnimaaGreatDoor
