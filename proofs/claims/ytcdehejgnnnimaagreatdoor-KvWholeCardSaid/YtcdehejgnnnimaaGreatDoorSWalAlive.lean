/-
 A part of the proof: see the last text.
-/
import Derived.Test.YtcdehejgnnnimaaGreatDoorSWalModel
import Derived.Test.YtcdehejgnnnimaaGreatDoorSRefRight
import Derived.Lib.SlBytesConst
namespace Go.Proofs.YtcdehejgnnnimaaGreatDoor
set_option linter.unusedVariables false
set_option linter.unusedSimpArgs false
open Go.RowKit
def freshD (n : Nat) : Dk := ⟨List.replicate n (List.replicate 64 0), [], -1, false⟩
theorem newM_fresh {n : Nat} (h : n ≤ 4096) : newM (n : Int) = (freshD n, 0) := by
 unfold newM freshD
 rw [if_pos ⟨by omega, by omega⟩]
 simp
theorem fresh_fine {n : Nat} (h : n ≤ 4096) : Fine n (freshD n) := by
 refine ⟨rightB_of.2 ⟨?_, ?_, (by decide : fuseB (-1) = true), rfl⟩, ?_, rfl, rfl, rfl⟩
 ·simp [freshD, h]
 ·simp [freshD]
 ·simp [freshD]
theorem k_over {K : Act → World → Prop} {a : Act} {W : World} (G : World → Prop) (hG : G W) (h : ∀ W', G W' → K a W') : K a W := h W hG
theorem list_over {P : Program} {ops : Array Oper} {l : List Oper} {a : Act} {W : World} {Q : Exit → Act → World → Prop} (G : World → Prop) (hG : G W) (h : ∀ W', G W' → Hid (wpList P ops Q l a W')) : Hid (wpList P ops Q l a W) := h W hG
theorem stored4_cell (w : World) (b : Nat) (a0 a1 a2 a3 : Value) {p : Addr} (hp : p.block ≠ b) : (stored4 w b a0 a1 a2 a3).cell? p = w.cell? p := by
 unfold stored4
 rw [World.cell?_setCell_other _ ⟨b, 3, none⟩ p a3 (fun e => hp (by rw [← e])), World.cell?_setCell_other _ ⟨b, 2, none⟩ p a2 (fun e => hp (by rw [← e])), World.cell?_setCell_other _ ⟨b, 1, none⟩ p a1 (fun e => hp (by rw [← e])), World.cell?_setCell_other _ ⟨b, 0, none⟩ p a0 (fun e => hp (by rw [← e]))]
theorem rss_stored4 {w : World} {B n b : Nat} {A : Option Addr} {ls : List (List Nat)} (h : Rss w B A n ls)
 (hu : ∀ (o : Nat) (k : Int), w.cell? ⟨b, o, none⟩ ≠ some (.int .u8 k)) (hA : ∀ o, 0 < n → A ≠ some ⟨b, o, none⟩) (a0 a1 a2 a3 : Value) : Rss (stored4 w b a0 a1 a2 a3) B A n ls := by
 refine ⟨h.1, fun hn => ?_⟩
 obtain ⟨b', o, e, hb', hc⟩ := h.2 hn
 have hbb : b' ≠ b := by
  rintro rfl
  exact hA o hn e
 refine ⟨b', o, e, hb', fun i hi => ?_⟩
 obtain ⟨A', n', c', h1, h2, h3, h4, h5⟩ := hc i hi
 refine ⟨A', n', c', by rw [stored4_cell _ _ _ _ _ _ (by exact hbb)]; exact h1, h2, h3, h4, h5.1, h5.2.1, fun hn' => ?_⟩
 obtain ⟨b2, o2, e2, hb2, hc2⟩ := h5.2.2 hn'
 refine ⟨b2, o2, e2, hb2, fun j hj => ?_⟩
 have := hc2 j hj
 rw [stored4_cell _ _ _ _ _ _ (p := ⟨b2, o2 + j, none⟩) (fun hb => ?_)]
 ·exact this
 ·have hb : b2 = b := hb
  subst hb
  exact hu _ _ this
theorem four_cell {w : World} {b : Nat} {t : TypeId} {u0 u1 u2 u3 v : Value} (h : Bk w b t #[u0, u1, u2, u3]) {o : Nat} (hv : w.cell? ⟨b, o, none⟩ = some v) : (o = 0 ∧ v = u0) ∨ (o = 1 ∧ v = u1) ∨ (o = 2 ∧ v = u2) ∨ (o = 3 ∧ v = u3) := by
 rw [h.cell o] at hv
 rcases o with _ | _ | _ | _ | o
 ·exact .inl ⟨rfl, by simpa using hv.symm⟩
 ·exact .inr (.inl ⟨rfl, by simpa using hv.symm⟩)
 ·exact .inr (.inr (.inl ⟨rfl, by simpa using hv.symm⟩))
 ·exact .inr (.inr (.inr ⟨rfl, by simpa using hv.symm⟩))
 ·simp at hv
structure Boxed (w : World) (b1 b3 : Nat) (d : Dk) (h g u k : Nat) (W : World) : Prop where
 ex : ∃ A n c A' n' c', Bk W b1 27 #[.slice A n c, .slice A' n' c', .int .i64 d.fuse, .bool d.down] ∧ DkAt W W.heap.size (.agg #[.slice A n c, .slice A' n' c', .int .i64 d.fuse, .bool d.down]) d
 lg : Bk W b3 32 #[.int .i64 (h : Int), .int .i64 (g : Int), .int .i64 (u : Int), .int .i64 (k : Int)]
 hb : Below w.heap.size w W
theorem Boxed.below {w W W' : World} {b1 b3 : Nat} {d : Dk} {h g u k : Nat} (H : Boxed w b1 b3 d h g u k W) (hb : Below W.heap.size W W') : Boxed w b1 b3 d h g u k W' := by
 obtain ⟨A, n, c, A', n', c', h1, h2⟩ := H.ex
 exact ⟨⟨A, n, c, A', n', c', h1.below hb h1.lt, h2.later hb⟩, H.lg.below hb H.lg.lt, H.hb.trans (hb.mono H.hb.size)⟩
theorem Boxed.store {w W : World} {b1 b3 : Nat} {A A' : Option Addr} {n c n' c' : Nat} {x : Dk} {u0 u1 u2 u3 v0 v1 v2 v3 : Value} (h1 : Bk W b1 27 #[u0, u1, u2, u3]) (h3 : Bk W b3 32 #[v0, v1, v2, v3]) (hne : b3 ≠ b1)
 (hd : DkAt W W.heap.size (.agg #[.slice A n c, .slice A' n' c', .int .i64 x.fuse, .bool x.down]) x) (hb : Below w.heap.size w W) (hw1 : w.heap.size ≤ b1) (hw3 : w.heap.size ≤ b3) (h g u k : Nat) :
 Boxed w b1 b3 x h g u k (stored4 (stored4 W b1 (.slice A n c) (.slice A' n' c') (.int .i64 x.fuse) (.bool x.down)) b3 (.int .i64 (h : Int)) (.int .i64 (g : Int)) (.int .i64 (u : Int)) (.int .i64 (k : Int))) := by
 obtain ⟨k1, k2, k3, k4⟩ := (two_boxes (h : Int) (g : Int) (u : Int) (k : Int) h1 h3 hne hd hb hw1 hw3).out
 exact ⟨⟨A, n, c, A', n', c', k1, k3⟩, k2, k4⟩
end Go.Proofs.YtcdehejgnnnimaaGreatDoor
