/-
  What WalWhole's round knows: the boxes of the disk and the log, the step, the records that are wanted.
-/
import Derived.Test.YtofbpkaebngnlaaDoorQWalGreat
import Derived.Test.YtofbpkaebngnlaaDoorQWalBoxes
import Derived.Test.YtofbpkaebngnlaaDoorQAppG
import Derived.Test.YtofbpkaebngnlaaDoorQRefArm
namespace Go.Proofs.YtofbpkaebngnlaaDoor
set_option linter.unusedVariables false
set_option linter.unusedSimpArgs false
set_option linter.unusedVariables false
set_option linter.unusedSimpArgs false
open Go.RowKit

/-- records in a slice that lies apart from the boxes -/
def WantAt (W : World) (b5 b8 : Nat) (x : Value) (L : List (List Nat)) : Prop :=
  ∃ A c, x = .slice A L.length c ∧ L.length ≤ c ∧ c ≤ maxLen ∧ Rss W W.heap.size A L.length L ∧ (0 < L.length → Off A b5 b8)
theorem WantAt.below {W W' : World} {b5 b8 : Nat} {x : Value} {L : List (List Nat)} (h : WantAt W b5 b8 x L) (hb : Below W.heap.size W W') : WantAt W' b5 b8 x L := by
  obtain ⟨A, c, e, h1, h2, h3, h4⟩ := h
  exact ⟨A, c, e, h1, h2, h3.later hb, h4⟩
/-- they stay, if the disk's box is filled anew -/
theorem WantAt.disk {W : World} {b5 b8 : Nat} {x : Value} {L : List (List Nat)} {A A' : Option Addr} {n c n' c' : Nat} {f : Int} {dn : Bool} (h : WantAt W b5 b8 x L) (h1 : Bk W b5 28 #[.slice A n c, .slice A' n' c', .int .i64 f, .bool dn]) (a0 a1 a2 a3 : Value) : WantAt (stored4 W b5 a0 a1 a2 a3) b5 b8 x L := by
  obtain ⟨Aw, cw, e, g1, g2, g3, g4⟩ := h
  refine ⟨Aw, cw, e, g1, g2, ?_, g4⟩
  have r1 := rss_stored4 (b := b5) g3 (fun o k h => by rcases four_cell h1 h with ⟨_, h⟩ | ⟨_, h⟩ | ⟨_, h⟩ | ⟨_, h⟩ <;> cases h) (fun o' hp e => by
    obtain ⟨b, o, rfl, o1, _⟩ := g4 hp
    exact o1 (by injection e with e; injection e)) a0 a1 a2 a3
  exact r1.more (by unfold stored4; simp)
/-- they stay, if both boxes are filled anew -/
theorem WantAt.boxes {W : World} {b5 b8 : Nat} {x : Value} {L : List (List Nat)} {A A' : Option Addr} {n c n' c' : Nat} {f : Int} {dn : Bool} {z0 z1 z2 z3 : Int} (h : WantAt W b5 b8 x L) (h1 : Bk W b5 28 #[.slice A n c, .slice A' n' c', .int .i64 f, .bool dn]) (h3 : Bk W b8 35 #[.int .i64 z0, .int .i64 z1, .int .i64 z2, .int .i64 z3]) (hne : b8 ≠ b5) (a0 a1 a2 a3 e0 e1 e2 e3 : Value) :
    WantAt (stored4 (stored4 W b5 a0 a1 a2 a3) b8 e0 e1 e2 e3) b5 b8 x L := by
  obtain ⟨Aw, cw, e, g1, g2, g3, g4⟩ := h
  refine ⟨Aw, cw, e, g1, g2, ?_, g4⟩
  by_cases hp : 0 < L.length
  · exact (rss_boxes g3 (g4 hp) (by intro k; intro h; cases h) (by intro k; intro h; cases h) h1 h3 hne a0 a1 a2 a3 e0 e1 e2 e3).more (by unfold stored4; simp)
  · exact ⟨g3.1, fun h => absurd h hp⟩
/-- what a round knows -/
structure Mid (w : World) (b5 b8 b12 : Nat) (st : Array Value) (d : Dk) (h g u c : Nat) (xw : Value) (L : List (List Nat)) (W : World) : Prop where
  bx : Boxed w b5 b8 d h g u c W
  sp : Bk W b12 40 st
  wt : WantAt W b5 b8 xw L
theorem Mid.below {w W W' : World} {b5 b8 b12 : Nat} {st : Array Value} {d : Dk} {h g u c : Nat} {xw : Value} {L : List (List Nat)} (H : Mid w b5 b8 b12 st d h g u c xw L W) (hb : Below W.heap.size W W') : Mid w b5 b8 b12 st d h g u c xw L W' :=
  ⟨H.bx.below hb, H.sp.below hb H.sp.lt, H.wt.below hb⟩
theorem Mid.drew {w W : World} {b5 b8 b12 : Nat} {st : Array Value} {d : Dk} {h g u c : Nat} {xw : Value} {L : List (List Nat)} (H : Mid w b5 b8 b12 st d h g u c xw L W) : Mid w b5 b8 b12 st d h g u c xw L W.drew := H.below ((Below.refl _ _).drew)
/-- the disk's box filled anew -/
theorem Mid.disk {w W : World} {b5 b8 b12 : Nat} {st : Array Value} {d x : Dk} {h g u c : Nat} {xw : Value} {L : List (List Nat)} {A A' : Option Addr} {n k n' k' : Nat} (H : Mid w b5 b8 b12 st d h g u c xw L W)
    (hd : DkAt W W.heap.size (.agg #[.slice A n k, .slice A' n' k', .int .i64 x.fuse, .bool x.down]) x) (hne : b8 ≠ b5) (hne2 : b12 ≠ b5) (hw5 : w.heap.size ≤ b5) :
    Mid w b5 b8 b12 st x h g u c xw L (stored4 W b5 (.slice A n k) (.slice A' n' k') (.int .i64 x.fuse) (.bool x.down)) := by
  obtain ⟨⟨⟨A0, n0, c0, A0', n0', c0', k1, kd⟩, k3, kb⟩, sp, wt⟩ := H
  have hst := stored4_facts k1 (.slice A n k) (.slice A' n' k') (.int .i64 x.fuse) (.bool x.down)
  exact ⟨⟨⟨A, n, k, A', n', k', hst.1, hst.2.1 _ _ hd⟩, hst.2.2.2 _ _ _ hne k3, hst.2.2.1 _ _ kb hw5⟩, hst.2.2.2 _ _ _ hne2 sp, wt.disk k1 _ _ _ _⟩
/-- both boxes filled anew -/
theorem Mid.both {w W : World} {b5 b8 b12 : Nat} {st : Array Value} {d x : Dk} {h g u c : Nat} {xw : Value} {L : List (List Nat)} {A A' : Option Addr} {n k n' k' : Nat} (H : Mid w b5 b8 b12 st d h g u c xw L W)
    (hd : DkAt W W.heap.size (.agg #[.slice A n k, .slice A' n' k', .int .i64 x.fuse, .bool x.down]) x) (hne : b8 ≠ b5) (hne2 : b12 ≠ b5) (hne3 : b12 ≠ b8) (hw5 : w.heap.size ≤ b5) (hw8 : w.heap.size ≤ b8) (h2 g2 u2 c2 : Nat) (z0 z1 z2 z3 : Int) (e0 : z0 = (h2 : Int)) (e1 : z1 = (g2 : Int)) (e2 : z2 = (u2 : Int)) (e3 : z3 = (c2 : Int)) :
    Mid w b5 b8 b12 st x h2 g2 u2 c2 xw L (stored4 (stored4 W b5 (.slice A n k) (.slice A' n' k') (.int .i64 x.fuse) (.bool x.down)) b8 (.int .i64 z0) (.int .i64 z1) (.int .i64 z2) (.int .i64 z3)) := by
  subst e0 e1 e2 e3
  obtain ⟨⟨⟨A0, n0, c0, A0', n0', c0', k1, kd⟩, k3, kb⟩, sp, wt⟩ := H
  have hst := stored4_facts k1 (.slice A n k) (.slice A' n' k') (.int .i64 x.fuse) (.bool x.down)
  have hf3 := stored4_facts (hst.2.2.2 _ _ _ hne k3) (.int .i64 (h2 : Int)) (.int .i64 (g2 : Int)) (.int .i64 (u2 : Int)) (.int .i64 (c2 : Int))
  exact ⟨⟨⟨A, n, k, A', n', k', hf3.2.2.2 _ _ _ (Ne.symm hne) hst.1, hf3.2.1 _ _ (hst.2.1 _ _ hd)⟩, hf3.1, hf3.2.2.1 _ _ (hst.2.2.1 _ _ kb hw5) hw8⟩, hf3.2.2.2 _ _ _ hne3 (hst.2.2.2 _ _ _ hne2 sp), wt.boxes k1 k3 hne _ _ _ _ _ _ _ _⟩
/-- a disk that has fallen: when the power comes back, whatever stays, one of two lists of records is found -/
def Fallen (x : Dk) (G : Nat) (L N : List (List Nat)) : Prop :=
  rightB x = true ∧ x.secs.length = 80 ∧ ∀ m, ∃ h g LL, Holds 80 (startM x m).1 h g LL ∧ (LL = L ∨ LL = N) ∧ g ≤ G
theorem Rest.fuse {n : Nat} {d : Dk} (h : Rest n d) {f : Int} (hf : fuseB f = true) : armM d f = ({ d with fuse := f }, 0) ∧ Rest n { d with fuse := f } := h.arm hf
/-- what a step may come to -/
def Outc (g : Nat) (L N : List (List Nat)) (pk : Bool) (nr : Nat) (er : Int) (d3 : Dk) (h3 g3 u3 c3 : Nat) : Prop :=
  (er = 0 ∧ Rest 80 d3 ∧ HoldsZ 80 d3 h3 g3 N ∧ g3 ≤ g + 1 ∧ u3 = sumT N ∧ c3 = N.length) ∨ ((er = 8 ∨ er = 1 ∧ pk = false ∧ nr = 0) ∧ Rest 80 d3 ∧ HoldsZ 80 d3 h3 g3 L ∧ g3 = g ∧ u3 = sumT L ∧ c3 = L.length) ∨ (er = 9 ∧ Fallen d3 (g + 1) L N)
/-- what a round hands on -/
def NxtOk (g fl fl4 : Nat) (d4 : Dk) (h4 g4 u4 c4 : Nat) (L4 : List (List Nat)) : Prop :=
  fl4 ≤ fl + 3 ∧ Rest 80 d4 ∧ HoldsZ 80 d4 h4 g4 L4 ∧ g4 ≤ g + 4 ∧ u4 = sumT L4 ∧ c4 = L4.length
/-- a disk that has come up again -/
def BackOk (t G : Nat) (L N : List (List Nat)) (y : Dk) (h g : Nat) (LL : List (List Nat)) : Prop :=
  Rest 80 y ∧ (t = 2 → y.fuse = -1) ∧ Holds 80 y h g LL ∧ (LL = L ∨ LL = N) ∧ g ≤ G
/-- steps -/
abbrev StepM := List Nat × Nat × Bool × Int
def stv (A : Option Addr) (n c : Nat) (s : StepM) : Array Value := #[.slice A n c, .int .u8 (s.2.1 : Int), .bool s.2.2.1, .int .i8 s.2.2.2]
def StepsAt (w : World) (B : Nat) (A : Option Addr) (n : Nat) (S : List StepM) : Prop :=
  S.length = n ∧ (0 < n → ∃ b o, A = some ⟨b, o, none⟩ ∧ b < B ∧ ∀ i s, S[i]? = some s → s.2.1 < 256 ∧ -128 ≤ s.2.2.2 ∧ s.2.2.2 ≤ 127 ∧ ∃ A' n' c', n' ≤ c' ∧ c' ≤ maxLen ∧ n' ≤ 140737488355328 ∧ Bytes w B A' n' s.1 ∧
    ∀ j v, (stv A' n' c' s)[j]? = some v → w.cell? ⟨b, o + i * 4 + j, none⟩ = some v)
theorem StepsAt.below {w w' : World} {B B' n : Nat} {A : Option Addr} {S : List StepM} (h : StepsAt w B A n S) (hb : Below B' w w') (hB : B ≤ B') : StepsAt w' B A n S := ⟨h.1, fun hn => by
  obtain ⟨b, o, e, hbB, hc⟩ := h.2 hn
  refine ⟨b, o, e, hbB, fun i s hs => ?_⟩
  obtain ⟨q1, q2, q3, A', n', c', q4, q5, q6, q7, q8⟩ := hc i s hs
  exact ⟨q1, q2, q3, A', n', c', q4, q5, q6, q7.below hb hB, fun j v hv => (hb.cell (p := ⟨b, o + i * 4 + j, none⟩) (by show b < B'; omega)).trans (q8 j v hv)⟩⟩
theorem startM_fine {n : Nat} {d : Dk} (h : Fine n d) (m : Nat) : startM d m = (d, 0) := by
  obtain ⟨h1, h2, h3, h4, h5⟩ := h
  unfold startM
  rw [if_pos h1, h3]
  obtain ⟨S, l, f, b⟩ := d
  simp only at *
  subst h3 h4 h5
  rfl
/-- the two boxes, and the records that are wanted -/
structure Pr (w : World) (b5 b8 : Nat) (D : Array Value) (x : Dk) (lg : Array Value) (xw : Value) (L : List (List Nat)) (W : World) : Prop where
  k1 : Bk W b5 28 D
  kd : DkAt W W.heap.size (.agg D) x
  k3 : Bk W b8 35 lg
  kb : Below w.heap.size w W
  wt : WantAt W b5 b8 xw L
theorem Pr.below {w W W' : World} {b5 b8 : Nat} {D lg : Array Value} {x : Dk} {xw : Value} {L : List (List Nat)} (H : Pr w b5 b8 D x lg xw L W) (hb : Below W.heap.size W W') : Pr w b5 b8 D x lg xw L W' :=
  ⟨H.k1.below hb H.k1.lt, H.kd.later hb, H.k3.below hb H.k3.lt, H.kb.trans (hb.mono H.kb.size), H.wt.below hb⟩
theorem Pr.drew {w W : World} {b5 b8 : Nat} {D lg : Array Value} {x : Dk} {xw : Value} {L : List (List Nat)} (H : Pr w b5 b8 D x lg xw L W) : Pr w b5 b8 D x lg xw L W.drew := H.below ((Below.refl _ _).drew)
theorem Pr.disk {w W : World} {b5 b8 : Nat} {y x : Dk} {A0 A0' A A' : Option Addr} {n0 c0 n0' c0' n k n' k' : Nat} {f0 : Int} {q0 : Bool} {v0 v1 v2 v3 : Value} {xw : Value} {L : List (List Nat)} (H : Pr w b5 b8 #[.slice A0 n0 c0, .slice A0' n0' c0', .int .i64 f0, .bool q0] y #[v0, v1, v2, v3] xw L W)
    (hd : DkAt W W.heap.size (.agg #[.slice A n k, .slice A' n' k', .int .i64 x.fuse, .bool x.down]) x) (hne : b8 ≠ b5) (hw5 : w.heap.size ≤ b5) :
    Pr w b5 b8 #[.slice A n k, .slice A' n' k', .int .i64 x.fuse, .bool x.down] x #[v0, v1, v2, v3] xw L (stored4 W b5 (.slice A n k) (.slice A' n' k') (.int .i64 x.fuse) (.bool x.down)) := by
  have hst := stored4_facts H.k1 (.slice A n k) (.slice A' n' k') (.int .i64 x.fuse) (.bool x.down)
  exact ⟨hst.1, hst.2.1 _ _ hd, hst.2.2.2 _ _ _ hne H.k3, hst.2.2.1 _ _ H.kb hw5, H.wt.disk H.k1 _ _ _ _⟩
theorem Pr.both {w W : World} {b5 b8 : Nat} {y x : Dk} {A0 A0' A A' : Option Addr} {n0 c0 n0' c0' n k n' k' : Nat} {f0 : Int} {q0 : Bool} {i0 i1 i2 i3 : Int} {xw : Value} {L : List (List Nat)} (H : Pr w b5 b8 #[.slice A0 n0 c0, .slice A0' n0' c0', .int .i64 f0, .bool q0] y #[.int .i64 i0, .int .i64 i1, .int .i64 i2, .int .i64 i3] xw L W)
    (hd : DkAt W W.heap.size (.agg #[.slice A n k, .slice A' n' k', .int .i64 x.fuse, .bool x.down]) x) (hne : b8 ≠ b5) (hw5 : w.heap.size ≤ b5) (hw8 : w.heap.size ≤ b8) (z0 z1 z2 z3 : Int) :
    Pr w b5 b8 #[.slice A n k, .slice A' n' k', .int .i64 x.fuse, .bool x.down] x #[.int .i64 z0, .int .i64 z1, .int .i64 z2, .int .i64 z3] xw L (stored4 (stored4 W b5 (.slice A n k) (.slice A' n' k') (.int .i64 x.fuse) (.bool x.down)) b8 (.int .i64 z0) (.int .i64 z1) (.int .i64 z2) (.int .i64 z3)) := by
  have hst := stored4_facts H.k1 (.slice A n k) (.slice A' n' k') (.int .i64 x.fuse) (.bool x.down)
  have hf3 := stored4_facts (hst.2.2.2 _ _ _ hne H.k3) (.int .i64 z0) (.int .i64 z1) (.int .i64 z2) (.int .i64 z3)
  exact ⟨hf3.2.2.2 _ _ _ (Ne.symm hne) hst.1, hf3.2.1 _ _ (hst.2.1 _ _ hd), hf3.1, hf3.2.2.1 _ _ (hst.2.2.1 _ _ H.kb hw5) hw8, H.wt.boxes H.k1 H.k3 hne _ _ _ _ _ _ _ _⟩
theorem Pr.boxed {w W : World} {b5 b8 : Nat} {x : Dk} {A A' : Option Addr} {n k n' k' h g u c : Nat} {xw : Value} {L : List (List Nat)} {z0 z1 z2 z3 : Int} (H : Pr w b5 b8 #[.slice A n k, .slice A' n' k', .int .i64 x.fuse, .bool x.down] x #[.int .i64 z0, .int .i64 z1, .int .i64 z2, .int .i64 z3] xw L W) (e0 : z0 = (h : Int)) (e1 : z1 = (g : Int)) (e2 : z2 = (u : Int)) (e3 : z3 = (c : Int)) : Boxed w b5 b8 x h g u c W := by
  subst e0 e1 e2 e3
  exact ⟨⟨A, n, k, A', n', k', H.k1, H.kd⟩, H.k3, H.kb⟩
theorem bk_disk {W : World} {b5 b t : Nat} {cs : Array Value} {u0 u1 u2 u3 : Value} (h : Bk W b t cs) (h5 : Bk W b5 28 #[u0, u1, u2, u3]) (hne : b ≠ b5) (a0 a1 a2 a3 : Value) : Bk (stored4 W b5 a0 a1 a2 a3) b t cs := (stored4_facts h5 a0 a1 a2 a3).2.2.2 _ _ _ hne h
theorem bk_both {W : World} {b5 b8 b t : Nat} {cs : Array Value} {u0 u1 u2 u3 v0 v1 v2 v3 : Value} (h : Bk W b t cs) (h5 : Bk W b5 28 #[u0, u1, u2, u3]) (h8 : Bk W b8 35 #[v0, v1, v2, v3]) (hne : b ≠ b5) (hne2 : b ≠ b8) (hne85 : b8 ≠ b5) (a0 a1 a2 a3 e0 e1 e2 e3 : Value) : Bk (stored4 (stored4 W b5 a0 a1 a2 a3) b8 e0 e1 e2 e3) b t cs :=
  (stored4_facts ((stored4_facts h5 a0 a1 a2 a3).2.2.2 _ _ _ hne85 h8) e0 e1 e2 e3).2.2.2 _ _ _ hne2 (bk_disk h h5 hne a0 a1 a2 a3)
end Go.Proofs.YtofbpkaebngnlaaDoor
