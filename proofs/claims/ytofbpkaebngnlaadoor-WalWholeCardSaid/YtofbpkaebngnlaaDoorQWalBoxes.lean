/-
  The boxes of a disk and a log, and what lies beside them.
-/
import Derived.Test.YtofbpkaebngnlaaDoorQWalCalls
namespace Go.Proofs.YtofbpkaebngnlaaDoor
set_option linter.unusedVariables false
set_option linter.unusedSimpArgs false
set_option linter.unusedVariables false
set_option linter.unusedSimpArgs false
open Go.RowKit

/-- a slice of slices of slices of bytes -/
def Rlls (w : World) (B : Nat) (A : Option Addr) (n : Nat) (LL : List (List (List Nat))) : Prop :=
  LL.length = n ∧ (0 < n → ∃ b o, A = some ⟨b, o, none⟩ ∧ b < B ∧ ∀ i, i < n → ∃ A' n' c', w.cell? ⟨b, o + i, none⟩ = some (.slice A' n' c') ∧ n' ≤ c' ∧ c' ≤ maxLen ∧ n' ≤ 140737488355328 ∧ Rss w B A' n' (LL.getD i []))
theorem Rlls.below {w w' : World} {B B' n : Nat} {A : Option Addr} {LL : List (List (List Nat))} (h : Rlls w B A n LL) (hb : Below B' w w') (hB : B ≤ B') : Rlls w' B A n LL := ⟨h.1, fun hn => by
  obtain ⟨b, o, e, hbB, hc⟩ := h.2 hn
  refine ⟨b, o, e, hbB, fun i hi => ?_⟩
  obtain ⟨A', n', c', h1, h2, h3, h4, h5⟩ := hc i hi
  exact ⟨A', n', c', (hb.cell (p := ⟨b, o + i, none⟩) (by show b < B'; omega)).trans h1, h2, h3, h4, h5.below hb hB⟩⟩
theorem Rlls.at_ {w : World} {B n : Nat} {A : Option Addr} {LL : List (List (List Nat))} {k : Nat} (h : Rlls w B A n LL) (hk : k < n) : ∃ b o A' n' c', A = some ⟨b, o, none⟩ ∧ b < B ∧ w.cell? ⟨b, o + k, none⟩ = some (.slice A' n' c') ∧ n' ≤ c' ∧ c' ≤ maxLen ∧ n' ≤ 140737488355328 ∧ Rss w B A' n' (LL.getD k []) := by
  obtain ⟨b, o, e, hbB, hc⟩ := h.2 (by omega)
  obtain ⟨A', n', c', h1, h2, h3, h4, h5⟩ := hc k hk
  exact ⟨b, o, A', n', c', e, hbB, h1, h2, h3, h4, h5⟩
/-- a slice that lies in neither of two boxes -/
def Off (A : Option Addr) (b1 b3 : Nat) : Prop := ∃ b o, A = some ⟨b, o, none⟩ ∧ b ≠ b1 ∧ b ≠ b3
/-- records that lie apart from the boxes of the disk and the log stay, if these are filled anew -/
theorem rss_boxes {W : World} {b1 b3 n : Nat} {A : Option Addr} {L : List (List Nat)} {d0 d1 : Value} {f : Int} {dn : Bool} {z0 z1 z2 z3 : Int} (hr : Rss W W.heap.size A n L) (hoff : Off A b1 b3) (hd0 : ∀ k, d0 ≠ .int .u8 k) (hd1 : ∀ k, d1 ≠ .int .u8 k) (h1 : Bk W b1 28 #[d0, d1, .int .i64 f, .bool dn]) (h3 : Bk W b3 35 #[.int .i64 z0, .int .i64 z1, .int .i64 z2, .int .i64 z3]) (hne : b3 ≠ b1) (a0 a1 a2 a3 e0 e1 e2 e3 : Value) :
    Rss (stored4 (stored4 W b1 a0 a1 a2 a3) b3 e0 e1 e2 e3) W.heap.size A n L := by
  obtain ⟨b, o, rfl, o1, o3⟩ := hoff
  have hf1 := stored4_facts h1 a0 a1 a2 a3
  have r1 := rss_stored4 (b := b1) hr (fun o k h => by rcases four_cell h1 h with ⟨_, h⟩ | ⟨_, h⟩ | ⟨_, h⟩ | ⟨_, h⟩; exact hd0 k h.symm; exact hd1 k h.symm; cases h; cases h) (fun o' _ e => o1 (by injection e with e; injection e)) a0 a1 a2 a3
  exact rss_stored4 (b := b3) r1 (fun o k h => by rcases four_cell (hf1.2.2.2 _ _ _ hne h3) h with ⟨_, h⟩ | ⟨_, h⟩ | ⟨_, h⟩ | ⟨_, h⟩ <;> cases h) (fun o' _ e => o3 (by injection e with e; injection e)) e0 e1 e2 e3
theorem with_one {w W : World} {b1 b3 : Nat} {d : Dk} {h g u k x : Nat} {z : Int} (H : Boxed w b1 b3 d h g u k W) (hz : W.heap.size = b3 + 1) (hx : x < 256) (e : z = (x : Int)) :
    Boxed w b1 b3 d h g u k ((W.alloc (.cells #[.int .u8 z] 5)).alloc (.cells #[.slice (some ⟨b3 + 1, 0, none⟩) 1 1] 32)) ∧
      Rss ((W.alloc (.cells #[.int .u8 z] 5)).alloc (.cells #[.slice (some ⟨b3 + 1, 0, none⟩) 1 1] 32)) (b3 + 1 + 1 + 1) (some ⟨b3 + 1 + 1, 0, none⟩) 1 [[x]] ∧
      b3 + 1 + 1 + 1 ≤ ((W.alloc (.cells #[.int .u8 z] 5)).alloc (.cells #[.slice (some ⟨b3 + 1, 0, none⟩) 1 1] 32)).heap.size := by
  subst e
  have hby := Bytes.one W (b := x) hx 5
  have hr := Rss.one (W.alloc (.cells #[.int .u8 (x : Int)] 5)) (c := 1) hby (by omega) (by omega) (by unfold maxLen; omega) (by simp) 32
  rw [hz] at hr
  refine ⟨H.below (((Below.refl _ _).alloc (Nat.le_refl _) _).alloc (by simp) _), ?_, by simp [hz]⟩
  simpa [hz] using hr
theorem below_drewN (w : World) (k : Nat) : Below w.heap.size w (w.drewN k) := ⟨rfl, rfl, rfl, Nat.le_refl _, fun _ _ => rfl⟩
theorem made4 {w W : World} {b1 : Nat} {A A' : Option Addr} {n c n' c' : Nat} {x : Dk} {u0 u1 u2 u3 : Value} (h1 : Bk W b1 28 #[u0, u1, u2, u3])
    (hd : DkAt W W.heap.size (.agg #[.slice A n c, .slice A' n' c', .int .i64 x.fuse, .bool x.down]) x) (hb : Below w.heap.size w W) (hw1 : w.heap.size ≤ b1) (z0 z1 z2 z3 : Value) :
    (fun W' => Bk W' b1 28 #[.slice A n c, .slice A' n' c', .int .i64 x.fuse, .bool x.down] ∧ Bk W' W.heap.size 35 #[z0, z1, z2, z3] ∧ DkAt W' W'.heap.size (.agg #[.slice A n c, .slice A' n' c', .int .i64 x.fuse, .bool x.down]) x ∧ Below w.heap.size w W')
      ((stored4 W b1 (.slice A n c) (.slice A' n' c') (.int .i64 x.fuse) (.bool x.down)).alloc (.cells #[z0, z1, z2, z3] 35)) := by
  have hst := stored4_facts h1 (.slice A n c) (.slice A' n' c') (.int .i64 x.fuse) (.bool x.down)
  have hsz : W.heap.size = (stored4 W b1 (.slice A n c) (.slice A' n' c') (.int .i64 x.fuse) (.bool x.down)).heap.size := by unfold stored4; simp
  exact ⟨hst.1.alloc _, Bk.new' _ _ _ _ hsz, (hst.2.1 _ _ hd).later ((Below.refl _ _).alloc (Nat.le_refl _) _), (hst.2.2.1 _ _ hb hw1).alloc (hst.2.2.1 _ _ hb hw1).size _⟩
/-- the disk's box and the log's, filled anew -/
theorem refill {w W : World} {b1 b3 : Nat} {A A' : Option Addr} {n c n' c' : Nat} {x : Dk} {u0 u1 u2 u3 v0 v1 v2 v3 : Value} (h1 : Bk W b1 28 #[u0, u1, u2, u3]) (h3 : Bk W b3 35 #[v0, v1, v2, v3]) (hne : b3 ≠ b1)
    (hd : DkAt W W.heap.size (.agg #[.slice A n c, .slice A' n' c', .int .i64 x.fuse, .bool x.down]) x) (hb : Below w.heap.size w W) (hw1 : w.heap.size ≤ b1) (hw3 : w.heap.size ≤ b3) (z0 z1 z2 z3 : Value) :
    (fun W' => Bk W' b1 28 #[.slice A n c, .slice A' n' c', .int .i64 x.fuse, .bool x.down] ∧ Bk W' b3 35 #[z0, z1, z2, z3] ∧ DkAt W' W'.heap.size (.agg #[.slice A n c, .slice A' n' c', .int .i64 x.fuse, .bool x.down]) x ∧ Below w.heap.size w W')
      (stored4 (stored4 W b1 (.slice A n c) (.slice A' n' c') (.int .i64 x.fuse) (.bool x.down)) b3 z0 z1 z2 z3) := by
  have hf1 := stored4_facts h1 (.slice A n c) (.slice A' n' c') (.int .i64 x.fuse) (.bool x.down)
  have hf3 := stored4_facts (hf1.2.2.2 _ _ _ hne h3) z0 z1 z2 z3
  exact ⟨hf3.2.2.2 _ _ _ (Ne.symm hne) hf1.1, hf3.1, hf3.2.1 _ _ (hf1.2.1 _ _ hd), hf3.2.2.1 _ _ (hf1.2.2.1 _ _ hb hw1) hw3⟩
end Go.Proofs.YtofbpkaebngnlaaDoor
