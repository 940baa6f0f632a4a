/-
 A part of the proof: see the last text.
-/
import Derived.Test.YtcdehejgnnnimaaGreatDoorSWalModel
import Derived.Test.YtcdehejgnnnimaaGreatDoorSWalAlive
import Derived.Test.YtcdehejgnnnimaaGreatDoorSWalOpenF
namespace Go.Proofs.YtcdehejgnnnimaaGreatDoor
set_option linter.unusedVariables false
set_option linter.unusedSimpArgs false
open Go.RowKit
theorem Rss.lt256 {w : World} {B n : Nat} {A : Option Addr} {L : List (List Nat)} (h : Rss w B A n L) : ∀ b ∈ L, ∀ x ∈ b, x < 256 := fun b hb => by
 obtain ⟨k, hk, rfl⟩ := List.mem_iff_getElem.1 hb
 obtain ⟨_, _, _, _, _, _, _, _, _, _, _, hy⟩ := h.at_ (k := k) (by rw [← h.lens]; exact hk)
 have e : textAt L k = L[k] := by unfold textAt; simp [hk]
 rw [e] at hy
 exact hy.2.1
theorem HoldsZ.fits {n : Nat} {d : Dk} {h g : Nat} {L : List (List Nat)} (H : HoldsZ n d h g L) (hn : d.secs.length = n) : LogFits d h g (sumT L) L.length := by
 subst hn
 exact H.2.2.1.1.fits H.2.1 H.1
theorem start_back {n : Nat} {x : Dk} (hr : rightB x = true) (hl : x.secs.length = n) (m : Nat) : Fine n (startM x m).1 := by
 obtain ⟨e, hf⟩ := start_rest hr hl m
 rw [e]
 exact hf
def AppWays (n : Nat) (d : Dk) (h g : Nat) (L : List (List Nat)) (b : List Nat) (w : World) (e : Ending) (w' : World) : Prop :=
 (takesN b.length = 0 ∧ LogRes w (d, 1) (logN h g (sumT L) L.length) e w') ∨
 (takesN b.length ≠ 0 ∧ n / 2 - sumT L < takesN b.length ∧ LogRes w (d, 8) (logN h g (sumT L) L.length) e w') ∨
 (takesN b.length ≠ 0 ∧ takesN b.length ≤ n / 2 - sumT L ∧ ∃ x, Rest n x ∧ (d.fuse = -1 → x.fuse = -1) ∧ HoldsZ n x h g (L ++ [b]) ∧ LogRes w (x, 0) (logN h g (sumT L + takesN b.length) (L.length + 1)) e w') ∨
 (takesN b.length ≠ 0 ∧ d.fuse ≠ -1 ∧ ∃ x, rightB x = true ∧ x.secs.length = n ∧ (∀ m, Holds n (startM x m).1 h g L ∨ Holds n (startM x m).1 h g (L ++ [b])) ∧ LogRes w (x, 9) (logN h g (sumT L) L.length) e w')
theorem append_ways {n : Nat} (v : Value) (d : Dk) (h g : Nat) (L : List (List Nat)) (A1 : Option Addr) (n1 c1 : Nat) (b : List Nat) (w : World) (hd : DkAt w w.heap.size v d) (hF : Rest n d) (H : HoldsZ n d h g L) (hby : Bytes w w.heap.size A1 n1 b) (hnc : n1 ≤ c1) (hc1 : c1 ≤ maxLen) (ht : Tab w) (hn : n1 ≤ 140737488355328) :
 Calls Tryz.prog 23 #[v, logN h g (sumT L) L.length, .slice A1 n1 c1] w (AppWays n d h g L b w) := by
 have hl := H.fits hF.2.1
 have hn' := hF.2.1
 subst hn'
 have hlen : b.length = n1 := hby.1
 subst hlen
 by_cases h0 : takesN b.length = 0
 ·exact (append_arg v d h g _ _ A1 _ c1 w hd hF.1 hl hn h0).mono fun e w' he => .inl ⟨h0, he⟩
 by_cases hfull : d.secs.length / 2 - sumT L < takesN b.length
 ·exact (append_full v d h g _ _ A1 _ c1 w hd hF.1 hl hn h0 hfull).mono fun e w' he => .inr (.inl ⟨h0, hfull, he⟩)
 have hfit : takesN b.length ≤ d.secs.length / 2 - sumT L := by omega
 have hfit2 : sumT L + takesN b.length ≤ d.secs.length / 2 := by have := hl.2.2.2.2.1; omega
 have hok : okR b := takesN_pos.1 (Nat.pos_of_ne_zero h0)
 have ht1 : takesN b.length = 1 + nck b.length := takesN_ok hok.1 hok.2
 have hh := halves (n := d.secs.length) H.1
 have hlen : (appD (h * (d.secs.length / 2) + sumT L) g L.length b).length ≤ 100000 := by
  unfold appD
  rw [List.length_append, putsD_length, bodyL_length]
  have := takesN_le b.length
  simp
  omega
 rcases rest_run hF (inD_app (g := g) (k := L.length) hok (by rcases hh with ⟨_, a, c⟩ | ⟨_, a, c⟩ <;> omega : h * (d.secs.length / 2) + sumT L + takesN b.length ≤ d.secs.length)) hlen (by rw [app_eff]) with ⟨r0, r1, r2, r3⟩ | ⟨r9, rne, rr, rl, rb⟩
 ·rw [app_eff] at r2
  have hz := HoldsZ.app hF r1 H r2 hok hby.2.1 hfit2
  refine (append_run v d h g _ _ A1 _ c1 b w hd hF.1 hl hby hnc hc1 ht hn h0 hfit (.inl r0)).mono fun e w' he => .inr (.inr (.inl ⟨h0, hfit, _, r1, r3, hz, ?_⟩))
  obtain ⟨vv, e1, e2, e3⟩ := he
  exact ⟨vv, by rw [e1, r0]; unfold appLog; rw [if_pos r0], e2, e3⟩
 ·refine (append_run v d h g _ _ A1 _ c1 b w hd hF.1 hl hby hnc hc1 ht hn h0 hfit (.inr r9)).mono fun e w' he => .inr (.inr (.inr ⟨h0, rne, _, rr, rl, fun m => ?_, ?_⟩))
  ·obtain ⟨ds1, ds2, q1, q2⟩ := rb m
   exact HoldsZ.app_back m hF (start_back rr rl m).rest H q1 q2 hok hby.2.1 hfit2
  ·obtain ⟨vv, e1, e2, e3⟩ := he
   exact ⟨vv, by rw [e1, r9]; unfold appLog; rw [if_neg (by omega)], e2, e3⟩
def CmpWays (n : Nat) (d : Dk) (h g : Nat) (L L' : List (List Nat)) (w : World) (e : Ending) (w' : World) : Prop :=
 (needN L' = 0 ∧ LogRes w (d, 1) (logN h g (sumT L) L.length) e w') ∨
 (needN L' ≠ 0 ∧ n / 2 < sumT L' ∧ LogRes w (d, 8) (logN h g (sumT L) L.length) e w') ∨
 (needN L' ≠ 0 ∧ sumT L' ≤ n / 2 ∧ ∃ x, Rest n x ∧ (d.fuse = -1 → x.fuse = -1) ∧ HoldsZ n x (1 - h) (g + 1) L' ∧ LogRes w (x, 0) (logN (1 - h) (g + 1) (sumT L') L'.length) e w') ∨
 (needN L' ≠ 0 ∧ d.fuse ≠ -1 ∧ ∃ x, rightB x = true ∧ x.secs.length = n ∧ (∀ m, Holds n (startM x m).1 h g L ∨ Holds n (startM x m).1 (1 - h) (g + 1) L') ∧ LogRes w (x, 9) (logN h g (sumT L) L.length) e w')
theorem compact_run (v : Value) (d : Dk) (h g u k : Nat) (A1 : Option Addr) (n1 c1 : Nat) (L : List (List Nat)) (w : World) (hd : DkAt w w.heap.size v d) (hr : rightB d = true) (hl : LogFits d h g u k) (hL : Rss w w.heap.size A1 n1 L) (hn : n1 ≤ 1000000) (hok : ∀ b ∈ L, okR b) (hne : L ≠ []) (hfit : sumT L ≤ d.secs.length / 2) (hgm : g < 1099511627776) (ht : Tab w)
 (hx09 : (runM d (layD ((1 - h) * (d.secs.length / 2)) (d.secs.length / 2) (g + 1) L)).2 = 0 ∨ (runM d (layD ((1 - h) * (d.secs.length / 2)) (d.secs.length / 2) (g + 1) L)).2 = 9) :
 Calls Tryz.prog 24 #[v, logN h g u k, .slice A1 n1 c1] w (LogRes w (runM d (layD ((1 - h) * (d.secs.length / 2)) (d.secs.length / 2) (g + 1) L)) (cmpLog (runM d (layD ((1 - h) * (d.secs.length / 2)) (d.secs.length / 2) (g + 1) L)) h g u k L)) := by
 have hh : h = 0 ∨ h = 1 := by have := hl.1; omega
 rcases hh with rfl | rfl
 ·have e : (1 - 0) * (d.secs.length / 2) = d.secs.length / 2 := by omega
  rw [e] at hx09 ⊢
  exact compact_run0 v d g u k A1 n1 c1 L w hd hr hl hL hn hok hne hfit hgm ht hx09
 ·have e : (1 - 1) * (d.secs.length / 2) = 0 := by omega
  rw [e] at hx09 ⊢
  exact compact_run1 v d g u k A1 n1 c1 L w hd hr hl hL hn hok hne hfit hgm ht hx09
theorem compact_ways {n : Nat} (v : Value) (d : Dk) (h g : Nat) (L L' : List (List Nat)) (A1 : Option Addr) (n1 c1 : Nat) (w : World) (hd : DkAt w w.heap.size v d) (hF : Rest n d) (H : HoldsZ n d h g L) (hg : g < 1099511627776) (hL : Rss w w.heap.size A1 n1 L') (hn : n1 ≤ 1000000) (ht : Tab w) :
 Calls Tryz.prog 24 #[v, logN h g (sumT L) L.length, .slice A1 n1 c1] w (CmpWays n d h g L L' w) := by
 have hl := H.fits hF.2.1
 have hn' := hF.2.1
 subst hn'
 have hh := halves (n := d.secs.length) H.1
 by_cases h0 : needN L' = 0
 ·have : h = 0 ∨ h = 1 := by have := hl.1; omega
  rcases this with rfl | rfl
  ·exact (compact_arg0 v d g _ _ A1 n1 c1 L' w hd hF.1 hl hL hn h0).mono fun e w' he => .inl ⟨h0, he⟩
  ·exact (compact_arg1 v d g _ _ A1 n1 c1 L' w hd hF.1 hl hL hn h0).mono fun e w' he => .inl ⟨h0, he⟩
 obtain ⟨hok, hne⟩ := needN_pos.1 (Nat.pos_of_ne_zero h0)
 by_cases hfull : d.secs.length / 2 < sumT L'
 ·have : h = 0 ∨ h = 1 := by have := hl.1; omega
  rcases this with rfl | rfl
  ·exact (compact_full0 v d g _ _ A1 n1 c1 L' w hd hF.1 hl hL hn hok hne hfull).mono fun e w' he => .inr (.inl ⟨h0, hfull, he⟩)
  ·exact (compact_full1 v d g _ _ A1 n1 c1 L' w hd hF.1 hl hL hn hok hne hfull).mono fun e w' he => .inr (.inl ⟨h0, hfull, he⟩)
 have hfit : sumT L' ≤ d.secs.length / 2 := by omega
 have hlen := layD_length (o := (1 - h) * (d.secs.length / 2)) (g := g + 1) hok hfit
 have hsl : d.secs.length ≤ 4096 := (rightB_of.1 hF.1).1
 rcases rest_run hF (inD_lay (g := g + 1) hok hfit hne (by rcases hh with ⟨_, a, c⟩ | ⟨_, a, c⟩ <;> omega : (1 - h) * (d.secs.length / 2) + d.secs.length / 2 ≤ d.secs.length)) (by omega) (by rw [lay_eff]) with ⟨r0, r1, r2, r3⟩ | ⟨r9, rne, rr, rl, rb⟩
 ·rw [lay_eff] at r2
  have hz := Holds.lay hF r1 H.holds r2 hok hL.lt256 hfit hne hg
  refine (compact_run v d h g _ _ A1 _ c1 L' w hd hF.1 hl hL hn hok hne hfit hg ht (.inl r0)).mono fun e w' he => .inr (.inr (.inl ⟨h0, hfit, _, r1, r3, hz, ?_⟩))
  obtain ⟨vv, e1, e2, e3⟩ := he
  exact ⟨vv, by rw [e1, r0]; unfold cmpLog; rw [if_pos r0], e2, e3⟩
 ·refine (compact_run v d h g _ _ A1 _ c1 L' w hd hF.1 hl hL hn hok hne hfit hg ht (.inr r9)).mono fun e w' he => .inr (.inr (.inr ⟨h0, rne, _, rr, rl, fun m => ?_, ?_⟩))
  ·obtain ⟨ds1, ds2, q1, q2⟩ := rb m
   exact Holds.lay_back m hF (start_back rr rl m).rest H.holds q1 q2 hok hL.lt256 hfit hne hg
  ·obtain ⟨vv, e1, e2, e3⟩ := he
   exact ⟨vv, by rw [e1, r9]; unfold cmpLog; rw [if_neg (by omega)], e2, e3⟩
def OpnWays (n : Nat) (d : Dk) (h g : Nat) (L : List (List Nat)) (w : World) (e : Ending) (w' : World) : Prop :=
 (∃ x, Rest n x ∧ (d.fuse = -1 → x.fuse = -1) ∧ HoldsZ n x (1 - h) (g + 1) L ∧ OpRes w (x, 0) h g L e w') ∨
 (d.fuse ≠ -1 ∧ ∃ x, rightB x = true ∧ x.secs.length = n ∧ (∀ m, Holds n (startM x m).1 h g L ∨ Holds n (startM x m).1 (1 - h) (g + 1) L) ∧ OpFall w (x, 9) e w')
theorem open_ways {n : Nat} (v : Value) (d : Dk) (h g : Nat) (L : List (List Nat)) (w : World) (hd : DkAt w w.heap.size v d) (hF : Rest n d) (H : Holds n d h g L) (hg : g < 1099511627776) (ht : Tab w) :
 Calls Tryz.prog 26 #[v] w (OpnWays n d h g L w) := by
 have hn' := hF.2.1
 subst hn'
 have hh := halves (n := d.secs.length) H.1
 obtain ⟨h1, hne, hlog, G, hG, hgen⟩ := id H
 have hok := hlog.1
 have hfit := hlog.2.2.1
 have hby := hlog.2.1
 have hlen := layD_length (o := (1 - h) * (d.secs.length / 2)) (g := g + 1) hok hfit
 have hsl : d.secs.length ≤ 4096 := (rightB_of.1 hF.1).1
 have hrun := rest_run hF (inD_lay (g := g + 1) hok hfit hne (by rcases hh with ⟨_, a, c⟩ | ⟨_, a, c⟩ <;> omega : (1 - h) * (d.secs.length / 2) + d.secs.length / 2 ≤ d.secs.length)) (by omega) (by rw [lay_eff])
 rw [lay_eff] at hrun
 rcases hrun with ⟨r0, r1, r2, r3⟩ | ⟨r9, rne, rr, rl, rb⟩
 ·have hz := Holds.lay hF r1 H r2 hok hby hfit hne hg
  have hc : Calls Tryz.prog 26 #[v] w (OpRes w (runM d (layD ((1 - h) * (d.secs.length / 2)) (d.secs.length / 2) (g + 1) L)) h g L) := by
   have : h = 0 ∨ h = 1 := by omega
   rcases this with rfl | rfl
   ·have e : (1 - 0) * (d.secs.length / 2) = 1 * (d.secs.length / 2) := by omega
    rw [e] at hgen
    have e2 : (1 - 0) * (d.secs.length / 2) = d.secs.length / 2 := by omega
    rw [e2] at r0 ⊢
    exact open_ok0 v d g G L w hd hF.1 hF.2.2.2 (.inr (hlog.head hne)) hgen (by omega) hlog hne hg ht r0
   ·have e : (1 - 1) * (d.secs.length / 2) = 0 * (d.secs.length / 2) := by omega
    rw [e] at hgen
    have e2 : (1 - 1) * (d.secs.length / 2) = 0 := by omega
    rw [e2] at r0 ⊢
    exact open_ok1 v d G g L w hd hF.1 hF.2.2.2 hgen (.inr (hlog.head hne)) (by omega) hlog hne hg ht r0
  refine hc.mono fun e w' he => .inl ⟨_, r1, r3, hz, ?_⟩
  obtain ⟨vv, A, c, e1, e2⟩ := he
  exact ⟨vv, A, c, by rw [e1, r0], e2⟩
 ·have hc : Calls Tryz.prog 26 #[v] w (OpFall w (runM d (layD ((1 - h) * (d.secs.length / 2)) (d.secs.length / 2) (g + 1) L))) := by
   have : h = 0 ∨ h = 1 := by omega
   rcases this with rfl | rfl
   ·have e : (1 - 0) * (d.secs.length / 2) = 1 * (d.secs.length / 2) := by omega
    rw [e] at hgen
    have e2 : (1 - 0) * (d.secs.length / 2) = d.secs.length / 2 := by omega
    rw [e2] at r9 ⊢
    exact open_fall0 v d g G L w hd hF.1 hF.2.2.2 (.inr (hlog.head hne)) hgen (by omega) hlog hne hg ht r9
   ·have e : (1 - 1) * (d.secs.length / 2) = 0 * (d.secs.length / 2) := by omega
    rw [e] at hgen
    have e2 : (1 - 1) * (d.secs.length / 2) = 0 := by omega
    rw [e2] at r9 ⊢
    exact open_fall1 v d G g L w hd hF.1 hF.2.2.2 hgen (.inr (hlog.head hne)) (by omega) hlog hne hg ht r9
  refine hc.mono fun e w' he => .inr ⟨rne, _, rr, rl, fun m => ?_, he⟩
  obtain ⟨ds1, ds2, q1, q2⟩ := rb m
  exact Holds.lay_back m hF (start_back rr rl m).rest H q1 q2 hok hby hfit hne hg
theorem Boxed.made {w W : World} {b1 : Nat} {A A' : Option Addr} {n c n' c' : Nat} {x : Dk} {u0 u1 u2 u3 : Value} (h1 : Bk W b1 27 #[u0, u1, u2, u3])
 (hd : DkAt W W.heap.size (.agg #[.slice A n c, .slice A' n' c', .int .i64 x.fuse, .bool x.down]) x) (hb : Below w.heap.size w W) (hw1 : w.heap.size ≤ b1) (h g u k : Nat) (z0 z1 z2 z3 : Int) (e0 : z0 = (h : Int)) (e1 : z1 = (g : Int)) (e2 : z2 = (u : Int)) (e3 : z3 = (k : Int)) :
 Boxed w b1 W.heap.size x h g u k ((stored4 W b1 (.slice A n c) (.slice A' n' c') (.int .i64 x.fuse) (.bool x.down)).alloc (.cells #[.int .i64 z0, .int .i64 z1, .int .i64 z2, .int .i64 z3] 32)) := by
 subst e0 e1 e2 e3
 have hst := stored4_facts h1 (.slice A n c) (.slice A' n' c') (.int .i64 x.fuse) (.bool x.down)
 have hsz : W.heap.size = (stored4 W b1 (.slice A n c) (.slice A' n' c') (.int .i64 x.fuse) (.bool x.down)).heap.size := by unfold stored4; simp
 exact ⟨⟨A, n, c, A', n', c', hst.1.alloc _, (hst.2.1 _ _ hd).later ((Below.refl _ _).alloc (Nat.le_refl _) _)⟩, Bk.new' _ _ _ _ hsz, (hst.2.2.1 _ _ hb hw1).alloc (hst.2.2.1 _ _ hb hw1).size _⟩
theorem format_fine {n : Nat} (v : Value) (d : Dk) (A1 : Option Addr) (n1 c1 : Nat) (L : List (List Nat)) (w : World) (hd : DkAt w w.heap.size v d) (hF : Fine n d) (hL : Rss w w.heap.size A1 n1 L) (hn : n1 ≤ 1000000) (hok : ∀ b ∈ L, okR b) (hne : L ≠ []) (hfit : sumT L ≤ n / 2) (ht : Tab w) :
 Calls Tryz.prog 16 #[v, .slice A1 n1 c1] w fun e w' => ∃ x, Fine n x ∧ HoldsZ n x 0 1 L ∧ LogRes w (x, 0) (logN 0 1 (sumT L) L.length) e w' := by
 obtain ⟨f1, f2, f3, f4⟩ := form_log hF hok hL.lt256 hfit hne
 have hn' := hF.2.1
 subst hn'
 refine (format_run v d A1 n1 c1 L w hd hF.1 hL hn hok hne hfit ht f1).mono fun e w' he => ⟨_, f2, ⟨by omega, hne, ?_, 0, by omega, ?_⟩, ?_⟩
 ·rw [Nat.zero_mul]; exact f3
 ·rw [show (1 - 0) * (d.secs.length / 2) = d.secs.length / 2 by omega]; exact .inl ⟨rfl, f4⟩
 ·obtain ⟨vv, e1, e2, e3⟩ := he
  exact ⟨vv, by rw [e1, f1], e2, e3⟩
end Go.Proofs.YtcdehejgnnnimaaGreatDoor
