/-
 A part of the proof: see the last text.
-/
import Derived.Test.YtcdehejgnnnimaaGreatDoorSSecIter
import Derived.Test.YtcdehejgnnnimaaGreatDoorSSecAppend
import Derived.Test.YtcdehejgnnnimaaGreatDoorSSecWords
import Derived.Deep.WholeRow
namespace Go.Proofs.YtcdehejgnnnimaaGreatDoor
set_option linter.unusedVariables false
set_option linter.unusedSimpArgs false
open Go.RowKit Go.Shelf
attribute [local go_sem] Oper.semAt_some
set_option maxRecDepth 100000 in
set_option maxHeartbeats 2000000 in
theorem settled_any (v : Value) (d : Dk) (g : Nat) (cap : Array Value) (st : Nat → Bool) (w : World) (hd : DkAt w w.heap.size v d) (hr : rightB d = true)
 (hSt : ∀ (S : Nat → Prop) (m : Nat) (W : World), Below w.heap.size w W → (∀ b, b < w.heap.size → S b) → Stays Fence.wide m S g cap W st) :
 Calls Tryz.prog 85 #[v, .func (.func g) #[] cap] w fun e w' => ∃ v', e = .returned v' ∧ RowsOut w' w.heap.size 84 64 v' d.secs.length ((rowsM d.secs (comeM st d.loose 0)).map secv) ∧ Below w.heap.size w w' := by
 obtain ⟨A, n, c, A', n', c', rfl, hnc, hnc', hc, hc', hS, hL⟩ := hd
 have hn : d.secs.length = n := by have := hS.1; simpa using this
 have hn' : d.loose.length = n' := by have := hL.1; simpa using this
 rw [hn]
 have hR : n ≤ 4096 ∧ n' ≤ 100000 ∧ looseB n d.loose = true := by
  unfold rightB at hr
  simp only [Bool.and_eq_true, decide_eq_true_eq, hn, hn'] at hr
  exact ⟨hr.1.1.1, hr.1.1.2, hr.2⟩
 obtain ⟨h4096, h100, hlo⟩ := hR
 obtain ⟨xs, hxs⟩ := wr_of (n := n) hlo (fun x hx => by have := hL.2.1 (wrv x) (List.mem_map.2 ⟨x, hx, rfl⟩); simpa [wrv_length] using this)
 have HN := Lib.hid hn; have HN' := Lib.hid hn'; have HX := Lib.hid hxs; have HLO := Lib.hid hlo; clear hn hn' hxs hlo
 have HS := Lib.hid hS; have HL := Lib.hid hL; clear hS hL
 have HST := Lib.hid hSt; clear hSt
 refine (callsIn_wide (n := 3)).1 ?_
 refine callsIn_of_wp_marks Tryz.func85 rfl trivial ?_ rfl
 simp only [Tryz.ntmps85, List.size_toArray, List.length_cons, List.length_nil, Nat.reduceAdd, Nat.reduceSub, Array.replicate_succ, Array.replicate_zero, List.push_toArray, List.append_toArray, List.nil_append, List.cons_append]
 have hmk := fun W => run_make_bools (P := Tryz.prog) (t := 159) (e := 4) Tryz.underlying159 (by kernel_rfl) n (by omega) W
 gi_wp2_with fail
 refine ⟨trivial, (callsIn_wide.2 (clone_any A n c d.secs _ (by omega) ?_)).mono ?_⟩
 ·exact (HS.out.below ((Below.refl w.heap.size w).alloc (Nat.le_refl _) _) (Nat.le_refl _)).more (by simp)
 rintro e w1 ⟨v1, rfl, hR1, hb1⟩
 obtain ⟨A1, c1, hv1, hnc1, hc1, _, _, hrow1⟩ := hR1
 rw [hv1]
 clear hv1
 have HROW1 := Lib.hid hrow1
 clear hrow1
 have B0 : Bk w1 w.heap.size 27 #[.slice A n c, .slice A' n' c', .int .i64 d.fuse, .bool d.down] := Bk.below (by exact Bk.new _ _ _) hb1 (by simp only [World.size_alloc]; omega)
 have hb : Below w.heap.size w w1 := ((Below.refl _ _).alloc (Nat.le_refl _) _).trans (hb1.mono (by simp only [World.size_alloc]; omega))
 have hl0 : w.heap.size < w1.heap.size := B0.lt
 have hl1 : w.heap.size < w1.heap.size + 1 := by omega
 have hl2 : w.heap.size < w1.heap.size + 1 + 1 := by omega
 have hl3 : w.heap.size < w1.heap.size + 1 + 1 + 1 := by omega
 obtain ⟨⟨p0, p1, p2, p3⟩, q0, q1, q2, q3⟩ := B0.four
 have HB0 := Lib.hid B0
 clear B0
 gi_wp2_with fail
 refine ⟨trivial, (fromLast_in Fence.wide 2 trivial rfl A' n' c' g cap _).mono ?_⟩
 rintro e w' ⟨rfl, rfl⟩
 gi_wp2_with fail
 obtain ⟨g1, hg1, hg1l, hg1n, hROW⟩ : ∃ g1, w.heap.size ≤ g1 ∧ g1 < w1.heap.size + 2 ∧ g1 ≠ w1.heap.size ∧ Hid (0 < n → g1 < w1.heap.size ∧ A1 = some ⟨g1, 0, none⟩ ∧ ∃ cs, Bk w1 g1 84 cs ∧ n * 64 ≤ cs.size ∧ ∀ (j : Nat) (u : Value), (d.secs.map secv).flatten[j]? = some u → cs[j]? = some u) := by
  by_cases h0 : 0 < n
  ·obtain ⟨g1, cs, e1, e2, e3, e4, e5⟩ := HROW1.out h0
   have := e3.lt
   simp only [World.size_alloc] at e2
   exact ⟨g1, by omega, by omega, by omega, fun _ => ⟨by omega, e1, cs, e3, e4, e5⟩⟩
  ·exact ⟨w1.heap.size + 1, by omega, by omega, by omega, fun h => absurd h h0⟩
 refine wpIn_over (fun W => (Bk W w1.heap.size 24 #[.slice A1 n c1] ∧ Bk W (w1.heap.size + 1) 4 (flagsM n []).toArray ∧ Bk W (w1.heap.size + 1 + 1) 159 #[.slice (some ⟨w1.heap.size + 1, 0, none⟩) n n] ∧
  Bk W (w1.heap.size + 1 + 1 + 1) 25 #[.slice A' n' c'] ∧ Bk W (w1.heap.size + 1 + 1 + 1 + 1) 113 #[.func (.func g) #[] cap]) ∧
  W.heap.size = w1.heap.size + 5 ∧ Below w.heap.size w W ∧ Below w1.heap.size w1 W) ?hF ?hw
 case hF =>
  refine ⟨⟨((((Bk.new _ _ _).alloc _).alloc _).alloc _).alloc _, ?_, ((Bk.new3 _ _ _ _ _).alloc _).alloc _, (Bk.new4 _ _ _ _ _ _).alloc _, ?_⟩, by simp, ?_, ?_⟩
  ·rw [flagsM_nil, List.toArray_replicate]
   exact (((Bk.new2 _ _ _ _).alloc _).alloc _).alloc _
  ·exact Bk.new' _ _ _ _ (by simp)
  ·repeat (first | with_reducible exact hb | (refine Below.alloc ?_ (by first | omega | (simp; done) | (simp; omega)) _))
  ·repeat (first | with_reducible exact Below.refl _ _ | (refine Below.alloc ?_ (by first | omega | (simp; done) | (simp; omega)) _))
 case hw =>
  clear hmk p0 p1 p2 p3 q0 q1 q2 q3 HB0 HROW1 hb1
  rintro W0 ⟨⟨K0, K1, K2, K3, K4⟩, hsz, hbw, hbw1⟩
  have hS0 : (fun b => b < w1.heap.size + 5 ∧ b ≠ g1 ∧ b ≠ w1.heap.size + 1) (w1.heap.size + 1 + 1 + 1) := ⟨by omega, by omega, by omega⟩
  have hS1 : (fun b => b < w1.heap.size + 5 ∧ b ≠ g1 ∧ b ≠ w1.heap.size + 1) (w1.heap.size + 1 + 1 + 1 + 1) := ⟨by omega, by omega, by omega⟩
  have hSn : ∀ b, b < w.heap.size → (fun b => b < w1.heap.size + 5 ∧ b ≠ g1 ∧ b ≠ w1.heap.size + 1) b := fun b hb => ⟨by omega, by omega, by omega⟩
  have hSw : ∀ b, (fun b => b < w1.heap.size + 5 ∧ b ≠ g1 ∧ b ≠ w1.heap.size + 1) b → b < W0.heap.size := fun b hb => by rw [hsz]; exact hb.1
  obtain ⟨S, hSd⟩ : ∃ S : Nat → Prop, S = fun b => b < w1.heap.size + 5 ∧ b ≠ g1 ∧ b ≠ w1.heap.size + 1 := ⟨_, rfl⟩
  rw [← hSd] at hS0 hS1 hSn hSw
  have hng : ¬ S g1 := by rw [hSd]; exact fun h => h.2.1 rfl
  have hnf : ¬ S (w1.heap.size + 1) := by rw [hSd]; exact fun h => h.2.2 rfl
  have hs5 : S w1.heap.size := by rw [hSd]; exact ⟨by omega, by omega, by omega⟩
  have hs7 : S (w1.heap.size + 1 + 1) := by rw [hSd]; exact ⟨by omega, by omega, by omega⟩
  clear hSd
  refine wpIn_rangeFunc_ownH (α := Wr n) rfl (by omega) (gf := 112) (lb := #[.pointer (some ⟨w1.heap.size + 1 + 1 + 1, 0, none⟩), .pointer (some ⟨w1.heap.size + 1 + 1 + 1 + 1, 0, none⟩)]) rfl trivial
   (enters_of Tryz.func112 (by kernel_rfl) rfl)
   (fromLast_stops (α := Wr n) Subtype.val Fence.wide 2 trivial rfl (by omega) (w1.heap.size + 1 + 1 + 1) (w1.heap.size + 1 + 1 + 1 + 1) w.heap.size S A' n' c' g cap xs st (by omega) W0 (K3.cell 0) (K4.cell 0) hS0 hS1 hSn hSw ?hA ?hSt)
   Keeps.trans (keeps_putObj hSw) (Below.refl _ _) (fun _ => rfl)
   (fun pre W => (0 < n → ∃ cs, Bk W g1 84 cs ∧ n * 64 ≤ cs.size ∧ ∀ (j : Nat) (u : Value), ((rowsM d.secs (pre.map Subtype.val)).map secv).flatten[j]? = some u → cs[j]? = some u) ∧ Bk W (w1.heap.size + 1) 4 (flagsM n (pre.map Subtype.val)).toArray ∧ Keeps S W0 W)
   (fun _ _ _ => False) ?hI (fun c s A B row h _ _ => h) ?h0
   (fun x a' W => ∃ Bx, W0.heap.size ≤ Bx ∧ Bk W Bx 90 (wrv x.val).toArray ∧ a' = { tmps := #[.agg #[.slice A n c, .slice A' n' c', .int .i64 d.fuse, .bool d.down], .func (.func g) #[] cap, .pointer (some ⟨w.heap.size, 0, none⟩), undef, .slice none 0 0, .pointer (some ⟨w1.heap.size, 0, none⟩), .pointer (some ⟨w1.heap.size + 1 + 1, 0, none⟩), .pointer (some ⟨Bx, 0, none⟩), .pointer (some ⟨w.heap.size, 0, none⟩), .slice A n c, .slice A1 n c1, .slice A1 n c1, .int .i64 n, .slice (some ⟨w1.heap.size + 1, 0, none⟩) n n, .pointer (some ⟨w.heap.size, 1, none⟩), .slice A' n' c', .func (.func g) #[] cap, .func (.func 112) #[] #[.pointer (some ⟨w1.heap.size + 1 + 1 + 1, 0, none⟩), .pointer (some ⟨w1.heap.size + 1 + 1 + 1 + 1, 0, none⟩)], .agg (wrv x.val).toArray, undef, undef, undef, undef, undef, undef, undef, undef, undef, undef, undef, undef, undef, undef, undef, undef, undef], defers := [] })
   (fun x a' _ A B row h hg hr => by obtain ⟨Bx, h1, h2, h3⟩ := h; exact ⟨Bx, h1, h2.kept hg (fun r e => (hr r e).2), h3⟩) ?assign ?body ?done ?stop
  case hA =>
   have := HL.out.below hbw (Nat.le_refl _)
   rw [← HX.out, List.map_map] at this
   exact this
  case hSt => exact HST.out S _ W0 hbw hSn
  case hI =>
   intro s A B row ⟨h1, h2, h3⟩ hg hr
   exact ⟨fun h => by obtain ⟨cs, k1, k2, k3⟩ := h1 h; exact ⟨cs, k1.kept hg (fun r e => (hr r e).2), k2, k3⟩, h2.kept hg (fun r e => (hr r e).2), keeps_from hSw (Nat.le_refl _) s A B row h3 hg hr⟩
  case h0 =>
   refine ⟨fun h => ?_, K1, Keeps.refl _ _⟩
   obtain ⟨e1, _, cs, e2, e3, e4⟩ := hROW.out h
   exact ⟨cs, e2.below hbw1 e1, e3, by rw [List.map_nil, rowsM_nil]; exact e4⟩
  case assign =>
   intro l pre x W K hI hK
   gi_wp2_with ((with_reducible show wpListIn _ _ _ _ _ (⟨_, .alloc _, _, _, _, _⟩ :: _) _ _); refine hold ?_)
   refine held (wpListIn_alloc_to (by simp [Region.wanted]) 90 rfl (wrv (0, zsec)).toArray (by kernel_rfl) ?_)
   gi_wp2_with ((with_reducible show wpListIn _ _ _ _ _ (⟨_, .store 90 _ _, _, _, _, _⟩ :: _) _ _); refine hold ?_)
   have hwl : (wrv x.val).length = 65 := by rw [wrv_length, x.2.2]
   refine held (wpListIn_store_wide (by simp [Region.wanted]) 90 (.tmp 7) (.tmp 18) rfl W.heap.size 0 (wrv x.val).toArray rfl rfl 90 _ (Bk.new _ _ _) (by simp [hwl, wrv_length, zsec]) (by simp only [List.size_toArray, hwl]; kernel_rfl) (by simpa using wrv_one x.val) ?_)
   intro w' hw'
   have e1 : w' = W.alloc (.cells (wrv x.val).toArray 90) := by
    rw [hw'.out, World.setRow_alloc_new]
    have e2 : splice (wrv (0, zsec)).toArray.toList 0 (wrv x.val).toArray.toList = wrv x.val := by
     simp only [splice, List.take_zero, List.nil_append, Nat.zero_add]
     rw [List.drop_eq_nil_of_le (by simp [hwl, wrv_length, zsec])]
     simp
    rw [e2]
   clear hw'
   subst e1
   obtain ⟨h1, h2, h3⟩ := hI
   gi_wp2
   exact hK _ _ ((KeepsOthers.alloc W _).from _) ((Keeps.refl S W).alloc (fun b hb => Nat.lt_of_lt_of_le (hSw b hb) h3.size) _)
    ⟨fun h => by obtain ⟨cs, k1, k2, k3⟩ := h1 h; exact ⟨cs, k1.alloc _, k2, k3⟩, h2.alloc _, h3.alloc (fun b hb => Nat.lt_of_lt_of_le (hSw b hb) h3.size) _⟩
    ⟨W.heap.size, h3.size, Bk.new _ _ _, rfl⟩
  case body =>
   rintro l pre x a' W hl ⟨r, hr⟩ ⟨hI1, hI2, hI3⟩ ⟨Bx, hBx, bX, rfl⟩ hlt
   obtain ⟨k, hk⟩ : ∃ k : Nat, x.val.1 = (k : Int) := Int.eq_ofNat_of_zero_le (by have := x.2.1; simp [thereB] at this; exact this.1)
   have hkn : k < n := by have := x.2.1; rw [hk] at this; simp [thereB] at this; exact this
   have hx64 : x.val.2.length = 64 := x.2.2
   obtain ⟨e1, hA1, -⟩ := hROW.out (by omega)
   subst hA1
   obtain ⟨cs, hcs, hcsz, hcsp⟩ := hI1 (by omega)
   have K0' : Bk W w1.heap.size 24 _ := (hI3.block _ hs5).trans K0
   have K2' : Bk W (w1.heap.size + 1 + 1) 159 _ := (hI3.block _ hs7).trans K2
   have c0 : W.cell? ⟨w1.heap.size, 0, none⟩ = some (.slice (some ⟨g1, 0, none⟩) n c1) := K0'.cell 0
   have c2 : W.cell? ⟨w1.heap.size + 1 + 1, 0, none⟩ = some (.slice (some ⟨w1.heap.size + 1, 0, none⟩) n n) := K2'.cell 0
   have cx : W.cell? ⟨Bx, 0, none⟩ = some (.int .i64 (k : Int)) := by rw [bX.cell, ← hk]; rfl
   have cf : W.cell? ⟨w1.heap.size + 1, k, none⟩ = some (.bool (wrB (pre.map Subtype.val) k)) := by rw [hI2.cell]; simpa using flagsM_at n (pre.map Subtype.val) k hkn
   have ff : W.frozen? ⟨w1.heap.size + 1, k, none⟩ = false := hI2.frozen k
   have hkn' : (k : Int) < (n : Int) := by omega
   have HK := Lib.hid hk; have HCS := Lib.hid hcs; have HCP := Lib.hid hcsp; have HF := Lib.hid hI2; have HKP := Lib.hid hI3; have HBX := Lib.hid bX
   clear hk hcs hcsp hI1 hI2 hI3 K0' K2' bX hr
   by_cases hw : wrB (pre.map Subtype.val) k = true
   ·gi_wp2
    refine ⟨KeepsFrom.refl _ _, Keeps.refl _ _, fun _ => ⟨cs, HCS.out, hcsz, ?_⟩, ?_, HKP.out⟩
    ·rw [List.map_append, List.map_cons, List.map_nil, rowsM_old d.secs _ x.val k HK.out hw]
     exact HCP.out
    ·rw [List.map_append, List.map_cons, List.map_nil, flagsM_old n _ x.val k HK.out hw]
     exact HF.out
   ·have hw' : wrB (pre.map Subtype.val) k = false := by simpa using hw
    clear hw
    have hxl : (secv x.val.2).length = 64 := by rw [secv_length, hx64]
    gi_wp2_with ((with_reducible show wpListIn _ _ _ _ _ (⟨some 33, _, _, _, _, _⟩ :: _) _ _); refine hold ?_)
    refine held (wpListIn_load_mid (by simp [Region.wanted]) 84 (.tmp 32) rfl Bx 1 rfl (secv x.val.2) (.array 64 5) ?_ Tryz.underlying84 rfl (by rw [hxl]; kernel_rfl) ?_)
    ·intro j u hu
     rw [World.cell?_setCell_other _ _ _ _ (by simp only [ne_eq, Addr.mk.injEq, not_and]; omega), HBX.out.cell]
     rw [Nat.add_comm]
     simpa [wrv] using hu
    gi_wp2_with ((with_reducible show wpListIn _ _ _ _ _ (⟨none, .store 84 _ _, _, _, _, _⟩ :: _) _ _); refine hold ?_)
    have hcs' : Bk (W.setCell ⟨w1.heap.size + 1, k, none⟩ (.bool true)) g1 84 cs := HCS.out.far (by simp; omega) _
    have h64 : k * 64 + 64 ≤ n * 64 := by have := Nat.mul_le_mul_right 64 (show k + 1 ≤ n by omega); omega
    refine held (wpListIn_store_wide (by simp [Region.wanted]) 84 (.tmp 34) (.tmp 33) rfl g1 (k * 64) (secv x.val.2).toArray rfl rfl 84 cs hcs' (by simp only [List.size_toArray, hxl]; omega) (by simp only [List.size_toArray, hxl]; kernel_rfl) (by simpa using secv_one x.val.2) ?_)
    intro w' hw2
    gi_wp2
    have hlen : (rowsM d.secs (pre.map Subtype.val)).length = n := by rw [rowsM_length, HN.out]
    have e2 := hw2.out
    subst e2
    refine ⟨?_, ?_, fun _ => ⟨_, hcs'.setRow_same _, ?_, ?_⟩, ?_, ?_⟩
    ·exact ((KeepsOthers.setCell W _ _).trans (keepsOthers_setRow _ g1 84 cs _ hcs')).from _
    ·exact ((Keeps.refl S W).setCell (p := ⟨w1.heap.size + 1, k, none⟩) hnf _).setRow hng _
    ·rw [List.size_toArray, length_splice _ _ _ (by simp only [hxl, Array.length_toList]; omega)]
     simpa using hcsz
    ·intro j u hj
     have hs64 : ∀ s ∈ d.secs, s.length = 64 := fun s hs => by have := HS.out.2.1 (secv s) (List.mem_map.2 ⟨s, hs, rfl⟩); simpa [secv_length] using this
     have hr64 : ∀ y ∈ (rowsM d.secs (pre.map Subtype.val)).map secv, y.length = 64 := by
      intro y hy
      obtain ⟨z, hz, rfl⟩ := List.mem_map.1 hy
      rw [secv_length]
      refine rowsM_len d.secs (pre.map Subtype.val) hs64 (fun q hq => ?_) z hz
      obtain ⟨q', _, rfl⟩ := List.mem_map.1 hq
      exact q'.2.2
     have hfl : ((rowsM d.secs (pre.map Subtype.val)).map secv).flatten.length = n * 64 := by rw [flat_length hr64, List.length_map, hlen]
     rw [List.map_append, List.map_cons, List.map_nil, rowsM_new d.secs _ x.val k HK.out hw' (by rw [HN.out]; exact hkn), List.map_set, flat_set hr64 k (by rw [List.length_map, hlen]; exact hkn) _ hxl] at hj
     have := splice_prefix (cs := cs) (by rw [hfl, hxl]; exact h64) (by rw [hfl]; exact hcsz) HCP.out j u hj
     simpa using this
    ·have h1 := (HF.out.put k (.bool true)).setRow_other (g := g1) (by omega) (splice cs.toList (k * 64) (secv x.val.2).toArray.toList).toArray
     rw [List.map_append, List.map_cons, List.map_nil, flagsM_new n _ x.val k HK.out]
     simpa using h1
    ·exact (HKP.out.setCell (p := ⟨w1.heap.size + 1, k, none⟩) hnf _).setRow hng _
  case done =>
   rintro D ys W hD rfl ⟨h1, h2, h3⟩ hK
   have K0' : Bk W w1.heap.size 24 _ := (h3.block _ hs5).trans K0
   have c0 : W.cell? ⟨w1.heap.size, 0, none⟩ = some (.slice A1 n c1) := K0'.cell 0
   have HH1 := Lib.hid h1; have HH2 := Lib.hid h2; have HH3 := Lib.hid h3
   clear h1 h2 h3 K0'
   gi_wp2
   refine ⟨by simp, .inl ⟨_, _, rfl, run_takeDeferred hK, ?_⟩⟩
   have hkp : ∀ r, some D = some r → ∃ o : Obj, W.heap[r]? = some o ∧ o.isCells = false := fun r e => by cases e; exact ⟨_, hK, rfl⟩
   have hgb := grownBy_putObj' W D (.deferred none)
   refine ⟨_, results_tmp rfl _ _ _, ⟨_, rfl, ⟨A1, c1, rfl, hnc1, hc1, ?_, ?_, fun h => ?_⟩, ?_⟩⟩
   ·rw [List.length_map, rowsM_length, HN.out]
   ·intro y hy
    obtain ⟨z, hz, rfl⟩ := List.mem_map.1 hy
    rw [secv_length]
    refine rowsM_len d.secs _ (fun s hs => by have := HS.out.2.1 (secv s) (List.mem_map.2 ⟨s, hs, rfl⟩); simpa [secv_length] using this) (fun q hq => ?_) z hz
    rw [← HX.out, ← comeM_map] at hq
    obtain ⟨q', _, rfl⟩ := List.mem_map.1 hq
    exact q'.2.2
   ·obtain ⟨cs, k1, k2, k3⟩ := HH1.out h
    obtain ⟨e1, hA1, -⟩ := hROW.out h
    refine ⟨g1, cs, hA1, hg1, k1.kept hgb hkp, k2, ?_⟩
    rw [← HX.out, ← comeM_map]
    exact k3
   ·have h1 : Below w.heap.size w W := hbw.trans (HH3.out.below hSn)
    exact h1.grown hgb (by have := h1.size; exact this) (fun k e => by cases e; omega)
  case stop =>
   intro D c' pre W _ _ h _
   exact h.elim
end Go.Proofs.YtcdehejgnnnimaaGreatDoor
