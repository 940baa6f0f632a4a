/-
 A part of the proof: see the last text.
-/
import Derived.Test.YtcdehejgnnnimaaGreatDoorSWalMath
import Derived.Test.YtcdehejgnnnimaaGreatDoorSSumMath
import Derived.Test.YtcdehejgnnnimaaGreatDoorSPackMath
import Derived.Deep.RegionHeld3
namespace Go.Proofs.YtcdehejgnnnimaaGreatDoor
open List renaming setIfInBounds_toArray → jA, set_cons_zero → jB, set_cons_succ → jC, getElem_toArray → jD, getElem_cons_zero → jE, getElem_cons_succ → jF
set_option linter.unusedVariables false
set_option linter.unusedSimpArgs false
open Go.RowKit
theorem load_secA {w : World} {b : Nat} {s : List Int} (h : Bk w b 84 (secv s).toArray) (hs : s.length = 64) : (loadVar 84 ⟨b, 0, none⟩).run Tryz.prog w = .ok (.agg (secv s).toArray) w := by
 have := run_loadVar_mid (P := Tryz.prog) w b 0 84 (secv s) (.array 64 5) (fun j v hv => by rw [Nat.zero_add, h.cell]; simpa using hv) Tryz.underlying84 rfl (by rw [secv_length, hs]; exact size_sec)
 exact this
theorem results_one {P : Program} {fn : Func} {p : Tmp} {t : TypeId} (h : fn.results = #[.cell p t]) {tmps : Array Value} {w : World} {a : Addr} {v : Value} (hp : tmps.getD p undef = .pointer (some a)) (hl : (loadVar t a).run P w = .ok v w) :
 (results fn tmps).run P w = .ok v w := by
 have hp' : tmps[p]?.getD undef = .pointer (some a) := by simpa using hp
 simp [results, h, hp', asAddr, hl]
def markV (g k n s : Nat) : Value := .agg #[.int .i64 (g : Int), .int .i64 (k : Int), .int .i64 (n : Int), .int .i64 (s : Int)]
set_option maxRecDepth 20000 in
set_option maxHeartbeats 1000000 in
theorem markOf_any (g k : Nat) (A : Option Addr) (n c : Nat) (l : List Nat) (w : World) (hl : Bytes w w.heap.size A n l) (hn : n ≤ 140737488355328) (ht : Tab w) :
 Calls Tryz.prog 47 #[.int .i64 (g : Int), .int .i64 (k : Int), .slice A n c] w fun e w' => e = .returned (markV g k n (moreC 0 l)) ∧ Below w.heap.size w w' := by
 have hs : moreC 0 l < 4294967296 := moreC_lt l (by omega) hl.2.1
 generalize hm : moreC 0 l = s at *
 have HM := Lib.hid hm
 clear hm
 have hb1 : Below w.heap.size w (w.alloc (.cells #[.int .i64 0, .int .i64 0, .int .i64 0, .int .i64 0] 98)) := (Below.refl _ _).alloc (Nat.le_refl _) _
 go_enter Tryz.func47, Tryz.ntmps47
 go_wp2_with fail
 refine (sum_any A n c l _ (hl.later hb1) hn (ht.below hb1 ht.pos)).mono ?_
 rintro e w1 ⟨rfl, hb2⟩
 have B0 : Bk w1 w.heap.size 98 #[.int .i64 0, .int .i64 0, .int .i64 0, .int .i64 0] := Bk.below (Bk.new _ _ _) hb2 (by simp)
 have HB := Lib.hid (hb1.trans (hb2.mono hb1.size))
 obtain ⟨⟨p0, p1, p2, p3⟩, q0, q1, q2, q3⟩ := B0.four
 rw [HM.out]
 have hz := B0.lt
 clear B0 hb1 hb2 ht hl
 go_wp2
 refine bodyPost_ret (v := markV g k n s) (by simp [results, Tryz.results47, go_sem, markV, *]) rfl ⟨rfl, ?_⟩
 repeat (first | with_reducible exact HB.out | (refine Below.setCell ?_ (by simp <;> omega) _))
theorem clamp_num {x : Nat} (h : x ≤ 4611686018427387904) : clampB (x : Int) = x := by rw [clampB_mid (by omega) (by omega)]; omega
theorem wlog_at (w : World) (x : Nat) (fr : Nat × Nat) {t : TypeId} (h : w.heap[x]? = some (.cells #[.int .u8 87, .int .u8 76, .int .u8 79, .int .u8 71] t fr)) : Bytes w w.heap.size (some ⟨x, 0, none⟩) 4 [87, 76, 79, 71] := by
 refine ⟨rfl, by decide, fun _ => ⟨x, 0, rfl, (Array.getElem?_eq_some_iff.1 h).1, fun i hi => ?_⟩⟩
 rw [cell_of_row _ _ _ _ _ _ h]
 have : i = 0 ∨ i = 1 ∨ i = 2 ∨ i = 3 := by omega
 rcases this with rfl | rfl | rfl | rfl <;> rfl
theorem conv_at {P : Program} (w : World) (t e : TypeId) (C : Array Value) (n c x : Nat) (ht : P.underlying t = some (.slice e)) (he : P.underlying e = some (.int .u8)) (h : w.heap[x]? = some (.cells C e (0, 0))) :
 (convert t t (.slice (some ⟨x, 0, none⟩) n c)).run P w = .ok (.slice (some ⟨x, 0, none⟩) n c) (w.freeze ⟨x, C.size, none⟩ 1) := by
 have hsh : w.shape? x = some (e, C.size) := by
  unfold World.shape?
  rw [h]
 simp [convert, run_underlying ht, run_underlying he, markStringish, hsh]
structure Frz (w w' : World) (x k : Nat) (C : Array Value) (e : TypeId) : Prop where
 os : w'.os = w.os
 tape : w'.tape = w.tape
 output : w'.output = w.output
 size : w'.heap.size = w.heap.size
 other : ∀ b, b ≠ x → w'.heap[b]? = w.heap[b]?
 at_ : w'.heap[x]? = some (.cells C e (k, k + 1))
 was : w.heap[x]? = some (.cells C e (0, 0))
theorem frz (w : World) (x k : Nat) {C : Array Value} {e : TypeId} (h : w.heap[x]? = some (.cells C e (0, 0))) : Frz w (w.freeze ⟨x, k, none⟩ 1) x k C e := by
 have e1 : w.freeze ⟨x, k, none⟩ 1 = { w with heap := w.heap.modify x fun
  | .cells c elem (lo, hi) => .cells c elem (if lo == hi then (k, k + 1) else (min lo k, max hi (k + 1)))
  | o => o } := by unfold World.freeze; rw [if_neg (by decide)]; rfl
 rw [e1]
 refine ⟨rfl, rfl, rfl, by simp, fun b hb => ?_, ?_, h⟩
 ·simp [Array.getElem?_modify, Ne.symm hb]
 ·simp [Array.getElem?_modify, h]
section
variable {w w' : World} {x k : Nat} {C : Array Value} {e : TypeId}
theorem Frz.le (h : Frz w w' x k C e) : w.heap.size ≤ w'.heap.size := Nat.le_of_eq h.size.symm
theorem Frz.bk (h : Frz w w' x k C e) {b : Nat} {t : TypeId} {cs : Array Value} (hb : Bk w b t cs) (hne : b ≠ x) : Bk w' b t cs := (h.other b hne).trans hb
theorem Frz.below (h : Frz w w' x k C e) {B : Nat} (hB : B ≤ w.heap.size) (hx : B ≤ x) : Below B w w' := ⟨h.os, h.tape, h.output, h.le, fun b hb => h.other b (by omega)⟩
theorem Frz.cell (h : Frz w w' x k C e) (p : Addr) : w'.cell? p = w.cell? p := by
 by_cases hp : p.block = x
 ·unfold World.cell?
  rw [hp, h.at_, h.was]
 ·exact World.cell?_of_block (w := w) (h.other _ hp)
theorem Frz.col (h : Frz w w' x k C e) {α : Type} {f : α → Value} {n : Nat} {A : Option Addr} {l : List α} (hc : Col f w w.heap.size A n l) : Col f w' w'.heap.size A n l := (hc.keep fun p _ => h.cell p).more h.le
end
theorem four_ints (w : World) (t : TypeId) (a b c d : Int) : Col (fun z => Value.int .i64 z) (w.alloc (.cells #[.int .i64 a, .int .i64 b, .int .i64 c, .int .i64 d] t)) (w.heap.size + 1) (some ⟨w.heap.size, 0, none⟩) 4 [a, b, c, d] := by
 refine ⟨rfl, fun _ => ⟨w.heap.size, 0, rfl, by omega, fun i z hz => ?_⟩⟩
 rw [cell_of_row _ _ _ _ _ _ (heap_alloc_new w _)]
 have hi : i < 4 := (List.getElem?_eq_some_iff.1 hz).1
 have : i = 0 ∨ i = 1 ∨ i = 2 ∨ i = 3 := by omega
 rcases this with rfl | rfl | rfl | rfl <;> (injection hz with hz; subst hz; rfl)
theorem splice_mark (g k n s : Nat) (hg : g ≤ 4611686018427387904) (hk : k ≤ 4611686018427387904) (hn : n ≤ 4611686018427387904) (hs : s ≤ 4611686018427387904) :
 splice (secv zsec) 0 (([87, 76, 79, 71] ++ numsB [(g : Int), (k : Int), (n : Int), (s : Int)]).map bv) = secv (secN (markN g k n s)) := by
 have e : ([87, 76, 79, 71] ++ numsB [(g : Int), (k : Int), (n : Int), (s : Int)]) = [87, 76, 79, 71] ++ encB 8 g ++ encB 8 k ++ encB 8 n ++ encB 8 s := by
  unfold numsB
  simp [clamp_num hg, clamp_num hk, clamp_num hn, clamp_num hs]
 rw [e]
 have hl : ([87, 76, 79, 71] ++ encB 8 g ++ encB 8 k ++ encB 8 n ++ encB 8 s).length = 36 := by simp [encB_length]
 rw [splice_pad (by omega), padB, hl]
 rfl
set_option maxRecDepth 20000 in
set_option maxHeartbeats 4000000 in
theorem sector_any (g k n s : Nat) (w : World) (hg : g ≤ 4611686018427387904) (hk : k ≤ 4611686018427387904) (hn : n ≤ 4611686018427387904) (hs : s ≤ 4611686018427387904) :
 Calls Tryz.prog 48 #[markV g k n s] w fun e w' => e = .returned (.agg (secv (secN (markN g k n s))).toArray) ∧ Below w.heap.size w w' := by
 have HSP := Lib.hid (splice_mark g k n s hg hk hn hs)
 clear hg hk hn hs
 unfold markV
 go_enter Tryz.func48, Tryz.ntmps48
 go_wp2_with ((with_reducible show wpList _ _ _ (⟨some 2, _, _, _, _, _⟩ :: _) _ _); refine hold ?_)
 refine held (wpList_alloc_to rfl 84 rfl (secv zsec).toArray (by kernel_rfl) ?_)
 go_wp2_with ((with_reducible show wpList _ _ _ (⟨some 3, _, _, _, _, _⟩ :: _) _ _); refine hold ?_)
 refine held (wpList_alloc_to rfl 84 rfl (secv zsec).toArray (by kernel_rfl) ?_)
 go_wp2_with fail
 have hm : Tryz.prog.follows .mixedOrders = true := by kernel_rfl
 have B1 : Bk (((w.alloc (.cells #[.int .i64 (g : Int), .int .i64 (k : Int), .int .i64 (n : Int), .int .i64 (s : Int)] 98)).alloc (.cells (secv zsec).toArray 84)).alloc (.cells (secv zsec).toArray 84)).drew w.heap.size 98 _ := (((Bk.new w 98 _).alloc _).alloc _).drew
 have B2 : Bk (((w.alloc (.cells #[.int .i64 (g : Int), .int .i64 (k : Int), .int .i64 (n : Int), .int .i64 (s : Int)] 98)).alloc (.cells (secv zsec).toArray 84)).alloc (.cells (secv zsec).toArray 84)).drew (w.heap.size + 1) 84 _ := ((Bk.new2 w _ 84 _).alloc _).drew
 have B3 : Bk (((w.alloc (.cells #[.int .i64 (g : Int), .int .i64 (k : Int), .int .i64 (n : Int), .int .i64 (s : Int)] 98)).alloc (.cells (secv zsec).toArray 84)).alloc (.cells (secv zsec).toArray 84)).drew (w.heap.size + 1 + 1) 84 _ := (Bk.new3 w _ _ 84 _).drew
 have hb : Below w.heap.size w (((w.alloc (.cells #[.int .i64 (g : Int), .int .i64 (k : Int), .int .i64 (n : Int), .int .i64 (s : Int)] 98)).alloc (.cells (secv zsec).toArray 84)).alloc (.cells (secv zsec).toArray 84)).drew := ((((Below.refl _ _).alloc (Nat.le_refl _) _).alloc (by simp) _).alloc (by simp only [World.size_alloc]; omega) _).drew
 refine wp_region_held_drew (S := fun W => Bk W w.heap.size 98 #[.int .i64 (g : Int), .int .i64 (k : Int), .int .i64 (n : Int), .int .i64 (s : Int)] ∧ Bk W (w.heap.size + 1) 84 (secv zsec).toArray ∧ Below w.heap.size w W) hm ⟨B1, B2, hb⟩ (fun hHeld => ?_)
 generalize (((w.alloc (.cells #[.int .i64 (g : Int), .int .i64 (k : Int), .int .i64 (n : Int), .int .i64 (s : Int)] 98)).alloc (.cells (secv zsec).toArray 84)).alloc (.cells (secv zsec).toArray 84)).drew = W at *
 have HB3 := Lib.hid B3
 clear B1 B2 B3 hb
 simp only [List.size_toArray, List.length_cons, List.length_nil, Nat.reduceAdd]
 refine wpAnyH_take (i := 0) (v := .slice (some ⟨w.heap.size + 1 + 1, 0, none⟩) 64 64) rfl (by kernel_rfl) (by kernel_rfl) (by kernel_rfl) (fun _ _ _ h => h) (Or.inl ⟨by rfl, fun w0 hC => by simp [execOp, Act.eval, Act.put, go_sem]⟩) hHeld ?_
 try simp only [Act.put, jA, jB, jC, jD, jE, jF]
 refine wpAnyH_take (i := 3) (v := .pointer (some ⟨w.heap.size, 0, none⟩)) rfl (by kernel_rfl) (by kernel_rfl) (by kernel_rfl) (fun _ _ _ h => h) (Or.inl ⟨by rfl, fun w0 hC => by simp [execOp, Act.eval, Act.put, go_sem]⟩) hHeld ?_
 try simp only [Act.put, jA, jB, jC, jD, jE, jF]
 refine wpAnyH_take (i := 4) (v := .int .i64 (g : Int)) rfl (by kernel_rfl) (by kernel_rfl) (by kernel_rfl) (fun _ _ _ h => h) (Or.inl ⟨by rfl, fun w0 hC => by simp [execOp, Act.eval, Act.put, go_sem, hC.1.four.1.1]⟩) hHeld ?_
 try simp only [Act.put, jA, jB, jC, jD, jE, jF]
 refine wpAnyH_take (i := 5) (v := .pointer (some ⟨w.heap.size, 1, none⟩)) rfl (by kernel_rfl) (by kernel_rfl) (by kernel_rfl) (fun _ _ _ h => h) (Or.inl ⟨by rfl, fun w0 hC => by simp [execOp, Act.eval, Act.put, go_sem]⟩) hHeld ?_
 try simp only [Act.put, jA, jB, jC, jD, jE, jF]
 refine wpAnyH_take (i := 6) (v := .int .i64 (k : Int)) rfl (by kernel_rfl) (by kernel_rfl) (by kernel_rfl) (fun _ _ _ h => h) (Or.inl ⟨by rfl, fun w0 hC => by simp [execOp, Act.eval, Act.put, go_sem, hC.1.four.1.2.1]⟩) hHeld ?_
 try simp only [Act.put, jA, jB, jC, jD, jE, jF]
 refine wpAnyH_take (i := 7) (v := .pointer (some ⟨w.heap.size, 2, none⟩)) rfl (by kernel_rfl) (by kernel_rfl) (by kernel_rfl) (fun _ _ _ h => h) (Or.inl ⟨by rfl, fun w0 hC => by simp [execOp, Act.eval, Act.put, go_sem]⟩) hHeld ?_
 try simp only [Act.put, jA, jB, jC, jD, jE, jF]
 refine wpAnyH_take (i := 8) (v := .int .i64 (n : Int)) rfl (by kernel_rfl) (by kernel_rfl) (by kernel_rfl) (fun _ _ _ h => h) (Or.inl ⟨by rfl, fun w0 hC => by simp [execOp, Act.eval, Act.put, go_sem, hC.1.four.1.2.2.1]⟩) hHeld ?_
 try simp only [Act.put, jA, jB, jC, jD, jE, jF]
 refine wpAnyH_take (i := 9) (v := .pointer (some ⟨w.heap.size, 3, none⟩)) rfl (by kernel_rfl) (by kernel_rfl) (by kernel_rfl) (fun _ _ _ h => h) (Or.inl ⟨by rfl, fun w0 hC => by simp [execOp, Act.eval, Act.put, go_sem]⟩) hHeld ?_
 try simp only [Act.put, jA, jB, jC, jD, jE, jF]
 refine wpAnyH_take (i := 10) (v := .int .i64 (s : Int)) rfl (by kernel_rfl) (by kernel_rfl) (by kernel_rfl) (fun _ _ _ h => h) (Or.inl ⟨by rfl, fun w0 hC => by simp [execOp, Act.eval, Act.put, go_sem, hC.1.four.1.2.2.2]⟩) hHeld ?_
 try simp only [Act.put, jA, jB, jC, jD, jE, jF]
 have hlt3 := HB3.out.lt
 refine wpAnyH_ready (rs := [1, 11]) (by kernel_rfl) (by simp) (AllReadyH.cons rfl (fun K hK => ?_) (AllReadyH.cons rfl (fun K hK => ?_) AllReadyH.nil))
 ·rw [if_pos (by rfl)]
  go_wp2_with fail
  have hba : Below W.heap.size W (W.alloc (.cells #[.int .u8 87, .int .u8 76, .int .u8 79, .int .u8 71] 5)) := (Below.refl _ _).alloc (Nat.le_refl _) _
  have hSa := And.intro (hHeld.1.below hba hHeld.1.lt) (And.intro (hHeld.2.1.below hba hHeld.2.1.lt) (hHeld.2.2.trans (hba.mono hHeld.2.2.size)))
  replace HB3 := Lib.hid (HB3.out.below hba HB3.out.lt)
  have HX : Hid ((W.alloc (.cells #[.int .u8 87, .int .u8 76, .int .u8 79, .int .u8 71] 5)).heap[W.heap.size]? = some (.cells #[.int .u8 87, .int .u8 76, .int .u8 79, .int .u8 71] 5 (0, 0))) := Lib.hid (heap_alloc_new _ _)
  have HXn : Hid (W.heap.size ≠ w.heap.size ∧ W.heap.size ≠ w.heap.size + 1 ∧ W.heap.size ≠ w.heap.size + 1 + 1 ∧ w.heap.size ≤ W.heap.size) := Lib.hid ⟨Nat.ne_of_gt hHeld.1.lt, Nat.ne_of_gt hHeld.2.1.lt, Nat.ne_of_gt hlt3, hHeld.2.2.size⟩
  have hlx : W.heap.size < (W.alloc (.cells #[.int .u8 87, .int .u8 76, .int .u8 79, .int .u8 71] 5)).heap.size := by simp
  replace hlt3 := HB3.out.lt
  refine hK.out _ _ hSa (fun hHeld => ?_)
  clear hK K
  try simp only [Act.put, jA, jB, jC, jD, jE, jF]
  clear hSa
  try clear hba
  generalize W.alloc (.cells #[.int .u8 87, .int .u8 76, .int .u8 79, .int .u8 71] 5) = W1 at *
  refine wpAnyH_ready (rs := [2, 11]) (by kernel_rfl) (by simp) (AllReadyH.cons rfl (fun K hK => ?_) (AllReadyH.cons rfl (fun K hK => ?_) AllReadyH.nil))
  ·rw [if_pos (by rfl)]
   have kc := conv_at W1 63 5 #[.int .u8 87, .int .u8 76, .int .u8 79, .int .u8 71] 4 4 W.heap.size Tryz.underlying63 Tryz.underlying5 HX.out
   have hfz := frz W1 W.heap.size 4 HX.out
   go_wp2_with fail
   clear kc
   have hSa := And.intro (hfz.bk hHeld.1 HXn.out.1.symm) (And.intro (hfz.bk hHeld.2.1 HXn.out.2.1.symm) (hHeld.2.2.trans (hfz.below hHeld.2.2.size HXn.out.2.2.2)))
   replace HB3 := Lib.hid (hfz.bk HB3.out HXn.out.2.2.1.symm)
   replace HX := Lib.hid hfz.at_
   replace hlx := Nat.lt_of_lt_of_le hlx hfz.le
   replace hlt3 := HB3.out.lt
   clear hfz
   refine hK.out _ _ hSa (fun hHeld => ?_)
   clear hK K
   try simp only [Act.put, jA, jB, jC, jD, jE, jF]
   clear hSa
   try clear hba
   generalize W1.freeze ⟨W.heap.size, 4, none⟩ 1 = W2 at *
   refine wpAnyH_ready (rs := [11]) (by kernel_rfl) (by simp) (AllReadyH.cons rfl (fun K hK => ?_) AllReadyH.nil)
   rw [if_pos (by rfl)]
   go_wp2_with fail
   have hba : Below W2.heap.size W2 (W2.alloc (.cells #[.int .i64 (g : Int), .int .i64 (k : Int), .int .i64 (n : Int), .int .i64 (s : Int)] 3)) := (Below.refl _ _).alloc (Nat.le_refl _) _
   have hSa := And.intro (hHeld.1.below hba hHeld.1.lt) (And.intro (hHeld.2.1.below hba hHeld.2.1.lt) (hHeld.2.2.trans (hba.mono hHeld.2.2.size)))
   replace HB3 := Lib.hid (HB3.out.below hba HB3.out.lt)
   have HZ : Hid (Col (fun z => Value.int .i64 z) (W2.alloc (.cells #[.int .i64 (g : Int), .int .i64 (k : Int), .int .i64 (n : Int), .int .i64 (s : Int)] 3)) (W2.alloc (.cells #[.int .i64 (g : Int), .int .i64 (k : Int), .int .i64 (n : Int), .int .i64 (s : Int)] 3)).heap.size (some ⟨W2.heap.size, 0, none⟩) 4 [(g : Int), (k : Int), (n : Int), (s : Int)]) := Lib.hid ((four_ints W2 3 g k n s).more (by simp))
   replace HX := Lib.hid ((hba.block _ hlx).trans HX.out)
   replace hlx := Nat.lt_of_lt_of_le hlx hba.size
   have hly : W2.heap.size < (W2.alloc (.cells #[.int .i64 (g : Int), .int .i64 (k : Int), .int .i64 (n : Int), .int .i64 (s : Int)] 3)).heap.size := by simp
   replace hlt3 := HB3.out.lt
   refine hK.out _ _ hSa (fun hHeld => ?_)
   clear hK K
   try simp only [Act.put, jA, jB, jC, jD, jE, jF]
   clear hSa
   try clear hba
   generalize W2.alloc (.cells #[.int .i64 (g : Int), .int .i64 (k : Int), .int .i64 (n : Int), .int .i64 (s : Int)] 3) = W3 at *
   have HB4 := HB3
   clear HB3 HXn
   have HY : Hid (Bytes W3 W3.heap.size (some ⟨W.heap.size, 0, none⟩) 4 [87, 76, 79, 71]) := Lib.hid (wlog_at W3 _ _ HX.out)
   clear HX hlx hly hlt3
   try clear HXY
   refine wpAnyH_ready (rs := [12]) (by kernel_rfl) (by simp) (AllReadyH.cons rfl (fun K hK => ?_) AllReadyH.nil)
   rw [if_pos (by rfl)]
   go_wp2_with fail
   refine (pnum_any _ 4 4 [87, 76, 79, 71] _ 4 4 [(g : Int), (k : Int), (n : Int), (s : Int)] _ HY.out HZ.out (by omega)).mono ?_
   rintro e wn ⟨An, cn, rfl, hown, hbn⟩
   have HB5 := Lib.hid (HB4.out.below hbn HB4.out.lt)
   have HO := Lib.hid hown.bytes
   have hS5 := And.intro (hHeld.1.below hbn hHeld.1.lt) (And.intro (hHeld.2.1.below hbn hHeld.2.1.lt) (hHeld.2.2.trans (hbn.mono hHeld.2.2.size)))
   clear hown hbn HB4 HY HZ
   refine hK.out _ _ hS5 (fun hHeld => ?_)
   clear hK K
   try simp only [Act.put, jA, jB, jC, jD, jE, jF]
   clear hS5
   have hlm : ([87, 76, 79, 71] ++ numsB [(g : Int), (k : Int), (n : Int), (s : Int)]).length = 36 := by rw [List.length_append, numsB_length]; rfl
   have hby := HO.out
   refine wpAnyH_ready (rs := [13]) (by kernel_rfl) (by simp) (AllReadyH.cons rfl (fun K hK => ?_) AllReadyH.nil)
   refine step_copy_splice rfl (.tmp 4) (.tmp 16) 63 63 rfl 5 Tryz.underlying63 size_u8 (some ⟨w.heap.size + 1 + 1, 0, none⟩) An 64 64 36 cn rfl rfl (w.heap.size + 1 + 1) 0 (secv zsec) 84 HB5.out (([87, 76, 79, 71] ++ numsB [(g : Int), (k : Int), (n : Int), (s : Int)]).map bv) (by rw [List.length_map, hlm]; rfl) ?hpos (by rw [List.length_map, hlm, secv_length]; simp [zsec]) (bv_one _) (w.heap.size + 1 + 1) wn (Below.refl _ _) (Nat.le_refl _) ?_
   case hpos =>
    intro _
    refine ⟨rfl, ?_⟩
    obtain ⟨b, o, e, hbB, hcell⟩ := hby.2.2 (by omega)
    refine ⟨_, e, fun j v hv => ?_⟩
    have hj : j < 36 := by
     have := (List.getElem?_eq_some_iff.1 hv).1
     rw [List.length_map, hlm] at this
     exact this
    rw [Addr.add_mid, hcell j hj]
    rw [List.getElem?_map, List.getElem?_eq_getElem (by rw [hlm]; exact hj), Option.map_some] at hv
    unfold byteAt
    rw [List.getD_eq_getElem?_getD, List.getElem?_eq_getElem (by rw [hlm]; exact hj), Option.getD_some]
    exact hv
   intro w6 hx6 hb6
   rw [HSP.out] at hx6
   have HX6 : Hid (Bk w6 (w.heap.size + 1 + 1) 84 (secv (secN (markN g k n s))).toArray) := hx6
   have hlt6 := HX6.out.lt
   have hS6 := And.intro (hHeld.1.below hb6 (by omega)) (And.intro (hHeld.2.1.below hb6 (by omega)) (hHeld.2.2.trans (hb6.mono (by omega))))
   clear hx6 hb6 hby HO hlm
   refine hK.out _ _ hS6 (fun hHeld => ?_)
   clear hK K
   try simp only [Act.put, jA, jB, jC, jD, jE, jF]
   clear hS6
   refine wpAnyH_done (by kernel_rfl) ?_ _
   have hl64 : (secN (markN g k n s)).length = 64 := by rw [secN_length, markN_length]
   go_wp2_with ((with_reducible show wpList _ _ _ (⟨some 18, _, _, _, _, _⟩ :: _) _ _); refine hold ?_)
   refine held (wpList_load_mid rfl 84 (.tmp 3) rfl (w.heap.size + 1 + 1) 0 rfl (secv (secN (markN g k n s))) (.array 64 5) (fun j v hv => by rw [Nat.zero_add, HX6.out.cell]; simpa using hv) Tryz.underlying84 rfl (by rw [secv_length, hl64]; exact size_sec) ?_)
   go_wp2_with ((with_reducible show wpList _ _ _ (⟨none, .store 84 _ _, _, _, _, _⟩ :: _) _ _); refine hold ?_)
   refine held (wpList_store_wide rfl 84 (.tmp 2) (.tmp 18) rfl (w.heap.size + 1) 0 (secv (secN (markN g k n s))).toArray rfl rfl 84 (secv zsec).toArray hHeld.2.1 (by simp [secv_length, hl64, zsec]) (by rw [List.size_toArray, secv_length, hl64]; exact size_sec) (by simpa using secv_one _) ?_)
   intro w7 hw7
   have hb7 : Below w.heap.size w w7 := by rw [hw7.out]; exact below_setRow hHeld.2.2 (by omega) _
   have HB7 : Bk w7 (w.heap.size + 1) 84 (secv (secN (markN g k n s))).toArray := by
    rw [hw7.out]
    have := hHeld.2.1.setRow_same (splice (secv zsec).toArray.toList 0 (secv (secN (markN g k n s))).toArray.toList).toArray
    rwa [splice_whole (by simp [secv_length, hl64, zsec])] at this
   clear hw7
   go_wp2_with fail
   refine bodyPost_ret (v := .agg (secv (secN (markN g k n s))).toArray) (results_one rfl (by rfl) (load_secA HB7 hl64)) rfl ⟨rfl, hb7⟩
  ·rw [if_pos (by rfl)]
   go_wp2_with fail
   have hba : Below W1.heap.size W1 (W1.alloc (.cells #[.int .i64 (g : Int), .int .i64 (k : Int), .int .i64 (n : Int), .int .i64 (s : Int)] 3)) := (Below.refl _ _).alloc (Nat.le_refl _) _
   have hSa := And.intro (hHeld.1.below hba hHeld.1.lt) (And.intro (hHeld.2.1.below hba hHeld.2.1.lt) (hHeld.2.2.trans (hba.mono hHeld.2.2.size)))
   replace HB3 := Lib.hid (HB3.out.below hba HB3.out.lt)
   have HZ : Hid (Col (fun z => Value.int .i64 z) (W1.alloc (.cells #[.int .i64 (g : Int), .int .i64 (k : Int), .int .i64 (n : Int), .int .i64 (s : Int)] 3)) (W1.alloc (.cells #[.int .i64 (g : Int), .int .i64 (k : Int), .int .i64 (n : Int), .int .i64 (s : Int)] 3)).heap.size (some ⟨W1.heap.size, 0, none⟩) 4 [(g : Int), (k : Int), (n : Int), (s : Int)]) := Lib.hid ((four_ints W1 3 g k n s).more (by simp))
   replace HX := Lib.hid ((hba.block _ hlx).trans HX.out)
   replace hlx := Nat.lt_of_lt_of_le hlx hba.size
   have hly : W1.heap.size < (W1.alloc (.cells #[.int .i64 (g : Int), .int .i64 (k : Int), .int .i64 (n : Int), .int .i64 (s : Int)] 3)).heap.size := by simp
   replace hlt3 := HB3.out.lt
   refine hK.out _ _ hSa (fun hHeld => ?_)
   clear hK K
   try simp only [Act.put, jA, jB, jC, jD, jE, jF]
   clear hSa
   try clear hba
   generalize W1.alloc (.cells #[.int .i64 (g : Int), .int .i64 (k : Int), .int .i64 (n : Int), .int .i64 (s : Int)] 3) = W2 at *
   refine wpAnyH_ready (rs := [2]) (by kernel_rfl) (by simp) (AllReadyH.cons rfl (fun K hK => ?_) AllReadyH.nil)
   rw [if_pos (by rfl)]
   have kc := conv_at W2 63 5 #[.int .u8 87, .int .u8 76, .int .u8 79, .int .u8 71] 4 4 W.heap.size Tryz.underlying63 Tryz.underlying5 HX.out
   have hfz := frz W2 W.heap.size 4 HX.out
   go_wp2_with fail
   clear kc
   have hSa := And.intro (hfz.bk hHeld.1 HXn.out.1.symm) (And.intro (hfz.bk hHeld.2.1 HXn.out.2.1.symm) (hHeld.2.2.trans (hfz.below hHeld.2.2.size HXn.out.2.2.2)))
   replace HB3 := Lib.hid (hfz.bk HB3.out HXn.out.2.2.1.symm)
   replace HZ := Lib.hid (hfz.col HZ.out)
   replace hly := Nat.lt_of_lt_of_le hly hfz.le
   replace HX := Lib.hid hfz.at_
   replace hlx := Nat.lt_of_lt_of_le hlx hfz.le
   replace hlt3 := HB3.out.lt
   clear hfz
   refine hK.out _ _ hSa (fun hHeld => ?_)
   clear hK K
   try simp only [Act.put, jA, jB, jC, jD, jE, jF]
   clear hSa
   try clear hba
   generalize W2.freeze ⟨W.heap.size, 4, none⟩ 1 = W3 at *
   have HB4 := HB3
   clear HB3 HXn
   have HY : Hid (Bytes W3 W3.heap.size (some ⟨W.heap.size, 0, none⟩) 4 [87, 76, 79, 71]) := Lib.hid (wlog_at W3 _ _ HX.out)
   clear HX hlx hly hlt3
   try clear HXY
   refine wpAnyH_ready (rs := [12]) (by kernel_rfl) (by simp) (AllReadyH.cons rfl (fun K hK => ?_) AllReadyH.nil)
   rw [if_pos (by rfl)]
   go_wp2_with fail
   refine (pnum_any _ 4 4 [87, 76, 79, 71] _ 4 4 [(g : Int), (k : Int), (n : Int), (s : Int)] _ HY.out HZ.out (by omega)).mono ?_
   rintro e wn ⟨An, cn, rfl, hown, hbn⟩
   have HB5 := Lib.hid (HB4.out.below hbn HB4.out.lt)
   have HO := Lib.hid hown.bytes
   have hS5 := And.intro (hHeld.1.below hbn hHeld.1.lt) (And.intro (hHeld.2.1.below hbn hHeld.2.1.lt) (hHeld.2.2.trans (hbn.mono hHeld.2.2.size)))
   clear hown hbn HB4 HY HZ
   refine hK.out _ _ hS5 (fun hHeld => ?_)
   clear hK K
   try simp only [Act.put, jA, jB, jC, jD, jE, jF]
   clear hS5
   have hlm : ([87, 76, 79, 71] ++ numsB [(g : Int), (k : Int), (n : Int), (s : Int)]).length = 36 := by rw [List.length_append, numsB_length]; rfl
   have hby := HO.out
   refine wpAnyH_ready (rs := [13]) (by kernel_rfl) (by simp) (AllReadyH.cons rfl (fun K hK => ?_) AllReadyH.nil)
   refine step_copy_splice rfl (.tmp 4) (.tmp 16) 63 63 rfl 5 Tryz.underlying63 size_u8 (some ⟨w.heap.size + 1 + 1, 0, none⟩) An 64 64 36 cn rfl rfl (w.heap.size + 1 + 1) 0 (secv zsec) 84 HB5.out (([87, 76, 79, 71] ++ numsB [(g : Int), (k : Int), (n : Int), (s : Int)]).map bv) (by rw [List.length_map, hlm]; rfl) ?hpos (by rw [List.length_map, hlm, secv_length]; simp [zsec]) (bv_one _) (w.heap.size + 1 + 1) wn (Below.refl _ _) (Nat.le_refl _) ?_
   case hpos =>
    intro _
    refine ⟨rfl, ?_⟩
    obtain ⟨b, o, e, hbB, hcell⟩ := hby.2.2 (by omega)
    refine ⟨_, e, fun j v hv => ?_⟩
    have hj : j < 36 := by
     have := (List.getElem?_eq_some_iff.1 hv).1
     rw [List.length_map, hlm] at this
     exact this
    rw [Addr.add_mid, hcell j hj]
    rw [List.getElem?_map, List.getElem?_eq_getElem (by rw [hlm]; exact hj), Option.map_some] at hv
    unfold byteAt
    rw [List.getD_eq_getElem?_getD, List.getElem?_eq_getElem (by rw [hlm]; exact hj), Option.getD_some]
    exact hv
   intro w6 hx6 hb6
   rw [HSP.out] at hx6
   have HX6 : Hid (Bk w6 (w.heap.size + 1 + 1) 84 (secv (secN (markN g k n s))).toArray) := hx6
   have hlt6 := HX6.out.lt
   have hS6 := And.intro (hHeld.1.below hb6 (by omega)) (And.intro (hHeld.2.1.below hb6 (by omega)) (hHeld.2.2.trans (hb6.mono (by omega))))
   clear hx6 hb6 hby HO hlm
   refine hK.out _ _ hS6 (fun hHeld => ?_)
   clear hK K
   try simp only [Act.put, jA, jB, jC, jD, jE, jF]
   clear hS6
   refine wpAnyH_done (by kernel_rfl) ?_ _
   have hl64 : (secN (markN g k n s)).length = 64 := by rw [secN_length, markN_length]
   go_wp2_with ((with_reducible show wpList _ _ _ (⟨some 18, _, _, _, _, _⟩ :: _) _ _); refine hold ?_)
   refine held (wpList_load_mid rfl 84 (.tmp 3) rfl (w.heap.size + 1 + 1) 0 rfl (secv (secN (markN g k n s))) (.array 64 5) (fun j v hv => by rw [Nat.zero_add, HX6.out.cell]; simpa using hv) Tryz.underlying84 rfl (by rw [secv_length, hl64]; exact size_sec) ?_)
   go_wp2_with ((with_reducible show wpList _ _ _ (⟨none, .store 84 _ _, _, _, _, _⟩ :: _) _ _); refine hold ?_)
   refine held (wpList_store_wide rfl 84 (.tmp 2) (.tmp 18) rfl (w.heap.size + 1) 0 (secv (secN (markN g k n s))).toArray rfl rfl 84 (secv zsec).toArray hHeld.2.1 (by simp [secv_length, hl64, zsec]) (by rw [List.size_toArray, secv_length, hl64]; exact size_sec) (by simpa using secv_one _) ?_)
   intro w7 hw7
   have hb7 : Below w.heap.size w w7 := by rw [hw7.out]; exact below_setRow hHeld.2.2 (by omega) _
   have HB7 : Bk w7 (w.heap.size + 1) 84 (secv (secN (markN g k n s))).toArray := by
    rw [hw7.out]
    have := hHeld.2.1.setRow_same (splice (secv zsec).toArray.toList 0 (secv (secN (markN g k n s))).toArray.toList).toArray
    rwa [splice_whole (by simp [secv_length, hl64, zsec])] at this
   clear hw7
   go_wp2_with fail
   refine bodyPost_ret (v := .agg (secv (secN (markN g k n s))).toArray) (results_one rfl (by rfl) (load_secA HB7 hl64)) rfl ⟨rfl, hb7⟩
 ·rw [if_pos (by rfl)]
  go_wp2_with fail
  have hba : Below W.heap.size W (W.alloc (.cells #[.int .i64 (g : Int), .int .i64 (k : Int), .int .i64 (n : Int), .int .i64 (s : Int)] 3)) := (Below.refl _ _).alloc (Nat.le_refl _) _
  have hSa := And.intro (hHeld.1.below hba hHeld.1.lt) (And.intro (hHeld.2.1.below hba hHeld.2.1.lt) (hHeld.2.2.trans (hba.mono hHeld.2.2.size)))
  replace HB3 := Lib.hid (HB3.out.below hba HB3.out.lt)
  have HZ : Hid (Col (fun z => Value.int .i64 z) (W.alloc (.cells #[.int .i64 (g : Int), .int .i64 (k : Int), .int .i64 (n : Int), .int .i64 (s : Int)] 3)) (W.alloc (.cells #[.int .i64 (g : Int), .int .i64 (k : Int), .int .i64 (n : Int), .int .i64 (s : Int)] 3)).heap.size (some ⟨W.heap.size, 0, none⟩) 4 [(g : Int), (k : Int), (n : Int), (s : Int)]) := Lib.hid ((four_ints W 3 g k n s).more (by simp))
  have hly : W.heap.size < (W.alloc (.cells #[.int .i64 (g : Int), .int .i64 (k : Int), .int .i64 (n : Int), .int .i64 (s : Int)] 3)).heap.size := by simp
  replace hlt3 := HB3.out.lt
  refine hK.out _ _ hSa (fun hHeld => ?_)
  clear hK K
  try simp only [Act.put, jA, jB, jC, jD, jE, jF]
  clear hSa
  try clear hba
  generalize W.alloc (.cells #[.int .i64 (g : Int), .int .i64 (k : Int), .int .i64 (n : Int), .int .i64 (s : Int)] 3) = W1 at *
  refine wpAnyH_ready (rs := [1]) (by kernel_rfl) (by simp) (AllReadyH.cons rfl (fun K hK => ?_) AllReadyH.nil)
  rw [if_pos (by rfl)]
  go_wp2_with fail
  have hba : Below W1.heap.size W1 (W1.alloc (.cells #[.int .u8 87, .int .u8 76, .int .u8 79, .int .u8 71] 5)) := (Below.refl _ _).alloc (Nat.le_refl _) _
  have hSa := And.intro (hHeld.1.below hba hHeld.1.lt) (And.intro (hHeld.2.1.below hba hHeld.2.1.lt) (hHeld.2.2.trans (hba.mono hHeld.2.2.size)))
  replace HB3 := Lib.hid (HB3.out.below hba HB3.out.lt)
  replace HZ := Lib.hid (HZ.out.later hba)
  have HX : Hid ((W1.alloc (.cells #[.int .u8 87, .int .u8 76, .int .u8 79, .int .u8 71] 5)).heap[W1.heap.size]? = some (.cells #[.int .u8 87, .int .u8 76, .int .u8 79, .int .u8 71] 5 (0, 0))) := Lib.hid (heap_alloc_new _ _)
  have HXn : Hid (W1.heap.size ≠ w.heap.size ∧ W1.heap.size ≠ w.heap.size + 1 ∧ W1.heap.size ≠ w.heap.size + 1 + 1 ∧ w.heap.size ≤ W1.heap.size) := Lib.hid ⟨Nat.ne_of_gt hHeld.1.lt, Nat.ne_of_gt hHeld.2.1.lt, Nat.ne_of_gt hlt3, hHeld.2.2.size⟩
  have HXY : Hid (∃ q, q < W1.heap.size ∧ W.heap.size = q) := Lib.hid ⟨_, hly, rfl⟩
  have hlx : W1.heap.size < (W1.alloc (.cells #[.int .u8 87, .int .u8 76, .int .u8 79, .int .u8 71] 5)).heap.size := by simp
  replace hlt3 := HB3.out.lt
  replace hly := Nat.lt_of_lt_of_le hly hba.size
  refine hK.out _ _ hSa (fun hHeld => ?_)
  clear hK K
  try simp only [Act.put, jA, jB, jC, jD, jE, jF]
  clear hSa
  try clear hba
  generalize W1.alloc (.cells #[.int .u8 87, .int .u8 76, .int .u8 79, .int .u8 71] 5) = W2 at *
  refine wpAnyH_ready (rs := [2]) (by kernel_rfl) (by simp) (AllReadyH.cons rfl (fun K hK => ?_) AllReadyH.nil)
  rw [if_pos (by rfl)]
  have kc := conv_at W2 63 5 #[.int .u8 87, .int .u8 76, .int .u8 79, .int .u8 71] 4 4 W1.heap.size Tryz.underlying63 Tryz.underlying5 HX.out
  have hfz := frz W2 W1.heap.size 4 HX.out
  go_wp2_with fail
  clear kc
  have hSa := And.intro (hfz.bk hHeld.1 HXn.out.1.symm) (And.intro (hfz.bk hHeld.2.1 HXn.out.2.1.symm) (hHeld.2.2.trans (hfz.below hHeld.2.2.size HXn.out.2.2.2)))
  replace HB3 := Lib.hid (hfz.bk HB3.out HXn.out.2.2.1.symm)
  replace HZ := Lib.hid (hfz.col HZ.out)
  replace hly := Nat.lt_of_lt_of_le hly hfz.le
  replace HX := Lib.hid hfz.at_
  replace hlx := Nat.lt_of_lt_of_le hlx hfz.le
  replace hlt3 := HB3.out.lt
  clear hfz
  refine hK.out _ _ hSa (fun hHeld => ?_)
  clear hK K
  try simp only [Act.put, jA, jB, jC, jD, jE, jF]
  clear hSa
  try clear hba
  generalize W2.freeze ⟨W1.heap.size, 4, none⟩ 1 = W3 at *
  have HB4 := HB3
  clear HB3 HXn
  have HY : Hid (Bytes W3 W3.heap.size (some ⟨W1.heap.size, 0, none⟩) 4 [87, 76, 79, 71]) := Lib.hid (wlog_at W3 _ _ HX.out)
  clear HX hlx hly hlt3
  try clear HXY
  refine wpAnyH_ready (rs := [12]) (by kernel_rfl) (by simp) (AllReadyH.cons rfl (fun K hK => ?_) AllReadyH.nil)
  rw [if_pos (by rfl)]
  go_wp2_with fail
  refine (pnum_any _ 4 4 [87, 76, 79, 71] _ 4 4 [(g : Int), (k : Int), (n : Int), (s : Int)] _ HY.out HZ.out (by omega)).mono ?_
  rintro e wn ⟨An, cn, rfl, hown, hbn⟩
  have HB5 := Lib.hid (HB4.out.below hbn HB4.out.lt)
  have HO := Lib.hid hown.bytes
  have hS5 := And.intro (hHeld.1.below hbn hHeld.1.lt) (And.intro (hHeld.2.1.below hbn hHeld.2.1.lt) (hHeld.2.2.trans (hbn.mono hHeld.2.2.size)))
  clear hown hbn HB4 HY HZ
  refine hK.out _ _ hS5 (fun hHeld => ?_)
  clear hK K
  try simp only [Act.put, jA, jB, jC, jD, jE, jF]
  clear hS5
  have hlm : ([87, 76, 79, 71] ++ numsB [(g : Int), (k : Int), (n : Int), (s : Int)]).length = 36 := by rw [List.length_append, numsB_length]; rfl
  have hby := HO.out
  refine wpAnyH_ready (rs := [13]) (by kernel_rfl) (by simp) (AllReadyH.cons rfl (fun K hK => ?_) AllReadyH.nil)
  refine step_copy_splice rfl (.tmp 4) (.tmp 16) 63 63 rfl 5 Tryz.underlying63 size_u8 (some ⟨w.heap.size + 1 + 1, 0, none⟩) An 64 64 36 cn rfl rfl (w.heap.size + 1 + 1) 0 (secv zsec) 84 HB5.out (([87, 76, 79, 71] ++ numsB [(g : Int), (k : Int), (n : Int), (s : Int)]).map bv) (by rw [List.length_map, hlm]; rfl) ?hpos (by rw [List.length_map, hlm, secv_length]; simp [zsec]) (bv_one _) (w.heap.size + 1 + 1) wn (Below.refl _ _) (Nat.le_refl _) ?_
  case hpos =>
   intro _
   refine ⟨rfl, ?_⟩
   obtain ⟨b, o, e, hbB, hcell⟩ := hby.2.2 (by omega)
   refine ⟨_, e, fun j v hv => ?_⟩
   have hj : j < 36 := by
    have := (List.getElem?_eq_some_iff.1 hv).1
    rw [List.length_map, hlm] at this
    exact this
   rw [Addr.add_mid, hcell j hj]
   rw [List.getElem?_map, List.getElem?_eq_getElem (by rw [hlm]; exact hj), Option.map_some] at hv
   unfold byteAt
   rw [List.getD_eq_getElem?_getD, List.getElem?_eq_getElem (by rw [hlm]; exact hj), Option.getD_some]
   exact hv
  intro w6 hx6 hb6
  rw [HSP.out] at hx6
  have HX6 : Hid (Bk w6 (w.heap.size + 1 + 1) 84 (secv (secN (markN g k n s))).toArray) := hx6
  have hlt6 := HX6.out.lt
  have hS6 := And.intro (hHeld.1.below hb6 (by omega)) (And.intro (hHeld.2.1.below hb6 (by omega)) (hHeld.2.2.trans (hb6.mono (by omega))))
  clear hx6 hb6 hby HO hlm
  refine hK.out _ _ hS6 (fun hHeld => ?_)
  clear hK K
  try simp only [Act.put, jA, jB, jC, jD, jE, jF]
  clear hS6
  refine wpAnyH_done (by kernel_rfl) ?_ _
  have hl64 : (secN (markN g k n s)).length = 64 := by rw [secN_length, markN_length]
  go_wp2_with ((with_reducible show wpList _ _ _ (⟨some 18, _, _, _, _, _⟩ :: _) _ _); refine hold ?_)
  refine held (wpList_load_mid rfl 84 (.tmp 3) rfl (w.heap.size + 1 + 1) 0 rfl (secv (secN (markN g k n s))) (.array 64 5) (fun j v hv => by rw [Nat.zero_add, HX6.out.cell]; simpa using hv) Tryz.underlying84 rfl (by rw [secv_length, hl64]; exact size_sec) ?_)
  go_wp2_with ((with_reducible show wpList _ _ _ (⟨none, .store 84 _ _, _, _, _, _⟩ :: _) _ _); refine hold ?_)
  refine held (wpList_store_wide rfl 84 (.tmp 2) (.tmp 18) rfl (w.heap.size + 1) 0 (secv (secN (markN g k n s))).toArray rfl rfl 84 (secv zsec).toArray hHeld.2.1 (by simp [secv_length, hl64, zsec]) (by rw [List.size_toArray, secv_length, hl64]; exact size_sec) (by simpa using secv_one _) ?_)
  intro w7 hw7
  have hb7 : Below w.heap.size w w7 := by rw [hw7.out]; exact below_setRow hHeld.2.2 (by omega) _
  have HB7 : Bk w7 (w.heap.size + 1) 84 (secv (secN (markN g k n s))).toArray := by
   rw [hw7.out]
   have := hHeld.2.1.setRow_same (splice (secv zsec).toArray.toList 0 (secv (secN (markN g k n s))).toArray.toList).toArray
   rwa [splice_whole (by simp [secv_length, hl64, zsec])] at this
  clear hw7
  go_wp2_with fail
  refine bodyPost_ret (v := .agg (secv (secN (markN g k n s))).toArray) (results_one rfl (by rfl) (load_secA HB7 hl64)) rfl ⟨rfl, hb7⟩
end Go.Proofs.YtcdehejgnnnimaaGreatDoor
