/-
 A part of the proof: see the last text.
-/
import Derived.Test.YtcdehejgnnnimaaGreatDoorSWalFormat
import Derived.Test.YtcdehejgnnnimaaGreatDoorSSecStart
namespace Go.Proofs.YtcdehejgnnnimaaGreatDoor
open List renaming setIfInBounds_toArray → jA, set_cons_zero → jB, set_cons_succ → jC
set_option linter.unusedVariables false
set_option linter.unusedSimpArgs false
open Go.RowKit
theorem Bk.wide {w : World} {b : Nat} {s z : List Int} (h : Bk w b 84 (secv z).toArray) (hs : s.length = 64) (hz : z.length = 64) :
 Bk (w.setRow b (splice (secv z).toArray.toList 0 (secv s).toArray.toList).toArray) b 84 (secv s).toArray := by
 have e : (splice (secv z).toArray.toList 0 (secv s).toArray.toList).toArray = (secv s).toArray := by
  rw [splice_whole (by simp [secv_length, hs, hz])]
 have := h.setRow_same (splice (secv z).toArray.toList 0 (secv s).toArray.toList).toArray
 rw [e] at this ⊢
 exact this
def seen (d : Dk) (a : Nat) : List Int := (viewM d).getD a []
set_option maxRecDepth 20000 in
set_option maxHeartbeats 4000000 in
theorem wread_any (v : Value) (d : Dk) (a : Nat) (w : World) (hd : DkAt w w.heap.size v d) (hr : rightB d = true) (hdn : d.down = false) (ha : a < d.secs.length) :
 Calls Tryz.prog 89 #[v, .int .i64 (a : Int)] w fun e w' => e = .returned (.agg (secv (seen d a)).toArray) ∧ Below w.heap.size w w' := by
 have hrm : readM d (a : Int) = (seen d a, 0) := readM_up hr (thereB_of ha) hdn
 have hlen : (seen d a).length = 64 := by
  have := readM_len (d := d) (a : Int) hd.lens.1 hd.lens.2
  rwa [hrm] at this
 obtain ⟨A, n, c, A', n', c', rfl, hx⟩ := hd
 have HD := Lib.hid (show DkAt w w.heap.size (.agg #[.slice A n c, .slice A' n' c', .int .i64 d.fuse, .bool d.down]) d from ⟨A, n, c, A', n', c', rfl, hx⟩)
 clear hx
 have HRM := Lib.hid hrm
 have HLEN := Lib.hid hlen
 clear hrm hlen hr hdn
 generalize seen d a = s at *
 go_enter Tryz.func89, Tryz.ntmps89
 go_wp2_with ((with_reducible show wpList _ _ _ (⟨some 4, _, _, _, _, _⟩ :: _) _ _); refine hold ?_)
 refine held (wpList_alloc_to rfl 84 rfl (secv zsec).toArray (by kernel_rfl) ?_)
 have hb0 : Below w.heap.size w ((w.alloc (.cells #[.slice A n c, .slice A' n' c', .int .i64 d.fuse, .bool d.down] 27)).alloc (.cells (secv zsec).toArray 84)) := ((Below.refl _ _).alloc (Nat.le_refl _) _).alloc (by simp) _
 have B4 : Bk ((w.alloc (.cells #[.slice A n c, .slice A' n' c', .int .i64 d.fuse, .bool d.down] 27)).alloc (.cells (secv zsec).toArray 84)) (w.heap.size + 1) 84 _ := Bk.new2 w _ _ _
 have B2 : Bk ((w.alloc (.cells #[.slice A n c, .slice A' n' c', .int .i64 d.fuse, .bool d.down] 27)).alloc (.cells (secv zsec).toArray 84)) w.heap.size 27 _ := (Bk.new w _ _).alloc _
 generalize (w.alloc (.cells #[.slice A n c, .slice A' n' c', .int .i64 d.fuse, .bool d.down] 27)).alloc (.cells (secv zsec).toArray 84) = W at *
 obtain ⟨⟨p0, p1, p2, p3⟩, _⟩ := B2.four
 have HB0 := Lib.hid hb0; have HB4 := Lib.hid B4
 clear hb0 B4 B2
 go_wp2_with fail
 have hc := read_any _ d (a : Int) W (HD.out.later HB0.out)
 rw [HRM.out] at hc
 refine hc.mono ?_
 clear hc
 rintro e W2 ⟨rfl, hb2⟩
 have HB4' := Lib.hid (HB4.out.below hb2 HB4.out.lt)
 have HB2 := Lib.hid (HB0.out.trans (hb2.mono HB0.out.size))
 clear hb2 HB4 HB0 p0 p1 p2 p3
 go_wp2_with ((with_reducible show wpList _ _ _ (⟨some 5, _, _, _, _, _⟩ :: _) _ _); refine hold ?_)
 refine held (wpList_alloc_to rfl 84 rfl (secv zsec).toArray (by kernel_rfl) ?_)
 go_wp2_with ((with_reducible show wpList _ _ _ (⟨none, .store 84 _ _, _, _, _, _⟩ :: _) _ _); refine hold ?_)
 refine held (wpList_store_wide rfl 84 (.tmp 5) (.tmp 11) rfl W2.heap.size 0 (secv s).toArray rfl rfl 84 (secv zsec).toArray (Bk.new W2 84 _) (by simp [secv_length, HLEN.out, zsec]) (by rw [List.size_toArray, secv_length, HLEN.out]; exact size_sec) (by simpa using secv_one s) ?_)
 intro W3 hw3
 have HB5 : Hid (Bk W3 W2.heap.size 84 (secv s).toArray) := Lib.hid (by rw [hw3.out]; exact Bk.wide (Bk.new W2 84 _) HLEN.out rfl)
 have HB3 : Hid (Below w.heap.size w W3) := Lib.hid (by rw [hw3.out]; exact below_setRow (HB2.out.alloc HB2.out.size _) HB2.out.size _)
 have HB6 : Hid (Bk W3 (w.heap.size + 1) 84 (secv zsec).toArray) := Lib.hid (by rw [hw3.out]; exact (HB4'.out.alloc _).setRow_other (by have := HB4'.out.lt; omega) _)
 clear hw3 HB4' HB2
 go_wp2_with ((with_reducible show wpList _ _ _ (⟨some 13, _, _, _, _, _⟩ :: _) _ _); refine hold ?_)
 refine held (wpList_load_mid rfl 84 (.tmp 5) rfl W2.heap.size 0 rfl (secv s) (.array 64 5) (fun j v hv => by rw [Nat.zero_add, HB5.out.cell]; simpa using hv) Tryz.underlying84 rfl (by rw [secv_length, HLEN.out]; exact size_sec) ?_)
 go_wp2_with ((with_reducible show wpList _ _ _ (⟨none, .store 84 _ _, _, _, _, _⟩ :: _) _ _); refine hold ?_)
 refine held (wpList_store_wide rfl 84 (.tmp 4) (.tmp 13) rfl (w.heap.size + 1) 0 (secv s).toArray rfl rfl 84 (secv zsec).toArray HB6.out (by simp [secv_length, HLEN.out, zsec]) (by rw [List.size_toArray, secv_length, HLEN.out]; exact size_sec) (by simpa using secv_one s) ?_)
 intro W4 hw4
 have HB7 : Hid (Bk W4 (w.heap.size + 1) 84 (secv s).toArray) := Lib.hid (by rw [hw4.out]; exact Bk.wide HB6.out HLEN.out rfl)
 have HB8 : Hid (Below w.heap.size w W4) := Lib.hid (by rw [hw4.out]; exact below_setRow HB3.out (by omega) _)
 clear hw4 HB6 HB3 HB5
 go_wp2_with fail
 refine bodyPost_ret (v := .agg (secv s).toArray) (results_one rfl (by rfl) (load_secA HB7.out HLEN.out)) rfl ⟨rfl, HB8.out⟩
end Go.Proofs.YtcdehejgnnnimaaGreatDoor
namespace Go.Proofs.YtcdehejgnnnimaaGreatDoor
open List renaming setIfInBounds_toArray → jA, set_cons_zero → jB, set_cons_succ → jC
set_option linter.unusedVariables false
set_option linter.unusedSimpArgs false
open Go.RowKit
def rdL (l : List Nat) (n i : Nat) : List Value := (l.take (64 * i)).map bv ++ List.replicate (n - 64 * i) (bv 0)
theorem rdL_zero (l : List Nat) (n : Nat) : rdL l n 0 = List.replicate n (bv 0) := by simp [rdL]
theorem rdL_all {l : List Nat} {n i : Nat} (hl : l.length = n) (hi : n ≤ 64 * i) : rdL l n i = l.map bv := by
 unfold rdL
 rw [List.take_of_length_le (by omega), show n - 64 * i = 0 by omega]
 simp
theorem rdL_length {l : List Nat} {n i : Nat} (hl : l.length = n) : (rdL l n i).length = n := by
 unfold rdL
 rw [List.length_append, List.length_map, List.length_take, List.length_replicate]
 omega
theorem take_piece (l : List Nat) (i : Nat) : l.take (64 * (i + 1)) = l.take (64 * i) ++ pieceB l i := by
 rw [pieceB, show 64 * (i + 1) = 64 * i + 64 by omega, List.take_add]
theorem rdL_next {l : List Nat} {n i : Nat} (hl : l.length = n) (hi : 64 * i ≤ n) : splice (rdL l n i) (64 * i) ((pieceB l i).map bv) = rdL l n (i + 1) := by
 have h1 : ((l.take (64 * i)).map bv).length = 64 * i := by rw [List.length_map, List.length_take]; omega
 have hp := pieceB_length l i
 unfold splice rdL
 rw [List.take_append_of_le_length (by omega), List.take_of_length_le (by omega), take_piece, List.map_append, List.length_map, List.append_assoc]
 congr 2
 rw [List.drop_append, List.drop_eq_nil_of_le (by omega), h1, List.nil_append, List.drop_replicate]
 congr 1
 omega
theorem made_rd (n : Nat) : (madeCells #[Value.int .u8 0] n) = (List.replicate n (bv 0)).toArray := by
 apply Array.ext
 ·simp [size_madeCells]
 ·intro i h1 h2
  simp [madeCells, Nat.mod_one, bv]
theorem exec_from_k {o : Oper} {ρ : Operand → Value} {x lo : Operand} {q n k : Nat} {w : World} (ho : o.op = .slice 63 x (some lo) none none) (hx : ρ x = .slice (some ⟨q, 0, none⟩) n n) (hlo : ρ lo = .int .i64 (k : Int)) (hk : k < n) :
 (execOp ρ o).run Tryz.prog w = .ok (.value (.slice (some ⟨q, k, none⟩) (n - k) (n - k))) w := by
 have hel : Tryz.prog.elem 63 = 5 := by simp [Program.elem, Tryz.underlying63]
 have ht' : Tryz.prog.underlying 63 = some (.slice (Tryz.prog.elem 63)) := by rw [hel]; exact Tryz.underlying63
 have hs : (sizeOf (Tryz.prog.elem 63)).run Tryz.prog w = .ok 1 w := by
  rw [hel]
  cases hq : Tryz.prog.info? 5 with
  | none => have := size_u8; simp [hq] at this
  | some i =>
    have : i.size = 1 := by have := size_u8; simpa [hq] using this
    simp [sizeOf, this, go_sem, run_typeInfo _ hq]
 have hrun : (Instr.sliceAt 63 (.slice (some ⟨q, 0, none⟩) n n) (some (.int .i64 (k : Int))) none none).run Tryz.prog w = .ok (.slice (some ⟨q, k, none⟩) (n - k) (n - k)) w := by
  rw [run_sliceAt_slice w 63 _ _ _ _ ht', run_slice_l w 63 _ n n ht' .i64 (k : Int) (by omega) (by omega), hs]
  have : n ≠ k := by omega
  simp [Result.andThen_ok, sliced, this, Addr.add_mid]
 unfold execOp
 simp [ho, hx, hlo, hrun]
def RbRel (d : Dk) (a n q : Nat) (l : List Nat) (D : Array Value) (w : World) (x y : Value) (wr : World) : Prop :=
 ∃ i : Nat, 64 * i < n + 64 ∧ x = .int .i64 ((a + i : Nat) : Int) ∧ y = .int .i64 ((64 * i : Nat) : Int) ∧ Bk wr q 5 (rdL l n i).toArray ∧ Bk wr w.heap.size 27 D ∧ Below w.heap.size w wr
set_option maxRecDepth 20000 in
set_option maxHeartbeats 8000000 in
theorem readBytes_any (v : Value) (d : Dk) (a n : Nat) (l : List Nat) (w : World) (hd : DkAt w w.heap.size v d) (hr : rightB d = true) (hdn : d.down = false) (ha : a + nck n ≤ d.secs.length) (hn : n ≤ 6000) (hl : l.length = n) (hlb : ∀ x ∈ l, x < 256) (hs : ∀ i, i < nck n → seen d (a + i) = chunkL l i) :
 Calls Tryz.prog 73 #[v, .int .i64 (a : Int), .int .i64 (n : Int)] w fun e w' => ∃ q, e = .returned (.slice (some ⟨q, 0, none⟩) n n) ∧ Bytes w' w'.heap.size (some ⟨q, 0, none⟩) n l ∧ Bk w' q 5 (l.map bv).toArray ∧ w.heap.size ≤ q ∧ Below w.heap.size w w' := by
 obtain ⟨A, nn, c, A', n', c', rfl, hx⟩ := hd
 have HD := Lib.hid (show DkAt w w.heap.size (.agg #[.slice A nn c, .slice A' n' c', .int .i64 d.fuse, .bool d.down]) d from ⟨A, nn, c, A', n', c', rfl, hx⟩)
 have hmk := run_make_u8 (w.alloc (.cells #[.slice A nn c, .slice A' n' c', .int .i64 d.fuse, .bool d.down] 27)) n (by omega)
 rw [World.size_alloc] at hmk
 have hb0 : Below w.heap.size w ((w.alloc (.cells #[.slice A nn c, .slice A' n' c', .int .i64 d.fuse, .bool d.down] 27)).alloc (.cells (madeCells #[.int .u8 0] n) 5)) := ((Below.refl _ _).alloc (Nat.le_refl _) _).alloc (by simp) _
 have HST : Hid (RbRel d a n (w.heap.size + 1) l #[.slice A nn c, .slice A' n' c', .int .i64 d.fuse, .bool d.down] w (.int .i64 (a : Int)) (.int .i64 0) ((w.alloc (.cells #[.slice A nn c, .slice A' n' c', .int .i64 d.fuse, .bool d.down] 27)).alloc (.cells (madeCells #[.int .u8 0] n) 5))) :=
  Lib.hid ⟨0, by omega, rfl, rfl, by rw [rdL_zero, ← made_rd]; exact Bk.new2 w _ _ _, (Bk.new w _ _).alloc _, hb0⟩
 have hsl : d.secs.length ≤ 4096 := (rightB_of.1 hr).1
 have HR := Lib.hid hr; have HDN := Lib.hid hdn; have HL := Lib.hid hl; have HS := Lib.hid hs; have HLB := Lib.hid hlb
 clear hx hb0 hr hdn hl hs hlb
 go_enter Tryz.func73, Tryz.ntmps73
 go_wp2_with fail
 go_loopw [1, 8] (fun x y wr => RbRel d a n (w.heap.size + 1) l #[.slice A nn c, .slice A' n' c', .int .i64 d.fuse, .bool d.down] w x y wr) (fun _ y _ => n + 64 - (intOf y).toNat)
 case atStart => exact HST.out
 case round =>
  obtain ⟨i, hi, rfl, rfl, hq, hdk, hb⟩ := hrel
  clear HST hmk
  have hq3 := hq.lt
  by_cases hlt : 64 * i < n
  ·have hlti : ((64 * i : Nat) : Int) < (n : Int) := by omega
   have hick : i < nck n := by unfold nck; omega
   obtain ⟨⟨p0, p1, p2, p3⟩, _⟩ := hdk.four
   have HQ := Lib.hid hq; have HDK := Lib.hid hdk; have HB := Lib.hid hb
   clear hq hdk hb
   obtain ⟨k, hk⟩ : ∃ k, k = 64 * i := ⟨_, rfl⟩
   rw [← hk] at hlti ⊢
   have HKK := Lib.hid hk
   have hkn : k < n := by omega
   have hk64 : k + 64 ≤ 6064 := by omega
   clear hk
   go_wp2_with fail
   refine (wread_any _ d (a + i) wr (HD.out.later HB.out) HR.out HDN.out (by omega)).mono ?_
   rintro e w1 ⟨rfl, hb1⟩
   rw [HS.out i hick]
   have HQ1 := Lib.hid (HQ.out.below hb1 HQ.out.lt)
   have HDK1 := Lib.hid (HDK.out.below hb1 HDK.out.lt)
   have HB1 := Lib.hid (HB.out.trans (hb1.mono HB.out.size))
   clear HQ HDK HB hb1 p0 p1 p2 p3
   go_wp2_with ((with_reducible show wpList _ _ _ (⟨some 9, _, _, _, _, _⟩ :: _) _ _); refine hold ?_)
   refine held (wpList_alloc_to rfl 84 rfl (secv zsec).toArray (by kernel_rfl) ?_)
   go_wp2_with ((with_reducible show wpList _ _ _ (⟨none, .store 84 _ _, _, _, _, _⟩ :: _) _ _); refine hold ?_)
   refine held (wpList_store_wide rfl 84 (.tmp 9) (.tmp 19) rfl w1.heap.size 0 (secv (chunkL l i)).toArray rfl rfl 84 (secv zsec).toArray (Bk.new w1 84 _) (by simp [secv_length, chunkL_length, zsec]) (by rw [List.size_toArray, secv_length, chunkL_length]; exact size_sec) (by simpa using secv_one _) ?_)
   intro w2 hw2
   have HB9 : Hid (Bk w2 w1.heap.size 84 (secv (chunkL l i)).toArray) := Lib.hid (by rw [hw2.out]; exact Bk.wide (Bk.new w1 84 _) (chunkL_length l i) rfl)
   have HB2 : Hid (Below w1.heap.size w1 w2) := Lib.hid (by rw [hw2.out]; exact below_setRow ((Below.refl _ _).alloc (Nat.le_refl _) _) (Nat.le_refl _) _)
   have HQ2 := Lib.hid (HQ1.out.below HB2.out HQ1.out.lt)
   have HDK2 := Lib.hid (HDK1.out.below HB2.out HDK1.out.lt)
   have HBW := Lib.hid (HB1.out.trans (HB2.out.mono HB1.out.size))
   have hne9 : w1.heap.size ≠ w.heap.size + 1 := by have := HQ1.out.lt; omega
   clear hw2 HQ1 HDK1 HB1 HB2
   generalize w1.heap.size = b9 at *
   go_wp2_with fail
   have hm : Tryz.prog.follows .mixedOrders = true := by kernel_rfl
   refine wp_region_held_drew (S := fun W => Bk W w.heap.size 27 #[.slice A nn c, .slice A' n' c', .int .i64 d.fuse, .bool d.down]) hm HDK2.out.drew (fun hHeld => ?_)
   have HQ3 := Lib.hid HQ2.out.drew
   have HB3 := Lib.hid HBW.out.drew
   have HB10 := Lib.hid HB9.out.drew
   generalize w2.drew = W at *
   clear HQ2 HBW HB9 HDK2
   simp only [List.size_toArray, List.length_cons, List.length_nil, Nat.reduceAdd]
   refine wpAnyH_take (i := 0) (v := .slice (some ⟨w.heap.size + 1, 0, none⟩) n n) rfl (by kernel_rfl) (by kernel_rfl) (by kernel_rfl) (fun _ _ _ h => h) (Or.inl ⟨by rfl, fun w0 hC => by simp [execOp, Act.eval, Act.put, go_sem]⟩) hHeld ?_
   try simp only [Act.put, jA, jB, jC]
   refine wpAnyH_take (i := 1) (v := .int .i64 (k : Int)) rfl (by kernel_rfl) (by kernel_rfl) (by kernel_rfl) (fun _ _ _ h => h) (Or.inl ⟨by rfl, fun w0 hC => by simp [execOp, Act.eval, Act.put, go_sem]⟩) hHeld ?_
   try simp only [Act.put, jA, jB, jC]
   refine wpAnyH_take (i := 2) (v := .slice (some ⟨w.heap.size + 1, k, none⟩) (n - k) (n - k)) rfl (by kernel_rfl) (by kernel_rfl) (by kernel_rfl) (fun _ _ _ h => h) (Or.inl ⟨by rfl, fun w0 hC => exec_from_k rfl rfl rfl hkn⟩) hHeld ?_
   try simp only [Act.put, jA, jB, jC]
   refine wpAnyH_take (i := 3) (v := .slice (some ⟨b9, 0, none⟩) 64 64) rfl (by kernel_rfl) (by kernel_rfl) (by kernel_rfl) (fun _ _ _ h => h) (Or.inl ⟨by rfl, fun w0 hC => by simp [execOp, Act.eval, Act.put, go_sem]⟩) hHeld ?_
   try simp only [Act.put, jA, jB, jC]
   have hpl : (pieceB l i).length = min 64 (n - k) := by rw [pieceB_length, HL.out, HKK.out]
   refine wpAnyH_ready (rs := [4]) (by kernel_rfl) (by simp) (AllReadyH.cons rfl (fun K hK => ?_) AllReadyH.nil)
   refine step_copy_splice rfl (.tmp 22) (.tmp 23) 63 63 rfl 5 Tryz.underlying63 size_u8 (some ⟨w.heap.size + 1, k, none⟩) (some ⟨b9, 0, none⟩) (n - k) (n - k) 64 64 rfl rfl (w.heap.size + 1) k (rdL l n i) 5 HQ3.out ((pieceB l i).map bv) (by rw [List.length_map, hpl]) ?hpos (by rw [List.length_map, hpl, rdL_length HL.out]; omega) (bv_one _) (w.heap.size + 1) W (Below.refl _ _) (Nat.le_refl _) ?_
   case hpos =>
    intro _
    refine ⟨rfl, ⟨b9, 0, none⟩, rfl, fun j v hv => ?_⟩
    rw [Addr.add_mid, HB10.out.cell]
    rw [Nat.zero_add]
    have hj : j < (pieceB l i).length := by
     have := (List.getElem?_eq_some_iff.1 hv).1
     rwa [List.length_map] at this
    rw [List.getElem?_toArray]
    unfold chunkL
    rw [secv_bv, padB, List.map_append, List.getElem?_append_left (by rw [List.length_map]; exact hj)]
    exact hv
   intro w6 hx6 hb6
   rw [HKK.out, rdL_next HL.out (by have := HKK.out; omega)] at hx6
   have HX6 : Hid (Bk w6 (w.heap.size + 1) 5 (rdL l n (i + 1)).toArray) := hx6
   have hS := hHeld.below hb6 (Nat.lt_succ_self _)
   have HB6 := Lib.hid (HB3.out.trans (hb6.mono (Nat.le_succ _)))
   clear hx6 hb6
   refine hK.out _ _ hS (fun hHeld => ?_)
   clear hK K
   try simp only [Act.put, jA, jB, jC]
   clear hS
   refine wpAnyH_done (by kernel_rfl) ?_ _
   have HDK6 := Lib.hid hHeld
   have HREL : Hid (RbRel d a n (w.heap.size + 1) l #[.slice A nn c, .slice A' n' c', .int .i64 d.fuse, .bool d.down] w (.int .i64 ((a : Int) + (i : Int) + 1)) (.int .i64 ((k : Int) + 64)) w6) :=
    Lib.hid ⟨i + 1, by have := HKK.out; omega, by first | (congr 1; omega) | (congr 1), by have := HKK.out; first | (congr 1; omega) | (congr 1), HX6.out, HDK6.out, HB6.out⟩
   clear hHeld HX6 HB6 HDK6 HQ3 HB3 HB10
   go_wp2
   go_roundw
   case rel => exact HREL.out
   case measure => simp [intOf]; omega
  ·have hall := rdL_all HL.out (i := i) (by omega)
   rw [hall] at hq
   have hlti : ¬ ((64 * i : Nat) : Int) < (n : Int) := by omega
   have HQ := Lib.hid hq; have HB := Lib.hid hb
   clear hq hb hdk hall
   go_wp2
   go_ret
   refine ⟨_, rfl, ⟨HL.out, HLB.out, fun hn0 => ⟨_, 0, rfl, HQ.out.lt, fun j hj => ?_⟩⟩, HQ.out, Nat.le_succ _, HB.out⟩
   rw [Nat.zero_add, HQ.out.cell, List.getElem?_toArray, List.getElem?_map, List.getElem?_eq_getElem (by rw [HL.out]; exact hj)]
   unfold byteAt
   rw [List.getD_eq_getElem?_getD, List.getElem?_eq_getElem (by rw [HL.out]; exact hj)]
   rfl
end Go.Proofs.YtcdehejgnnnimaaGreatDoor
