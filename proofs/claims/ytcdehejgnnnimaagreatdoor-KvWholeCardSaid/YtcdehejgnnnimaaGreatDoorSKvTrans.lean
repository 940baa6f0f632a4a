/-
 A part of the proof: see the last text.
-/
import Derived.Test.YtcdehejgnnnimaaGreatDoorSKvEnc
import Derived.Test.YtcdehejgnnnimaaGreatDoorSPackMath
import Derived.Test.YtcdehejgnnnimaaGreatDoorSKvSmall
namespace Go.Proofs.YtcdehejgnnnimaaGreatDoor
set_option linter.unusedVariables false
set_option linter.unusedSimpArgs false
open Go.RowKit
set_option linter.unusedVariables false
set_option linter.unusedSimpArgs false
def transN (l : List Chg) : List Nat := numsB [(l.length : Int)] ++ (l.map chgN).flatten
theorem chgN_len (c : Chg) : (chgN c).length ≤ 8208 := by
 obtain ⟨k, v, g⟩ := c
 cases g
 ·rw [chg_false, List.length_append, numsB_length]
  have := textsB_length ([k, v].map nats)
  simp only [List.map_cons, List.map_nil, List.length_cons, List.length_nil] at this ⊢
  omega
 ·rw [chg_true, List.length_append, numsB_length]
  have := textsB_length ([k].map nats)
  simp only [List.map_cons, List.map_nil, List.length_cons, List.length_nil] at this ⊢
  omega
theorem chgs_snoc {l : List Chg} {k : Nat} {c : Chg} (h : l.take (k + 1) = l.take k ++ [c]) : ((l.take (k + 1)).map chgN).flatten = ((l.take k).map chgN).flatten ++ chgN c := by
 rw [h]; simp
set_option maxRecDepth 20000 in
set_option maxHeartbeats 4000000 in
theorem transaction_any (A : Option Addr) (n c : Nat) (l : List Chg) (w : World) (hl : ColK 3 chgC w w.heap.size A n l) (hs : ∀ x ∈ l, x.1.size ≤ 140737488355328 ∧ x.2.1.size ≤ 140737488355328) (hn : n ≤ 100000) :
 Calls Tryz.prog 37 #[.slice A n c] w fun e w' => ∃ m, m ≤ 8 + 8208 * n ∧ Made w.heap.size w m (transN l) e w' := by
 have HL := Lib.hid hl
 have HS := Lib.hid hs
 have HLN := Lib.hid hl.1
 have hnum := pnum_any none 0 0 [] (some ⟨w.heap.size, 0, none⟩) 1 1 [(n : Int)] (w.alloc (.cells #[.int .i64 (n : Int)] 3)) Bytes.nil (by have := Col.one w (fun z => Value.int .i64 z) (n : Int) rfl 3; simpa using this) (by omega)
 have HNUM := Lib.hid hnum
 have HB0 : Hid (Below w.heap.size w (w.alloc (.cells #[.int .i64 (n : Int)] 3))) := Lib.hid ((Below.refl _ _).alloc (Nat.le_refl _) _)
 clear hl hs hnum
 go_enter Tryz.func37, Tryz.ntmps37
 go_wp2_with fail
 refine HNUM.out.mono ?_
 rintro e w1 ⟨A1, c1, rfl, ho1, hb1⟩
 have HB1 := Lib.hid (HB0.out.trans (hb1.mono HB0.out.size))
 have HO1 := Lib.hid (ho1.base_le HB0.out.size)
 clear ho1 hb1 HNUM
 go_wp2_with fail
 go_loopw [3, 12] (fun o i wx => ∃ (k m : Nat) (A2 : Option Addr) (c2 : Nat), k ≤ n ∧ i = .int .i64 (k : Int) ∧ o = .slice A2 m c2 ∧ m ≤ 8 + 8208 * k ∧ OwnB wx w.heap.size 5 A2 m c2 (numsB [(n : Int)] ++ ((l.take k).map chgN).flatten) ∧ Below w.heap.size w wx) (fun _ i _ => n - (intOf i).toNat)
 case atStart => exact ⟨0, 8, A1, c1, Nat.zero_le _, rfl, rfl, by omega, by have := HO1.out; simpa using this, HB1.out⟩
 case round =>
  obtain ⟨k, m, A2, c2, hk, rfl, rfl, hm, ho, hb⟩ := hrel
  have HB := Lib.hid hb
  have HO := Lib.hid ho
  clear hb ho HO1 HB1
  by_cases hlt : k < n
  ·obtain ⟨b, o, a, rfl, hbb, hla, htk, hrow⟩ := (HL.out.below HB.out (Nat.le_refl _)).at_ hlt
   obtain ⟨hsz1, hsz2⟩ := HS.out a (List.mem_of_getElem? hla)
   have HSN := Lib.hid (chgs_snoc htk)
   have HROW := Lib.hid hrow
   have hk0 : (0 : Int) ≤ (k : Int) := by omega
   have hkn : (k : Int) < (n : Int) := by omega
   clear hla htk hrow
   go_wp2_with ((with_reducible show wpList _ _ _ (⟨some 15, _, _, _, _, _⟩ :: _) _ _); refine holdK ?_)
   refine heldK (wpList_load_mid rfl 52 (.tmp 14) rfl b (o + k * 3) rfl (chgC a) _ HROW.out Tryz.underlying52 rfl (by kernel_rfl) ?_)
   unfold chgC
   have hch := changeBytes_any a (wr.alloc (.cells #[.string a.1, .string a.2.1, .bool a.2.2] 52)) hsz1 hsz2
   have hcl := chgN_len a
   have HCH := Lib.hid hch
   have HB2 := Lib.hid (HB.out.alloc HB.out.size (.cells #[.string a.1, .string a.2.1, .bool a.2.2] 52))
   have HO2 := Lib.hid (HO.out.below ((Below.refl _ _).alloc (Nat.le_refl _) (.cells #[.string a.1, .string a.2.1, .bool a.2.2] 52)))
   clear hch
   go_wp2_with fail
   generalize wr.alloc (.cells #[.string a.1, .string a.2.1, .bool a.2.2] 52) = W1 at *
   refine HCH.out.mono ?_
   rintro e w2 ⟨q, A3, c3, rfl, ho3, hb3⟩
   have hq := ho3.len
   have HB3 := Lib.hid (HB2.out.trans (hb3.mono HB2.out.size))
   have HO3 := Lib.hid (HO2.out.below hb3)
   have HQ := Lib.hid ho3
   clear ho3 hb3 HCH HO2
   have hmul : 8 + 8208 * (k + 1) = 8 + 8208 * k + 8208 := by omega
   go_wp2_with ((with_reducible show wpList _ _ _ (⟨some 19, _, _, _, _, _⟩ :: _) _ _); refine holdK ?_)
   refine heldK (wpList_append_bytes rfl (.tmp 16) (.tmp 18) 63 rfl Tryz.underlying63 info_u8 w.heap.size A2 m c2 _ rfl HO3.out w2.heap.size A3 q c3 _ rfl HQ.out.bytes (by omega) HB3.out.size ?_)
   intro A4 c4 w4 ho4 hb4 hg4
   have HO4 : Hid (OwnB w4 w.heap.size 5 A4 (m + q) c4 (numsB [(n : Int)] ++ ((l.take (k + 1)).map chgN).flatten)) := Lib.hid (by rw [HSN.out, ← List.append_assoc]; exact ho4)
   have HB4 := Lib.hid (HB3.out.trans hb4)
   clear ho4 hb4 hg4
   go_wp2_with fail
   go_roundw
   case rel => exact ⟨k + 1, m + q, A4, c4, by omega, by go_num, rfl, by omega, HO4.out, HB4.out⟩
   case measure => simp [intOf]; omega
  ·have hkn : ¬ (k : Int) < (n : Int) := by omega
   obtain rfl : k = n := by omega
   have hfull : l.take k = l := List.take_of_length_le (by rw [HLN.out]; exact Nat.le_refl _)
   have hof := HO.out
   rw [hfull] at hof
   have HOF : Hid (OwnB wr w.heap.size 5 A2 m c2 (transN l)) := Lib.hid (by unfold transN; rw [HLN.out]; exact hof)
   clear hfull hof
   go_wp2_with fail
   go_ret
   exact ⟨m, hm, A2, c2, rfl, HOF.out, HB.out⟩
def encE (l : List Chg) : Nat := if changesB l = true then (if 6000 < (transN l).length then 4 else 0) else 1
def encV (l : List Chg) : List Nat := if changesB l = true ∧ (transN l).length ≤ 6000 then transN l else []
theorem changes_len {l : List Chg} (h : changesB l = true) : l.length ≤ 400 := by
 unfold changesB at h
 simp only [Bool.and_eq_true, decide_eq_true_iff] at h
 exact h.1
def EncIs (l : List Chg) (w : World) (e : Ending) (w' : World) : Prop := ∃ A n c, e = .returned (.tuple #[.slice A n c, .int .i64 (encE l : Nat)]) ∧ OwnB w' w.heap.size 5 A n c (encV l) ∧ Below w.heap.size w w'
set_option maxRecDepth 20000 in
set_option maxHeartbeats 2000000 in
theorem encode_any (A : Option Addr) (n c : Nat) (l : List Chg) (w : World) (hl : ColK 3 chgC w w.heap.size A n l) (hs : ∀ x ∈ l, x.1.size ≤ 140737488355328 ∧ x.2.1.size ≤ 140737488355328) (hn : n ≤ 140737488355328) :
 Calls Tryz.prog 20 #[.slice A n c] w (EncIs l w) := by
 have HL := Lib.hid hl
 have HS := Lib.hid hs
 have HLN := Lib.hid hl.1
 have hc := changesMayBe_any A n c l w hl hn
 have HC := Lib.hid hc
 clear hl hs hc
 cases hb : changesB l
 ·have HE : Hid (encE l = 1 ∧ encV l = []) := Lib.hid (by unfold encE encV; rw [hb]; exact ⟨rfl, if_neg (fun h => by cases h.1)⟩)
  go_enter Tryz.func20, Tryz.ntmps20
  go_wp2_with fail
  refine HC.out.mono ?_
  rintro e w1 ⟨rfl, hb1⟩
  rw [hb]
  have HB1 := Lib.hid hb1
  clear hb1 HC
  go_wp2_with fail
  go_ret2
  exact ⟨none, 0, 0, by rw [HE.out.1] <;> rfl, by rw [HE.out.2]; exact OwnB.nil, HB1.out⟩
 ·have h4 := changes_len hb
  rw [HLN.out] at h4
  go_enter Tryz.func20, Tryz.ntmps20
  go_wp2_with fail
  refine HC.out.mono ?_
  rintro e w1 ⟨rfl, hb1⟩
  rw [hb]
  have HB1 := Lib.hid hb1
  have ht := transaction_any A n c l w1 ((HL.out.below hb1 (Nat.le_refl _)).more hb1.size) HS.out (by omega)
  have HT := Lib.hid ht
  clear hb1 HC ht
  go_wp2_with fail
  refine HT.out.mono ?_
  rintro e w2 ⟨m, hm, A2, c2, rfl, ho, hb2⟩
  have hml := ho.len
  have HO := Lib.hid (ho.base_le HB1.out.size)
  have HB2 := Lib.hid (HB1.out.trans (hb2.mono HB1.out.size))
  clear ho hb2 HT
  by_cases h6 : 6000 < m
  ·have h6' : (6000 : Int) < (m : Int) := by omega
   have HE : Hid (encE l = 4 ∧ encV l = []) := Lib.hid (by unfold encE encV; rw [hb, if_pos rfl, if_pos (by omega)]; exact ⟨rfl, if_neg (fun h => by have := h.2; omega)⟩)
   go_wp2_with fail
   go_ret2
   exact ⟨none, 0, 0, by rw [HE.out.1] <;> rfl, by rw [HE.out.2]; exact OwnB.nil, HB2.out⟩
  ·have h6' : ¬ (6000 : Int) < (m : Int) := by omega
   have HE : Hid (encE l = 0 ∧ encV l = transN l) := Lib.hid (by unfold encE encV; rw [hb, if_pos rfl, if_neg (by omega)]; exact ⟨rfl, if_pos ⟨rfl, by omega⟩⟩)
   go_wp2_with fail
   go_ret2
   exact ⟨A2, m, c2, by rw [HE.out.1] <;> rfl, by rw [HE.out.2]; exact HO.out, HB2.out⟩
end Go.Proofs.YtcdehejgnnnimaaGreatDoor
namespace Go.Proofs.YtcdehejgnnnimaaGreatDoor
set_option linter.unusedVariables false
set_option linter.unusedSimpArgs false
open Go.RowKit
set_option linter.unusedVariables false
set_option linter.unusedSimpArgs false
set_option maxHeartbeats 400000 in
theorem pFailK_any (g e : Nat) (b : Bool) (l : List Nat) (w : World) (h : RdP w g l e) :
 Calls Tryz.prog 76 #[.pointer (some ⟨g, 0, none⟩), .bool b] w (Gave (.tuple #[]) g l (failE e b) w) := by
 have HE : Hid (failE e b = if e = 0 ∧ b = true then 3 else e) := hide rfl
 cases b with
 | true =>
   have HI : Hid (failE e true = noteE e 3) := hide (by rw [HE.out]; simp; rfl)
   rw [HI.out]
   clear HI HE
   have HH := hide h
   clear h
   go_enter Tryz.func76, Tryz.ntmps76
   go_wp2_with fail
   refine (note_any g e 3 l w HH.out).mono ?_
   rintro e' w1 ⟨rfl, hs1⟩
   go_wp2
   go_end0
   exact ⟨rfl, hs1⟩
 | false =>
   have HI : Hid (failE e false = e) := hide (by rw [HE.out]; simp)
   rw [HI.out]
   clear HI HE
   go_enter Tryz.func76, Tryz.ntmps76
   go_wp2
   go_end0
   exact ⟨rfl, h, World.grownBy.refl _ _⟩
end Go.Proofs.YtcdehejgnnnimaaGreatDoor
namespace Go.Proofs.YtcdehejgnnnimaaGreatDoor
set_option linter.unusedVariables false
set_option linter.unusedSimpArgs false
open Go.RowKit
set_option linter.unusedVariables false
set_option linter.unusedSimpArgs false
def nxA (l : List Nat) (e : Nat) : List Nat := takeL l e 8
def nxF (l : List Nat) (e : Nat) : Nat := failE (numE l e) (decide (1 < numV l e))
def nxK (l : List Nat) (e : Nat) : List Nat := textV (nxA l e) (nxF l e)
def nxB (l : List Nat) (e : Nat) : List Nat := textL (nxA l e) (nxF l e)
def nxG (l : List Nat) (e : Nat) : Nat := textE (nxA l e) (nxF l e)
def nxC (l : List Nat) (e : Nat) : Chg := if numV l e = 1 then (strOf (nxK l e), ⟨#[]⟩, true) else (strOf (nxK l e), strOf (textV (nxB l e) (nxG l e)), false)
def nxL (l : List Nat) (e : Nat) : List Nat := if numV l e = 1 then nxB l e else textL (nxB l e) (nxG l e)
def nxE (l : List Nat) (e : Nat) : Nat := if numV l e = 1 then nxG l e else textE (nxB l e) (nxG l e)
def NextIs (g : Nat) (l : List Nat) (e : Nat) (w : World) (x : Ending) (w' : World) : Prop := x = .returned (.agg (chgC (nxC l e)).toArray) ∧ RdP w' g (nxL l e) (nxE l e) ∧ w.grownBy w' (some g)
theorem row_three {W : World} {b : Nat} {a0 a1 a2 : Value} {t : TypeId} (h : W.heap[b]? = some (.cells #[a0, a1, a2] t (0, 0))) (x y z : Value) :
 (((W.setCell ⟨b, 0, none⟩ x).setCell ⟨b, 1, none⟩ y).setCell ⟨b, 2, none⟩ z).heap[b]? = some (.cells #[x, y, z] t (0, 0)) :=
 heap_setCell_same _ b 2 _ _ _ (heap_setCell_same _ b 1 _ _ _ (heap_setCell_same _ b 0 _ _ _ h))
theorem grownK_set {w W : World} {g b : Nat} (h : w.grownBy W (some g)) (hb : w.heap.size ≤ b) (i : Nat) (v : Value) : w.grownBy (W.setCell ⟨b, i, none⟩ v) (some g) :=
 ⟨h.os, h.tape, h.output, by simpa using h.size, fun k hk hr => (Below.heap_setCell W _ v k (by simp; omega)).trans (h.block k hk hr)⟩
theorem grownK_three {w W : World} {g b : Nat} (h : w.grownBy W (some g)) (hb : w.heap.size ≤ b) {x y z : Value} : w.grownBy (((W.setCell ⟨b, 0, none⟩ x).setCell ⟨b, 1, none⟩ y).setCell ⟨b, 2, none⟩ z) (some g) :=
 grownK_set (grownK_set (grownK_set h hb 0 x) hb 1 y) hb 2 z
theorem RdP.three {W : World} {g b e : Nat} {l : List Nat} (h : RdP W g l e) (hb : g ≠ b) (x y z : Value) : RdP (((W.setCell ⟨b, 0, none⟩ x).setCell ⟨b, 1, none⟩ y).setCell ⟨b, 2, none⟩ z) g l e :=
 (Below.heap_setCell _ _ _ g (by simp; omega)).trans ((Below.heap_setCell _ _ _ g (by simp; omega)).trans ((Below.heap_setCell _ _ _ g (by simp; omega)).trans h))
theorem numV_leK (l : List Nat) (e : Nat) : numV l e ≤ 4611686018427387904 := by unfold numV; split <;> omega
set_option maxRecDepth 20000 in
set_option maxHeartbeats 2000000 in
theorem knext_any (g e : Nat) (l : List Nat) (w : World) (h : RdP w g l e) (hl : l.length ≤ 140737488355328) (hb : ∀ x ∈ l, x < 256) :
 Calls Tryz.prog 55 #[.pointer (some ⟨g, 0, none⟩)] w (NextIs g l e w) := by
 have hg0 : w.grownBy (w.alloc (.cells #[.string ⟨#[]⟩, .string ⟨#[]⟩, .bool false] 52)) (some g) := (World.grownBy_alloc w _ none).but _
 have h0 := h.below ((Below.refl w.heap.size w).alloc (Nat.le_refl _) (.cells #[.string ⟨#[]⟩, .string ⟨#[]⟩, .bool false] 52)) h.lt
 have hglt := h.lt
 have hrow := heap_alloc_new w (.cells #[.string ⟨#[]⟩, .string ⟨#[]⟩, .bool false] 52)
 have hsz0 : w.heap.size < (w.alloc (.cells #[.string ⟨#[]⟩, .string ⟨#[]⟩, .bool false] 52)).heap.size := by simp
 go_enter Tryz.func55, Tryz.ntmps55
 go_wp2_with fail
 generalize w.alloc (.cells #[.string ⟨#[]⟩, .string ⟨#[]⟩, .bool false] 52) = w0 at *
 obtain ⟨b2, hb2⟩ : ∃ b, b = w.heap.size := ⟨_, rfl⟩
 rw [← hb2] at hrow hsz0 hglt ⊢
 have hw2 : w.heap.size ≤ b2 := by omega
 have HG0 := Lib.hid hg0
 clear hg0 h hb2
 refine (pNum_any g e l w0 h0 hl hb).mono ?_
 rintro x w1 ⟨rfl, h1, hg1⟩
 have hrow1 := (hg1.block b2 hsz0 (fun q => by injection q with q; omega)).trans hrow
 have hsz1 : b2 < w1.heap.size := Nat.lt_of_lt_of_le hsz0 hg1.size
 have HG1 := Lib.hid (grownK_trans HG0.out hg1)
 have hnb := numV_leK l e
 have HA : Hid (nxA l e = takeL l e 8) := Lib.hid rfl
 have HAL : Hid ((nxA l e).length ≤ 140737488355328 ∧ ∀ x ∈ nxA l e, x < 256) := Lib.hid ⟨Nat.le_trans takeL_len hl, takeL_lt hb⟩
 have HNF : Hid (nxF l e = failE (numE l e) (decide (1 < numV l e))) := Lib.hid rfl
 have HNC : Hid (nxC l e = if numV l e = 1 then (strOf (nxK l e), ⟨#[]⟩, true) else (strOf (nxK l e), strOf (textV (nxB l e) (nxG l e)), false)) := Lib.hid rfl
 have HNL : Hid (nxL l e = if numV l e = 1 then nxB l e else textL (nxB l e) (nxG l e)) := Lib.hid rfl
 have HNE : Hid (nxE l e = if numV l e = 1 then nxG l e else textE (nxB l e) (nxG l e)) := Lib.hid rfl
 obtain ⟨nv, hnv⟩ : ∃ q, numV l e = q := ⟨_, rfl⟩
 obtain ⟨ne, hne⟩ : ∃ q, numE l e = q := ⟨_, rfl⟩
 rw [hne] at h1 HNF
 rw [hnv] at hnb HNF HNC HNL HNE ⊢
 rw [← HA.out] at h1
 clear hnv hne hrow hsz0 hg1 HG0 h0
 go_wp2_with fail
 refine (pFailK_any g ne (decide (1 < (nv : Int))) (nxA l e) w1 h1).mono ?_
 rintro x w2 ⟨rfl, h2, hg2⟩
 have hdec : decide (1 < (nv : Int)) = decide (1 < nv) := by by_cases q : 1 < nv <;> simp [q] <;> omega
 rw [hdec, ← HNF.out] at h2
 have hrow2 := (hg2.block b2 hsz1 (fun q => by injection q with q; omega)).trans hrow1
 have hsz2 : b2 < w2.heap.size := Nat.lt_of_lt_of_le hsz1 hg2.size
 have HG2 := Lib.hid (grownK_trans HG1.out hg2)
 clear hrow1 hsz1 hg2 HG1 h1 hdec
 go_wp2_with fail
 refine (pText_any g (nxF l e) (nxA l e) w2 h2 HAL.out.1 HAL.out.2).mono ?_
 rintro x w3 ⟨rfl, h3, hg3⟩
 have hrow3 := (hg3.block b2 hsz2 (fun q => by injection q with q; omega)).trans hrow2
 have hsz3 : b2 < w3.heap.size := Nat.lt_of_lt_of_le hsz2 hg3.size
 have HG3 := Lib.hid (grownK_trans HG2.out hg3)
 have HBL : Hid ((nxB l e).length ≤ 140737488355328 ∧ ∀ x ∈ nxB l e, x < 256) := Lib.hid ⟨Nat.le_trans textL_len HAL.out.1, textL_lt HAL.out.2⟩
 replace h3 : RdP w3 g (nxB l e) (nxG l e) := h3
 have HK : Hid (textV (nxA l e) (nxF l e) = nxK l e) := Lib.hid rfl
 rw [HK.out]
 obtain ⟨kk, hkk⟩ : ∃ q, nxK l e = q := ⟨_, rfl⟩
 rw [hkk] at HNC ⊢
 clear hrow2 hsz2 hg3 HG2 h2 HK hkk HAL HA HNF
 by_cases h1 : nv = 1
 ·subst h1
  have HR : Hid (nxC l e = (strOf kk, ⟨#[]⟩, true) ∧ nxL l e = nxB l e ∧ nxE l e = nxG l e) := Lib.hid ⟨by rw [HNC.out, if_pos rfl], by rw [HNL.out, if_pos rfl], by rw [HNE.out, if_pos rfl]⟩
  clear HNC HNL HNE hnb
  have hr4 : (w3.alloc (.cells #[.string (strOf kk), .string ⟨#[]⟩, .bool true] 52)).heap[b2]? = some (.cells #[.string ⟨#[]⟩, .string ⟨#[]⟩, .bool false] 52 (0, 0)) := (Below.heap_alloc w3 _ b2 hsz3).trans hrow3
  have hr5 := heap_alloc_new w3 (.cells #[.string (strOf kk), .string ⟨#[]⟩, .bool true] 52)
  have hbl : Below b2 w3 (w3.alloc (.cells #[.string (strOf kk), .string ⟨#[]⟩, .bool true] 52)) := (Below.refl _ _).alloc (Nat.le_of_lt hsz3) _
  have hrd := h3.below hbl hglt
  have HG4 := Lib.hid (grownK_trans HG3.out ((World.grownBy_alloc w3 (.cells #[.string (strOf kk), .string ⟨#[]⟩, .bool true] 52) none).but (some g)))
  clear hbl hrow3 h3 HG3
  go_wp2_with ((with_reducible show wpList _ _ _ (⟨some 16, _, _, _, _, _⟩ :: _) _ _); refine holdK ?_)
  generalize w3.alloc (.cells #[.string (strOf kk), .string ⟨#[]⟩, .bool true] 52) = W4 at *
  obtain ⟨b4, hb4⟩ : ∃ b, b = w3.heap.size := ⟨_, rfl⟩
  rw [← hb4] at hr5 hsz3 ⊢
  clear hb4
  refine heldK ?_
  have e0 := cell_of_row _ b2 0 _ _ (0, 0) hr4
  have e1 := cell_of_row _ b2 1 _ _ (0, 0) hr4
  have e2 := cell_of_row _ b2 2 _ _ (0, 0) hr4
  have f0 := frozen_of_row _ b2 0 _ _ hr4
  have f1 := frozen_of_row _ b2 1 _ _ hr4
  have f2 := frozen_of_row _ b2 2 _ _ hr4
  have d0 := cell_of_row _ b4 0 _ _ (0, 0) hr5
  have d1 := cell_of_row _ b4 1 _ _ (0, 0) hr5
  have d2 := cell_of_row _ b4 2 _ _ (0, 0) hr5
  have HRD := Lib.hid hrd
  have HR4 := Lib.hid hr4
  clear hr4 hr5 hrd
  go_wp2_with fail
  refine bodyPost_ret (results_cell_row rfl _ _ b2 52 _ (0, 0) _ rfl (row_three HR4.out _ _ _) Tryz.underlying52 rfl (by kernel_rfl)) rfl ?_
  refine ⟨by rw [HR.out.1]; rfl, ?_, grownK_three HG4.out hw2⟩
  rw [HR.out.2.1, HR.out.2.2]
  exact RdP.three HRD.out (by omega) _ _ _
 ·have hn1 : ((nv : Int) == 1) = false := by simp; omega
  have HR : Hid (nxC l e = (strOf kk, strOf (textV (nxB l e) (nxG l e)), false) ∧ nxL l e = textL (nxB l e) (nxG l e) ∧ nxE l e = textE (nxB l e) (nxG l e)) := Lib.hid ⟨by rw [HNC.out, if_neg h1], by rw [HNL.out, if_neg h1], by rw [HNE.out, if_neg h1]⟩
  clear HNC HNL HNE hnb h1
  have hr4 : (w3.alloc (.cells #[.string (strOf kk), .string ⟨#[]⟩, .bool false] 52)).heap[b2]? = some (.cells #[.string ⟨#[]⟩, .string ⟨#[]⟩, .bool false] 52 (0, 0)) := (Below.heap_alloc w3 _ b2 hsz3).trans hrow3
  have hr5 := heap_alloc_new w3 (.cells #[.string (strOf kk), .string ⟨#[]⟩, .bool false] 52)
  have hbl : Below b2 w3 (w3.alloc (.cells #[.string (strOf kk), .string ⟨#[]⟩, .bool false] 52)) := (Below.refl _ _).alloc (Nat.le_of_lt hsz3) _
  have hrd := h3.below hbl hglt
  have hsz4 : w3.heap.size < (w3.alloc (.cells #[.string (strOf kk), .string ⟨#[]⟩, .bool false] 52)).heap.size := by simp
  have HG4 := Lib.hid (grownK_trans HG3.out ((World.grownBy_alloc w3 (.cells #[.string (strOf kk), .string ⟨#[]⟩, .bool false] 52) none).but (some g)))
  clear hbl hrow3 h3 HG3
  go_wp2_with ((with_reducible show wpList _ _ _ (⟨some 16, _, _, _, _, _⟩ :: _) _ _); refine holdK ?_)
  generalize w3.alloc (.cells #[.string (strOf kk), .string ⟨#[]⟩, .bool false] 52) = W4 at *
  obtain ⟨b4, hb4⟩ : ∃ b, b = w3.heap.size := ⟨_, rfl⟩
  rw [← hb4] at hr5 hsz3 hsz4 ⊢
  clear hb4
  refine heldK ?_
  have d2 := cell_of_row _ b4 2 _ _ (0, 0) hr5
  go_wp2_with fail
  refine (pText_any g (nxG l e) (nxB l e) W4 hrd HBL.out.1 HBL.out.2).mono ?_
  rintro x w5 ⟨rfl, h5, hg5⟩
  have hq4 := (hg5.block b2 (by omega) (fun q => by injection q with q; omega)).trans hr4
  have hq5 := (hg5.block b4 hsz4 (fun q => by injection q with q; omega)).trans hr5
  have HG5 := Lib.hid (grownK_trans HG4.out hg5)
  obtain ⟨vv, hvv⟩ : ∃ q, textV (nxB l e) (nxG l e) = q := ⟨_, rfl⟩
  rw [hvv] at HR ⊢
  replace h5 : RdP w5 g (textL (nxB l e) (nxG l e)) (textE (nxB l e) (nxG l e)) := h5
  clear d2 hr4 hr5 hrd hg5 HG4 hvv
  have dd1 := cell_of_row _ b4 1 _ _ (0, 0) hq5
  have ff1 := frozen_of_row _ b4 1 _ _ hq5
  have hq6 : (w5.setCell ⟨b4, 1, none⟩ (.string (strOf vv))).heap[b4]? = some (.cells #[.string (strOf kk), .string (strOf vv), .bool false] 52 (0, 0)) := heap_setCell_same w5 b4 1 _ _ _ hq5
  have hq7 : (w5.setCell ⟨b4, 1, none⟩ (.string (strOf vv))).heap[b2]? = some (.cells #[.string ⟨#[]⟩, .string ⟨#[]⟩, .bool false] 52 (0, 0)) := (Below.heap_setCell w5 _ _ b2 (by simp; omega)).trans hq4
  have hrd6 : RdP (w5.setCell ⟨b4, 1, none⟩ (.string (strOf vv))) g (textL (nxB l e) (nxG l e)) (textE (nxB l e) (nxG l e)) := (Below.heap_setCell w5 _ _ g (by simp; omega)).trans h5
  have HG6 := Lib.hid (grownK_set HG5.out (show w.heap.size ≤ b4 by omega) 1 (.string (strOf vv)))
  clear hq4 hq5 h5 HG5
  go_wp2_with ((with_reducible show wpList _ _ _ (⟨some 22, _, _, _, _, _⟩ :: _) _ _); refine holdK ?_)
  generalize w5.setCell ⟨b4, 1, none⟩ (.string (strOf vv)) = W4 at *
  refine heldK ?_
  clear dd1 ff1
  have hr4 := hq7
  have hr5 := hq6
  have e0 := cell_of_row _ b2 0 _ _ (0, 0) hr4
  have e1 := cell_of_row _ b2 1 _ _ (0, 0) hr4
  have e2 := cell_of_row _ b2 2 _ _ (0, 0) hr4
  have f0 := frozen_of_row _ b2 0 _ _ hr4
  have f1 := frozen_of_row _ b2 1 _ _ hr4
  have f2 := frozen_of_row _ b2 2 _ _ hr4
  have d0 := cell_of_row _ b4 0 _ _ (0, 0) hr5
  have d1 := cell_of_row _ b4 1 _ _ (0, 0) hr5
  have d2 := cell_of_row _ b4 2 _ _ (0, 0) hr5
  have HRD := Lib.hid hrd6
  have HR4 := Lib.hid hr4
  clear hr4 hr5 hrd6 hq6 hq7
  go_wp2_with fail
  refine bodyPost_ret (results_cell_row rfl _ _ b2 52 _ (0, 0) _ rfl (row_three HR4.out _ _ _) Tryz.underlying52 rfl (by kernel_rfl)) rfl ?_
  refine ⟨by rw [HR.out.1]; rfl, ?_, grownK_three HG6.out hw2⟩
  rw [HR.out.2.1, HR.out.2.2]
  exact RdP.three HRD.out (by omega) _ _ _
end Go.Proofs.YtcdehejgnnnimaaGreatDoor
namespace Go.Proofs.YtcdehejgnnnimaaGreatDoor
set_option linter.unusedVariables false
set_option linter.unusedSimpArgs false
open Go.RowKit
set_option linter.unusedVariables false
set_option linter.unusedSimpArgs false
def stK (l0 : List Nat) (e0 : Nat) : Nat → List Chg × List Nat × Nat
 | 0 => ([], l0, e0)
 | k + 1 => ((stK l0 e0 k).1 ++ [nxC (stK l0 e0 k).2.1 (stK l0 e0 k).2.2], nxL (stK l0 e0 k).2.1 (stK l0 e0 k).2.2, nxE (stK l0 e0 k).2.1 (stK l0 e0 k).2.2)
theorem nxL_len {l : List Nat} {e : Nat} : (nxL l e).length ≤ l.length := by
 have h1 : (nxB l e).length ≤ l.length := Nat.le_trans textL_len takeL_len
 unfold nxL
 split
 ·exact h1
 ·exact Nat.le_trans textL_len h1
theorem nxL_lt {l : List Nat} {e : Nat} (h : ∀ x ∈ l, x < 256) : ∀ x ∈ nxL l e, x < 256 := by
 have h1 : ∀ x ∈ nxB l e, x < 256 := textL_lt (takeL_lt h)
 unfold nxL
 split
 ·exact h1
 ·exact textL_lt h1
theorem stK_len (l0 : List Nat) (e0 : Nat) : ∀ k, (stK l0 e0 k).1.length = k
 | 0 => rfl
 | k + 1 => by show ((stK l0 e0 k).1 ++ _).length = _; rw [List.length_append, stK_len l0 e0 k]; rfl
theorem stK_left (l0 : List Nat) (e0 : Nat) : ∀ k, (stK l0 e0 k).2.1.length ≤ l0.length
 | 0 => Nat.le_refl _
 | k + 1 => Nat.le_trans nxL_len (stK_left l0 e0 k)
theorem stK_lt (l0 : List Nat) (e0 : Nat) (h : ∀ x ∈ l0, x < 256) : ∀ k, ∀ x ∈ (stK l0 e0 k).2.1, x < 256
 | 0 => h
 | k + 1 => nxL_lt (stK_lt l0 e0 h k)
theorem textV_len (l : List Nat) (e : Nat) : (textV l e).length ≤ 4096 := by
 have ht : ∀ (l : List Nat) (e n : Nat), (takeV l e n).length ≤ n := by
  intro l e n
  unfold takeV
  split
  ·rw [List.length_take]; omega
  ·exact Nat.zero_le _
 unfold textV
 split
 ·exact Nat.zero_le _
 ·exact Nat.le_trans (ht _ _ _) (by omega)
theorem nxC_size (l : List Nat) (e : Nat) : (nxC l e).1.size ≤ 4096 ∧ (nxC l e).2.1.size ≤ 4096 := by
 unfold nxC
 split
 ·exact ⟨by show (strOf _).size ≤ _; rw [strOf_size]; exact textV_len _ _, Nat.zero_le _⟩
 ·exact ⟨by show (strOf _).size ≤ _; rw [strOf_size]; exact textV_len _ _, by show (strOf _).size ≤ _; rw [strOf_size]; exact textV_len _ _⟩
theorem stK_size (l0 : List Nat) (e0 : Nat) : ∀ k, ∀ c ∈ (stK l0 e0 k).1, c.1.size ≤ 4096 ∧ c.2.1.size ≤ 4096
 | 0 => by intro c hc; cases hc
 | k + 1 => by
   intro c hc
   rcases List.mem_append.1 hc with h | h
   ·exact stK_size l0 e0 k c h
   ·rw [List.mem_singleton.1 h]; exact nxC_size _ _
def decS (b : List Nat) : List Chg × List Nat × Nat := stK (takeL b 0 8) (countE b 0 400) (countV b 0 400)
def decD (b : List Nat) : Nat := doneE (decS b).2.1 (decS b).2.2
def decE (b : List Nat) : Nat := if decD b = 0 then (if changesB (decS b).1 = true then 0 else 3) else decD b
def decV (b : List Nat) : List Chg := if decE b = 0 then (decS b).1 else []
theorem decV_size (b : List Nat) : ∀ c ∈ decV b, c.1.size ≤ 4096 ∧ c.2.1.size ≤ 4096 := by
 unfold decV
 split
 ·exact stK_size _ _ _
 ·intro c hc; cases hc
theorem count_le (b : List Nat) (e : Nat) : countV b e 400 ≤ 400 := by unfold countV; split <;> omega
theorem decV_len (b : List Nat) : (decV b).length ≤ 400 := by
 unfold decV
 split
 ·unfold decS; rw [stK_len]; exact count_le b 0
 ·exact Nat.zero_le _
theorem info_chg : (Tryz.prog.info? 52).map (fun i => (i.zero, i.size, i.bytes)) = some (some (.agg #[.string ByteArray.empty, .string ByteArray.empty, .bool false]), 3, 40) := by kernel_rfl
def DecIs (b : List Nat) (w : World) (e : Ending) (w' : World) : Prop := ∃ A n c, e = .returned (.tuple #[.slice A n c, .int .i64 (decE b : Nat)]) ∧ OwnK 3 chgC w' w.heap.size 52 A n c (decV b) ∧ Below w.heap.size w w'
set_option maxRecDepth 20000 in
set_option maxHeartbeats 4000000 in
theorem decode_any (A : Option Addr) (n c B : Nat) (b : List Nat) (w : World) (hb : Bytes w B A n b) (hn : n ≤ 140737488355328) :
 Calls Tryz.prog 27 #[.slice A n c] w (DecIs b w) := by
 have hlen : b.length = n := hb.1
 have hb256 : ∀ x ∈ b, x < 256 := hb.2.1
 have hfrom := pFrom_any A n c B b w hb
 have HFROM := Lib.hid hfrom
 have HS : Hid (decS b = stK (takeL b 0 8) (countE b 0 400) (countV b 0 400)) := Lib.hid rfl
 have HD : Hid (decD b = doneE (decS b).2.1 (decS b).2.2) := Lib.hid rfl
 have hm4 := count_le b 0
 have HT : Hid ((takeL b 0 8).length ≤ 140737488355328 ∧ ∀ x ∈ takeL b 0 8, x < 256) := Lib.hid ⟨Nat.le_trans takeL_len (by omega), takeL_lt hb256⟩
 clear hfrom hb
 go_enter Tryz.func27, Tryz.ntmps27
 go_wp2_with fail
 refine HFROM.out.mono ?_
 rintro e w1 ⟨rfl, hr1, hb1⟩
 obtain ⟨g, hg⟩ : ∃ g, g = w.heap.size := ⟨_, rfl⟩
 rw [← hg] at hr1 ⊢
 have HB1 := Lib.hid hb1
 have HGW := Lib.hid hg
 clear hb1 HFROM hg
 have hcnt := pCount_any g 0 400 b w1 hr1 (by omega) hb256 (by omega)
 rw [show (((400 : Nat)) : Int) = 400 from rfl] at hcnt
 have HCNT := Lib.hid hcnt
 clear hcnt
 go_wp2_with fail
 refine HCNT.out.mono ?_
 rintro e w2 ⟨rfl, hr2, hg2⟩
 clear HCNT
 have HB2 : Hid (Below w.heap.size w w2) := Lib.hid (HB1.out.grown hg2 HB1.out.size (fun k hk => by cases hk; have := HGW.out; omega))
 obtain ⟨l0, hl0⟩ : ∃ q, takeL b 0 8 = q := ⟨_, rfl⟩
 obtain ⟨e0, he0⟩ : ∃ q, countE b 0 400 = q := ⟨_, rfl⟩
 obtain ⟨m, hm⟩ : ∃ q, countV b 0 400 = q := ⟨_, rfl⟩
 rw [hm]
 rw [hl0, he0] at hr2
 rw [hl0, he0, hm] at HS
 rw [hl0] at HT
 rw [hm] at hm4
 have HR2 := Lib.hid hr2
 clear hr1 hr2 hg2 HB1 hl0 he0 hm
 go_wp2_with fail
 go_loopw [5, 11] (fun o i wx => ∃ (k : Nat) (A2 : Option Addr) (n2 c2 : Nat), k ≤ m ∧ i = .int .i64 (k : Int) ∧ o = .slice A2 n2 c2 ∧ OwnK 3 chgC wx (g + 1) 52 A2 n2 c2 (stK l0 e0 k).1 ∧ RdP wx g (stK l0 e0 k).2.1 (stK l0 e0 k).2.2 ∧ Below w.heap.size w wx) (fun _ i _ => m - (intOf i).toNat)
 case atStart => exact ⟨0, none, 0, 0, Nat.zero_le _, rfl, rfl, OwnK.nil chgC_len, HR2.out, HB2.out⟩
 case round =>
  obtain ⟨k, A2, n2, c2, hk, rfl, rfl, ho, hr, hb⟩ := hrel
  have HO := Lib.hid ho
  have HB := Lib.hid hb
  have hn2 := ho.len
  rw [stK_len] at hn2
  have hglt := hr.lt
  clear ho hb HR2
  by_cases hlt : k < m
  ·have hk0 : (0 : Int) ≤ (k : Int) := by omega
   have hkm : (k : Int) < (m : Int) := by omega
   have HSK : Hid (stK l0 e0 (k + 1) = ((stK l0 e0 k).1 ++ [nxC (stK l0 e0 k).2.1 (stK l0 e0 k).2.2], nxL (stK l0 e0 k).2.1 (stK l0 e0 k).2.2, nxE (stK l0 e0 k).2.1 (stK l0 e0 k).2.2)) := Lib.hid rfl
   have HLL : Hid ((stK l0 e0 k).2.1.length ≤ 140737488355328 ∧ ∀ x ∈ (stK l0 e0 k).2.1, x < 256) := Lib.hid ⟨Nat.le_trans (stK_left l0 e0 k) HT.out.1, stK_lt l0 e0 HT.out.2 k⟩
   obtain ⟨cs, hcs⟩ : ∃ q, (stK l0 e0 k).1 = q := ⟨_, rfl⟩
   obtain ⟨lk, hlk⟩ : ∃ q, (stK l0 e0 k).2.1 = q := ⟨_, rfl⟩
   obtain ⟨ek, hek⟩ : ∃ q, (stK l0 e0 k).2.2 = q := ⟨_, rfl⟩
   rw [hcs] at HO HSK
   rw [hlk] at hr HSK HLL
   rw [hek] at hr HSK
   clear hcs hlk hek
   go_wp2_with fail
   refine (knext_any g ek lk wr hr HLL.out.1 HLL.out.2).mono ?_
   rintro e w4 ⟨rfl, hr4, hg4⟩
   obtain ⟨cc, hcc⟩ : ∃ q, nxC lk ek = q := ⟨_, rfl⟩
   rw [hcc] at HSK ⊢
   have hb4 : Below (g + 1) wr w4 → True := fun _ => trivial
   have ho4 : OwnK 3 chgC w4 (g + 1) 52 A2 n2 c2 cs := by
    have h := HO.out
    refine ⟨⟨h.1.1, ?_⟩, h.2⟩
    rcases h.1.2 with h0 | ⟨g', cap, cur, hv, hg', hh, r⟩
    ·exact .inl h0
    ·exact .inr ⟨g', cap, cur, hv, hg', (hg4.block g' (Array.getElem?_eq_some_iff.1 hh).1 (fun q => by injection q with q; omega)).trans hh, r⟩
   have HO4 := Lib.hid (ho4.alloc (.cells (chgC cc).toArray 52))
   have HB4 := Lib.hid (HB.out.grown hg4 HB.out.size (fun k hk => by cases hk; have := HGW.out; omega))
   have HR4 := Lib.hid hr4
   have hgs : g < w4.heap.size := hr4.lt
   have HOB := Lib.hid HO.out.1
   obtain ⟨ck, cv, cg⟩ := cc
   unfold chgC at HO4 ⊢
   clear hcc hr hr4 ho4 hb4 HO
   go_wp2_with ((with_reducible show wpList _ _ _ (⟨some 17, _, _, _, _, _⟩ :: _) _ _); refine holdK ?_)
   refine heldK (wpList_append_k (k := 3) (f := chgC) rfl (.tmp 13) (.tmp 16) 39 rfl Tryz.underlying39 info_chg rfl (by omega) (by omega) (g + 1) A2 n2 c2 cs rfl HO4.out w4.heap.size 0 (ck, cv, cg) rfl (by
    intro j v hv
    rw [Nat.zero_add, cell_of_row _ w4.heap.size j _ _ (0, 0) (heap_alloc_new w4 _)]
    unfold chgC at hv
    simpa [List.getElem?_toArray] using hv) (chgC_one _) (by omega) (by simp; omega) ?_)
   intro A5 c5 w5 ho5 hb5 hg5
   have HO5 : Hid (OwnK 3 chgC w5 (g + 1) 52 A5 (n2 + 1) c5 (stK l0 e0 (k + 1)).1) := Lib.hid (by rw [HSK.out]; exact ho5)
   have hbb : Below (g + 1) w4 w5 := ((Below.refl _ _).alloc (by omega) _).trans hb5
   have HR5 : Hid (RdP w5 g (stK l0 e0 (k + 1)).2.1 (stK l0 e0 (k + 1)).2.2) := Lib.hid (by rw [HSK.out]; exact HR4.out.below hbb (by omega))
   have HB5 := Lib.hid (HB4.out.trans (hbb.mono (by have := HGW.out; omega)))
   clear ho5 hb5 hg5 hbb
   go_wp2_with fail
   go_roundw
   case rel => exact ⟨k + 1, A5, n2 + 1, c5, by omega, by go_num, rfl, HO5.out, HR5.out, HB5.out⟩
   case measure => simp [intOf]; omega
  ·have hkm : ¬ (k : Int) < (m : Int) := by omega
   obtain rfl : k = m := by omega
   have hlt2 := stK_lt l0 e0 HT.out.2 k
   rw [← HS.out] at hr hlt2
   have hof := HO.out
   rw [← HS.out] at hof
   have HOF := Lib.hid hof
   have hdone := pDone_any g _ _ wr hr hlt2
   rw [← HD.out] at hdone
   have HDONE := Lib.hid hdone
   have HE : Hid (decE b = if decD b = 0 then (if changesB (decS b).1 = true then 0 else 3) else decD b) := Lib.hid rfl
   have HV : Hid (decV b = if decE b = 0 then (decS b).1 else []) := Lib.hid rfl
   have hbe : w.heap.size ≤ g + 1 := by have := HGW.out; omega
   clear hdone hof hr hlt2 HO HS HD
   go_wp2_with fail
   refine HDONE.out.mono ?_
   rintro e w' ⟨rfl, rfl⟩
   obtain ⟨dd, hdd⟩ : ∃ q, decD b = q := ⟨_, rfl⟩
   rw [hdd] at HE ⊢
   clear hdd HDONE
   by_cases h0 : dd = 0
   ·subst h0
    have hcm := changesMayBe_any A2 n2 c2 (decS b).1 wr (HOF.out.col) (by omega)
    have HCM := Lib.hid hcm
    clear hcm
    go_wp2_with fail
    refine HCM.out.mono ?_
    rintro e w6 ⟨rfl, hb6⟩
    have HO6 := Lib.hid (HOF.out.below hb6)
    have HB6 := Lib.hid (HB.out.trans (hb6.mono HB.out.size))
    clear hb6 HCM
    cases hcb : changesB (decS b).1
    ·have HE0 : Hid (decE b = 3) := Lib.hid (by rw [HE.out, hcb]; rfl)
     have HV0 : Hid (decV b = []) := Lib.hid (by rw [HV.out, HE0.out]; rfl)
     clear hcb
     go_wp2_with fail
     go_ret2
     exact ⟨none, 0, 0, by rw [HE0.out] <;> rfl, by rw [HV0.out]; exact OwnK.nil chgC_len, HB6.out⟩
    ·have HE0 : Hid (decE b = 0) := Lib.hid (by rw [HE.out, hcb]; rfl)
     have HV0 : Hid (decV b = (decS b).1) := Lib.hid (by rw [HV.out, HE0.out]; rfl)
     clear hcb
     go_wp2_with fail
     go_ret2
     exact ⟨A2, n2, c2, by rw [HE0.out] <;> rfl, by rw [HV0.out]; exact HO6.out.from_ hbe, HB6.out⟩
   ·have hne : ((dd : Int) != 0) = true := by simp; omega
    have HE0 : Hid (decE b = dd) := Lib.hid (by rw [HE.out, if_neg h0])
    have HV0 : Hid (decV b = []) := Lib.hid (by rw [HV.out, HE0.out, if_neg h0])
    go_wp2_with fail
    go_ret2
    exact ⟨none, 0, 0, by rw [HE0.out] <;> rfl, by rw [HV0.out]; exact OwnK.nil chgC_len, HB.out⟩
end Go.Proofs.YtcdehejgnnnimaaGreatDoor
