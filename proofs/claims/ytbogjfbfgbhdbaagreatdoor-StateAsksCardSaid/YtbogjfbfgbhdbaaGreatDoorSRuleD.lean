/-
 A part of the proof: see the last text.
-/
import Derived.Test.YtbogjfbfgbhdbaaGreatDoorSUidsB
import Derived.Test.YtbogjfbfgbhdbaaGreatDoorSStM
import Derived.Deep.RegionHeld3
import Derived.Test.YtbogjfbfgbhdbaaGreatDoorSBytesOwn
namespace Go.Proofs.YtbogjfbfgbhdbaaGreatDoor
open List renaming setIfInBounds_toArray → jA, set_cons_zero → jB, set_cons_succ → jC, getElem_toArray → jD, getElem_cons_zero → jE, getElem_cons_succ → jF
set_option linter.unusedVariables false
set_option linter.unusedSimpArgs false
open Go.RowKit
set_option linter.unusedVariables false
set_option linter.unusedSimpArgs false
theorem keep_lt {l : List Rul} (h : ∀ r ∈ l, r.2 < 9223372036854775808) (box : ByteArray) : keepR l box < 9223372036854775808 := by
 unfold keepR
 cases e : l.find? (fun r => decide (r.1 = box)) with
 | none => show (0 : Int) < _; omega
 | some r => exact h r (List.mem_of_find?_eq_some e)
theorem tm_load {op : Oper} {a : Act} {w0 : World} {x : Operand} {b : Nat} {t : Tm} (ho : op.op = .load 51 x) (hx : a.eval x = .pointer (some ⟨b, 0, none⟩)) (hk : Bk w0 b 51 (tmA t)) : (execOp a.eval op).run Tryz.prog w0 = .ok (.value (.agg (tmA t))) w0 := by
 have hl : (loadVar 51 ⟨b, 0, none⟩).run Tryz.prog w0 = .ok (.agg (tmA t)) w0 := hk.load Tryz.underlying51 rfl (by kernel_rfl)
 unfold execOp
 simp only [ho, hx, Instr.loadAt, Instr.sureAddr, Sem.run_bind, Sem.run_pure, Result.andThen_ok, hl]
set_option maxRecDepth 20000 in
set_option maxHeartbeats 4000000 in
theorem rlGoes_any (A B : Option Addr) (n c m d : Nat) (rs : List Rul) (hs : List Hh) (t : Tm) (now : Int) (w : World) (hr : ColK 2 rulC w w.heap.size A n rs) (hn : n ≤ 140737488355328) (hh : HoldsIn w w.heap.size B m hs) (hm : m ≤ 140737488355328) (hsm : ∀ h ∈ hs, h.n ≤ 1000000)
 (hat : t.at_ < 9223372036854775808) (hks : ∀ r ∈ rs, r.2 < 9223372036854775808) :
 Calls Tryz.prog 230 #[.agg (tmA t), .slice A n c, .slice B m d, .int .i64 now] w fun e w' => e = .returned (.bool (goesB rs hs now t)) ∧ Below w.heap.size w w' := by
 have HR := Lib.hid hr
 have HH := Lib.hid hh
 have HSM := Lib.hid hsm
 have HK := Lib.hid (keep_lt hks t.box)
 have HAT := Lib.hid hat
 clear hr hh hsm hks hat
 go_enter Tryz.func230, Tryz.ntmps230
 go_wp2_with fail
 obtain ⟨b4, hb4⟩ : ∃ b, b = w.heap.size := ⟨_, rfl⟩
 refine wp_region_held_drew (S := fun W' => Bk W' b4 51 (tmA t)) (by kernel_rfl) (by rw [hb4]; exact (Bk.new _ _ _).drew) (fun hHeld => ?_)
 simp only [List.size_toArray, List.length_cons, List.length_nil, Nat.reduceAdd]
 obtain ⟨V0, hV0⟩ : ∃ V, V = (w.alloc (.cells (tmA t) 51)).drew := ⟨_, rfl⟩
 have EB : Hid (Below w.heap.size w V0) := Lib.hid (by rw [hV0]; exact ((Below.refl _ _).alloc (Nat.le_refl _) _).drew)
 have NB := Lib.hid hb4
 rw [← hV0] at hHeld ⊢
 rw [← hb4]
 clear hV0 hb4
 refine wpAnyH_take (i := 0) (v := .agg (tmA t)) rfl (by kernel_rfl) (by kernel_rfl) (by kernel_rfl) (fun _ _ _ h => h) (Or.inl ⟨by rfl, fun w0 hC => tm_load rfl rfl hC⟩) hHeld ?_
 try simp only [Act.put, jA, jB, jC, jD, jE, jF]
 refine wpAnyH_take (i := 1) (v := .slice A n c) rfl (by kernel_rfl) (by kernel_rfl) (by kernel_rfl) (fun _ _ _ h => h) (Or.inl ⟨by rfl, fun w0 hC => by simp [execOp, Act.eval, Act.put, go_sem]⟩) hHeld ?_
 try simp only [Act.put, jA, jB, jC, jD, jE, jF]
 refine wpAnyH_take (i := 2) (v := .pointer (some ⟨b4, 1, none⟩)) rfl (by kernel_rfl) (by kernel_rfl) (by kernel_rfl) (fun _ _ _ h => h) (Or.inl ⟨by rfl, fun w0 hC => by simp [execOp, Act.eval, Act.put, go_sem]⟩) hHeld ?_
 try simp only [Act.put, jA, jB, jC, jD, jE, jF]
 refine wpAnyH_take (i := 3) (v := .string t.box) rfl (by kernel_rfl) (by kernel_rfl) (by kernel_rfl) (fun _ _ _ h => h) (Or.inl ⟨by rfl, fun w0 hC => by simp [execOp, Act.eval, Act.put, go_sem, hC.tm.2.1]⟩) hHeld ?_
 try simp only [Act.put, jA, jB, jC, jD, jE, jF]
 refine wpAnyH_take (i := 5) (v := .int .i64 now) rfl (by kernel_rfl) (by kernel_rfl) (by kernel_rfl) (fun _ _ _ h => h) (Or.inl ⟨by rfl, fun w0 hC => by simp [execOp, Act.eval, Act.put, go_sem]⟩) hHeld ?_
 try simp only [Act.put, jA, jB, jC, jD, jE, jF]
 refine wpAnyH_ready (rs := [4]) (by kernel_rfl) (by simp) (AllReadyH.cons rfl (fun K hK => ?_) AllReadyH.nil)
 rw [if_pos (by rfl)]
 go_wp2_with fail
 refine (rlKeep_any A n c rs t.box V0 (HR.out.later EB.out) hn).mono ?_
 rintro e V1 ⟨rfl, hbz⟩
 have hSa := hHeld.below hbz hHeld.lt
 have EB2 := Lib.hid (EB.out.trans (hbz.mono EB.out.size))
 clear hHeld hbz EB
 have EB := EB2
 clear EB2
 refine hK.out _ _ hSa (fun hHeld => ?_)
 clear hK K
 try simp only [Act.put, jA, jB, jC, jD, jE, jF]
 clear hSa
 refine wpAnyH_ready (rs := [6]) (by kernel_rfl) (by simp) (AllReadyH.cons rfl (fun K hK => ?_) AllReadyH.nil)
 rw [if_pos (by rfl)]
 go_wp2_with fail
 refine (rlRipe_any t (keepR rs t.box) now HAT.out HK.out V1).mono ?_
 rintro e V2 ⟨rfl, hbz⟩
 have hSa := hHeld.below hbz hHeld.lt
 have EB2 := Lib.hid (EB.out.trans (hbz.mono EB.out.size))
 clear hHeld hbz EB
 have EB := EB2
 clear EB2
 refine hK.out _ _ hSa (fun hHeld => ?_)
 clear hK K
 try simp only [Act.put, jA, jB, jC, jD, jE, jF]
 clear hSa
 cases hrp : ripeB t.at_ (keepR rs t.box) now
 ·have HG : Hid (goesB rs hs now t = false) := Lib.hid (by unfold goesB; rw [hrp]; rfl)
  clear hrp
  refine wpAnyH_take (i := 7) (v := .bool false) rfl (by kernel_rfl) (by kernel_rfl) (by kernel_rfl) (fun _ _ _ h => h) (Or.inl ⟨by rfl, fun w0 hC => by simp [execOp, Act.eval, Act.put, go_sem]⟩) hHeld ?_
  try simp only [Act.put, jA, jB, jC, jD, jE, jF]
  refine wpAnyH_take (i := 8) (v := undef) rfl (by kernel_rfl) (by kernel_rfl) (by kernel_rfl) (fun _ _ _ h => h) (Or.inr ⟨by rfl, rfl⟩) hHeld ?_
  try simp only [Act.put, jA, jB, jC, jD, jE, jF]
  refine wpAnyH_take (i := 9) (v := undef) rfl (by kernel_rfl) (by kernel_rfl) (by kernel_rfl) (fun _ _ _ h => h) (Or.inr ⟨by rfl, rfl⟩) hHeld ?_
  try simp only [Act.put, jA, jB, jC, jD, jE, jF]
  refine wpAnyH_take (i := 10) (v := undef) rfl (by kernel_rfl) (by kernel_rfl) (by kernel_rfl) (fun _ _ _ h => h) (Or.inr ⟨by rfl, rfl⟩) hHeld ?_
  try simp only [Act.put, jA, jB, jC, jD, jE, jF]
  refine wpAnyH_take (i := 11) (v := undef) rfl (by kernel_rfl) (by kernel_rfl) (by kernel_rfl) (fun _ _ _ h => h) (Or.inr ⟨by rfl, rfl⟩) hHeld ?_
  try simp only [Act.put, jA, jB, jC, jD, jE, jF]
  refine wpAnyH_take (i := 12) (v := undef) rfl (by kernel_rfl) (by kernel_rfl) (by kernel_rfl) (fun _ _ _ h => h) (Or.inr ⟨by rfl, rfl⟩) hHeld ?_
  try simp only [Act.put, jA, jB, jC, jD, jE, jF]
  refine wpAnyH_take (i := 13) (v := undef) rfl (by kernel_rfl) (by kernel_rfl) (by kernel_rfl) (fun _ _ _ h => h) (Or.inr ⟨by rfl, rfl⟩) hHeld ?_
  try simp only [Act.put, jA, jB, jC, jD, jE, jF]
  refine wpAnyH_take (i := 14) (v := undef) rfl (by kernel_rfl) (by kernel_rfl) (by kernel_rfl) (fun _ _ _ h => h) (Or.inr ⟨by rfl, rfl⟩) hHeld ?_
  try simp only [Act.put, jA, jB, jC, jD, jE, jF]
  refine wpAnyH_take (i := 15) (v := undef) rfl (by kernel_rfl) (by kernel_rfl) (by kernel_rfl) (fun _ _ _ h => h) (Or.inr ⟨by rfl, rfl⟩) hHeld ?_
  try simp only [Act.put, jA, jB, jC, jD, jE, jF]
  refine wpAnyH_take (i := 16) (v := .bool false) rfl (by kernel_rfl) (by kernel_rfl) (by kernel_rfl) (fun _ _ _ h => h) (Or.inl ⟨by rfl, fun w0 hC => by simp [execOp, Act.eval, Act.put, go_sem]⟩) hHeld ?_
  try simp only [Act.put, jA, jB, jC, jD, jE, jF]
  refine wpAnyH_ready (rs := [17]) (by kernel_rfl) (by simp) (AllReadyH.cons rfl (fun K hK => ?_) AllReadyH.nil)
  rw [if_pos (by rfl)]
  go_wp2_with fail
  refine hK.out _ _ hHeld (fun hHeld => ?_)
  clear hK K
  try simp only [Act.put, jA, jB, jC, jD, jE, jF]
  refine wpAnyH_done (by kernel_rfl) ?_ _
  go_wp2_with fail
  go_ret
  exact ⟨by rw [HG.out] <;> rfl, EB.out⟩
 ·have HG : Hid (goesB rs hs now t = !heldR hs t.box t.uid) := Lib.hid (by unfold goesB; rw [hrp]; rfl)
  clear hrp
  refine wpAnyH_take (i := 7) (v := .bool true) rfl (by kernel_rfl) (by kernel_rfl) (by kernel_rfl) (fun _ _ _ h => h) (Or.inl ⟨by rfl, fun w0 hC => by simp [execOp, Act.eval, Act.put, go_sem]⟩) hHeld ?_
  try simp only [Act.put, jA, jB, jC, jD, jE, jF]
  refine wpAnyH_take (i := 8) (v := .slice B m d) rfl (by kernel_rfl) (by kernel_rfl) (by kernel_rfl) (fun _ _ _ h => h) (Or.inl ⟨by rfl, fun w0 hC => by simp [execOp, Act.eval, Act.put, go_sem]⟩) hHeld ?_
  try simp only [Act.put, jA, jB, jC, jD, jE, jF]
  refine wpAnyH_take (i := 9) (v := .pointer (some ⟨b4, 1, none⟩)) rfl (by kernel_rfl) (by kernel_rfl) (by kernel_rfl) (fun _ _ _ h => h) (Or.inl ⟨by rfl, fun w0 hC => by simp [execOp, Act.eval, Act.put, go_sem]⟩) hHeld ?_
  try simp only [Act.put, jA, jB, jC, jD, jE, jF]
  refine wpAnyH_take (i := 10) (v := .string t.box) rfl (by kernel_rfl) (by kernel_rfl) (by kernel_rfl) (fun _ _ _ h => h) (Or.inl ⟨by rfl, fun w0 hC => by simp [execOp, Act.eval, Act.put, go_sem, hC.tm.2.1]⟩) hHeld ?_
  try simp only [Act.put, jA, jB, jC, jD, jE, jF]
  refine wpAnyH_take (i := 11) (v := .pointer (some ⟨b4, 3, none⟩)) rfl (by kernel_rfl) (by kernel_rfl) (by kernel_rfl) (fun _ _ _ h => h) (Or.inl ⟨by rfl, fun w0 hC => by simp [execOp, Act.eval, Act.put, go_sem]⟩) hHeld ?_
  try simp only [Act.put, jA, jB, jC, jD, jE, jF]
  refine wpAnyH_take (i := 12) (v := .pointer (some ⟨b4, 3, none⟩)) rfl (by kernel_rfl) (by kernel_rfl) (by kernel_rfl) (fun _ _ _ h => h) (Or.inl ⟨by rfl, fun w0 hC => by simp [execOp, Act.eval, Act.put, go_sem]⟩) hHeld ?_
  try simp only [Act.put, jA, jB, jC, jD, jE, jF]
  refine wpAnyH_take (i := 13) (v := .int .i64 t.uid) rfl (by kernel_rfl) (by kernel_rfl) (by kernel_rfl) (fun _ _ _ h => h) (Or.inl ⟨by rfl, fun w0 hC => by simp [execOp, Act.eval, Act.put, go_sem, hC.tm.2.2.2.1]⟩) hHeld ?_
  try simp only [Act.put, jA, jB, jC, jD, jE, jF]
  refine wpAnyH_ready (rs := [14]) (by kernel_rfl) (by simp) (AllReadyH.cons rfl (fun K hK => ?_) AllReadyH.nil)
  rw [if_pos (by rfl)]
  go_wp2_with fail
  refine (rlHeld_any B m d t.box t.uid hs V2 (HH.out.later EB.out) hm HSM.out).mono ?_
  rintro e V3 ⟨rfl, hbz⟩
  have hSa := hHeld.below hbz hHeld.lt
  have EB2 := Lib.hid (EB.out.trans (hbz.mono EB.out.size))
  clear hHeld hbz EB
  have EB := EB2
  clear EB2
  refine hK.out _ _ hSa (fun hHeld => ?_)
  clear hK K
  try simp only [Act.put, jA, jB, jC, jD, jE, jF]
  clear hSa
  refine wpAnyH_take (i := 15) (v := .bool (!heldR hs t.box t.uid)) rfl (by kernel_rfl) (by kernel_rfl) (by kernel_rfl) (fun _ _ _ h => h) (Or.inl ⟨by rfl, fun w0 hC => by simp [execOp, Act.eval, Act.put, go_sem]⟩) hHeld ?_
  try simp only [Act.put, jA, jB, jC, jD, jE, jF]
  refine wpAnyH_take (i := 16) (v := .bool (!heldR hs t.box t.uid)) rfl (by kernel_rfl) (by kernel_rfl) (by kernel_rfl) (fun _ _ _ h => h) (Or.inl ⟨by rfl, fun w0 hC => by simp [execOp, Act.eval, Act.put, go_sem]⟩) hHeld ?_
  try simp only [Act.put, jA, jB, jC, jD, jE, jF]
  refine wpAnyH_ready (rs := [17]) (by kernel_rfl) (by simp) (AllReadyH.cons rfl (fun K hK => ?_) AllReadyH.nil)
  rw [if_pos (by rfl)]
  go_wp2_with fail
  refine hK.out _ _ hHeld (fun hHeld => ?_)
  clear hK K
  try simp only [Act.put, jA, jB, jC, jD, jE, jF]
  refine wpAnyH_done (by kernel_rfl) ?_ _
  go_wp2_with fail
  go_ret
  exact ⟨by rw [HG.out] <;> rfl, EB.out⟩
end Go.Proofs.YtbogjfbfgbhdbaaGreatDoor
namespace Go.Proofs.YtbogjfbfgbhdbaaGreatDoor
open List renaming setIfInBounds_toArray → jA, set_cons_zero → jB, set_cons_succ → jC, getElem_toArray → jD, getElem_cons_zero → jE, getElem_cons_succ → jF
set_option linter.unusedVariables false
set_option linter.unusedSimpArgs false
open Go.RowKit
set_option linter.unusedVariables false
set_option linter.unusedSimpArgs false
theorem dueL_yes {rs : List Rul} {hs : List Hh} {now : Int} {l m : List Tm} {t : Tm} (e : m = l ++ [t]) (h : goesB rs hs now t = true) : (dueL rs hs now m).map ints = (dueL rs hs now l).map ints ++ [ints t.id] := by
 rw [e, dueL_snoc, if_pos h, List.map_append]; rfl
theorem dueL_no {rs : List Rul} {hs : List Hh} {now : Int} {l m : List Tm} {t : Tm} (e : m = l ++ [t]) (h : goesB rs hs now t = false) : (dueL rs hs now m).map ints = (dueL rs hs now l).map ints := by
 rw [e, dueL_snoc, if_neg (by rw [h]; simp), List.append_nil]
theorem w_setRow_all {w w' : World} {g : Nat} {cur cells : Array Value} (h : Hid (w' = w.setRow g (splice cur.toList 0 cells.toList).toArray)) (hs : cells.size = cur.size) : w' = w.setRow g cells := by
 rw [h.out, splice_all (by simpa using hs), Array.toArray_toList]
theorem tmA_one (t : Tm) : ∀ v ∈ (tmA t).toList, v.oneCell' = true := by
 intro v hv
 simp only [tmA, List.mem_cons, List.not_mem_nil, or_false] at hv
 rcases hv with rfl | rfl | rfl | rfl | rfl | rfl | rfl <;> rfl
theorem tmC_A (t : Tm) : (tmC t).toArray = tmA t := rfl
set_option maxRecDepth 20000 in
set_option maxHeartbeats 8000000 in
theorem rlDue_any (A B C : Option Addr) (n c m d q cq : Nat) (rs : List Rul) (hs : List Hh) (l : List Tm) (now : Int) (w : World) (hr : ColK 2 rulC w w.heap.size A n rs) (hn : n ≤ 140737488355328) (hh : HoldsIn w w.heap.size B m hs) (hm : m ≤ 140737488355328) (hsm : ∀ h ∈ hs, h.n ≤ 1000000)
 (ht : ColK 7 tmC w w.heap.size C q l) (hq : q ≤ 1000000) (hat : ∀ t ∈ l, t.at_ < 9223372036854775808) (hks : ∀ r ∈ rs, r.2 < 9223372036854775808) :
 Calls Tryz.prog 178 #[.slice C q cq, .slice A n c, .slice B m d, .int .i64 now] w (GiveI w (dueL rs hs now l)) := by
 have HR := Lib.hid hr
 have HH := Lib.hid hh
 have HSM := Lib.hid hsm
 have HKS := Lib.hid hks
 have HAT := Lib.hid hat
 have HT := Lib.hid ht
 clear hr hh hsm hks hat ht
 go_enter Tryz.func178, Tryz.ntmps178
 go_wp2_with fail
 go_loopw [9, 15] (fun p i wx => ∃ (k n2 c2 : Nat) (A2 : Option Addr), k ≤ q ∧ i = .int .i64 (k : Int) ∧ p = .slice A2 n2 c2 ∧ n2 ≤ k ∧ OwnV wx w.heap.size 3 A2 n2 c2 ((dueL rs hs now (l.take k)).map ints) ∧ Below w.heap.size w wx) (fun _ i _ => q - (intOf i).toNat)
 case atStart =>
  exact ⟨0, _, _, _, Nat.zero_le _, rfl, rfl, Nat.le_refl _, OwnV.empty w 3, (Below.refl _ _).alloc (Nat.le_refl _) _⟩
 case round =>
  obtain ⟨k, n2, c2, A2, hk, rfl, rfl, hn2, hown, hb⟩ := hrel
  have HB := Lib.hid hb
  have HO := Lib.hid hown
  clear hb hown
  by_cases hlt : k < q
  ·obtain ⟨b, o, t, rfl, hbb, hla, htk, hrow⟩ := (HT.out.below HB.out (Nat.le_refl _)).at_ hlt
   have HLA := Lib.hid hla
   have HTK := Lib.hid htk
   have HROW := Lib.hid hrow
   have hk0 : (0 : Int) ≤ (k : Int) := by omega
   have hkn : (k : Int) < (q : Int) := by omega
   have CG := Lib.hid (fun V (hV : Below w.heap.size w V) => rlGoes_any A B n c m d rs hs t now V (HR.out.later hV) hn (HH.out.later hV) hm HSM.out (HAT.out t (List.mem_of_getElem? hla)) HKS.out)
   clear hla htk hrow
   go_wp2_with ((with_reducible show wpList _ _ _ (⟨some 18, _, _, _, _, _⟩ :: _) _ _); refine hold ?_)
   refine held (wpList_load_mid rfl 51 (.tmp 17) rfl b (o + k * 7) rfl (tmC t) _ HROW.out Tryz.underlying51 rfl (by kernel_rfl) ?_)
   rw [tmC_A]
   go_wp2_with ((with_reducible show wpList _ _ _ (⟨none, _, _, _, _, _⟩ :: _) _ _); refine hold ?_)
   obtain ⟨bt, hbt⟩ : ∃ bt, bt = wr.heap.size := ⟨_, rfl⟩
   refine held (wpList_store_wide rfl 51 (.tmp 11) (.tmp 18) rfl wr.heap.size 0 (tmA t) rfl rfl 51 _ (Bk.new wr 51 _) (by rw [tmA_size]; decide) (by rw [tmA_size]; kernel_rfl) (tmA_one _) ?_)
   intro w3 hw3
   have hw3' := w_setRow_all hw3 (by rw [tmA_size]; rfl)
   have hbw : Below wr.heap.size wr w3 := by rw [hw3']; exact below_setRow ((Below.refl _ _).alloc (Nat.le_refl _) _) (Nat.le_refl _) _
   have K3 : Hid (Bk w3 bt 51 (tmA t)) := Lib.hid (by rw [hw3', hbt]; exact (Bk.new wr _ _).setRow_same _)
   have B3 := Lib.hid (HB.out.trans (hbw.mono HB.out.size))
   have O3 := Lib.hid (HO.out.below hbw)
   rw [← hbt]
   clear hbt hw3 hw3' hbw
   go_wp2_with ((with_reducible show wpList _ _ _ (⟨some 19, _, _, _, _, _⟩ :: _) _ _); refine hold ?_)
   refine held (wpList_load_mid rfl 51 (.tmp 11) rfl bt 0 rfl _ _ K3.out.range Tryz.underlying51 rfl (by kernel_rfl) ?_)
   go_wp2_with fail
   refine (CG.out w3 B3.out).mono ?_
   rintro e w4 ⟨rfl, hb4⟩
   have K4 := Lib.hid (K3.out.below hb4 K3.out.lt)
   have B4 := Lib.hid (B3.out.trans (hb4.mono B3.out.size))
   have O4 := Lib.hid (O3.out.below hb4)
   clear hb4 CG K3 B3 O3
   have c0 := K4.out.tm.1
   cases hg : goesB rs hs now t
   ·have HS := Lib.hid (dueL_no HTK.out hg)
    clear hg
    go_wp2_with fail
    go_roundw
    case rel => exact ⟨k + 1, n2, c2, A2, by omega, by go_num, rfl, by omega, by rw [HS.out]; exact O4.out, B4.out⟩
    case measure => simp [intOf]; omega
   ·have HS := Lib.hid (dueL_yes HTK.out hg)
    clear hg
    go_wp2_with ((with_reducible show wpList _ _ _ (⟨some 28, _, _, _, _, _⟩ :: _) _ _); refine hold ?_)
    refine held (wpList_append_one rfl (.tmp 24) (.tmp 27) 29 rfl Tryz.underlying29 info_int rfl (by omega) w.heap.size A2 n2 c2 _ rfl (OwnV.alloc O4.out _) w4.heap.size 0 (.int .i64 t.id) rfl
     (by rw [cell_of_row _ w4.heap.size 0 _ _ (0, 0) (heap_alloc_new w4 _)]; rfl) rfl (by omega) (by have := B4.out.size; simp; omega) ?_)
    intro A4 c4 wx hown4 hb4
    have O5 := Lib.hid hown4
    have B5 := Lib.hid ((B4.out.alloc B4.out.size _).trans hb4)
    clear hown4 hb4 c0
    go_wp2_with fail
    go_roundw
    case rel => exact ⟨k + 1, n2 + 1, c4, A4, by omega, by go_num, rfl, by omega, by rw [HS.out]; exact O5.out, B5.out⟩
    case measure => simp [intOf]; omega
  ·have hkn : ¬ (k : Int) < (q : Int) := by omega
   have HALL : Hid (dueL rs hs now (l.take k) = dueL rs hs now l) := Lib.hid (by rw [List.take_of_length_le (by rw [HT.out.1]; omega)])
   go_wp2_with fail
   go_ret
   exact ⟨A2, n2, c2, rfl, by rw [← HALL.out]; exact HO.out.colI, HB.out⟩
end Go.Proofs.YtbogjfbfgbhdbaaGreatDoor
