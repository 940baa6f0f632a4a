/-
  A part of the proof: see the last text.
-/
import Derived.Test.YthflljlilcmcnaaGreatDoorSKvAlive
import Derived.Test.YthflljlilcmcnaaGreatDoorSKvGet
import Derived.Test.YthflljlilcmcnaaGreatDoorSKvRefDo
import Derived.Test.YthflljlilcmcnaaGreatDoorSKvRefS
import Derived.Test.YthflljlilcmcnaaGreatDoorSKvPre
import Derived.Test.YthflljlilcmcnaaGreatDoorSWalGreat
namespace Go.Proofs.YthflljlilcmcnaaGreatDoor
open List renaming setIfInBounds_toArray → jA, set_cons_zero → jB, set_cons_succ → jC, getElem_toArray → jD, getElem_cons_zero → jE, getElem_cons_succ → jF
set_option linter.unusedVariables false
set_option linter.unusedSimpArgs false
open Go.RowKit Go.Maps
set_option linter.unusedVariables false
set_option linter.unusedSimpArgs false
theorem great_size {l : List Pr} {cs : List Chg} (h : great6B l cs = false) : l.length + cs.length ≤ 20000 ∧ (∀ p ∈ l, p.1.size ≤ 20000 ∧ p.2.size ≤ 20000) := by
  have h1 := of_decide_eq_false h
  refine ⟨by omega, fun p hp => ?_⟩
  have h2 : p.1.size + p.2.size ≤ sumW wP l := sumW_le wP hp
  constructor <;> omega
end Go.Proofs.YthflljlilcmcnaaGreatDoor
namespace Go.Proofs.YthflljlilcmcnaaGreatDoor
open List renaming setIfInBounds_toArray → jA, set_cons_zero → jB, set_cons_succ → jC, getElem_toArray → jD, getElem_cons_zero → jE, getElem_cons_succ → jF
set_option linter.unusedVariables false
set_option linter.unusedSimpArgs false
open Go.RowKit Go.Maps
set_option linter.unusedVariables false
set_option linter.unusedSimpArgs false
theorem sizeStore : (Tryz.prog.info? 31).map (·.size) = some 5 := by kernel_rfl
theorem snap_rss {l : List Pr} {A : Option Addr} {n c : Nat} {us : List Value} {w w0 : World} (hP : PairsOk l) (ho : OwnK 1 one w w0.heap.size 69 A n c us) (hr : Recs w w0.heap.size us (snapL l)) : Bss w w.heap.size A n (snapL l) ∧ n ≤ 1000 := by
  refine ⟨(ho.rss hr (snapL_ok hP.2.1)).bss, ?_⟩
  have h1 := ho.len
  have h2 := hr.1
  have h3 := snapL_len l
  have h4 := hP.1
  omega
theorem x6same_yes (A B : Option Addr) (n c m d : Nat) (l : List Pr) (w : World) (hl : ColK 2 pairC w w.heap.size A n l) (hr : ColK 2 pairC w w.heap.size B m l) (hn : n ≤ 140737488355328) (hm : m ≤ 140737488355328) :
    Calls Tryz.prog 11 #[.slice A n c, .slice B m d] w fun e w' => e = .returned (.bool true) ∧ Below w.heap.size w w' :=
  (x6samePairs_any A B n c m d l l w hl hr hn hm).mono (fun e w' h => ⟨by rw [h.1, decide_eq_true (Eq.refl l)], by obtain ⟨q, hq⟩ := h.2; rw [hq]; exact belowK_drewN (Below.refl _ _) q⟩)
theorem x5same_yes (A A' : Option Addr) (n c n' c' : Nat) (L : List (List Nat)) (w : World) (hl : Bss w w.heap.size A n L) (hl' : Bss w w.heap.size A' n' L) (hn : n ≤ 140737488355328) (hn' : n' ≤ 140737488355328) :
    Calls Tryz.prog 16 #[.slice A n c, .slice A' n' c'] w fun e w' => e = .returned (.bool true) ∧ Below w.heap.size w w' :=
  (x5same_any A A' n c n' c' _ _ L L w hl hl' (Nat.le_refl _) (Nat.le_refl _) hn hn').mono (fun e w' h => ⟨by rw [h.1, decide_eq_true (Eq.refl L)], h.2⟩)
set_option maxRecDepth 100000 in
set_option maxHeartbeats 8000000 in
theorem kvAsks_walk (A : Option Addr) (n c : Nat) (l : List Pr) (A' : Option Addr) (n' c' : Nat) (cs : List Chg) (key : ByteArray) (w : World) (hl : ColK 2 pairC w w.heap.size A n l) (hs : ∀ x ∈ l, x.1.size ≤ 140737488355328 ∧ x.2.size ≤ 140737488355328) (hn : n ≤ 140737488355328)
    (hcs : ColK 3 chgC w w.heap.size A' n' cs) (hs2 : ∀ x ∈ cs, x.1.size ≤ 140737488355328 ∧ x.2.1.size ≤ 140737488355328) (hn2 : n' ≤ 140737488355328) (ht : Tab w) :
    Calls Tryz.prog 3 #[.slice A n c, .slice A' n' c', .string key] w fun e w' => e = .returned (.bool true) ∧ Below w.heap.size w w' := by
  have HL := Lib.hid hl
  have HCS := Lib.hid hcs
  have HS := Lib.hid hs
  have HS2 := Lib.hid hs2
  have HT := Lib.hid ht
  have hm : Tryz.prog.follows .mixedOrders = true := by kernel_rfl
  clear hl hs ht hcs hs2
  go_enter Tryz.func3, Tryz.ntmps3
  go_wp2_with fail
  refine (alive06_any w HT.out).mono ?_
  rintro e W1 ⟨rfl, hb1⟩
  have HB1 := Lib.hid hb1
  clear hb1
  go_wp2_with fail
  refine (great06_any A A' n c n' c' l cs W1 (HL.out.later HB1.out) (HCS.out.later HB1.out) hn hn2 HS.out HS2.out).mono ?_
  rintro e W3 ⟨rfl, q, hw3⟩
  have HB3 : Hid (Below w.heap.size w W3) := Lib.hid (by rw [hw3]; exact belowK_drewN HB1.out q)
  clear hw3 HB1
  cases hg : great6B l cs
  rotate_left
  · go_wp2_with fail
    go_ret
    exact ⟨rfl, HB3.out⟩
  have HGS := Lib.hid (great_size hg)
  clear hg
  by_cases hk : 200 < key.size
  · have hk' : (200 : Int) < (key.size : Int) := by omega
    go_wp2_with fail
    go_ret
    exact ⟨rfl, HB3.out⟩
  have hk' : ¬ (200 : Int) < (key.size : Int) := by omega
  go_wp2_with fail
  refine (x6pairs_any A n c l W3 (HL.out.later HB3.out) hn).mono ?_
  rintro e W4 ⟨⟨bb, rfl, hbb⟩, q, hw4⟩
  have HB4 : Hid (Below w.heap.size w W4) := Lib.hid (by rw [hw4]; exact belowK_drewN HB3.out q)
  clear hw4 HB3
  cases bb
  · clear hbb
    go_wp2_with fail
    go_ret
    exact ⟨rfl, HB4.out⟩
  have HP := Lib.hid (hbb.1 rfl)
  clear hbb
  go_wp2_with fail
  refine (x6changes_any A' n' c' cs W4 (HCS.out.later HB4.out) hn2).mono ?_
  rintro e W6 ⟨rfl, q, hw6⟩
  have HB6 : Hid (Below w.heap.size w W6) := Lib.hid (by rw [hw6]; exact belowK_drewN HB4.out q)
  clear hw6 HB4
  cases hcb : changesB cs
  · go_wp2_with fail
    go_ret
    exact ⟨rfl, HB6.out⟩
  clear hcb
  have hn3 : n ≤ 400 := by have := HP.out.1; rw [HL.out.1] at this; exact this
  have hn4 : n' ≤ 20000 := by have := HGS.out.1; rw [HCS.out.1] at this; omega
  have hb0 : Below W6.heap.size W6 (W6.alloc (.cells #[] 63)) := (Below.refl _ _).alloc (Nat.le_refl _) _
  obtain ⟨A5, c5, W7, hrun, ho, _, hb⟩ := app_own (c' := c) (OwnK.empty pairC_len W6 63) ((HL.out.later HB6.out).below hb0 (Nat.le_refl _)) (by omega) (by simp)
  rw [Nat.zero_add] at hrun
  rw [Nat.zero_add, List.nil_append] at ho
  have HO7 := Lib.hid ho.col
  have HB7 : Hid (Below w.heap.size w W7) := Lib.hid (HB6.out.trans ((hb0.trans (hb.mono (Nat.le_refl _))).mono HB6.out.size))
  clear ho hb hb0 HB6
  go_wp2_with ((with_reducible show wpList _ _ _ (⟨some 35, _, _, _, _, _⟩ :: _) _ _); refine holdK ?_)
  refine heldK (wpList_plain rfl fun _ hK => wp_append_ks rfl rfl rfl hrun (hK _ _ ?_))
  clear hrun
  go_wp2_with ((with_reducible show wpList _ _ _ (⟨some 39, _, _, _, _, _⟩ :: _) _ _); refine hold ?_)
  have hba : Below W7.heap.size W7 (W7.alloc (.cells #[.int .i64 0, .int .i64 0, .int .i64 0, .int .i64 0, .slice A5 n c5] 31)) := (Below.refl _ _).alloc (Nat.le_refl _) _
  refine list_over (fun W => Bk W W7.heap.size 31 #[.int .i64 0, .int .i64 0, .int .i64 0, .int .i64 0, .slice A5 n c5] ∧ ColK 2 pairC W W.heap.size A5 n l ∧ Below w.heap.size w W) ⟨Bk.new _ _ _, HO7.out.later hba, HB7.out.trans (hba.mono HB7.out.size)⟩ ?_
  obtain ⟨b7, hb7⟩ : ∃ b, b = W7.heap.size := ⟨_, rfl⟩
  rw [← hb7]
  clear hb7 hba HO7 HB7
  rintro W8 ⟨ks, ho, hb⟩
  have HKS := Lib.hid ks
  have HO := Lib.hid ho
  have HB := Lib.hid hb
  obtain ⟨⟨v0, v1, v2, v3, v4⟩, _⟩ := ks.five
  clear ks ho hb
  refine held ?_
  go_wp2_with fail
  obtain ⟨t, ht⟩ : ∃ t, ((fnOf l key).getD ⟨#[]⟩) = t := ⟨_, rfl⟩
  obtain ⟨bo, hbo⟩ : ∃ b, (fnOf l key).isSome = b := ⟨_, rfl⟩
  have HGR : Hid (getR (fnOf l) key = .tuple #[.string t, .bool bo]) := Lib.hid (by unfold getR; rw [ht, hbo])
  clear ht hbo
  refine (get_any (.int .i64 0) (.int .i64 0) (.int .i64 0) (.int .i64 0) A5 n c5 l key W8 rfl rfl rfl rfl HO.out (by omega)).mono ?_
  rintro e W9 ⟨rfl, hb9⟩
  rw [HGR.out]
  have HKS9 := Lib.hid (HKS.out.below hb9 HKS.out.lt)
  have HO9 := Lib.hid (HO.out.later hb9)
  have HB9 := Lib.hid (HB.out.trans (hb9.mono HB.out.size))
  clear v0 v1 v2 v3 v4 hb9 HKS HO HB
  obtain ⟨⟨v0, v1, v2, v3, v4⟩, _⟩ := HKS9.out.five
  go_wp2_with fail
  refine (x6get_any (.int .i64 0) (.int .i64 0) (.int .i64 0) (.int .i64 0) A5 n c5 l key W9 rfl rfl rfl rfl HO9.out (by omega)).mono ?_
  rintro e W ⟨rfl, hb9⟩
  rw [HGR.out]
  have HKS := Lib.hid (HKS9.out.below hb9 HKS9.out.lt)
  have HO := Lib.hid (HO9.out.later hb9)
  have HB := Lib.hid (HB9.out.trans (hb9.mono HB9.out.size))
  clear v0 v1 v2 v3 v4 hb9 HKS9 HO9 HB9 HGR
  have et : (t.toList == t.toList) = true := by simp
  have eb : (bo == bo) = true := by simp
  go_wp2_with fail
  have HKSD : Hid (Bk W.drew b7 31 #[.int .i64 0, .int .i64 0, .int .i64 0, .int .i64 0, .slice A5 n c5]) := Lib.hid HKS.out.drew
  have HLW := Lib.hid (HL.out.later HB.out)
  have HCW := Lib.hid (HCS.out.later HB.out)
  refine wp_region_held_drew (S := fun W' => Below W.heap.size W W') hm ((Below.refl _ _).drew) (fun hHeld => ?_)
  obtain ⟨V0, hV0⟩ : ∃ V, V = W.drew := ⟨_, rfl⟩
  rw [← hV0] at hHeld ⊢
  clear hV0 HKSD
  simp only [List.size_toArray, List.length_cons, List.length_nil, Nat.reduceAdd]
  refine wpAnyH_take (i := 0) (v := .string t) rfl (by kernel_rfl) (by kernel_rfl) (by kernel_rfl) (fun _ _ _ h => h) (Or.inl ⟨by rfl, fun w0 hC => by simp [execOp, Act.eval, Act.put, go_sem]⟩) hHeld ?_
  try simp only [Act.put, jA, jB, jC, jD, jE, jF]
  refine wpAnyH_take (i := 1) (v := .string t) rfl (by kernel_rfl) (by kernel_rfl) (by kernel_rfl) (fun _ _ _ h => h) (Or.inl ⟨by rfl, fun w0 hC => by simp [execOp, Act.eval, Act.put, go_sem]⟩) hHeld ?_
  try simp only [Act.put, jA, jB, jC, jD, jE, jF]
  refine wpAnyH_take (i := 2) (v := .bool true) rfl (by kernel_rfl) (by kernel_rfl) (by kernel_rfl) (fun _ _ _ h => h) (Or.inl ⟨by rfl, fun w0 hC => by simp [execOp, Act.eval, Act.put, go_sem]⟩) hHeld ?_
  try simp only [Act.put, jA, jB, jC, jD, jE, jF]
  refine wpAnyH_take (i := 3) (v := .bool true) rfl (by kernel_rfl) (by kernel_rfl) (by kernel_rfl) (fun _ _ _ h => h) (Or.inl ⟨by rfl, fun w0 hC => by simp [execOp, Act.eval, Act.put, go_sem]⟩) hHeld ?_
  try simp only [Act.put, jA, jB, jC, jD, jE, jF]
  refine wpAnyH_take (i := 4) (v := .bool bo) rfl (by kernel_rfl) (by kernel_rfl) (by kernel_rfl) (fun _ _ _ h => h) (Or.inl ⟨by rfl, fun w0 hC => by simp [execOp, Act.eval, Act.put, go_sem]⟩) hHeld ?_
  try simp only [Act.put, jA, jB, jC, jD, jE, jF]
  refine wpAnyH_take (i := 5) (v := .bool bo) rfl (by kernel_rfl) (by kernel_rfl) (by kernel_rfl) (fun _ _ _ h => h) (Or.inl ⟨by rfl, fun w0 hC => by simp [execOp, Act.eval, Act.put, go_sem]⟩) hHeld ?_
  try simp only [Act.put, jA, jB, jC, jD, jE, jF]
  refine wpAnyH_take (i := 6) (v := .bool true) rfl (by kernel_rfl) (by kernel_rfl) (by kernel_rfl) (fun _ _ _ h => h) (Or.inl ⟨by rfl, fun w0 hC => by simp [execOp, Act.eval, Act.put, go_sem]⟩) hHeld ?_
  try simp only [Act.put, jA, jB, jC, jD, jE, jF]
  refine wpAnyH_take (i := 7) (v := .bool true) rfl (by kernel_rfl) (by kernel_rfl) (by kernel_rfl) (fun _ _ _ h => h) (Or.inl ⟨by rfl, fun w0 hC => by simp [execOp, Act.eval, Act.put, go_sem]⟩) hHeld ?_
  try simp only [Act.put, jA, jB, jC, jD, jE, jF]
  refine wpAnyH_take (i := 8) (v := .bool true) rfl (by kernel_rfl) (by kernel_rfl) (by kernel_rfl) (fun _ _ _ h => h) (Or.inl ⟨by rfl, fun w0 hC => by simp [execOp, Act.eval, Act.put, go_sem]⟩) hHeld ?_
  try simp only [Act.put, jA, jB, jC, jD, jE, jF]
  refine wpAnyH_take (i := 9) (v := .agg #[.int .i64 0, .int .i64 0, .int .i64 0, .int .i64 0, .slice A5 n c5]) rfl (by kernel_rfl) (by kernel_rfl) (by kernel_rfl) (fun _ _ _ h => h) (Or.inl ⟨by rfl, fun w0 hC => exec_loadK rfl rfl (HKS.out.below hC HKS.out.lt).rangeK Tryz.underlying31 rfl sizeStore⟩) hHeld ?_
  try simp only [Act.put, jA, jB, jC, jD, jE, jF]
  refine wpAnyH_take (i := 10) (v := .string key) rfl (by kernel_rfl) (by kernel_rfl) (by kernel_rfl) (fun _ _ _ h => h) (Or.inl ⟨by rfl, fun w0 hC => by simp [execOp, Act.eval, Act.put, go_sem]⟩) hHeld ?_
  try simp only [Act.put, jA, jB, jC, jD, jE, jF]
  refine wpAnyH_take (i := 12) (v := .agg #[.int .i64 0, .int .i64 0, .int .i64 0, .int .i64 0, .slice A5 n c5]) rfl (by kernel_rfl) (by kernel_rfl) (by kernel_rfl) (fun _ _ _ h => h) (Or.inl ⟨by rfl, fun w0 hC => exec_loadK rfl rfl (HKS.out.below hC HKS.out.lt).rangeK Tryz.underlying31 rfl sizeStore⟩) hHeld ?_
  try simp only [Act.put, jA, jB, jC, jD, jE, jF]
  refine wpAnyH_take (i := 13) (v := .string key) rfl (by kernel_rfl) (by kernel_rfl) (by kernel_rfl) (fun _ _ _ h => h) (Or.inl ⟨by rfl, fun w0 hC => by simp [execOp, Act.eval, Act.put, go_sem]⟩) hHeld ?_
  try simp only [Act.put, jA, jB, jC, jD, jE, jF]
  refine wpAnyH_ready (rs := [11]) (by kernel_rfl) (by simp) (AllReadyH.cons rfl (fun K hK => ?_) AllReadyH.nil)
  rw [if_pos (by rfl)]
  go_wp2_with fail
  refine (kprefix_any (.int .i64 0) (.int .i64 0) (.int .i64 0) (.int .i64 0) A5 n c5 l key V0 rfl rfl rfl rfl (HO.out.later hHeld) (by omega)).mono ?_
  rintro e V1 ⟨Ap, np, cp, rfl, hop, hnp, hba⟩
  have hcp := hop.col
  clear hop
  have hnp4 : np ≤ 400 := by have h1 := HP.out.1; have h2 : (prefL l key).length ≤ l.length := List.length_filter_le _ _; omega
  clear hnp
  have hSa := hHeld.trans (hba.mono hHeld.size)
  clear hba hHeld
  refine hK.out _ _ hSa (fun hHeld => ?_)
  clear hK K
  try simp only [Act.put, jA, jB, jC, jD, jE, jF]
  clear hSa
  refine wpAnyH_ready (rs := [14]) (by kernel_rfl) (by simp) (AllReadyH.cons rfl (fun K hK => ?_) AllReadyH.nil)
  rw [if_pos (by rfl)]
  go_wp2_with fail
  refine (x6prefix_any (.int .i64 0) (.int .i64 0) (.int .i64 0) (.int .i64 0) A5 n c5 l key V1 rfl rfl rfl rfl (HO.out.later hHeld) (by omega)).mono ?_
  rintro e V2 ⟨Aq, nq, cq, rfl, hoq, hnq, hba⟩
  have hcq := hoq.col
  replace hcp := hcp.later hba
  clear hoq
  have hnq4 : nq ≤ 400 := by have h1 := HP.out.1; have h2 : (prefL l key).length ≤ l.length := List.length_filter_le _ _; omega
  clear hnq
  have hSa := hHeld.trans (hba.mono hHeld.size)
  clear hba hHeld
  refine hK.out _ _ hSa (fun hHeld => ?_)
  clear hK K
  try simp only [Act.put, jA, jB, jC, jD, jE, jF]
  clear hSa
  refine wpAnyH_ready (rs := [15]) (by kernel_rfl) (by simp) (AllReadyH.cons rfl (fun K hK => ?_) AllReadyH.nil)
  rw [if_pos (by rfl)]
  go_wp2_with fail
  refine (x6same_yes Ap Aq np cp nq cq _ V2 (hcp) (hcq) (by omega) (by omega)).mono ?_
  rintro e V3 ⟨rfl, hba⟩
  have hSa := hHeld.trans (hba.mono hHeld.size)
  clear hba hHeld
  refine hK.out _ _ hSa (fun hHeld => ?_)
  clear hK K
  try simp only [Act.put, jA, jB, jC, jD, jE, jF]
  clear hSa
  refine wpAnyH_take (i := 16) (v := .bool true) rfl (by kernel_rfl) (by kernel_rfl) (by kernel_rfl) (fun _ _ _ h => h) (Or.inl ⟨by rfl, fun w0 hC => by simp [execOp, Act.eval, Act.put, go_sem]⟩) hHeld ?_
  try simp only [Act.put, jA, jB, jC, jD, jE, jF]
  refine wpAnyH_take (i := 17) (v := .bool true) rfl (by kernel_rfl) (by kernel_rfl) (by kernel_rfl) (fun _ _ _ h => h) (Or.inl ⟨by rfl, fun w0 hC => by simp [execOp, Act.eval, Act.put, go_sem]⟩) hHeld ?_
  try simp only [Act.put, jA, jB, jC, jD, jE, jF]
  refine wpAnyH_take (i := 18) (v := .slice A5 n c5) rfl (by kernel_rfl) (by kernel_rfl) (by kernel_rfl) (fun _ _ _ h => h) (Or.inl ⟨by rfl, fun w0 hC => by simp [execOp, Act.eval, Act.put, go_sem]⟩) hHeld ?_
  try simp only [Act.put, jA, jB, jC, jD, jE, jF]
  refine wpAnyH_take (i := 19) (v := .slice A' n' c') rfl (by kernel_rfl) (by kernel_rfl) (by kernel_rfl) (fun _ _ _ h => h) (Or.inl ⟨by rfl, fun w0 hC => by simp [execOp, Act.eval, Act.put, go_sem]⟩) hHeld ?_
  try simp only [Act.put, jA, jB, jC, jD, jE, jF]
  refine wpAnyH_take (i := 21) (v := .slice A n c) rfl (by kernel_rfl) (by kernel_rfl) (by kernel_rfl) (fun _ _ _ h => h) (Or.inl ⟨by rfl, fun w0 hC => by simp [execOp, Act.eval, Act.put, go_sem]⟩) hHeld ?_
  try simp only [Act.put, jA, jB, jC, jD, jE, jF]
  refine wpAnyH_take (i := 22) (v := .slice A' n' c') rfl (by kernel_rfl) (by kernel_rfl) (by kernel_rfl) (fun _ _ _ h => h) (Or.inl ⟨by rfl, fun w0 hC => by simp [execOp, Act.eval, Act.put, go_sem]⟩) hHeld ?_
  try simp only [Act.put, jA, jB, jC, jD, jE, jF]
  clear hcp hcq hnp4 hnq4
  refine wpAnyH_ready (rs := [20]) (by kernel_rfl) (by simp) (AllReadyH.cons rfl (fun K hK => ?_) AllReadyH.nil)
  rw [if_pos (by rfl)]
  go_wp2_with fail
  refine (do_any A5 n c5 l A' n' c' cs V3 (HO.out.later hHeld) (HCW.out.later hHeld) (fun x hx => (HS.out x hx).1) (fun x hx => (HS2.out x hx).1) (by omega) (by omega)).mono ?_
  rintro e V4 ⟨Am, nm, cm, m1, rfl, hom, hlm, hba⟩
  have hcm := hom.col
  have hnm : nm ≤ 1000000 := by have h1 := hom.len; have h2 := lists_len hlm; have h3 := HL.out.1; have h4 := HCS.out.1; omega
  clear hom
  rw [putsF_lists HP.out.2.2] at hlm
  have HLM := Lib.hid hlm
  clear hlm
  have hSa := hHeld.trans (hba.mono hHeld.size)
  clear hba hHeld
  refine hK.out _ _ hSa (fun hHeld => ?_)
  clear hK K
  try simp only [Act.put, jA, jB, jC, jD, jE, jF]
  clear hSa
  refine wpAnyH_ready (rs := [23]) (by kernel_rfl) (by simp) (AllReadyH.cons rfl (fun K hK => ?_) AllReadyH.nil)
  rw [if_pos (by rfl)]
  go_wp2_with fail
  refine (x6do_any A n c l A' n' c' cs V4 (HLW.out.later hHeld) (HCW.out.later hHeld) HP.out.2.2 (by omega) (by omega)).mono ?_
  rintro e V5 ⟨Ar, nr, cr, m2, rfl, hor, hlr, hba⟩
  have hcr := hor.col
  replace hcm := hcm.later hba
  have hmm := HLM.out.unique hlr
  have hnr : nr ≤ 1000000 := by have h1 := hor.len; have h2 := hcm.1; rw [hmm] at h2; omega
  rw [← hmm] at hcr
  clear hor hlr hmm HLM
  have hSa := hHeld.trans (hba.mono hHeld.size)
  clear hba hHeld
  refine hK.out _ _ hSa (fun hHeld => ?_)
  clear hK K
  try simp only [Act.put, jA, jB, jC, jD, jE, jF]
  clear hSa
  refine wpAnyH_ready (rs := [24]) (by kernel_rfl) (by simp) (AllReadyH.cons rfl (fun K hK => ?_) AllReadyH.nil)
  rw [if_pos (by rfl)]
  go_wp2_with fail
  refine (x6same_yes Am Ar nm cm nr cr _ V5 (hcm) (hcr) (by omega) (by omega)).mono ?_
  rintro e V6 ⟨rfl, hba⟩
  have hSa := hHeld.trans (hba.mono hHeld.size)
  clear hba hHeld
  refine hK.out _ _ hSa (fun hHeld => ?_)
  clear hK K
  try simp only [Act.put, jA, jB, jC, jD, jE, jF]
  clear hSa
  refine wpAnyH_take (i := 25) (v := .bool true) rfl (by kernel_rfl) (by kernel_rfl) (by kernel_rfl) (fun _ _ _ h => h) (Or.inl ⟨by rfl, fun w0 hC => by simp [execOp, Act.eval, Act.put, go_sem]⟩) hHeld ?_
  try simp only [Act.put, jA, jB, jC, jD, jE, jF]
  refine wpAnyH_take (i := 26) (v := .bool true) rfl (by kernel_rfl) (by kernel_rfl) (by kernel_rfl) (fun _ _ _ h => h) (Or.inl ⟨by rfl, fun w0 hC => by simp [execOp, Act.eval, Act.put, go_sem]⟩) hHeld ?_
  try simp only [Act.put, jA, jB, jC, jD, jE, jF]
  refine wpAnyH_take (i := 27) (v := .slice A5 n c5) rfl (by kernel_rfl) (by kernel_rfl) (by kernel_rfl) (fun _ _ _ h => h) (Or.inl ⟨by rfl, fun w0 hC => by simp [execOp, Act.eval, Act.put, go_sem]⟩) hHeld ?_
  try simp only [Act.put, jA, jB, jC, jD, jE, jF]
  refine wpAnyH_take (i := 29) (v := .slice A n c) rfl (by kernel_rfl) (by kernel_rfl) (by kernel_rfl) (fun _ _ _ h => h) (Or.inl ⟨by rfl, fun w0 hC => by simp [execOp, Act.eval, Act.put, go_sem]⟩) hHeld ?_
  try simp only [Act.put, jA, jB, jC, jD, jE, jF]
  clear hcm hcr hnm hnr
  refine wpAnyH_ready (rs := [28]) (by kernel_rfl) (by simp) (AllReadyH.cons rfl (fun K hK => ?_) AllReadyH.nil)
  rw [if_pos (by rfl)]
  go_wp2_with fail
  refine (snapshot_any A5 n c5 l V6 (HO.out.later hHeld) HS.out (by omega)).mono ?_
  rintro e V7 ⟨Ax, nx, cx, ux, rfl, hox, hrx, hba⟩
  obtain ⟨hsx, hnx⟩ := snap_rss HP.out hox hrx
  clear hox hrx
  have hSa := hHeld.trans (hba.mono hHeld.size)
  clear hba hHeld
  refine hK.out _ _ hSa (fun hHeld => ?_)
  clear hK K
  try simp only [Act.put, jA, jB, jC, jD, jE, jF]
  clear hSa
  refine wpAnyH_ready (rs := [30]) (by kernel_rfl) (by simp) (AllReadyH.cons rfl (fun K hK => ?_) AllReadyH.nil)
  rw [if_pos (by rfl)]
  go_wp2_with fail
  refine (x6snapshot_any A n c l V7 (HLW.out.later hHeld) HS.out (fun x hx => Nat.le_trans (put_len (HP.out.2.1 x hx)) (by omega)) (by omega)).mono ?_
  rintro e V8 ⟨Ay, ny, cy, uy, rfl, hoy, hry, hba⟩
  obtain ⟨hsy, hny⟩ := snap_rss HP.out hoy hry
  replace hsx := hsx.later hba
  clear hoy hry
  have hSa := hHeld.trans (hba.mono hHeld.size)
  clear hba hHeld
  refine hK.out _ _ hSa (fun hHeld => ?_)
  clear hK K
  try simp only [Act.put, jA, jB, jC, jD, jE, jF]
  clear hSa
  refine wpAnyH_ready (rs := [31]) (by kernel_rfl) (by simp) (AllReadyH.cons rfl (fun K hK => ?_) AllReadyH.nil)
  rw [if_pos (by rfl)]
  go_wp2_with fail
  refine (x5same_yes Ax Ay nx cx ny cy _ V8 hsx hsy (by omega) (by omega)).mono ?_
  rintro e V9 ⟨rfl, hba⟩
  clear hsx hsy hnx hny
  have hSa := hHeld.trans (hba.mono hHeld.size)
  clear hba hHeld
  refine hK.out _ _ hSa (fun hHeld => ?_)
  clear hK K
  try simp only [Act.put, jA, jB, jC, jD, jE, jF]
  clear hSa
  refine wpAnyH_take (i := 32) (v := .bool true) rfl (by kernel_rfl) (by kernel_rfl) (by kernel_rfl) (fun _ _ _ h => h) (Or.inl ⟨by rfl, fun w0 hC => by simp [execOp, Act.eval, Act.put, go_sem]⟩) hHeld ?_
  try simp only [Act.put, jA, jB, jC, jD, jE, jF]
  refine wpAnyH_take (i := 33) (v := .bool true) rfl (by kernel_rfl) (by kernel_rfl) (by kernel_rfl) (fun _ _ _ h => h) (Or.inl ⟨by rfl, fun w0 hC => by simp [execOp, Act.eval, Act.put, go_sem]⟩) hHeld ?_
  try simp only [Act.put, jA, jB, jC, jD, jE, jF]
  refine wpAnyH_take (i := 34) (v := .slice A5 n c5) rfl (by kernel_rfl) (by kernel_rfl) (by kernel_rfl) (fun _ _ _ h => h) (Or.inl ⟨by rfl, fun w0 hC => by simp [execOp, Act.eval, Act.put, go_sem]⟩) hHeld ?_
  try simp only [Act.put, jA, jB, jC, jD, jE, jF]
  refine wpAnyH_take (i := 35) (v := .slice A n c) rfl (by kernel_rfl) (by kernel_rfl) (by kernel_rfl) (fun _ _ _ h => h) (Or.inl ⟨by rfl, fun w0 hC => by simp [execOp, Act.eval, Act.put, go_sem]⟩) hHeld ?_
  try simp only [Act.put, jA, jB, jC, jD, jE, jF]
  refine wpAnyH_ready (rs := [36]) (by kernel_rfl) (by simp) (AllReadyH.cons rfl (fun K hK => ?_) AllReadyH.nil)
  rw [if_pos (by rfl)]
  go_wp2_with fail
  refine (x6same_yes A5 A n c5 n c l V9 (HO.out.later hHeld) (HLW.out.later hHeld) (by omega) (by omega)).mono ?_
  rintro e V10 ⟨rfl, hba⟩
  have hSa := hHeld.trans (hba.mono hHeld.size)
  clear hba hHeld
  refine hK.out _ _ hSa (fun hHeld => ?_)
  clear hK K
  try simp only [Act.put, jA, jB, jC, jD, jE, jF]
  clear hSa
  refine wpAnyH_take (i := 37) (v := .bool true) rfl (by kernel_rfl) (by kernel_rfl) (by kernel_rfl) (fun _ _ _ h => h) (Or.inl ⟨by rfl, fun w0 hC => by simp [execOp, Act.eval, Act.put, go_sem]⟩) hHeld ?_
  try simp only [Act.put, jA, jB, jC, jD, jE, jF]
  refine wpAnyH_ready (rs := [38]) (by kernel_rfl) (by simp) (AllReadyH.cons rfl (fun K hK => ?_) AllReadyH.nil)
  rw [if_pos (by rfl)]
  go_wp2_with fail
  have hSa := hHeld
  refine hK.out _ _ hSa (fun hHeld => ?_)
  clear hK K
  try simp only [Act.put, jA, jB, jC, jD, jE, jF]
  clear hSa
  refine wpAnyH_done (by kernel_rfl) ?_ _
  have HBZ := Lib.hid (HB.out.trans (hHeld.mono HB.out.size))
  clear hHeld HKS HO HB HLW HCW
  go_wp2_with fail
  go_ret
  exact ⟨rfl, HBZ.out⟩
end Go.Proofs.YthflljlilcmcnaaGreatDoor
