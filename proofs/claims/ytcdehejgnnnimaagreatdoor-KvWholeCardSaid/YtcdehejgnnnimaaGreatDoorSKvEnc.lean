/-
 A part of the proof: see the last text.
-/
import Derived.Test.YtcdehejgnnnimaaGreatDoorSKvSmall
import Derived.Test.YtcdehejgnnnimaaGreatDoorSPackMath
import Derived.Deep.RegionHeld3
namespace Go.Proofs.YtcdehejgnnnimaaGreatDoor
open List renaming setIfInBounds_toArray → jA, set_cons_zero → jB, set_cons_succ → jC, getElem_toArray → jD, getElem_cons_zero → jE, getElem_cons_succ → jF
set_option linter.unusedVariables false
set_option linter.unusedSimpArgs false
open Go.RowKit
set_option linter.unusedVariables false
set_option linter.unusedSimpArgs false
theorem k_overK {K : World → Prop} {w : World} (p : World → Prop) (h : p w) (hK : ∀ W, p W → K W) : K w := hK w h
theorem Col.two {α : Type} (w : World) (f : α → Value) (a b : α) (t : TypeId) : Col f (w.alloc (.cells #[f a, f b] t)) (w.heap.size + 1) (some ⟨w.heap.size, 0, none⟩) 2 [a, b] := by
 refine ⟨rfl, fun _ => ⟨w.heap.size, 0, rfl, by omega, fun i x hx => ?_⟩⟩
 rw [Nat.zero_add, cell_of_row _ w.heap.size i _ _ (0, 0) (heap_alloc_new w _)]
 match i, hx with
 | 0, hx => cases hx; rfl
 | 1, hx => cases hx; rfl
 | i + 2, hx => cases hx
def chgN (c : Chg) : List Nat := if c.2.2 then numsB [1] ++ textsB ([c.1].map nats) else numsB [0] ++ textsB ([c.1, c.2.1].map nats)
theorem chg_true (k v : ByteArray) : chgN (k, v, true) = numsB [1] ++ textsB ([k].map nats) := rfl
theorem chg_false (k v : ByteArray) : chgN (k, v, false) = numsB [0] ++ textsB ([k, v].map nats) := rfl
set_option maxRecDepth 20000 in
set_option maxHeartbeats 4000000 in
theorem changeBytes_any (c : Chg) (w : World) (hk : c.1.size ≤ 140737488355328) (hv : c.2.1.size ≤ 140737488355328) :
 Calls Tryz.prog 38 #[.agg #[.string c.1, .string c.2.1, .bool c.2.2]] w fun e w' => ∃ n, Made w.heap.size w n (chgN c) e w' := by
 obtain ⟨k, v, g⟩ := c
 simp only at hk hv
 have HBW : Hid (Below w.heap.size w (w.alloc (.cells #[.string k, .string v, .bool g] 52))) := Lib.hid ((Below.refl _ _).alloc (Nat.le_refl _) _)
 have hc := fun (i : Nat) => cell_of_row (w.alloc (.cells #[.string k, .string v, .bool g] 52)) w.heap.size i _ _ (0, 0) (heap_alloc_new w _)
 have c0 := hc 0
 have c1 := hc 1
 have c2 := hc 2
 have hb1l : w.heap.size < (w.alloc (.cells #[.string k, .string v, .bool g] 52)).heap.size := by simp
 have hw1 : w.heap.size ≤ (w.alloc (.cells #[.string k, .string v, .bool g] 52)).heap.size := by simp
 clear hc
 cases g
 ·go_enter Tryz.func38, Tryz.ntmps38
  go_wp2_with fail
  generalize w.alloc (.cells #[.string k, .string v, .bool false] 52) = w1 at *
  obtain ⟨b1, hb1⟩ : ∃ b, b = w.heap.size := ⟨_, rfl⟩
  replace c0 : w1.cell? ⟨w.heap.size, 0, none⟩ = some (.string k) := c0
  replace c1 : w1.cell? ⟨w.heap.size, 1, none⟩ = some (.string v) := c1
  rw [← hb1] at c0 c1 hb1l ⊢
  clear c2 hb1
  have hm : Tryz.prog.follows .mixedOrders = true := by kernel_rfl
  refine wp_region_held_drew (S := fun W' => Below w1.heap.size w1 W' ∧ W'.cell? ⟨b1, 0, none⟩ = some (.string k) ∧ W'.cell? ⟨b1, 1, none⟩ = some (.string v)) hm ⟨(Below.refl _ _).drew, c0, c1⟩ (fun hHeld => ?_)
  obtain ⟨V0, hV0⟩ : ∃ V, V = w1.drew := ⟨_, rfl⟩
  rw [← hV0] at hHeld ⊢
  clear hV0
  simp only [List.size_toArray, List.length_cons, List.length_nil, Nat.reduceAdd]
  refine wpAnyH_take (i := 2) (v := .pointer (some ⟨b1, 0, none⟩)) rfl (by kernel_rfl) (by kernel_rfl) (by kernel_rfl) (fun _ _ _ h => h) (Or.inl ⟨by rfl, fun w0 hC => by simp [execOp, Act.eval, Act.put, go_sem]⟩) hHeld ?_
  try simp only [Act.put, jA, jB, jC, jD, jE, jF]
  refine wpAnyH_take (i := 3) (v := .string k) rfl (by kernel_rfl) (by kernel_rfl) (by kernel_rfl) (fun _ _ _ h => h) (Or.inl ⟨by rfl, fun w0 hC => by simp [execOp, Act.eval, Act.put, go_sem, hC.2.1]⟩) hHeld ?_
  try simp only [Act.put, jA, jB, jC, jD, jE, jF]
  refine wpAnyH_take (i := 4) (v := .pointer (some ⟨b1, 1, none⟩)) rfl (by kernel_rfl) (by kernel_rfl) (by kernel_rfl) (fun _ _ _ h => h) (Or.inl ⟨by rfl, fun w0 hC => by simp [execOp, Act.eval, Act.put, go_sem]⟩) hHeld ?_
  try simp only [Act.put, jA, jB, jC, jD, jE, jF]
  refine wpAnyH_take (i := 5) (v := .string v) rfl (by kernel_rfl) (by kernel_rfl) (by kernel_rfl) (fun _ _ _ h => h) (Or.inl ⟨by rfl, fun w0 hC => by simp [execOp, Act.eval, Act.put, go_sem, hC.2.2]⟩) hHeld ?_
  try simp only [Act.put, jA, jB, jC, jD, jE, jF]
  refine wpAnyH_ready (rs := [0, 6]) (by kernel_rfl) (by simp) (AllReadyH.cons rfl (fun K hK => ?_) (AllReadyH.cons rfl (fun K hK => ?_) AllReadyH.nil))
  ·rw [if_pos (by rfl)]
   go_wp2_with fail
   refine k_overK (fun W' => Below V0.heap.size V0 W' ∧ Col (fun z => .int .i64 z) W' W'.heap.size (some ⟨V0.heap.size, 0, none⟩) 1 [0]) ⟨(Below.refl _ _).alloc (Nat.le_refl _) _, by have := Col.one V0 (fun z => Value.int .i64 z) 0 rfl 3; simpa using this⟩ ?_
   rintro V1 ⟨hba, hcI⟩
   obtain ⟨A0, hA0⟩ : ∃ A, A = some (⟨V0.heap.size, 0, none⟩ : Addr) := ⟨_, rfl⟩
   rw [← hA0] at hcI ⊢
   clear hA0
   have hSa : (Below w1.heap.size w1 V1 ∧ V1.cell? ⟨b1, 0, none⟩ = some (.string k) ∧ V1.cell? ⟨b1, 1, none⟩ = some (.string v)) := ⟨hHeld.1.trans (hba.mono hHeld.1.size), (hba.cell (p := ⟨b1, 0, none⟩) (Nat.lt_of_lt_of_le hb1l hHeld.1.size)).trans hHeld.2.1, (hba.cell (p := ⟨b1, 1, none⟩) (Nat.lt_of_lt_of_le hb1l hHeld.1.size)).trans hHeld.2.2⟩
   clear hba hHeld
   refine hK.out _ _ hSa (fun hHeld => ?_)
   clear hK K
   try simp only [Act.put, jA, jB, jC, jD, jE, jF]
   clear hSa
   refine wpAnyH_ready (rs := [1, 6]) (by kernel_rfl) (by simp) (AllReadyH.cons rfl (fun K hK => ?_) (AllReadyH.cons rfl (fun K hK => ?_) AllReadyH.nil))
   ·rw [if_pos (by rfl)]
    go_wp2_with fail
    refine (pnum_any none 0 0 [] A0 1 1 [0] V1 Bytes.nil hcI (by omega)).mono ?_
    rintro e V2 ⟨A9, c9, rfl, ho9, hba⟩
    have hSa : (Below w1.heap.size w1 V2 ∧ V2.cell? ⟨b1, 0, none⟩ = some (.string k) ∧ V2.cell? ⟨b1, 1, none⟩ = some (.string v)) := ⟨hHeld.1.trans (hba.mono hHeld.1.size), (hba.cell (p := ⟨b1, 0, none⟩) (Nat.lt_of_lt_of_le hb1l hHeld.1.size)).trans hHeld.2.1, (hba.cell (p := ⟨b1, 1, none⟩) (Nat.lt_of_lt_of_le hb1l hHeld.1.size)).trans hHeld.2.2⟩
    replace hcI := hcI.later hba
    clear hba hHeld
    refine hK.out _ _ hSa (fun hHeld => ?_)
    clear hK K
    try simp only [Act.put, jA, jB, jC, jD, jE, jF]
    clear hSa
    refine wpAnyH_ready (rs := [6]) (by kernel_rfl) (by simp) (AllReadyH.cons rfl (fun K hK => ?_) AllReadyH.nil)
    rw [if_pos (by rfl)]
    go_wp2_with fail
    refine k_overK (fun W' => Below V2.heap.size V2 W' ∧ Col Value.string W' W'.heap.size (some ⟨V2.heap.size, 0, none⟩) 2 [k, v]) ⟨(Below.refl _ _).alloc (Nat.le_refl _) _, by have := Col.two V2 Value.string k v 9; simpa using this⟩ ?_
    rintro V3 ⟨hba, hcS⟩
    obtain ⟨A4, hA4⟩ : ∃ A, A = some (⟨V2.heap.size, 0, none⟩ : Addr) := ⟨_, rfl⟩
    rw [← hA4] at hcS ⊢
    clear hA4
    have hSa : (Below w1.heap.size w1 V3 ∧ V3.cell? ⟨b1, 0, none⟩ = some (.string k) ∧ V3.cell? ⟨b1, 1, none⟩ = some (.string v)) := ⟨hHeld.1.trans (hba.mono hHeld.1.size), (hba.cell (p := ⟨b1, 0, none⟩) (Nat.lt_of_lt_of_le hb1l hHeld.1.size)).trans hHeld.2.1, (hba.cell (p := ⟨b1, 1, none⟩) (Nat.lt_of_lt_of_le hb1l hHeld.1.size)).trans hHeld.2.2⟩
    replace hcI := hcI.later hba
    replace ho9 := ho9.below hba
    clear hba hHeld
    refine hK.out _ _ hSa (fun hHeld => ?_)
    clear hK K
    try simp only [Act.put, jA, jB, jC, jD, jE, jF]
    clear hSa
    refine wpAnyH_ready (rs := [7]) (by kernel_rfl) (by simp) (AllReadyH.cons rfl (fun K hK => ?_) AllReadyH.nil)
    rw [if_pos (by rfl)]
    go_wp2_with fail
    refine (ptext_any A9 8 c9 (numsB [0]) A4 2 2 [k, v] V3 (by have := ho9.bytes; simpa using this) hcS (by intro s hs; simp at hs; rcases hs with rfl | rfl <;> assumption) (by omega)).mono ?_
    rintro e V4 ⟨A8, c8, rfl, ho8, hba⟩
    have hSa : (Below w1.heap.size w1 V4 ∧ V4.cell? ⟨b1, 0, none⟩ = some (.string k) ∧ V4.cell? ⟨b1, 1, none⟩ = some (.string v)) := ⟨hHeld.1.trans (hba.mono hHeld.1.size), (hba.cell (p := ⟨b1, 0, none⟩) (Nat.lt_of_lt_of_le hb1l hHeld.1.size)).trans hHeld.2.1, (hba.cell (p := ⟨b1, 1, none⟩) (Nat.lt_of_lt_of_le hb1l hHeld.1.size)).trans hHeld.2.2⟩
    replace hcI := hcI.later hba
    replace hcS := hcS.later hba
    have hW8 : w.heap.size ≤ V3.heap.size := Nat.le_trans hw1 hHeld.1.size
    clear hba hHeld
    refine hK.out _ _ hSa (fun hHeld => ?_)
    clear hK K
    try simp only [Act.put, jA, jB, jC, jD, jE, jF]
    clear hSa
    refine wpAnyH_take (i := 8) (v := .slice A8 (8 + (textsB ([k, v].map nats)).length) c8) rfl (by kernel_rfl) (by kernel_rfl) (by kernel_rfl) (fun _ _ _ h => h) (Or.inl ⟨by rfl, fun w0 hC => by simp [execOp, Act.eval, Act.put, go_sem]⟩) hHeld ?_
    try simp only [Act.put, jA, jB, jC, jD, jE, jF]
    refine wpAnyH_done (by kernel_rfl) ?_ _
    have HF : Hid (Made w.heap.size w _ _ _ _) := Lib.hid ⟨A8, c8, rfl, ho8.base_le hW8, HBW.out.trans (hHeld.1.mono hw1)⟩
    clear hHeld ho8 ho9 hcI hcS
    go_wp2_with fail
    go_ret
    rw [chg_false k v]
    exact ⟨_, HF.out⟩
   ·rw [if_pos (by rfl)]
    go_wp2_with fail
    refine k_overK (fun W' => Below V1.heap.size V1 W' ∧ Col Value.string W' W'.heap.size (some ⟨V1.heap.size, 0, none⟩) 2 [k, v]) ⟨(Below.refl _ _).alloc (Nat.le_refl _) _, by have := Col.two V1 Value.string k v 9; simpa using this⟩ ?_
    rintro V5 ⟨hba, hcS⟩
    obtain ⟨A4, hA4⟩ : ∃ A, A = some (⟨V1.heap.size, 0, none⟩ : Addr) := ⟨_, rfl⟩
    rw [← hA4] at hcS ⊢
    clear hA4
    have hSa : (Below w1.heap.size w1 V5 ∧ V5.cell? ⟨b1, 0, none⟩ = some (.string k) ∧ V5.cell? ⟨b1, 1, none⟩ = some (.string v)) := ⟨hHeld.1.trans (hba.mono hHeld.1.size), (hba.cell (p := ⟨b1, 0, none⟩) (Nat.lt_of_lt_of_le hb1l hHeld.1.size)).trans hHeld.2.1, (hba.cell (p := ⟨b1, 1, none⟩) (Nat.lt_of_lt_of_le hb1l hHeld.1.size)).trans hHeld.2.2⟩
    replace hcI := hcI.later hba
    clear hba hHeld
    refine hK.out _ _ hSa (fun hHeld => ?_)
    clear hK K
    try simp only [Act.put, jA, jB, jC, jD, jE, jF]
    clear hSa
    refine wpAnyH_ready (rs := [1]) (by kernel_rfl) (by simp) (AllReadyH.cons rfl (fun K hK => ?_) AllReadyH.nil)
    rw [if_pos (by rfl)]
    go_wp2_with fail
    refine (pnum_any none 0 0 [] A0 1 1 [0] V5 Bytes.nil hcI (by omega)).mono ?_
    rintro e V6 ⟨A9, c9, rfl, ho9, hba⟩
    have hSa : (Below w1.heap.size w1 V6 ∧ V6.cell? ⟨b1, 0, none⟩ = some (.string k) ∧ V6.cell? ⟨b1, 1, none⟩ = some (.string v)) := ⟨hHeld.1.trans (hba.mono hHeld.1.size), (hba.cell (p := ⟨b1, 0, none⟩) (Nat.lt_of_lt_of_le hb1l hHeld.1.size)).trans hHeld.2.1, (hba.cell (p := ⟨b1, 1, none⟩) (Nat.lt_of_lt_of_le hb1l hHeld.1.size)).trans hHeld.2.2⟩
    replace hcI := hcI.later hba
    replace hcS := hcS.later hba
    clear hba hHeld
    refine hK.out _ _ hSa (fun hHeld => ?_)
    clear hK K
    try simp only [Act.put, jA, jB, jC, jD, jE, jF]
    clear hSa
    refine wpAnyH_ready (rs := [7]) (by kernel_rfl) (by simp) (AllReadyH.cons rfl (fun K hK => ?_) AllReadyH.nil)
    rw [if_pos (by rfl)]
    go_wp2_with fail
    refine (ptext_any A9 8 c9 (numsB [0]) A4 2 2 [k, v] V6 (by have := ho9.bytes; simpa using this) hcS (by intro s hs; simp at hs; rcases hs with rfl | rfl <;> assumption) (by omega)).mono ?_
    rintro e V7 ⟨A8, c8, rfl, ho8, hba⟩
    have hSa : (Below w1.heap.size w1 V7 ∧ V7.cell? ⟨b1, 0, none⟩ = some (.string k) ∧ V7.cell? ⟨b1, 1, none⟩ = some (.string v)) := ⟨hHeld.1.trans (hba.mono hHeld.1.size), (hba.cell (p := ⟨b1, 0, none⟩) (Nat.lt_of_lt_of_le hb1l hHeld.1.size)).trans hHeld.2.1, (hba.cell (p := ⟨b1, 1, none⟩) (Nat.lt_of_lt_of_le hb1l hHeld.1.size)).trans hHeld.2.2⟩
    replace hcI := hcI.later hba
    replace hcS := hcS.later hba
    have hW8 : w.heap.size ≤ V6.heap.size := Nat.le_trans hw1 hHeld.1.size
    clear hba hHeld
    refine hK.out _ _ hSa (fun hHeld => ?_)
    clear hK K
    try simp only [Act.put, jA, jB, jC, jD, jE, jF]
    clear hSa
    refine wpAnyH_take (i := 8) (v := .slice A8 (8 + (textsB ([k, v].map nats)).length) c8) rfl (by kernel_rfl) (by kernel_rfl) (by kernel_rfl) (fun _ _ _ h => h) (Or.inl ⟨by rfl, fun w0 hC => by simp [execOp, Act.eval, Act.put, go_sem]⟩) hHeld ?_
    try simp only [Act.put, jA, jB, jC, jD, jE, jF]
    refine wpAnyH_done (by kernel_rfl) ?_ _
    have HF : Hid (Made w.heap.size w _ _ _ _) := Lib.hid ⟨A8, c8, rfl, ho8.base_le hW8, HBW.out.trans (hHeld.1.mono hw1)⟩
    clear hHeld ho8 ho9 hcI hcS
    go_wp2_with fail
    go_ret
    rw [chg_false k v]
    exact ⟨_, HF.out⟩
  ·rw [if_pos (by rfl)]
   go_wp2_with fail
   refine k_overK (fun W' => Below V0.heap.size V0 W' ∧ Col Value.string W' W'.heap.size (some ⟨V0.heap.size, 0, none⟩) 2 [k, v]) ⟨(Below.refl _ _).alloc (Nat.le_refl _) _, by have := Col.two V0 Value.string k v 9; simpa using this⟩ ?_
   rintro V8 ⟨hba, hcS⟩
   obtain ⟨A4, hA4⟩ : ∃ A, A = some (⟨V0.heap.size, 0, none⟩ : Addr) := ⟨_, rfl⟩
   rw [← hA4] at hcS ⊢
   clear hA4
   have hSa : (Below w1.heap.size w1 V8 ∧ V8.cell? ⟨b1, 0, none⟩ = some (.string k) ∧ V8.cell? ⟨b1, 1, none⟩ = some (.string v)) := ⟨hHeld.1.trans (hba.mono hHeld.1.size), (hba.cell (p := ⟨b1, 0, none⟩) (Nat.lt_of_lt_of_le hb1l hHeld.1.size)).trans hHeld.2.1, (hba.cell (p := ⟨b1, 1, none⟩) (Nat.lt_of_lt_of_le hb1l hHeld.1.size)).trans hHeld.2.2⟩
   clear hba hHeld
   refine hK.out _ _ hSa (fun hHeld => ?_)
   clear hK K
   try simp only [Act.put, jA, jB, jC, jD, jE, jF]
   clear hSa
   refine wpAnyH_ready (rs := [0]) (by kernel_rfl) (by simp) (AllReadyH.cons rfl (fun K hK => ?_) AllReadyH.nil)
   rw [if_pos (by rfl)]
   go_wp2_with fail
   refine k_overK (fun W' => Below V8.heap.size V8 W' ∧ Col (fun z => .int .i64 z) W' W'.heap.size (some ⟨V8.heap.size, 0, none⟩) 1 [0]) ⟨(Below.refl _ _).alloc (Nat.le_refl _) _, by have := Col.one V8 (fun z => Value.int .i64 z) 0 rfl 3; simpa using this⟩ ?_
   rintro V9 ⟨hba, hcI⟩
   obtain ⟨A0, hA0⟩ : ∃ A, A = some (⟨V8.heap.size, 0, none⟩ : Addr) := ⟨_, rfl⟩
   rw [← hA0] at hcI ⊢
   clear hA0
   have hSa : (Below w1.heap.size w1 V9 ∧ V9.cell? ⟨b1, 0, none⟩ = some (.string k) ∧ V9.cell? ⟨b1, 1, none⟩ = some (.string v)) := ⟨hHeld.1.trans (hba.mono hHeld.1.size), (hba.cell (p := ⟨b1, 0, none⟩) (Nat.lt_of_lt_of_le hb1l hHeld.1.size)).trans hHeld.2.1, (hba.cell (p := ⟨b1, 1, none⟩) (Nat.lt_of_lt_of_le hb1l hHeld.1.size)).trans hHeld.2.2⟩
   replace hcS := hcS.later hba
   clear hba hHeld
   refine hK.out _ _ hSa (fun hHeld => ?_)
   clear hK K
   try simp only [Act.put, jA, jB, jC, jD, jE, jF]
   clear hSa
   refine wpAnyH_ready (rs := [1]) (by kernel_rfl) (by simp) (AllReadyH.cons rfl (fun K hK => ?_) AllReadyH.nil)
   rw [if_pos (by rfl)]
   go_wp2_with fail
   refine (pnum_any none 0 0 [] A0 1 1 [0] V9 Bytes.nil hcI (by omega)).mono ?_
   rintro e V10 ⟨A9, c9, rfl, ho9, hba⟩
   have hSa : (Below w1.heap.size w1 V10 ∧ V10.cell? ⟨b1, 0, none⟩ = some (.string k) ∧ V10.cell? ⟨b1, 1, none⟩ = some (.string v)) := ⟨hHeld.1.trans (hba.mono hHeld.1.size), (hba.cell (p := ⟨b1, 0, none⟩) (Nat.lt_of_lt_of_le hb1l hHeld.1.size)).trans hHeld.2.1, (hba.cell (p := ⟨b1, 1, none⟩) (Nat.lt_of_lt_of_le hb1l hHeld.1.size)).trans hHeld.2.2⟩
   replace hcI := hcI.later hba
   replace hcS := hcS.later hba
   clear hba hHeld
   refine hK.out _ _ hSa (fun hHeld => ?_)
   clear hK K
   try simp only [Act.put, jA, jB, jC, jD, jE, jF]
   clear hSa
   refine wpAnyH_ready (rs := [7]) (by kernel_rfl) (by simp) (AllReadyH.cons rfl (fun K hK => ?_) AllReadyH.nil)
   rw [if_pos (by rfl)]
   go_wp2_with fail
   refine (ptext_any A9 8 c9 (numsB [0]) A4 2 2 [k, v] V10 (by have := ho9.bytes; simpa using this) hcS (by intro s hs; simp at hs; rcases hs with rfl | rfl <;> assumption) (by omega)).mono ?_
   rintro e V11 ⟨A8, c8, rfl, ho8, hba⟩
   have hSa : (Below w1.heap.size w1 V11 ∧ V11.cell? ⟨b1, 0, none⟩ = some (.string k) ∧ V11.cell? ⟨b1, 1, none⟩ = some (.string v)) := ⟨hHeld.1.trans (hba.mono hHeld.1.size), (hba.cell (p := ⟨b1, 0, none⟩) (Nat.lt_of_lt_of_le hb1l hHeld.1.size)).trans hHeld.2.1, (hba.cell (p := ⟨b1, 1, none⟩) (Nat.lt_of_lt_of_le hb1l hHeld.1.size)).trans hHeld.2.2⟩
   replace hcI := hcI.later hba
   replace hcS := hcS.later hba
   have hW8 : w.heap.size ≤ V10.heap.size := Nat.le_trans hw1 hHeld.1.size
   clear hba hHeld
   refine hK.out _ _ hSa (fun hHeld => ?_)
   clear hK K
   try simp only [Act.put, jA, jB, jC, jD, jE, jF]
   clear hSa
   refine wpAnyH_take (i := 8) (v := .slice A8 (8 + (textsB ([k, v].map nats)).length) c8) rfl (by kernel_rfl) (by kernel_rfl) (by kernel_rfl) (fun _ _ _ h => h) (Or.inl ⟨by rfl, fun w0 hC => by simp [execOp, Act.eval, Act.put, go_sem]⟩) hHeld ?_
   try simp only [Act.put, jA, jB, jC, jD, jE, jF]
   refine wpAnyH_done (by kernel_rfl) ?_ _
   have HF : Hid (Made w.heap.size w _ _ _ _) := Lib.hid ⟨A8, c8, rfl, ho8.base_le hW8, HBW.out.trans (hHeld.1.mono hw1)⟩
   clear hHeld ho8 ho9 hcI hcS
   go_wp2_with fail
   go_ret
   rw [chg_false k v]
   exact ⟨_, HF.out⟩
 ·go_enter Tryz.func38, Tryz.ntmps38
  go_wp2_with fail
  generalize w.alloc (.cells #[.string k, .string v, .bool true] 52) = w1 at *
  obtain ⟨b1, hb1⟩ : ∃ b, b = w.heap.size := ⟨_, rfl⟩
  replace c0 : w1.cell? ⟨w.heap.size, 0, none⟩ = some (.string k) := c0
  replace c1 : w1.cell? ⟨w.heap.size, 1, none⟩ = some (.string v) := c1
  rw [← hb1] at c0 c1 hb1l ⊢
  clear c2 hb1
  have hm : Tryz.prog.follows .mixedOrders = true := by kernel_rfl
  refine wp_region_held_drew (S := fun W' => Below w1.heap.size w1 W' ∧ W'.cell? ⟨b1, 0, none⟩ = some (.string k) ∧ W'.cell? ⟨b1, 1, none⟩ = some (.string v)) hm ⟨(Below.refl _ _).drew, c0, c1⟩ (fun hHeld => ?_)
  obtain ⟨V0, hV0⟩ : ∃ V, V = w1.drew := ⟨_, rfl⟩
  rw [← hV0] at hHeld ⊢
  clear hV0
  simp only [List.size_toArray, List.length_cons, List.length_nil, Nat.reduceAdd]
  refine wpAnyH_take (i := 2) (v := .pointer (some ⟨b1, 0, none⟩)) rfl (by kernel_rfl) (by kernel_rfl) (by kernel_rfl) (fun _ _ _ h => h) (Or.inl ⟨by rfl, fun w0 hC => by simp [execOp, Act.eval, Act.put, go_sem]⟩) hHeld ?_
  try simp only [Act.put, jA, jB, jC, jD, jE, jF]
  refine wpAnyH_take (i := 3) (v := .string k) rfl (by kernel_rfl) (by kernel_rfl) (by kernel_rfl) (fun _ _ _ h => h) (Or.inl ⟨by rfl, fun w0 hC => by simp [execOp, Act.eval, Act.put, go_sem, hC.2.1]⟩) hHeld ?_
  try simp only [Act.put, jA, jB, jC, jD, jE, jF]
  refine wpAnyH_ready (rs := [0, 4]) (by kernel_rfl) (by simp) (AllReadyH.cons rfl (fun K hK => ?_) (AllReadyH.cons rfl (fun K hK => ?_) AllReadyH.nil))
  ·rw [if_pos (by rfl)]
   go_wp2_with fail
   refine k_overK (fun W' => Below V0.heap.size V0 W' ∧ Col (fun z => .int .i64 z) W' W'.heap.size (some ⟨V0.heap.size, 0, none⟩) 1 [1]) ⟨(Below.refl _ _).alloc (Nat.le_refl _) _, by have := Col.one V0 (fun z => Value.int .i64 z) 1 rfl 3; simpa using this⟩ ?_
   rintro V1 ⟨hba, hcI⟩
   obtain ⟨A0, hA0⟩ : ∃ A, A = some (⟨V0.heap.size, 0, none⟩ : Addr) := ⟨_, rfl⟩
   rw [← hA0] at hcI ⊢
   clear hA0
   have hSa : (Below w1.heap.size w1 V1 ∧ V1.cell? ⟨b1, 0, none⟩ = some (.string k) ∧ V1.cell? ⟨b1, 1, none⟩ = some (.string v)) := ⟨hHeld.1.trans (hba.mono hHeld.1.size), (hba.cell (p := ⟨b1, 0, none⟩) (Nat.lt_of_lt_of_le hb1l hHeld.1.size)).trans hHeld.2.1, (hba.cell (p := ⟨b1, 1, none⟩) (Nat.lt_of_lt_of_le hb1l hHeld.1.size)).trans hHeld.2.2⟩
   clear hba hHeld
   refine hK.out _ _ hSa (fun hHeld => ?_)
   clear hK K
   try simp only [Act.put, jA, jB, jC, jD, jE, jF]
   clear hSa
   refine wpAnyH_ready (rs := [1, 4]) (by kernel_rfl) (by simp) (AllReadyH.cons rfl (fun K hK => ?_) (AllReadyH.cons rfl (fun K hK => ?_) AllReadyH.nil))
   ·rw [if_pos (by rfl)]
    go_wp2_with fail
    refine (pnum_any none 0 0 [] A0 1 1 [1] V1 Bytes.nil hcI (by omega)).mono ?_
    rintro e V2 ⟨A9, c9, rfl, ho9, hba⟩
    have hSa : (Below w1.heap.size w1 V2 ∧ V2.cell? ⟨b1, 0, none⟩ = some (.string k) ∧ V2.cell? ⟨b1, 1, none⟩ = some (.string v)) := ⟨hHeld.1.trans (hba.mono hHeld.1.size), (hba.cell (p := ⟨b1, 0, none⟩) (Nat.lt_of_lt_of_le hb1l hHeld.1.size)).trans hHeld.2.1, (hba.cell (p := ⟨b1, 1, none⟩) (Nat.lt_of_lt_of_le hb1l hHeld.1.size)).trans hHeld.2.2⟩
    replace hcI := hcI.later hba
    clear hba hHeld
    refine hK.out _ _ hSa (fun hHeld => ?_)
    clear hK K
    try simp only [Act.put, jA, jB, jC, jD, jE, jF]
    clear hSa
    refine wpAnyH_ready (rs := [4]) (by kernel_rfl) (by simp) (AllReadyH.cons rfl (fun K hK => ?_) AllReadyH.nil)
    rw [if_pos (by rfl)]
    go_wp2_with fail
    refine k_overK (fun W' => Below V2.heap.size V2 W' ∧ Col Value.string W' W'.heap.size (some ⟨V2.heap.size, 0, none⟩) 1 [k]) ⟨(Below.refl _ _).alloc (Nat.le_refl _) _, by have := Col.one V2 Value.string k rfl 9; simpa using this⟩ ?_
    rintro V3 ⟨hba, hcS⟩
    obtain ⟨A4, hA4⟩ : ∃ A, A = some (⟨V2.heap.size, 0, none⟩ : Addr) := ⟨_, rfl⟩
    rw [← hA4] at hcS ⊢
    clear hA4
    have hSa : (Below w1.heap.size w1 V3 ∧ V3.cell? ⟨b1, 0, none⟩ = some (.string k) ∧ V3.cell? ⟨b1, 1, none⟩ = some (.string v)) := ⟨hHeld.1.trans (hba.mono hHeld.1.size), (hba.cell (p := ⟨b1, 0, none⟩) (Nat.lt_of_lt_of_le hb1l hHeld.1.size)).trans hHeld.2.1, (hba.cell (p := ⟨b1, 1, none⟩) (Nat.lt_of_lt_of_le hb1l hHeld.1.size)).trans hHeld.2.2⟩
    replace hcI := hcI.later hba
    replace ho9 := ho9.below hba
    clear hba hHeld
    refine hK.out _ _ hSa (fun hHeld => ?_)
    clear hK K
    try simp only [Act.put, jA, jB, jC, jD, jE, jF]
    clear hSa
    refine wpAnyH_ready (rs := [5]) (by kernel_rfl) (by simp) (AllReadyH.cons rfl (fun K hK => ?_) AllReadyH.nil)
    rw [if_pos (by rfl)]
    go_wp2_with fail
    refine (ptext_any A9 8 c9 (numsB [1]) A4 1 1 [k] V3 (by have := ho9.bytes; simpa using this) hcS (by intro s hs; simp at hs; rcases hs with rfl <;> assumption) (by omega)).mono ?_
    rintro e V4 ⟨A8, c8, rfl, ho8, hba⟩
    have hSa : (Below w1.heap.size w1 V4 ∧ V4.cell? ⟨b1, 0, none⟩ = some (.string k) ∧ V4.cell? ⟨b1, 1, none⟩ = some (.string v)) := ⟨hHeld.1.trans (hba.mono hHeld.1.size), (hba.cell (p := ⟨b1, 0, none⟩) (Nat.lt_of_lt_of_le hb1l hHeld.1.size)).trans hHeld.2.1, (hba.cell (p := ⟨b1, 1, none⟩) (Nat.lt_of_lt_of_le hb1l hHeld.1.size)).trans hHeld.2.2⟩
    replace hcI := hcI.later hba
    replace hcS := hcS.later hba
    have hW8 : w.heap.size ≤ V3.heap.size := Nat.le_trans hw1 hHeld.1.size
    clear hba hHeld
    refine hK.out _ _ hSa (fun hHeld => ?_)
    clear hK K
    try simp only [Act.put, jA, jB, jC, jD, jE, jF]
    clear hSa
    refine wpAnyH_take (i := 6) (v := .slice A8 (8 + (textsB ([k].map nats)).length) c8) rfl (by kernel_rfl) (by kernel_rfl) (by kernel_rfl) (fun _ _ _ h => h) (Or.inl ⟨by rfl, fun w0 hC => by simp [execOp, Act.eval, Act.put, go_sem]⟩) hHeld ?_
    try simp only [Act.put, jA, jB, jC, jD, jE, jF]
    refine wpAnyH_done (by kernel_rfl) ?_ _
    have HF : Hid (Made w.heap.size w _ _ _ _) := Lib.hid ⟨A8, c8, rfl, ho8.base_le hW8, HBW.out.trans (hHeld.1.mono hw1)⟩
    clear hHeld ho8 ho9 hcI hcS
    go_wp2_with fail
    go_ret
    rw [chg_true k v]
    exact ⟨_, HF.out⟩
   ·rw [if_pos (by rfl)]
    go_wp2_with fail
    refine k_overK (fun W' => Below V1.heap.size V1 W' ∧ Col Value.string W' W'.heap.size (some ⟨V1.heap.size, 0, none⟩) 1 [k]) ⟨(Below.refl _ _).alloc (Nat.le_refl _) _, by have := Col.one V1 Value.string k rfl 9; simpa using this⟩ ?_
    rintro V5 ⟨hba, hcS⟩
    obtain ⟨A4, hA4⟩ : ∃ A, A = some (⟨V1.heap.size, 0, none⟩ : Addr) := ⟨_, rfl⟩
    rw [← hA4] at hcS ⊢
    clear hA4
    have hSa : (Below w1.heap.size w1 V5 ∧ V5.cell? ⟨b1, 0, none⟩ = some (.string k) ∧ V5.cell? ⟨b1, 1, none⟩ = some (.string v)) := ⟨hHeld.1.trans (hba.mono hHeld.1.size), (hba.cell (p := ⟨b1, 0, none⟩) (Nat.lt_of_lt_of_le hb1l hHeld.1.size)).trans hHeld.2.1, (hba.cell (p := ⟨b1, 1, none⟩) (Nat.lt_of_lt_of_le hb1l hHeld.1.size)).trans hHeld.2.2⟩
    replace hcI := hcI.later hba
    clear hba hHeld
    refine hK.out _ _ hSa (fun hHeld => ?_)
    clear hK K
    try simp only [Act.put, jA, jB, jC, jD, jE, jF]
    clear hSa
    refine wpAnyH_ready (rs := [1]) (by kernel_rfl) (by simp) (AllReadyH.cons rfl (fun K hK => ?_) AllReadyH.nil)
    rw [if_pos (by rfl)]
    go_wp2_with fail
    refine (pnum_any none 0 0 [] A0 1 1 [1] V5 Bytes.nil hcI (by omega)).mono ?_
    rintro e V6 ⟨A9, c9, rfl, ho9, hba⟩
    have hSa : (Below w1.heap.size w1 V6 ∧ V6.cell? ⟨b1, 0, none⟩ = some (.string k) ∧ V6.cell? ⟨b1, 1, none⟩ = some (.string v)) := ⟨hHeld.1.trans (hba.mono hHeld.1.size), (hba.cell (p := ⟨b1, 0, none⟩) (Nat.lt_of_lt_of_le hb1l hHeld.1.size)).trans hHeld.2.1, (hba.cell (p := ⟨b1, 1, none⟩) (Nat.lt_of_lt_of_le hb1l hHeld.1.size)).trans hHeld.2.2⟩
    replace hcI := hcI.later hba
    replace hcS := hcS.later hba
    clear hba hHeld
    refine hK.out _ _ hSa (fun hHeld => ?_)
    clear hK K
    try simp only [Act.put, jA, jB, jC, jD, jE, jF]
    clear hSa
    refine wpAnyH_ready (rs := [5]) (by kernel_rfl) (by simp) (AllReadyH.cons rfl (fun K hK => ?_) AllReadyH.nil)
    rw [if_pos (by rfl)]
    go_wp2_with fail
    refine (ptext_any A9 8 c9 (numsB [1]) A4 1 1 [k] V6 (by have := ho9.bytes; simpa using this) hcS (by intro s hs; simp at hs; rcases hs with rfl <;> assumption) (by omega)).mono ?_
    rintro e V7 ⟨A8, c8, rfl, ho8, hba⟩
    have hSa : (Below w1.heap.size w1 V7 ∧ V7.cell? ⟨b1, 0, none⟩ = some (.string k) ∧ V7.cell? ⟨b1, 1, none⟩ = some (.string v)) := ⟨hHeld.1.trans (hba.mono hHeld.1.size), (hba.cell (p := ⟨b1, 0, none⟩) (Nat.lt_of_lt_of_le hb1l hHeld.1.size)).trans hHeld.2.1, (hba.cell (p := ⟨b1, 1, none⟩) (Nat.lt_of_lt_of_le hb1l hHeld.1.size)).trans hHeld.2.2⟩
    replace hcI := hcI.later hba
    replace hcS := hcS.later hba
    have hW8 : w.heap.size ≤ V6.heap.size := Nat.le_trans hw1 hHeld.1.size
    clear hba hHeld
    refine hK.out _ _ hSa (fun hHeld => ?_)
    clear hK K
    try simp only [Act.put, jA, jB, jC, jD, jE, jF]
    clear hSa
    refine wpAnyH_take (i := 6) (v := .slice A8 (8 + (textsB ([k].map nats)).length) c8) rfl (by kernel_rfl) (by kernel_rfl) (by kernel_rfl) (fun _ _ _ h => h) (Or.inl ⟨by rfl, fun w0 hC => by simp [execOp, Act.eval, Act.put, go_sem]⟩) hHeld ?_
    try simp only [Act.put, jA, jB, jC, jD, jE, jF]
    refine wpAnyH_done (by kernel_rfl) ?_ _
    have HF : Hid (Made w.heap.size w _ _ _ _) := Lib.hid ⟨A8, c8, rfl, ho8.base_le hW8, HBW.out.trans (hHeld.1.mono hw1)⟩
    clear hHeld ho8 ho9 hcI hcS
    go_wp2_with fail
    go_ret
    rw [chg_true k v]
    exact ⟨_, HF.out⟩
  ·rw [if_pos (by rfl)]
   go_wp2_with fail
   refine k_overK (fun W' => Below V0.heap.size V0 W' ∧ Col Value.string W' W'.heap.size (some ⟨V0.heap.size, 0, none⟩) 1 [k]) ⟨(Below.refl _ _).alloc (Nat.le_refl _) _, by have := Col.one V0 Value.string k rfl 9; simpa using this⟩ ?_
   rintro V8 ⟨hba, hcS⟩
   obtain ⟨A4, hA4⟩ : ∃ A, A = some (⟨V0.heap.size, 0, none⟩ : Addr) := ⟨_, rfl⟩
   rw [← hA4] at hcS ⊢
   clear hA4
   have hSa : (Below w1.heap.size w1 V8 ∧ V8.cell? ⟨b1, 0, none⟩ = some (.string k) ∧ V8.cell? ⟨b1, 1, none⟩ = some (.string v)) := ⟨hHeld.1.trans (hba.mono hHeld.1.size), (hba.cell (p := ⟨b1, 0, none⟩) (Nat.lt_of_lt_of_le hb1l hHeld.1.size)).trans hHeld.2.1, (hba.cell (p := ⟨b1, 1, none⟩) (Nat.lt_of_lt_of_le hb1l hHeld.1.size)).trans hHeld.2.2⟩
   clear hba hHeld
   refine hK.out _ _ hSa (fun hHeld => ?_)
   clear hK K
   try simp only [Act.put, jA, jB, jC, jD, jE, jF]
   clear hSa
   refine wpAnyH_ready (rs := [0]) (by kernel_rfl) (by simp) (AllReadyH.cons rfl (fun K hK => ?_) AllReadyH.nil)
   rw [if_pos (by rfl)]
   go_wp2_with fail
   refine k_overK (fun W' => Below V8.heap.size V8 W' ∧ Col (fun z => .int .i64 z) W' W'.heap.size (some ⟨V8.heap.size, 0, none⟩) 1 [1]) ⟨(Below.refl _ _).alloc (Nat.le_refl _) _, by have := Col.one V8 (fun z => Value.int .i64 z) 1 rfl 3; simpa using this⟩ ?_
   rintro V9 ⟨hba, hcI⟩
   obtain ⟨A0, hA0⟩ : ∃ A, A = some (⟨V8.heap.size, 0, none⟩ : Addr) := ⟨_, rfl⟩
   rw [← hA0] at hcI ⊢
   clear hA0
   have hSa : (Below w1.heap.size w1 V9 ∧ V9.cell? ⟨b1, 0, none⟩ = some (.string k) ∧ V9.cell? ⟨b1, 1, none⟩ = some (.string v)) := ⟨hHeld.1.trans (hba.mono hHeld.1.size), (hba.cell (p := ⟨b1, 0, none⟩) (Nat.lt_of_lt_of_le hb1l hHeld.1.size)).trans hHeld.2.1, (hba.cell (p := ⟨b1, 1, none⟩) (Nat.lt_of_lt_of_le hb1l hHeld.1.size)).trans hHeld.2.2⟩
   replace hcS := hcS.later hba
   clear hba hHeld
   refine hK.out _ _ hSa (fun hHeld => ?_)
   clear hK K
   try simp only [Act.put, jA, jB, jC, jD, jE, jF]
   clear hSa
   refine wpAnyH_ready (rs := [1]) (by kernel_rfl) (by simp) (AllReadyH.cons rfl (fun K hK => ?_) AllReadyH.nil)
   rw [if_pos (by rfl)]
   go_wp2_with fail
   refine (pnum_any none 0 0 [] A0 1 1 [1] V9 Bytes.nil hcI (by omega)).mono ?_
   rintro e V10 ⟨A9, c9, rfl, ho9, hba⟩
   have hSa : (Below w1.heap.size w1 V10 ∧ V10.cell? ⟨b1, 0, none⟩ = some (.string k) ∧ V10.cell? ⟨b1, 1, none⟩ = some (.string v)) := ⟨hHeld.1.trans (hba.mono hHeld.1.size), (hba.cell (p := ⟨b1, 0, none⟩) (Nat.lt_of_lt_of_le hb1l hHeld.1.size)).trans hHeld.2.1, (hba.cell (p := ⟨b1, 1, none⟩) (Nat.lt_of_lt_of_le hb1l hHeld.1.size)).trans hHeld.2.2⟩
   replace hcI := hcI.later hba
   replace hcS := hcS.later hba
   clear hba hHeld
   refine hK.out _ _ hSa (fun hHeld => ?_)
   clear hK K
   try simp only [Act.put, jA, jB, jC, jD, jE, jF]
   clear hSa
   refine wpAnyH_ready (rs := [5]) (by kernel_rfl) (by simp) (AllReadyH.cons rfl (fun K hK => ?_) AllReadyH.nil)
   rw [if_pos (by rfl)]
   go_wp2_with fail
   refine (ptext_any A9 8 c9 (numsB [1]) A4 1 1 [k] V10 (by have := ho9.bytes; simpa using this) hcS (by intro s hs; simp at hs; rcases hs with rfl <;> assumption) (by omega)).mono ?_
   rintro e V11 ⟨A8, c8, rfl, ho8, hba⟩
   have hSa : (Below w1.heap.size w1 V11 ∧ V11.cell? ⟨b1, 0, none⟩ = some (.string k) ∧ V11.cell? ⟨b1, 1, none⟩ = some (.string v)) := ⟨hHeld.1.trans (hba.mono hHeld.1.size), (hba.cell (p := ⟨b1, 0, none⟩) (Nat.lt_of_lt_of_le hb1l hHeld.1.size)).trans hHeld.2.1, (hba.cell (p := ⟨b1, 1, none⟩) (Nat.lt_of_lt_of_le hb1l hHeld.1.size)).trans hHeld.2.2⟩
   replace hcI := hcI.later hba
   replace hcS := hcS.later hba
   have hW8 : w.heap.size ≤ V10.heap.size := Nat.le_trans hw1 hHeld.1.size
   clear hba hHeld
   refine hK.out _ _ hSa (fun hHeld => ?_)
   clear hK K
   try simp only [Act.put, jA, jB, jC, jD, jE, jF]
   clear hSa
   refine wpAnyH_take (i := 6) (v := .slice A8 (8 + (textsB ([k].map nats)).length) c8) rfl (by kernel_rfl) (by kernel_rfl) (by kernel_rfl) (fun _ _ _ h => h) (Or.inl ⟨by rfl, fun w0 hC => by simp [execOp, Act.eval, Act.put, go_sem]⟩) hHeld ?_
   try simp only [Act.put, jA, jB, jC, jD, jE, jF]
   refine wpAnyH_done (by kernel_rfl) ?_ _
   have HF : Hid (Made w.heap.size w _ _ _ _) := Lib.hid ⟨A8, c8, rfl, ho8.base_le hW8, HBW.out.trans (hHeld.1.mono hw1)⟩
   clear hHeld ho8 ho9 hcI hcS
   go_wp2_with fail
   go_ret
   rw [chg_true k v]
   exact ⟨_, HF.out⟩
end Go.Proofs.YtcdehejgnnnimaaGreatDoor
