/-
  The fixed fact of pack's laws, and the law PackLays, as walks: whatever the input, true, and all older memory is as it was.
-/
import Derived.Test.YtnklffmnjalhlaaPackWalksB
import Derived.Test.YtnklffmnjalhlaaPackReadR
namespace Go.Proofs.Ytnklffmnjalhlaa
open Go.RowKit

def abS : ByteArray := ⟨#[97, 98]⟩
def aliveL : List Nat := [0, 0, 0, 0, 0, 0, 0, 7, 0, 0, 0, 2, 97, 98]
theorem alive_laid : ([] ++ numsB [7]) ++ textsB ([abS].map nats) = aliveL := by decide +kernel
theorem alive_len : 0 + 8 * 1 + (textsB ([abS].map nats)).length = 14 := by decide +kernel
theorem alive_str : (strOf aliveL).toList = [0, 0, 0, 0, 0, 0, 0, 7, 0, 0, 0, 2, 97, 98] := by rw [ByteArray.toList_eq]; decide +kernel
theorem alive_num : numV aliveL 0 = 7 ∧ numE aliveL 0 = 0 := by decide +kernel
theorem alive_text : textV (takeL aliveL 0 8) 0 = [97, 98] ∧ textL (takeL aliveL 0 8) 0 = [] ∧ textE (takeL aliveL 0 8) 0 = 0 := by decide +kernel
theorem ab_str : strOf [97, 98] = abS := by decide +kernel

set_option maxRecDepth 20000 in
set_option maxHeartbeats 1000000 in
theorem alive03_any (w : World) : Calls Try.prog 7 #[] w fun e w' => e = .returned (.bool true) ∧ Below w.heap.size w w' := by
  go_enter Try.func7, Try.ntmps7
  go_wp2_with fail
  refine (pnum_any none 0 0 [] _ 1 1 [7] _ Bytes.nil ((Col.one w (fun z => .int .i64 z) 7 rfl _).more (by simp)) (by omega)).mono ?_
  rintro e w1 ⟨A1, c1, rfl, ho1, hb1⟩
  have hbe := ((Below.refl w.heap.size w).alloc (Nat.le_refl _) _).trans (hb1.mono (by simp))
  go_wp2_with fail
  refine (ptext_any A1 (0 + 8 * 1) c1 _ _ 1 1 [abS] _ ((ho1.below ((Below.refl _ _).alloc (Nat.le_refl _) _)).bytes) ((Col.one w1 Value.string abS rfl _).more (by simp)) (by intro s hs; rw [List.mem_singleton.1 hs]; decide) (by omega)).mono ?_
  rintro e w2 ⟨A2, c2, rfl, ho2, hb2⟩
  rw [alive_laid, alive_len] at ho2
  rw [alive_len]
  have hb2' := (hbe.alloc hbe.size _).trans (hb2.mono (Nat.le_trans hbe.size (by simp)))
  have hB := ho2.bytes
  clear ho1 hb1 ho2 hb2 hbe
  go_wp2_with fail
  refine (pFrom_any A2 14 c2 _ aliveL w2 hB).mono ?_
  rintro e w3 ⟨rfl, hr3, hb3⟩
  have hB3 := hB.later hb3
  have hbb3 := hb2'.trans (hb3.mono hb2'.size)
  have kc := run_str_of_bytes (P := Try.prog) (c := c2) hB3 Try.underlying22 Try.underlying5 Try.underlying9
  have hq := alive_str
  have hlt := hb2'.size
  clear hB hB3 hb2' hb3
  generalize strOf aliveL = sA at *
  have HLT := hide hlt
  clear hlt
  generalize w2.heap.size = g at *
  go_wp2_with fail
  refine (pNum_any g 0 aliveL w3 hr3 (by decide) (by decide)).mono ?_
  rintro e w4 ⟨rfl, hr4, hg4⟩
  rw [alive_num.1]
  rw [alive_num.2] at hr4
  go_wp2_with fail
  refine (pText_any g 0 _ w4 hr4 (by decide) (by decide)).mono ?_
  rintro e w5 ⟨rfl, hr5, hg5⟩
  rw [alive_text.1, ab_str]
  have hab : abS.toList = [97, 98] := by rw [ByteArray.toList_eq]; rfl
  rw [alive_text.2.1, alive_text.2.2] at hr5
  have hbb5 := (hbb3.grown hg4 hbb3.size (fun k hk => by cases hk; exact HLT.out)).grown hg5 (Nat.le_trans hbb3.size hg4.size) (fun k hk => by cases hk; exact HLT.out)
  clear hr3 hg4 hr4 hg5 hbb3
  go_wp2_with fail
  refine (pDone_any g 0 [] w5 hr5 (by simp)).mono ?_
  rintro e w' ⟨rfl, rfl⟩
  rw [show doneE [] 0 = 0 from rfl]
  go_wp2_with fail
  refine (num_nil w5).mono ?_
  rintro e w6 ⟨rfl, hb6⟩
  go_wp2_with fail
  refine (done_nil w6).mono ?_
  rintro e w' ⟨rfl, rfl⟩
  go_wp2
  go_ret
  exact ⟨rfl, hbb5.trans (hb6.mono hbb5.size)⟩

theorem Made.bytes {base n : Nat} {w w' : World} {l : List Nat} {e : Ending} (h : Made base w n l e w') : ∃ A c, e = .returned (.slice A n c) ∧ Bytes w' w'.heap.size A n l ∧ Below base w w' := by
  obtain ⟨A, c, rfl, ho, hb⟩ := h
  exact ⟨A, c, rfl, ho.bytes, hb⟩
theorem dec_true (p : Prop) [Decidable p] (h : p) : decide p = true := decide_eq_true h

set_option maxRecDepth 20000 in
set_option maxHeartbeats 2000000 in
theorem packLays_walk (A : Option Addr) (n c : Nat) (l : List Nat) (A1 : Option Addr) (n1 c1 : Nat) (zs : List Int) (A2 : Option Addr) (n2 c2 : Nat) (ss : List ByteArray) (w : World)
    (hl : Bytes w w.heap.size A n l) (hn : n ≤ 140737488355328) (hz : Col (fun z => .int .i64 z) w w.heap.size A1 n1 zs) (hn1 : n1 ≤ 140737488355328) (hs : Col Value.string w w.heap.size A2 n2 ss) (hss : ∀ s ∈ ss, s.size ≤ 140737488355328) (hn2 : n2 ≤ 140737488355328) :
    Calls Try.prog 3 #[.slice A n c, .slice A1 n1 c1, .slice A2 n2 c2] w fun e w' => e = .returned (.bool true) ∧ Below w.heap.size w w' := by
  go_enter Try.func3, Try.ntmps3
  go_wp2_with fail
  refine (alive03_any w).mono ?_
  rintro e w1 ⟨rfl, hb1⟩
  have hl1 := hl.later hb1
  have hz1 := hz.later hb1
  have hs1 := hs.later hb1
  clear hl hz hs
  by_cases h0 : 3000 < n ∨ 100 < n1 ∨ 20 < n2
  · by_cases ha : 3000 < n
    · have hai : (3000 : Int) < (n : Int) := by omega
      go_wp2
      go_ret
      exact ⟨rfl, hb1⟩
    have hai : ¬ (3000 : Int) < (n : Int) := by omega
    by_cases hb : 100 < n1
    · have hbi : (100 : Int) < (n1 : Int) := by omega
      go_wp2
      go_ret
      exact ⟨rfl, hb1⟩
    have hbi : ¬ (100 : Int) < (n1 : Int) := by omega
    have hci : (20 : Int) < (n2 : Int) := by omega
    go_wp2
    go_ret
    exact ⟨rfl, hb1⟩
  have hai : ¬ (3000 : Int) < (n : Int) := by omega
  have hbi : ¬ (100 : Int) < (n1 : Int) := by omega
  have hci : ¬ (20 : Int) < (n2 : Int) := by omega
  have hk0 : n ≤ 3000 ∧ n1 ≤ 100 ∧ n2 ≤ 20 := by omega
  have HK0 := hide hk0
  clear h0 hk0
  go_wp2
  go_loopw [7, 9] (fun x i wr => ∃ k : Nat, k ≤ n1 ∧ i = .int .i64 k ∧ ∃ Ax cx, x = .slice Ax (n + 8 * k) cx ∧ Bytes wr wr.heap.size Ax (n + 8 * k) (l ++ numsB (zs.take k)) ∧ Below w1.heap.size w1 wr) (fun _ i _ => n1 - (intOf i).toNat)
  case atStart => exact ⟨0, Nat.zero_le _, rfl, A, c, rfl, by rw [show numsB (zs.take 0) = [] from rfl, List.append_nil]; exact hl1, Below.refl _ _⟩
  case round =>
    obtain ⟨k, hk, rfl, Ax, cx, rfl, hx, hb⟩ := hrel
    obtain ⟨g1, g2, g3⟩ := HK0.out
    by_cases hlt : k < n1
    · obtain ⟨b, o, z, rfl, hbl, -, ht, hc⟩ := (hz1.below hb (Nat.le_refl _)).at_ hlt
      have HT := hide ht
      clear ht
      have HN := hide (numsB_snoc (zs.take k) z)
      go_wp2_with fail
      refine (rnum_any Ax (n + 8 * k) cx z _ wr hx (by omega)).mono ?_
      rintro e w3 hm
      obtain ⟨A3, c3, rfl, hx3, hb3⟩ := hm.bytes
      clear hm
      have hb3' := hb.trans (hb3.mono hb.size)
      go_wp2
      go_roundw
      case rel => exact ⟨k + 1, by omega, by go_num, A3, c3, rfl, by rw [HT.out, HN.out, ← List.append_assoc]; exact hx3, hb3'⟩
      case measure => simp [intOf]; omega
    · have HK := hide (show zs.take k = zs from List.take_of_length_le (by rw [hz1.1]; omega))
      obtain rfl : k = n1 := by omega
      rw [HK.out] at hx
      clear HK
      obtain ⟨wo, rfl⟩ : ∃ wo, wo = wr := ⟨_, rfl⟩
      have hs2 := hs1.below hb (Nat.le_refl _)
      have hl2 := hl1.below hb (Nat.le_refl _)
      have hz2 := hz1.below hb (Nat.le_refl _)
      have hlr := hl1.later hb
      go_wp2
      go_loopw [8, 10] (fun y i wt => ∃ j : Nat, j ≤ n2 ∧ i = .int .i64 j ∧ ∃ Ay ny cy, y = .slice Ay ny cy ∧ ny = n + (textsB ((ss.take j).map nats)).length ∧ Bytes wt wt.heap.size Ay ny (l ++ textsB ((ss.take j).map nats)) ∧ Below wo.heap.size wo wt) (fun _ i _ => n2 - (intOf i).toNat)
      case atStart => exact ⟨0, Nat.zero_le _, rfl, A, n, c, rfl, rfl, by rw [show textsB ((ss.take 0).map nats) = [] from rfl, List.append_nil]; exact hlr, Below.refl _ _⟩
      case round =>
        obtain ⟨j, hj, rfl, Ay, ny, cy, rfl, hny, hy, hbt⟩ := hrel
        have HNY := hide hny
        have hny' : ny ≤ n + 4100 * j := by have := textsB_take_le ss j (by rw [hs1.1]; exact hj); omega
        clear hny
        by_cases hlt2 : j < n2
        · obtain ⟨b, o, z, rfl, hbl, hsub, ht, hc⟩ := (hs2.below hbt hb.size).at_ hlt2
          have hzs := hss z (List.mem_of_getElem? hsub)
          have HT := hide ht
          clear ht hsub
          have HN := hide (show textsB ((ss.take j ++ [z]).map nats) = textsB ((ss.take j).map nats) ++ textB (nats z) by rw [List.map_append]; exact textsB_snoc _ _)
          go_wp2_with fail
          refine (rtext_any Ay ny cy z _ wr hy (by omega) hzs).mono ?_
          rintro e w3 hm
          obtain ⟨A3, c3, rfl, hx3, hb3⟩ := hm.bytes
          clear hm
          have hb3' := hbt.trans (hb3.mono hbt.size)
          go_wp2
          go_roundw
          case rel => exact ⟨j + 1, by omega, by go_num, A3, _, c3, rfl, by rw [HT.out, HN.out, List.length_append, HNY.out]; omega, by rw [HT.out, HN.out, ← List.append_assoc]; exact hx3, hb3'⟩
          case measure => simp [intOf]; omega
        · have HK := hide (show ss.take j = ss from List.take_of_length_le (by rw [hs1.1]; omega))
          obtain rfl : j = n2 := by omega
          rw [HK.out] at hy
          clear HK
          have hbb := hb.trans (hbt.mono hb.size)
          have hlt3 := (hl1.later hbb)
          have hzt3 := (hz1.later hbb)
          have hst3 := (hs1.later hbb)
          have hxt := hx.later hbt
          have hB := hb1.trans (hbb.mono hb1.size)
          clear hl1 hz1 hs1 hl2 hz2 hs2 hlr hx hb hbt hb1 hbb
          go_wp2_with fail
          refine (pnum_any A n c l A1 k c1 zs wr hlt3 hzt3 (by omega)).mono ?_
          rintro e w5 hm
          obtain ⟨A5, c5, rfl, hx5, hb5⟩ := hm.bytes
          clear hm
          have hxt5 := hxt.later hb5
          have hyt5 := hy.later hb5
          have hlt5 := hlt3.later hb5
          have hst5 := hst3.later hb5
          have hB5 := hB.trans (hb5.mono hB.size)
          clear hxt hy hlt3 hst3 hzt3 hB hb5
          go_wp2_with fail
          refine (same_any A5 (n + 8 * k) c5 _ _ Ax (n + 8 * k) cx _ _ w5 hx5 hxt5).mono ?_
          rintro e w' ⟨rfl, rfl⟩
          rw [dec_true _ rfl]
          go_wp2_with fail
          refine (ptext_any A n c l A2 j c2 ss w5 hlt5 hst5 hss (by omega)).mono ?_
          rintro e w6 hm
          obtain ⟨A6, c6, rfl, hx6, hb6⟩ := hm.bytes
          clear hm
          have hyt6 := hyt5.later hb6
          have hB6 := hB5.trans (hb6.mono hB5.size)
          go_wp2_with fail
          refine (same_any A6 _ c6 _ _ Ay ny cy _ _ w6 hx6 hyt6).mono ?_
          rintro e w' ⟨rfl, rfl⟩
          rw [dec_true _ rfl]
          go_wp2
          go_ret
          exact ⟨rfl, hB6⟩
end Go.Proofs.Ytnklffmnjalhlaa
