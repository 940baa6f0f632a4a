/-
  The laws SumSums and SumPieces as walks: whatever the input, true, and all older memory is as it was.
-/
import Derived.Test.YthkmdemkdlbdnaaDoorSumWalksB
import Derived.Test.YthkmdemkdlbdnaaDoorBytesOwn
import Derived.Test.YthkmdemkdlbdnaaDoorRowRel
namespace Go.Proofs.YthkmdemkdlbdnaaDoor
open Go.RowKit

theorem info_u8 : (Tryd.prog.info? 5).map (fun i => (i.zero, i.size, i.bytes)) = some (some (.int .u8 0), 1, 1) := by kernel_rfl
theorem beq_self_int (a : Int) : (a == a) = true := by simp

set_option maxHeartbeats 400000 in
theorem sumSums_walk (A : Option Addr) (n c : Nat) (l : List Nat) (s : Nat) (hs : s < 4294967296) (w : World) (hl : Bytes w w.heap.size A n l) (hn : n ≤ 140737488355328) (ht : Tab w) :
    Calls Tryd.prog 3 #[.slice A n c, .int .u32 (s : Int)] w fun e w' => e = .returned (.bool true) ∧ Below w.heap.size w w' := by
  have hm : n ≤ maxLen := by unfold maxLen; omega
  go_enter Tryd.func3, Tryd.ntmps3
  go_wp2_with fail
  refine (alive02_any w ht).mono ?_
  rintro e w1 ⟨rfl, hb1⟩
  have hl1 := hl.later hb1
  have ht1 := ht.below hb1 ht.pos
  clear hl ht
  by_cases h5 : 5000 < n
  · have h5i : (5000 : Int) < (n : Int) := by omega
    go_wp2
    go_ret
    exact ⟨rfl, hb1⟩
  · have h5i : ¬ (5000 : Int) < (n : Int) := by omega
    go_wp2_with fail
    refine (sum_any A n c l w1 hl1 hn ht1).mono ?_
    rintro e w2 ⟨rfl, hb2⟩
    have hl2 := hl1.later hb2
    have ht2 := ht1.below hb2 ht1.pos
    have hb := hb1.trans (hb2.mono hb1.size)
    clear hl1 ht1 hb1 hb2
    go_wp2_with fail
    refine (rsum_any A n c _ l w2 hl2 hm).mono ?_
    rintro e w' ⟨rfl, rfl⟩
    go_wp2_with fail
    refine (more_any s A n c _ l w2 hs hl2 hm ht2).mono ?_
    rintro e w' ⟨rfl, rfl⟩
    go_wp2_with fail
    refine (rmore_any s A n c _ l w2 hs hl2 hm).mono ?_
    rintro e w' ⟨rfl, rfl⟩
    go_wp2
    go_ret
    exact ⟨rfl, hb⟩

theorem Bss.of_rel {w : World} {B : Nat} {A : Option Addr} {n c : Nat} {ls : List (List Nat)} (h : RowRel.bytes.slice.R w B [.slice A n c] ls) : Bss w B A n ls ∧ n ≤ c ∧ c ≤ maxLen ∧ n ≤ 140737488355328 := by
  obtain ⟨A1, n1, c1, e, h1, h2, h3, h4, h5⟩ := h
  injection e with e _
  injection e with e1 e2 e3
  subst e1; subst e2; subst e3
  refine ⟨⟨h4, fun hn => ?_⟩, h1, h2, h3⟩
  obtain ⟨b, o, e, hb, hr⟩ := h5 hn
  refine ⟨b, o, e, hb, fun i hi => ?_⟩
  obtain ⟨cs, hc, A', n', c', rfl, g1, g2, g3, g4⟩ := hr i _ (List.getElem?_eq_getElem (by omega))
  refine ⟨A', n', c', ?_, g3, by unfold textAt; simpa [List.getElem?_eq_getElem (show i < ls.length by omega)] using g4⟩
  have := hc 0 _ rfl
  rwa [Nat.add_zero, show i * RowRel.bytes.k = i from Nat.mul_one i] at this

/-- what the loop of SumPieces holds -/
def PiecesAt (w1 : World) (ls : List (List Nat)) (k : Nat) (a s : Value) (wr : World) : Prop :=
  ∃ A m c, a = .slice A m c ∧ m ≤ 5000 ∧ OwnB wr w1.heap.size 5 A m c (ls.take k).flatten ∧ s = .int .u32 ((moreC 0 (ls.take k).flatten : Nat) : Int) ∧ Below w1.heap.size w1 wr

set_option maxRecDepth 20000 in
set_option maxHeartbeats 1000000 in
theorem sumPieces_walk (A : Option Addr) (n c : Nat) (ls : List (List Nat)) (w : World) (hl : Bss w w.heap.size A n ls) (hn : n ≤ 140737488355328) (ht : Tab w) :
    Calls Tryd.prog 4 #[.slice A n c] w fun e w' => e = .returned (.bool true) ∧ Below w.heap.size w w' := by
  have hby := hl.bytes
  have hm : n ≤ maxLen := by unfold maxLen; omega
  go_enter Tryd.func4, Tryd.ntmps4
  go_wp2_with fail
  refine (alive02_any w ht).mono ?_
  rintro e w1 ⟨rfl, hb1⟩
  have hl1 := hl.later hb1
  have ht1 := ht.below hb1 ht.pos
  clear hl ht
  go_wp2
  go_loopw [3, 4, 5] (fun a s i wr => ∃ k : Nat, k ≤ n ∧ i = .int .i64 k ∧ PiecesAt w1 ls k a s wr) (fun _ _ i _ => n - (intOf i).toNat)
  case atStart => exact ⟨0, Nat.zero_le _, rfl, none, 0, 0, rfl, by omega, OwnB.nil, by rw [show moreC 0 (ls.take 0).flatten = 0 from moreC_nil 0]; rfl, Below.refl _ _⟩
  case round =>
    obtain ⟨k, hk, rfl, A2, m, c2, rfl, hm5, ho, rfl, hb⟩ := hrel
    have hlr := hl1.below hb (Nat.le_refl _)
    have htr := ht1.below hb ht1.pos
    have hr := moreC_take_lt hby k
    by_cases hlt : k < n
    · obtain ⟨b, o, A', n', c', rfl, hbl, hc, hn', hy⟩ := hlr.at_ hlt
      have HR := hide (moreC_append (ls.take k).flatten (textAt ls k) 0)
      have HF := hide (flatten_take_snoc ls k (by rw [hl1.1]; exact hlt))
      have HL := hide hlr
      have HL1 := hide hl1
      clear hlr hl1
      by_cases h5 : 5000 < m + n'
      · have h5i : (5000 : Int) < (m : Int) + (n' : Int) := by omega
        go_wp2
        go_ret
        exact ⟨rfl, hb1.trans (hb.mono hb1.size)⟩
      · have h5i : ¬ (5000 : Int) < (m : Int) + (n' : Int) := by omega
        go_wp2_with ((with_reducible show wpList _ _ _ (⟨some 28, _, _, _, _, _⟩ :: _) _ _); refine hold ?_)
        refine held (wpList_append_bytes rfl (.tmp 23) (.tmp 27) 22 rfl Tryd.underlying22 info_u8 w1.heap.size A2 m c2 _ rfl ho _ A' n' c' _ rfl hy (by omega) hb.size ?_)
        intro A3 c3 w3 ho3 hb3 hg3
        clear hg3
        have hc3 : w3.cell? ⟨b, o + k, none⟩ = some (.slice A' n' c') := (hb3.cell (p := ⟨b, o + k, none⟩) hbl).trans hc
        have ht3 := htr.below hb3 ht1.pos
        have hy3 := hy.below hb3 (Nat.le_refl _)
        clear hc htr
        go_wp2_with fail
        refine (more_any _ A' n' c' _ _ _ hr hy3 (by unfold maxLen; omega) ht3).mono ?_
        rintro e w' ⟨rfl, rfl⟩
        go_wp2
        go_roundw
        case rel => exact ⟨k + 1, by omega, by go_num, A3, m + n', c3, rfl, by omega, by rw [HF.out]; exact ho3, by rw [HF.out, HR.out], hb.trans hb3⟩
        case measure => simp [intOf]; omega
    · have HK := hide (show ls.take k = ls from List.take_of_length_le (by rw [hl1.1]; omega))
      rw [HK.out] at ho hr
      have hm2 : m ≤ maxLen := by unfold maxLen; omega
      have hob := ho.bytes
      go_wp2_with fail
      rw [HK.out]
      refine (join_any A n c _ ls wr hlr hm htr).mono ?_
      rintro e w' ⟨rfl, rfl⟩
      go_wp2_with fail
      refine (rsum_any A2 m c2 _ _ wr hob hm2).mono ?_
      rintro e w' ⟨rfl, rfl⟩
      go_wp2_with fail
      refine (rsum_any A2 m c2 _ _ wr hob hm2).mono ?_
      rintro e w' ⟨rfl, rfl⟩
      go_wp2
      go_ret
      exact ⟨rfl, hb1.trans (hb.mono hb1.size)⟩
end Go.Proofs.YthkmdemkdlbdnaaDoor
