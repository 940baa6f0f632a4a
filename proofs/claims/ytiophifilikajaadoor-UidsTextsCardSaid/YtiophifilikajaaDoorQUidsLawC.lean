/-
  The law UidsTurned of package uids, as a walk.
-/
import Derived.Test.YtiophifilikajaaDoorQUidsAlive
import Derived.Test.YtiophifilikajaaDoorQUidsC
namespace Go.Proofs.YtiophifilikajaaDoor
set_option linter.unusedVariables false
set_option linter.unusedSimpArgs false
open Go.RowKit
set_option linter.unusedVariables false
set_option linter.unusedSimpArgs false

def swapR (r : Rg) : Rg := (r.2, r.1)
/-- two slices do not lie in one block -/
def Apart (v v' : Value) : Prop := ∀ g, v.ownBlock = some g → v'.ownBlock ≠ some g
theorem Apart.symm {v v' : Value} (h : Apart v v') : Apart v' v := fun g h1 h2 => h g h2 h1
theorem Apart.row {v v' : Value} (h : Apart v v') : v'.ownBlock = none ∨ v'.ownBlock ≠ v.ownBlock := by
  cases hv : v'.ownBlock with
  | none => exact .inl rfl
  | some g => exact .inr fun e => h g e.symm hv
theorem Apart.next {w : World} {base size n gg m c H : Nat} {e : TypeId} {v v' : Value} {xs : List Value} (h : Apart v v') (h' : w.ownsRow base e size v' n xs) (hat : v.ownBlock = some gg ∨ gg = H) (hH : w.heap.size ≤ H) : Apart (.slice (some ⟨gg, 0, none⟩) m c) v' := by
  intro g hg hv
  have hgg : gg = g := by simpa [Value.ownBlock] using hg
  subst hgg
  rcases hat with ha | ha
  · exact h gg ha hv
  · have := (h'.lt gg hv).2
    omega
theorem setCell_pair0 (w : World) (t : TypeId) (x y z : Value) : Below w.heap.size w ((w.alloc (.cells #[x, y] t)).setCell ⟨w.heap.size, 0, none⟩ z) := ((Below.refl _ _).alloc (Nat.le_refl _) _).setCell (Nat.le_refl _) _

set_option maxRecDepth 100000 in
set_option maxHeartbeats 8000000 in
theorem uidsTurned_walk (A : Option Addr) (m c : Nat) (l : List Rg) (n last : Int) (w : World) (hS : Std w) (hl : ColK 2 rgC w w.heap.size A m l) (hm : m ≤ 140737488355328) :
    Calls Tryd.prog 7 #[.slice A m c, .int .i64 n, .int .i64 last] w fun e w' => e = .returned (.bool true) ∧ Below w.heap.size w w' := by
  obtain ⟨i0, hi0, hz0, hz1, hz2⟩ := info_parts info_rg
  have HS := Lib.hid hS
  have HL := Lib.hid hl
  clear hS hl
  go_enter Tryd.func7, Tryd.ntmps7
  go_wp2_with fail
  refine (alive09_any _ HS.out).mono ?_
  rintro e w1 ⟨rfl, hb1⟩
  have HL1 := Lib.hid (HL.out.later hb1)
  have HB1 := Lib.hid hb1
  clear hb1 HS HL
  by_cases h200 : 200 < m
  · have h200' : (200 : Int) < (m : Int) := by omega
    go_wp2_with fail
    go_ret
    exact ⟨rfl, HB1.out⟩
  · have h200' : ¬ (200 : Int) < (m : Int) := by omega
    by_cases hl1 : last < 1
    · go_wp2_with fail
      go_ret
      exact ⟨rfl, HB1.out⟩
    · go_wp2_with fail
      go_loopw [7, 8, 9] (fun t u i wx => ∃ (q c2 c3 : Nat) (A2 A3 : Option Addr), q ≤ m ∧ i = .int .i64 (q : Int) ∧ t = .slice A2 q c2 ∧ u = .slice A3 q c3 ∧ OwnK 2 rgC wx w1.heap.size 43 A2 q c2 ((l.take q).map swapR) ∧ OwnK 2 rgC wx w1.heap.size 43 A3 q c3 ((l.take q).map (nameR last)) ∧ Apart (.slice A2 q c2) (.slice A3 q c3) ∧ Below w1.heap.size w1 wx) (fun _ _ i _ => m - (intOf i).toNat)
      case atStart => exact ⟨0, 0, 0, none, none, Nat.zero_le _, rfl, rfl, rfl, OwnK.nil rgC_len, OwnK.nil rgC_len, (fun g hg => by cases hg), Below.refl _ _⟩
      case round =>
        obtain ⟨q, c2, c3, A2, A3, hq, rfl, rfl, rfl, hown2, hown3, hap, hb⟩ := hrel
        have HO2 := Lib.hid hown2
        have HO3 := Lib.hid hown3
        have HAP := Lib.hid hap
        have HB := Lib.hid hb
        clear hown2 hown3 hap hb
        by_cases hlt : q < m
        · obtain ⟨b, o, r, rfl, hbb, hla, htk, hrow⟩ := (HL1.out.below HB.out (Nat.le_refl _)).at_ hlt
          obtain ⟨x, y⟩ := r
          have r0 := hrow 0 _ rfl
          have r1 := hrow 1 _ rfl
          rw [Nat.add_zero] at r0
          have hq0 : (0 : Int) ≤ (q : Int) := by omega
          have hqm : (q : Int) < (m : Int) := by omega
          have HN2 : Hid ((l.take (q + 1)).map swapR = (l.take q).map swapR ++ [(y, x)]) := Lib.hid (by rw [htk, List.map_append]; rfl)
          have HN3 : Hid ((l.take (q + 1)).map (nameR last) = (l.take q).map (nameR last) ++ [(meantZ last x, meantZ last y)]) := Lib.hid (by rw [htk, List.map_append]; rfl)
          have ho2 := HO2.out
          have hne : (Value.slice A2 q c2).ownBlock ≠ some b := fun e => by have := (ho2.1.lt b e).1; omega
          have hbl := World.block_lt_of_cell? _ _ r0
          have hwS : w1.heap.size ≤ wr.heap.size := HB.out.size
          clear hla htk hrow
          go_wp2_with fail
          go_region_held3 (fun w' => w'.cell? ⟨b, o + q * 2, none⟩ = some (.int .i64 x) ∧ w'.cell? ⟨b, o + q * 2 + 1, none⟩ = some (.int .i64 y))
            (first
              | go_keep
              | exact ⟨(hgrow.cell_far _ (by simp; omega) (Ne.symm hne)).trans (cell?_alloc_old _ r0), (hgrow.cell_far _ (by simp; omega) (Ne.symm hne)).trans (cell?_alloc_old _ r1)⟩)
            ((refine step_append_lies _ (by rfl) _ _ _ (by rfl) w1.heap.size 43 i0 _ 2 16 Tryd.underlying22 hi0 hz0 hz1 hz2 rfl (by omega) (.slice A2 q c2) q (((l.take q).map swapR).flatMap rgC) (by rfl) (((ho2.alloc _).drewN 1).1) ⟨wr.heap.size, 0, none⟩ 1 1 [.int .i64 y, .int .i64 x] (by rfl) (by rfl) (World.news_of_block (cs := #[.int .i64 y, .int .i64 x]) (t := 43) (fr := (0, 0)) (heap_alloc_new wr _)) (rgC_one (y, x)) (by omega) (by unfold maxLen; omega) (by omega) (by simp; omega) (wr.heap.size + 1) (by simp) ?_; intro gg cap W hown1 hgrow hat hlt9))
          have hown4 : OwnK 2 rgC W w1.heap.size 43 (some ⟨gg, 0, none⟩) (q + 1) cap ((l.take (q + 1)).map swapR) := by
            rw [HN2.out]
            exact ⟨by rw [List.flatMap_append, List.flatMap_singleton]; exact hown1, by rw [List.length_append, ho2.2.1]; rfl, rgC_len⟩
          have ho3 : OwnK 2 rgC ((wr.alloc (.cells #[.int .i64 y, .int .i64 x] 43)).drew) w1.heap.size 43 A3 q c3 ((l.take q).map (nameR last)) := (HO3.out.alloc _).drewN 1
          have ho3' : OwnK 2 rgC W w1.heap.size 43 A3 q c3 ((l.take q).map (nameR last)) := ⟨ho3.1.kept hgrow HAP.out.row, ho3.2⟩
          have hap4 : Apart (.slice (some ⟨gg, 0, none⟩) (q + 1) cap) (.slice A3 q c3) := HAP.out.next HO3.out.1 hat (by omega)
          have hb4 : Below w1.heap.size w1 W := ((HB.out.alloc HB.out.size _).drew).grown hgrow (by simp; omega) (fun k9 hk9 => (ho2.1.lt k9 hk9).1)
          have s0 : W.cell? ⟨b, o + q * 2, none⟩ = some (.int .i64 x) := (hgrow.cell_far _ (by simp; omega) (Ne.symm hne)).trans (cell?_alloc_old _ r0)
          have s1 : W.cell? ⟨b, o + q * 2 + 1, none⟩ = some (.int .i64 y) := (hgrow.cell_far _ (by simp; omega) (Ne.symm hne)).trans (cell?_alloc_old _ r1)
          have hbW : b < W.heap.size := World.block_lt_of_cell? _ _ s0
          have HO4 := Lib.hid hown4
          have HO3' := Lib.hid ho3'
          have HAP4 := Lib.hid hap4
          have HB4 := Lib.hid hb4
          clear hown4 ho3 ho3' hap4 hb4 hown1 hgrow hat hlt9 ho2 hne r0 r1 hbl
          by_cases hx : x = 0
          · by_cases hy : y = 0
            · subst hx
              subst hy
              have HM : Hid ((meantZ last 0, meantZ last 0) = (last, last)) := Lib.hid (congr (congrArg Prod.mk (show meantZ last 0 = last from if_pos rfl)) (show meantZ last 0 = last from if_pos rfl))
              go_wp2_with ((with_reducible show wpList _ _ _ (⟨some 58, _, _, _, _, _⟩ :: _) _ _); refine hold ?_)
              refine held (wpList_append_lies _ rfl (.tmp 55) (.tmp 57) 22 rfl w1.heap.size 43 i0 _ 2 16 Tryd.underlying22 hi0 hz0 hz1 hz2 rfl (by omega) (.slice A3 q c3) q (((l.take q).map (nameR last)).flatMap rgC) rfl (((HO3'.out.alloc _).alloc _).1) ⟨W.heap.size + 1, 0, none⟩ 1 1 [.int .i64 last, .int .i64 last] rfl rfl
                (by have hnb := World.news_of_block (heap_alloc_new (W.alloc (.cells #[.int .i64 last, .int .i64 last] 43)) (.cells #[.int .i64 last, .int .i64 last] 43 (0, 0))); rw [World.size_alloc] at hnb; exact hnb) (rgC_one (last, last)) (by omega) (by unfold maxLen; omega) (by omega) (by have := HB4.out.size; simp only [World.size_alloc]; omega) (W.heap.size + 1 + 1) (by simp only [World.size_alloc]) ?_)
              intro g5 cap5 W5 hown5 hgrow5 hat5 hlt5
              have hown6 : OwnK 2 rgC W5 w1.heap.size 43 (some ⟨g5, 0, none⟩) (q + 1) cap5 ((l.take (q + 1)).map (nameR last)) := by
                rw [HN3.out, HM.out]
                exact ⟨by rw [List.flatMap_append, List.flatMap_singleton]; exact hown5, by rw [List.length_append, HO3'.out.2.1]; rfl, rgC_len⟩
              have HO6 := Lib.hid hown6
              have ho4 : OwnK 2 rgC ((W.alloc (.cells #[.int .i64 last, .int .i64 last] 43)).alloc (.cells #[.int .i64 last, .int .i64 last] 43)) w1.heap.size 43 (some ⟨gg, 0, none⟩) (q + 1) cap ((l.take (q + 1)).map swapR) := (HO4.out.alloc _).alloc _
              have HO7 : Hid (OwnK 2 rgC W5 w1.heap.size 43 (some ⟨gg, 0, none⟩) (q + 1) cap ((l.take (q + 1)).map swapR)) := Lib.hid ⟨ho4.1.kept hgrow5 HAP4.out.symm.row, ho4.2⟩
              have HAP5 : Hid (Apart (.slice (some ⟨gg, 0, none⟩) (q + 1) cap) (.slice (some ⟨g5, 0, none⟩) (q + 1) cap5)) := Lib.hid (HAP4.out.symm.next HO4.out.1 hat5 (by omega)).symm
              have HB5 : Hid (Below w1.heap.size w1 W5) := Lib.hid (((HB4.out.alloc HB4.out.size _).alloc (by have := HB4.out.size; simp only [World.size_alloc]; omega) _).grown hgrow5 (by have := HB4.out.size; simp only [World.size_alloc]; omega) (fun k9 hk9 => (HO3'.out.1.lt k9 hk9).1))
              clear hown5 hgrow5 hat5 hlt5 hown6 ho4
              go_wp2_with fail
              go_roundw
              case rel => exact ⟨q + 1, cap, cap5, some ⟨gg, 0, none⟩, some ⟨g5, 0, none⟩, by omega, by go_num, rfl, rfl, HO7.out, HO6.out, HAP5.out, HB5.out⟩
              case measure => simp [intOf]; omega
            · subst hx
              have hyb : (y == 0) = false := by simp [hy]
              have HM : Hid ((meantZ last 0, meantZ last y) = (last, y)) := Lib.hid (congr (congrArg Prod.mk (show meantZ last 0 = last from if_pos rfl)) (show meantZ last y = y from if_neg hy))
              go_wp2_with ((with_reducible show wpList _ _ _ (⟨some 58, _, _, _, _, _⟩ :: _) _ _); refine hold ?_)
              refine held (wpList_append_lies _ rfl (.tmp 55) (.tmp 57) 22 rfl w1.heap.size 43 i0 _ 2 16 Tryd.underlying22 hi0 hz0 hz1 hz2 rfl (by omega) (.slice A3 q c3) q (((l.take q).map (nameR last)).flatMap rgC) rfl (((HO3'.out.alloc _).alloc _).1) ⟨W.heap.size + 1, 0, none⟩ 1 1 [.int .i64 last, .int .i64 y] rfl rfl
                (by have hnb := World.news_of_block (heap_alloc_new (W.alloc (.cells #[.int .i64 last, .int .i64 y] 43)) (.cells #[.int .i64 last, .int .i64 y] 43 (0, 0))); rw [World.size_alloc] at hnb; exact hnb) (rgC_one (last, y)) (by omega) (by unfold maxLen; omega) (by omega) (by have := HB4.out.size; simp only [World.size_alloc]; omega) (W.heap.size + 1 + 1) (by simp only [World.size_alloc]) ?_)
              intro g5 cap5 W5 hown5 hgrow5 hat5 hlt5
              have hown6 : OwnK 2 rgC W5 w1.heap.size 43 (some ⟨g5, 0, none⟩) (q + 1) cap5 ((l.take (q + 1)).map (nameR last)) := by
                rw [HN3.out, HM.out]
                exact ⟨by rw [List.flatMap_append, List.flatMap_singleton]; exact hown5, by rw [List.length_append, HO3'.out.2.1]; rfl, rgC_len⟩
              have HO6 := Lib.hid hown6
              have ho4 : OwnK 2 rgC ((W.alloc (.cells #[.int .i64 last, .int .i64 y] 43)).alloc (.cells #[.int .i64 last, .int .i64 y] 43)) w1.heap.size 43 (some ⟨gg, 0, none⟩) (q + 1) cap ((l.take (q + 1)).map swapR) := (HO4.out.alloc _).alloc _
              have HO7 : Hid (OwnK 2 rgC W5 w1.heap.size 43 (some ⟨gg, 0, none⟩) (q + 1) cap ((l.take (q + 1)).map swapR)) := Lib.hid ⟨ho4.1.kept hgrow5 HAP4.out.symm.row, ho4.2⟩
              have HAP5 : Hid (Apart (.slice (some ⟨gg, 0, none⟩) (q + 1) cap) (.slice (some ⟨g5, 0, none⟩) (q + 1) cap5)) := Lib.hid (HAP4.out.symm.next HO4.out.1 hat5 (by omega)).symm
              have HB5 : Hid (Below w1.heap.size w1 W5) := Lib.hid (((HB4.out.alloc HB4.out.size _).alloc (by have := HB4.out.size; simp only [World.size_alloc]; omega) _).grown hgrow5 (by have := HB4.out.size; simp only [World.size_alloc]; omega) (fun k9 hk9 => (HO3'.out.1.lt k9 hk9).1))
              clear hown5 hgrow5 hat5 hlt5 hown6 ho4
              go_wp2_with fail
              go_roundw
              case rel => exact ⟨q + 1, cap, cap5, some ⟨gg, 0, none⟩, some ⟨g5, 0, none⟩, by omega, by go_num, rfl, rfl, HO7.out, HO6.out, HAP5.out, HB5.out⟩
              case measure => simp [intOf]; omega
          · by_cases hy : y = 0
            · have hxb : (x == 0) = false := by simp [hx]
              subst hy
              have HM : Hid ((meantZ last x, meantZ last 0) = (x, last)) := Lib.hid (congr (congrArg Prod.mk (show meantZ last x = x from if_neg hx)) (show meantZ last 0 = last from if_pos rfl))
              go_wp2_with ((with_reducible show wpList _ _ _ (⟨some 58, _, _, _, _, _⟩ :: _) _ _); refine hold ?_)
              refine held (wpList_append_lies _ rfl (.tmp 55) (.tmp 57) 22 rfl w1.heap.size 43 i0 _ 2 16 Tryd.underlying22 hi0 hz0 hz1 hz2 rfl (by omega) (.slice A3 q c3) q (((l.take q).map (nameR last)).flatMap rgC) rfl (((HO3'.out.alloc _).alloc _).1) ⟨W.heap.size + 1, 0, none⟩ 1 1 [.int .i64 x, .int .i64 last] rfl rfl
                (by have hnb := World.news_of_block (heap_alloc_new (W.alloc (.cells #[.int .i64 x, .int .i64 last] 43)) (.cells #[.int .i64 x, .int .i64 last] 43 (0, 0))); rw [World.size_alloc] at hnb; exact hnb) (rgC_one (x, last)) (by omega) (by unfold maxLen; omega) (by omega) (by have := HB4.out.size; simp only [World.size_alloc]; omega) (W.heap.size + 1 + 1) (by simp only [World.size_alloc]) ?_)
              intro g5 cap5 W5 hown5 hgrow5 hat5 hlt5
              have hown6 : OwnK 2 rgC W5 w1.heap.size 43 (some ⟨g5, 0, none⟩) (q + 1) cap5 ((l.take (q + 1)).map (nameR last)) := by
                rw [HN3.out, HM.out]
                exact ⟨by rw [List.flatMap_append, List.flatMap_singleton]; exact hown5, by rw [List.length_append, HO3'.out.2.1]; rfl, rgC_len⟩
              have HO6 := Lib.hid hown6
              have ho4 : OwnK 2 rgC ((W.alloc (.cells #[.int .i64 x, .int .i64 last] 43)).alloc (.cells #[.int .i64 x, .int .i64 last] 43)) w1.heap.size 43 (some ⟨gg, 0, none⟩) (q + 1) cap ((l.take (q + 1)).map swapR) := (HO4.out.alloc _).alloc _
              have HO7 : Hid (OwnK 2 rgC W5 w1.heap.size 43 (some ⟨gg, 0, none⟩) (q + 1) cap ((l.take (q + 1)).map swapR)) := Lib.hid ⟨ho4.1.kept hgrow5 HAP4.out.symm.row, ho4.2⟩
              have HAP5 : Hid (Apart (.slice (some ⟨gg, 0, none⟩) (q + 1) cap) (.slice (some ⟨g5, 0, none⟩) (q + 1) cap5)) := Lib.hid (HAP4.out.symm.next HO4.out.1 hat5 (by omega)).symm
              have HB5 : Hid (Below w1.heap.size w1 W5) := Lib.hid (((HB4.out.alloc HB4.out.size _).alloc (by have := HB4.out.size; simp only [World.size_alloc]; omega) _).grown hgrow5 (by have := HB4.out.size; simp only [World.size_alloc]; omega) (fun k9 hk9 => (HO3'.out.1.lt k9 hk9).1))
              clear hown5 hgrow5 hat5 hlt5 hown6 ho4
              go_wp2_with fail
              go_roundw
              case rel => exact ⟨q + 1, cap, cap5, some ⟨gg, 0, none⟩, some ⟨g5, 0, none⟩, by omega, by go_num, rfl, rfl, HO7.out, HO6.out, HAP5.out, HB5.out⟩
              case measure => simp [intOf]; omega
            · have hxb : (x == 0) = false := by simp [hx]
              have hyb : (y == 0) = false := by simp [hy]
              have HM : Hid ((meantZ last x, meantZ last y) = (x, y)) := Lib.hid (congr (congrArg Prod.mk (show meantZ last x = x from if_neg hx)) (show meantZ last y = y from if_neg hy))
              go_wp2_with ((with_reducible show wpList _ _ _ (⟨some 58, _, _, _, _, _⟩ :: _) _ _); refine hold ?_)
              refine held (wpList_append_lies _ rfl (.tmp 55) (.tmp 57) 22 rfl w1.heap.size 43 i0 _ 2 16 Tryd.underlying22 hi0 hz0 hz1 hz2 rfl (by omega) (.slice A3 q c3) q (((l.take q).map (nameR last)).flatMap rgC) rfl (((HO3'.out.alloc _).alloc _).1) ⟨W.heap.size + 1, 0, none⟩ 1 1 [.int .i64 x, .int .i64 y] rfl rfl
                (by have hnb := World.news_of_block (heap_alloc_new (W.alloc (.cells #[.int .i64 x, .int .i64 y] 43)) (.cells #[.int .i64 x, .int .i64 y] 43 (0, 0))); rw [World.size_alloc] at hnb; exact hnb) (rgC_one (x, y)) (by omega) (by unfold maxLen; omega) (by omega) (by have := HB4.out.size; simp only [World.size_alloc]; omega) (W.heap.size + 1 + 1) (by simp only [World.size_alloc]) ?_)
              intro g5 cap5 W5 hown5 hgrow5 hat5 hlt5
              have hown6 : OwnK 2 rgC W5 w1.heap.size 43 (some ⟨g5, 0, none⟩) (q + 1) cap5 ((l.take (q + 1)).map (nameR last)) := by
                rw [HN3.out, HM.out]
                exact ⟨by rw [List.flatMap_append, List.flatMap_singleton]; exact hown5, by rw [List.length_append, HO3'.out.2.1]; rfl, rgC_len⟩
              have HO6 := Lib.hid hown6
              have ho4 : OwnK 2 rgC ((W.alloc (.cells #[.int .i64 x, .int .i64 y] 43)).alloc (.cells #[.int .i64 x, .int .i64 y] 43)) w1.heap.size 43 (some ⟨gg, 0, none⟩) (q + 1) cap ((l.take (q + 1)).map swapR) := (HO4.out.alloc _).alloc _
              have HO7 : Hid (OwnK 2 rgC W5 w1.heap.size 43 (some ⟨gg, 0, none⟩) (q + 1) cap ((l.take (q + 1)).map swapR)) := Lib.hid ⟨ho4.1.kept hgrow5 HAP4.out.symm.row, ho4.2⟩
              have HAP5 : Hid (Apart (.slice (some ⟨gg, 0, none⟩) (q + 1) cap) (.slice (some ⟨g5, 0, none⟩) (q + 1) cap5)) := Lib.hid (HAP4.out.symm.next HO4.out.1 hat5 (by omega)).symm
              have HB5 : Hid (Below w1.heap.size w1 W5) := Lib.hid (((HB4.out.alloc HB4.out.size _).alloc (by have := HB4.out.size; simp only [World.size_alloc]; omega) _).grown hgrow5 (by have := HB4.out.size; simp only [World.size_alloc]; omega) (fun k9 hk9 => (HO3'.out.1.lt k9 hk9).1))
              clear hown5 hgrow5 hat5 hlt5 hown6 ho4
              go_wp2_with fail
              go_roundw
              case rel => exact ⟨q + 1, cap, cap5, some ⟨gg, 0, none⟩, some ⟨g5, 0, none⟩, by omega, by go_num, rfl, rfl, HO7.out, HO6.out, HAP5.out, HB5.out⟩
              case measure => simp [intOf]; omega
        · have hqm : ¬ (q : Int) < (m : Int) := by omega
          have HA2 : Hid ((l.take q).map swapR = l.map (fun r => (r.2, r.1))) := Lib.hid (by rw [List.take_of_length_le (by rw [HL1.out.1]; omega)]; rfl)
          have HA3 : Hid ((l.take q).map (nameR last) = l.map (nameR last)) := Lib.hid (by rw [List.take_of_length_le (by rw [HL1.out.1]; omega)])
          obtain ⟨hv, hhv⟩ : ∃ b, hasZ l n last = b := ⟨_, rfl⟩
          have HHV := Lib.hid hhv
          have H2 : Hid (hasZ (l.map (fun r => (r.2, r.1))) n last = hv) := Lib.hid (by rw [has_turned, hhv])
          have H3 : Hid (∀ k, hasZ (l.map (nameR last)) n k = hv) := Lib.hid (fun k => by rw [has_named (by omega), hhv])
          have hvv : (hv == hv) = true := by simp
          clear hhv
          go_wp2_with fail
          refine (uHas_any A m c last n l _ (HL1.out.later HB.out) (by omega)).mono ?_
          rintro e w5 ⟨rfl, hb5⟩
          rw [HHV.out]
          have ho5 := HO2.out.below (hb5.mono (Nat.le_refl _))
          have ho6 := HO3.out.below (hb5.mono (Nat.le_refl _))
          have HO5 := Lib.hid ho5
          have HO6 := Lib.hid ho6
          have HB5 := Lib.hid (HB.out.trans (hb5.mono HB.out.size))
          clear hb5 ho5 ho6 HO2 HO3 HB
          go_wp2_with fail
          refine (uHas_any A2 q c2 last n _ _ (HO5.out.col) (by omega)).mono ?_
          rintro e w6 ⟨rfl, hb6⟩
          rw [HA2.out, H2.out]
          have HO7 := Lib.hid (HO6.out.below hb6)
          have HB6 := Lib.hid (HB5.out.trans (hb6.mono HB5.out.size))
          clear hb6 HO5 HO6 HB5
          go_wp2_with fail
          refine (uHas_any A3 q c3 last n _ _ (HO7.out.col) (by omega)).mono ?_
          rintro e w7 ⟨rfl, hb7⟩
          rw [HA3.out, H3.out]
          have HO8 := Lib.hid (HO7.out.below hb7)
          have HB7 := Lib.hid (HB6.out.trans (hb7.mono HB6.out.size))
          clear hb7 HO7 HB6
          go_wp2_with fail
          refine (uHas_any A3 q c3 7 n _ _ (HO8.out.col) (by omega)).mono ?_
          rintro e w8 ⟨rfl, hb8⟩
          rw [HA3.out, H3.out]
          have HB8 := Lib.hid (HB1.out.trans ((HB7.out.trans (hb8.mono HB7.out.size)).mono HB1.out.size))
          clear hb8 HO8 HB7
          go_wp2_with fail
          go_ret
          exact ⟨rfl, HB8.out⟩
end Go.Proofs.YtiophifilikajaaDoor
