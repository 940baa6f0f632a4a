/-
  The laws SumOther and SumSwap as walks: whatever the input, true, and all older memory is as it was.
-/
import Derived.Test.YthkmdemkdlbdnaaDoorSumLawsA
import Derived.Deep.RegionHeld3
import Derived.BigRegion
namespace Go.Proofs.YthkmdemkdlbdnaaDoor
open Go.RowKit

theorem bel_call {W w4 : World} (h : Below W.drew.heap.size W.drew w4) : Below W.heap.size W w4 := (Below.refl _ _).drew.trans h

theorem code_over {P : Program} {c : Code} {a : Act} {W : World} {Q : Exit → Act → World → Prop} (G : World → Prop) (hG : G W) (h : ∀ W', G W' → c.wp P Q a W') : c.wp P Q a W := h W hG

theorem post_over {Q : Exit → Act → World → Prop} {e : Exit} {a : Act} {W : World} (G : World → Prop) (hG : G W) (h : ∀ W', G W' → Q e a W') : Q e a W := h W hG
theorem OwnB.drew {w : World} {base n c : Nat} {e : TypeId} {A : Option Addr} {l : List Nat} (h : OwnB w base e A n c l) : OwnB w.drew base e A n c l := h

/-- one byte another one -/
theorem other_sums (l : List Nat) (k x : Nat) (hl : ∀ b ∈ l, b < 256) (hk : k < l.length) (hx : x < 256) : moreC 0 l = moreC 0 (l.set k x) ↔ byteAt l k = x := by
  have e : l = l.take k ++ byteAt l k :: l.drop (k + 1) := by
    unfold byteAt
    rw [List.getD_eq_getElem?_getD, List.getElem?_eq_getElem hk, Option.getD_some, ← List.drop_eq_getElem_cons hk, List.take_append_drop]
  have e2 : l.set k x = l.take k ++ x :: l.drop (k + 1) := List.set_eq_take_append_cons_drop .. |>.trans (if_pos hk)
  have h := moreC_other 0 (l.take k) (l.drop (k + 1)) (byteAt l k) x (by omega) (fun b hb => hl b (List.mem_of_mem_take hb)) (fun b hb => hl b (List.mem_of_mem_drop hb))
    (by unfold byteAt; rw [List.getD_eq_getElem?_getD, List.getElem?_eq_getElem hk]; exact hl _ (List.getElem_mem hk)) hx
  rw [e2]
  rw [← e] at h
  exact h

set_option maxRecDepth 20000 in
set_option maxHeartbeats 1000000 in
theorem sumOther_walk (A : Option Addr) (n c : Nat) (l : List Nat) (at_ to : Nat) (hat : at_ < 65536) (hto : to < 256) (w : World) (hl : Bytes w w.heap.size A n l) (hn : n ≤ 140737488355328) (ht : Tab w) :
    Calls Tryd.prog 5 #[.slice A n c, .int .u16 (at_ : Int), .int .u8 (to : Int)] w fun e w' => e = .returned (.bool true) ∧ Below w.heap.size w w' := by
  go_enter Tryd.func5, Tryd.ntmps5
  go_wp2_with fail
  refine (alive02_any w ht).mono ?_
  rintro e w1 ⟨rfl, hb1⟩
  have hl1 := hl.later hb1
  have ht1 := ht.below hb1 ht.pos
  clear hl ht
  by_cases h0 : n = 0
  · subst h0
    go_wp2
    go_ret
    exact ⟨rfl, hb1⟩
  by_cases h5 : 5000 < n
  · have h5i : (5000 : Int) < (n : Int) := by omega
    have h0b : ((n : Int) == 0) = false := by simp; omega
    go_wp2
    go_ret
    exact ⟨rfl, hb1⟩
  have h5i : ¬ (5000 : Int) < (n : Int) := by omega
  have h0b : ((n : Int) == 0) = false := by simp; omega
  have h0i : (0 : Int) < (n : Int) := by omega
  go_wp2_with ((with_reducible show wpList _ _ _ (⟨some 21, _, _, _, _, _⟩ :: _) _ _); refine hold ?_)
  refine held (wpList_append_bytes rfl (.tmp 19) (.tmp 20) 22 rfl Tryd.underlying22 info_u8 w1.heap.size (some ⟨w1.heap.size, 0, none⟩) 0 0 [] rfl (OwnB.empty w1 5) w1.heap.size A n c l rfl
    (hl1.below ((Below.refl _ _).alloc (Nat.le_refl _) _) (Nat.le_refl _)) (by omega) (by simp) ?_)
  intro A3 c3 w3 ho3 hb3 hg3
  clear hg3
  have hb3' : Below w1.heap.size w1 w3 := ((Below.refl _ _).alloc (Nat.le_refl _) _).trans hb3
  rw [Nat.zero_add, List.nil_append] at ho3
  obtain ⟨g, rfl, hg1, hg2, hfz, hcl⟩ := ho3.cells (by omega)
  have hk : at_ % n < n := Nat.mod_lt _ (by omega)
  have hoi := other_sums l (at_ % n) to hl1.2.1 (by rw [hl1.1]; exact hk) hto
  have hs3 := ho3.put hk to hto rfl
  have hl3 := hl1.below hb3' (Nat.le_refl _)
  have ht3 := ht1.below hb3' ht1.pos
  obtain ⟨b, o, rfl, hbl, hc⟩ := hl3.at_ hk
  go_wp2_with fail
  refine code_over (fun W => OwnB W w1.heap.size 5 (some ⟨g, 0, none⟩) n c3 (l.set (at_ % n) to) ∧ Below w1.heap.size w3 W) ⟨hs3, (Below.refl _ _).setCell hg1 _⟩ ?_
  rintro W ⟨ho4, hb4⟩
  rw [show ((at_ : Int) % (n : Int)) = ((at_ % n : Nat) : Int) from rfl]
  have hcW : W.cell? ⟨b, o + at_ % n, none⟩ = some (.int .u8 ((byteAt l (at_ % n) : Nat) : Int)) := (hb4.cell (p := ⟨b, o + at_ % n, none⟩) hbl).trans hc
  have hL1 := (hl3.below hb4 (Nat.le_refl _)).more (hb3'.trans hb4).size
  have hL2 := ho4.bytes
  have hT := ht3.below hb4 ht1.pos
  have hbb := (hb1.trans (hb3'.mono hb1.size)).trans (hb4.mono hb1.size)
  have hbl2 : b < W.heap.size := Nat.lt_of_lt_of_le hbl (hb3'.trans hb4).size
  have hpos := hT.pos
  clear hs3 hc hcl hfz ho3 hl1 hl3 ht1 ht3 hb4 hb3 hb3' hb1 ho4 hg1 hg2
  generalize at_ % n = k at *
  generalize l.set k to = l2 at *
  have hkI0 : (0 : Int) ≤ (k : Int) := by omega
  have hkI : (k : Int) < (n : Int) := by omega
  by_cases hx : byteAt l k = to
  all_goals
    first
      | (have he1 : (((moreC 0 l : Nat) : Int) == ((moreC 0 l2 : Nat) : Int)) = true := by simp [hoi.2 hx]
         have he2 : (((byteAt l k : Nat) : Int) == (to : Int)) = true := by simp [hx])
      | (have he1 : (((moreC 0 l : Nat) : Int) == ((moreC 0 l2 : Nat) : Int)) = false := by simp; intro h; exact hx (hoi.1 (by omega))
         have he2 : (((byteAt l k : Nat) : Int) == (to : Int)) = false := by simp; omega)
    clear hx hoi
    go_region_held3 (fun W' => W'.cell? ⟨b, o + k, none⟩ = some (.int .u8 ((byteAt l k : Nat) : Int)))
      (first | exact hcW | exact (hbW.cell (p := ⟨b, o + k, none⟩) hbl2).trans hcW)
      (first | (go_at_call 8; refine (sum_any _ _ _ _ _ (by first | exact hL1.drew | exact hL2.drew | exact (hL1.later hbW).drew | exact (hL2.later hbW).drew) hn (by first | exact hT | exact hT.below hbW hpos)).mono ?_; rintro e w5 ⟨rfl, hb5⟩; have hbW : Below W.heap.size W w5 := (by first | exact bel_call hb5 | exact hbW.trans (hb5.mono hbW.size)); clear hb5))
    go_wp2
    go_ret
    exact ⟨rfl, hbb.trans (hbW.mono hbb.size)⟩

/-- two bytes that change places -/
theorem swap_sums (l : List Nat) (k : Nat) (hl : ∀ b ∈ l, b < 256) (hk : k + 1 < l.length) : moreC 0 l = moreC 0 ((l.set k (byteAt l (k + 1))).set (k + 1) (byteAt l k)) ↔ byteAt l k = byteAt l (k + 1) := by
  have g1 : byteAt l k = l[k] := by unfold byteAt; simp [List.getElem?_eq_getElem (show k < l.length by omega)]
  have g2 : byteAt l (k + 1) = l[k + 1] := by unfold byteAt; simp [List.getElem?_eq_getElem hk]
  rw [g1, g2]
  have e : l = l.take k ++ l[k] :: l[k + 1] :: l.drop (k + 2) := by
    rw [← List.drop_eq_getElem_cons hk, ← List.drop_eq_getElem_cons (show k < l.length by omega), List.take_append_drop]
  have e2 : (l.set k l[k + 1]).set (k + 1) l[k] = l.take k ++ l[k + 1] :: l[k] :: l.drop (k + 2) := by
    apply List.ext_getElem?
    intro i
    rw [List.getElem?_set, List.getElem?_set]
    have hlt : (l.take k).length = k := by rw [List.length_take]; omega
    by_cases h1 : i < k
    · rw [if_neg (by omega), if_neg (by omega), List.getElem?_append_left (by omega), List.getElem?_take, if_pos h1]
    · rw [List.getElem?_append_right (by omega), hlt]
      by_cases h2 : i = k
      · subst h2
        rw [if_neg (by omega), if_pos rfl, if_pos (by omega), Nat.sub_self]
        rfl
      · by_cases h3 : i = k + 1
        · subst h3
          rw [if_pos rfl, if_pos (by simp; omega), show k + 1 - k = 1 by omega]
          rfl
        · rw [if_neg (by omega), if_neg (by omega), show i - k = (i - k - 2) + 2 by omega, List.getElem?_cons_succ, List.getElem?_cons_succ, List.getElem?_drop, show k + 2 + (i - k - 2) = i by omega]
  have h := moreC_swap 0 (l.take k) (l.drop (k + 2)) l[k] l[k + 1] (by omega) (fun b hb => hl b (List.mem_of_mem_take hb)) (fun b hb => hl b (List.mem_of_mem_drop hb))
    (hl _ (List.getElem_mem _)) (hl _ (List.getElem_mem _))
  rw [e2]
  rw [← e] at h
  exact h

set_option maxRecDepth 20000 in
set_option maxHeartbeats 1000000 in
theorem sumSwap_walk (A : Option Addr) (n c : Nat) (l : List Nat) (at_ : Nat) (hat : at_ < 65536) (w : World) (hl : Bytes w w.heap.size A n l) (hn : n ≤ 140737488355328) (ht : Tab w) :
    Calls Tryd.prog 6 #[.slice A n c, .int .u16 (at_ : Int)] w fun e w' => e = .returned (.bool true) ∧ Below w.heap.size w w' := by
  go_enter Tryd.func6, Tryd.ntmps6
  go_wp2_with fail
  refine (alive02_any w ht).mono ?_
  rintro e w1 ⟨rfl, hb1⟩
  have hl1 := hl.later hb1
  have ht1 := ht.below hb1 ht.pos
  clear hl ht
  by_cases h0 : n < 2
  · have h0i : (n : Int) < 2 := by omega
    go_wp2
    go_ret
    exact ⟨rfl, hb1⟩
  by_cases h5 : 5000 < n
  · have h5i : (5000 : Int) < (n : Int) := by omega
    have h0i : ¬ (n : Int) < 2 := by omega
    go_wp2
    go_ret
    exact ⟨rfl, hb1⟩
  have h5i : ¬ (5000 : Int) < (n : Int) := by omega
  have h0i : ¬ (n : Int) < 2 := by omega
  go_wp2_with ((with_reducible show wpList _ _ _ (⟨some 25, _, _, _, _, _⟩ :: _) _ _); refine hold ?_)
  refine held (wpList_append_bytes rfl (.tmp 23) (.tmp 24) 22 rfl Tryd.underlying22 info_u8 w1.heap.size (some ⟨w1.heap.size, 0, none⟩) 0 0 [] rfl (OwnB.empty w1 5) w1.heap.size A n c l rfl
    (hl1.below ((Below.refl _ _).alloc (Nat.le_refl _) _) (Nat.le_refl _)) (by omega) (by simp) ?_)
  intro A3 c3 w3 ho3 hb3 hg3
  clear hg3
  have hb3' : Below w1.heap.size w1 w3 := ((Below.refl _ _).alloc (Nat.le_refl _) _).trans hb3
  rw [Nat.zero_add, List.nil_append] at ho3
  have hk : at_ % (n - 1) < n - 1 := Nat.mod_lt _ (by omega)
  have hoi := swap_sums l (at_ % (n - 1)) hl1.2.1 (by rw [hl1.1]; omega)
  have hl3 := hl1.below hb3' (Nat.le_refl _)
  have ht3 := ht1.below hb3' ht1.pos
  have he5 : (at_ : Int) % ((n : Int) - 1) = ((at_ % (n - 1) : Nat) : Int) := by rw [show (n : Int) - 1 = ((n - 1 : Nat) : Int) by omega]; rfl
  have HE5 := hide he5
  clear he5
  go_wp2_with fail
  refine code_over (fun W => OwnB W w1.heap.size 5 A3 n c3 l ∧ Below w1.heap.size w3 W) ⟨ho3, Below.refl _ _⟩ ?_
  rintro W ⟨ho4, hb4⟩
  rw [HE5.out]
  clear HE5
  generalize at_ % (n - 1) = k at *
  have hx1 : byteAt l k < 256 := hl1.lt k
  have hx2 : byteAt l (k + 1) < 256 := hl1.lt (k + 1)
  obtain ⟨g, rfl, hg1, hg2, hfz, hcl⟩ := ho4.cells (by omega)
  obtain ⟨b, o, rfl, hbl, hc1⟩ := hl3.at_ (show k < n by omega)
  obtain ⟨b', o', e, _, hc2⟩ := hl3.at_ (show k + 1 < n by omega)
  injection e with e
  injection e with e1 e2
  subst e1; subst e2
  have hL1 := (hl3.below hb4 (Nat.le_refl _)).more (hb3'.trans hb4).size
  have hT := ht3.below hb4 ht1.pos
  have hbb := (hb1.trans (hb3'.mono hb1.size)).trans (hb4.mono hb1.size)
  have hbl2 : b < W.heap.size := Nat.lt_of_lt_of_le hbl (hb3'.trans hb4).size
  have c1 : W.cell? ⟨b, o + k, none⟩ = some (.int .u8 ((byteAt l k : Nat) : Int)) := (hb4.cell (p := ⟨b, o + k, none⟩) hbl).trans hc1
  have c2 : W.cell? ⟨b, o + (k + 1), none⟩ = some (.int .u8 ((byteAt l (k + 1) : Nat) : Int)) := (hb4.cell (p := ⟨b, o + (k + 1), none⟩) hbl).trans hc2
  have c3' := hcl k (by omega)
  have c4 := hcl (k + 1) (by omega)
  have f1 := hfz k
  have f2 := hfz (k + 1)
  have hne : b ≠ g := by omega
  have hLb := hl1
  have hpos1 := ht1.pos
  have hbw : w.heap.size ≤ w1.heap.size := hb1.size
  have hW1 : Below w1.heap.size w1 W := hb3'.trans hb4
  have hs1 := (ho4.put (show k < n by omega) _ hx2 rfl).put (show k + 1 < n by omega) _ hx1 rfl
  clear hc1 hc2 hcl hfz ho3 hl1 hl3 ht1 ht3 hb4 hb3 hb3' hb1
  have hkI0 : (0 : Int) ≤ (k : Int) := by omega
  have hkI : (k : Int) < (n : Int) := by omega
  have hkI1 : (k : Int) + 1 < (n : Int) := by omega
  generalize byteAt l k = x1 at *
  generalize byteAt l (k + 1) = x2 at *
  go_region
  refine post_over (fun W2 => OwnB W2 w1.heap.size 5 (some ⟨g, 0, none⟩) n c3 ((l.set k x2).set (k + 1) x1) ∧ Below w1.heap.size W W2) ⟨hs1.drew, (((Below.refl _ _).setCell hg1 _).setCell hg1 _).drew⟩ ?_
  rintro W2 ⟨ho5, hb5⟩
  have d1 : W2.cell? ⟨b, o + k, none⟩ = some (.int .u8 (x1 : Int)) := (hb5.cell (p := ⟨b, o + k, none⟩) hbl).trans c1
  have d2 : W2.cell? ⟨b, o + (k + 1), none⟩ = some (.int .u8 (x2 : Int)) := (hb5.cell (p := ⟨b, o + (k + 1), none⟩) hbl).trans c2
  have hL1' := (hL1.keep (fun p hp => rfl) : Bytes W W.heap.size (some ⟨b, o, none⟩) n l)
  have hM1 : Bytes W2 W2.heap.size (some ⟨b, o, none⟩) n l := (hLb.below (hW1.trans hb5) (Nat.le_refl _)).more (hW1.trans hb5).size
  have hM2 := ho5.bytes
  have hT2 := hT.below hb5 hpos1
  have hpos := hT2.pos
  have hbb2 := hbb.trans (hb5.mono hbw)
  have hbl3 : b < W2.heap.size := Nat.lt_of_lt_of_le hbl2 hb5.size
  clear c1 c2 c3' c4 f1 f2 hs1 ho5 hb5 hL1 hL1' hLb hT hbb hbl2 hW1 ho4
  generalize (l.set k x2).set (k + 1) x1 = l2 at *
  clear hg2 hne
  clear W
  go_wp2_with fail
  by_cases hx : x1 = x2
  all_goals
    first
      | (have he1 : (((moreC 0 l : Nat) : Int) == ((moreC 0 l2 : Nat) : Int)) = true := by simp [hoi.2 hx]
         have he2 : ((x1 : Int) == (x2 : Int)) = true := by simp [hx])
      | (have he1 : (((moreC 0 l : Nat) : Int) == ((moreC 0 l2 : Nat) : Int)) = false := by simp; intro h; exact hx (hoi.1 (by omega))
         have he2 : ((x1 : Int) == (x2 : Int)) = false := by simp; omega)
    clear hx hoi
    have hw1 : IntKind.i64.wrap ((k : Int) + 1) = (k : Int) + 1 := IntWalk.i64_in _ (by omega)
    have hw2 : (0 : Int) ≤ (k : Int) + 1 := by omega
    have hw3 : ((k : Int) + 1).toNat = k + 1 := by omega
    go_region_held3 (fun W' => W'.cell? ⟨b, o + k, none⟩ = some (.int .u8 (x1 : Int)) ∧ W'.cell? ⟨b, o + (k + 1), none⟩ = some (.int .u8 (x2 : Int)))
      (first | exact ⟨d1, d2⟩ | exact ⟨(hbW.cell (p := ⟨b, o + k, none⟩) hbl3).trans d1, (hbW.cell (p := ⟨b, o + (k + 1), none⟩) hbl3).trans d2⟩)
      (first | (go_at_call 8; refine (sum_any _ _ _ _ _ (by first | exact hM1.drew | exact hM2.drew | exact (hM1.later hbW).drew | exact (hM2.later hbW).drew) hn (by first | exact hT2 | exact hT2.below hbW hpos)).mono ?_; rintro e w5 ⟨rfl, hb5⟩; have hbW : Below W2.heap.size W2 w5 := (by first | exact bel_call hb5 | exact hbW.trans (hb5.mono hbW.size)); clear hb5))
    clear hw1 hw2 hw3
    go_wp2
    go_ret
    exact ⟨rfl, hbb2.trans (hbW.mono hbb2.size)⟩
end Go.Proofs.YthkmdemkdlbdnaaDoor
