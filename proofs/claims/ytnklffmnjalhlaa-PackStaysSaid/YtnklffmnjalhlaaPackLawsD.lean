/-
  The law PackBack as a walk: whatever the input, true, and all older memory is as it was.
-/
import Derived.Test.YtnklffmnjalhlaaPackLawsB
import Derived.BigRegion
namespace Go.Proofs.Ytnklffmnjalhlaa
open Go.RowKit

theorem Col.at_drop {α : Type} {f : α → Value} {w : World} {B n : Nat} {A : Option Addr} {l : List α} {k : Nat} (h : Col f w B A n l) (hk : k < n) :
    ∃ b o a, A = some ⟨b, o, none⟩ ∧ b < B ∧ a ∈ l ∧ l.take (k + 1) = l.take k ++ [a] ∧ l.drop k = a :: l.drop (k + 1) ∧ w.cell? ⟨b, o + k, none⟩ = some (f a) := by
  obtain ⟨b, o, e, hb, hc⟩ := h.2 (by omega)
  have hl : k < l.length := by rw [h.1]; exact hk
  exact ⟨b, o, l[k], e, hb, List.getElem_mem hl, List.take_succ_eq_append_getElem hl, List.drop_eq_getElem_cons hl, hc k _ (List.getElem?_eq_getElem hl)⟩
theorem OwnB.other {w w' : World} {base n c g : Nat} {e : TypeId} {A : Option Addr} {l : List Nat} (h : OwnB w base e A n c l) (hg : w.grownBy w' (some g)) (hgb : g < base) : OwnB w' base e A n c l := by
  refine ⟨h.1.kept hg ?_, h.2⟩
  right
  intro hr
  have := (h.1.lt g hr).1
  omega
theorem Col.drew {α : Type} {f : α → Value} {w : World} {B n : Nat} {A : Option Addr} {l : List α} (h : Col f w B A n l) : Col f w.drew B A n l := h
theorem clampB_cast (z : Int) : clampB ((clampB z : Nat) : Int) = clampB z := by have := clampB_le z; unfold clampB at *; omega
theorem numsB_one (z : Int) : numsB [((clampB z : Nat) : Int)] = encB 8 (clampB z) := by
  rw [numsB_cons, clampB_cast, numsB_nil, List.append_nil]
theorem textsB_one (z : ByteArray) : textsB ([cutS z].map nats) = textB (nats z) := by
  rw [List.map_cons, textsB_cons, List.map_nil, textsB_nil, List.append_nil, cutS_nats]
  unfold textB
  rw [List.take_take, Nat.min_self]
theorem strOf_cut (z : ByteArray) : strOf ((nats z).take 4096) = cutS z := by rw [← cutS_nats, strOf_nats]

set_option maxRecDepth 20000 in
set_option maxHeartbeats 4000000 in
theorem packBack_walk (A1 : Option Addr) (n1 c1 : Nat) (zs : List Int) (A2 : Option Addr) (n2 c2 : Nat) (ss : List ByteArray) (w : World)
    (hz : Col (fun z => .int .i64 z) w w.heap.size A1 n1 zs) (hn1 : n1 ≤ 140737488355328) (hs : Col Value.string w w.heap.size A2 n2 ss) (hss : ∀ s ∈ ss, s.size ≤ 140737488355328) (hn2 : n2 ≤ 140737488355328) :
    Calls Try.prog 5 #[.slice A1 n1 c1, .slice A2 n2 c2] w fun e w' => e = .returned (.bool true) ∧ Below w.heap.size w w' := by
  go_enter Try.func5, Try.ntmps5
  go_wp2_with fail
  refine (alive03_any w).mono ?_
  rintro e w1 ⟨rfl, hb1⟩
  have hz1 := hz.later hb1
  have hs1 := hs.later hb1
  clear hz hs
  by_cases h0 : 100 < n1 ∨ 20 < n2
  · by_cases hb : 100 < n1
    · have hbi : (100 : Int) < (n1 : Int) := by omega
      go_wp2
      go_ret
      exact ⟨rfl, hb1⟩
    have hbi : ¬ (100 : Int) < (n1 : Int) := by omega
    have hci : (20 : Int) < (n2 : Int) := by omega
    go_wp2
    go_ret
    exact ⟨rfl, hb1⟩
  have hbi : ¬ (100 : Int) < (n1 : Int) := by omega
  have hci : ¬ (20 : Int) < (n2 : Int) := by omega
  have hk0 : n1 ≤ 100 ∧ n2 ≤ 20 := by omega
  have HK0 := hide hk0
  clear h0 hk0
  go_wp2_with fail
  refine (pnum_any none 0 0 [] A1 n1 c1 zs w1 Bytes.nil hz1 (by have := HK0.out; omega)).mono ?_
  rintro e w2 hm
  obtain ⟨A3, c3, rfl, hx3, hb3⟩ := hm.bytes
  clear hm
  rw [Nat.zero_add] at hx3
  rw [Nat.zero_add]
  have hs2 := hs1.later hb3
  have hz2 := hz1.later hb3
  have hB2 := hb1.trans (hb3.mono hb1.size)
  clear hb3 hs1 hz1 hb1
  go_wp2_with fail
  refine (ptext_any A3 (8 * n1) c3 _ A2 n2 c2 ss w2 hx3 hs2 hss (by have := HK0.out; omega)).mono ?_
  rintro e w3 hm
  obtain ⟨A4, c4, rfl, hx4, hb4⟩ := hm.bytes
  clear hm
  rw [List.nil_append] at hx4
  have hs3 := hs2.later hb4
  have hz3 := hz2.later hb4
  have hB3 := hB2.trans (hb4.mono hB2.size)
  clear hb4 hs2 hz2 hB2 hx3
  generalize 8 * n1 + (textsB (ss.map nats)).length = n4 at *
  go_wp2_with fail
  refine (pFrom_any A4 n4 c4 _ _ w3 hx4).mono ?_
  rintro e w4 ⟨rfl, hr4, hb5⟩
  have hT256 : ∀ x ∈ numsB zs ++ textsB (ss.map nats), x < 256 := hx4.2.1
  have hTl : (numsB zs ++ textsB (ss.map nats)).length ≤ 1000000 := by
    have h1 := numsB_length zs
    have h2 := textsB_length (ss.map nats)
    rw [List.length_map, hs3.1] at h2
    rw [hz3.1] at h1
    have := HK0.out
    rw [List.length_append]
    omega
  go_wp2
  go_loopw [7, 8] (fun x i wr => ∃ k : Nat, k ≤ n1 ∧ i = .int .i64 k ∧ ∃ Ax cx, x = .slice Ax (8 * k) cx ∧ OwnB wr (w3.heap.size + 1) 5 Ax (8 * k) cx (numsB (zs.take k)) ∧ RdP wr w3.heap.size (numsB (zs.drop k) ++ textsB (ss.map nats)) 0 ∧ Below w3.heap.size w3 wr) (fun _ i _ => n1 - (intOf i).toNat)
  case atStart => exact ⟨0, Nat.zero_le _, rfl, none, 0, rfl, OwnB.nil, hr4, hb5⟩
  case round =>
    obtain ⟨k, hk, rfl, Ax, cx, rfl, hx, hp, hb⟩ := hrel
    by_cases hlt : k < n1
    · obtain ⟨b, o, z, rfl, hbl, -, ht, hd, hc0⟩ := hz3.at_drop hlt
      have hc := (hb.cell (p := ⟨b, o + k, none⟩) hbl).trans hc0
      clear hc0
      have HT := hide ht
      have HN := hide (numsB_snoc (zs.take k) z)
      rw [hd, numsB_cons, List.append_assoc] at hp
      have hsub : ∀ x ∈ encB 8 (clampB z) ++ (numsB (zs.drop (k + 1)) ++ textsB (ss.map nats)), x < 256 := by
        intro y hy
        rcases List.mem_append.1 hy with h | h
        · exact encB_lt _ _ y h
        rcases List.mem_append.1 h with h | h
        · unfold numsB at h
          obtain ⟨q, hq, hy⟩ := List.mem_flatten.1 h
          obtain ⟨z', _, rfl⟩ := List.mem_map.1 hq
          exact encB_lt _ _ y hy
        · exact hT256 y (List.mem_append_right _ h)
      have hsl : (encB 8 (clampB z) ++ (numsB (zs.drop (k + 1)) ++ textsB (ss.map nats))).length ≤ 140737488355328 := by
        have h1 := numsB_length (zs.drop (k + 1))
        rw [List.length_append] at hTl
        rw [List.length_append, List.length_append, encB_length, h1, List.length_drop]
        have h3 := numsB_length zs
        have := HK0.out
        rw [hz3.1]
        omega
      clear ht hd
      obtain ⟨q1, q2, q3⟩ := num_back (clampB z) (clampB_le z) (numsB (zs.drop (k + 1)) ++ textsB (ss.map nats))
      have Q1 := hide q1
      have Q2 := hide q2
      have Q3 := hide q3
      clear q1 q2 q3
      have hmm : (if (4611686018427387904 : Int) < (if z < 0 then 0 else z) then 4611686018427387904 else (if z < 0 then 0 else z)) = ((clampB z : Nat) : Int) := by
        unfold clampB
        split <;> split at * <;> omega
      have HMM := hide hmm
      clear hmm
      go_wp2_with fail
      refine (pNum_any w3.heap.size 0 _ wr hp hsl hsub).mono ?_
      rintro e w5 ⟨rfl, hst⟩
      rw [Q1.out]
      rw [Q2.out, Q3.out] at hst
      have hmm := HMM.out
      have hx5 := hx.other hst.2 (by omega)
      have hc5 := hst.2.cell hc (by simp; omega)
      have HST := hide hst
      have hb5' := hb.grown hst.2 hb.size (fun k hk => by cases hk; exact Nat.le_refl _)
      clear hst hp hsub hsl Q1 Q2 Q3 hx hc
      have hg5 := HST.out.1.lt
      have HX := hide hx5
      clear hx5
      go_wp2_with fail
      all_goals
        refine (pnum_any Ax (8 * k) cx _ _ 1 1 [((clampB z : Nat) : Int)] _ ((HX.out.bytes).later ((Below.refl _ _).alloc (Nat.le_refl _) _)) ((Col.one w5 (fun z => .int .i64 z) _ rfl _).more (by simp)) (by have := HK0.out; omega)).mono ?_
        rintro e w6 ⟨A6, c6, rfl, ho6, hb6⟩
        rw [numsB_one] at ho6
        have ho6' := ho6.base_le (base' := w3.heap.size + 1) (by simp; omega)
        have hb6' : Below w3.heap.size w3 w6 := (hb5'.alloc hb5'.size _).trans (hb6.mono (by simp; omega))
        have hp6 : RdP w6 w3.heap.size (numsB (zs.drop (k + 1)) ++ textsB (ss.map nats)) 0 := (HST.out.1.below ((Below.refl _ _).alloc (Nat.le_refl _) _) hg5).below hb6 (by simp; omega)
        clear ho6 hb6
        go_wp2
        go_roundw
        case rel => exact ⟨k + 1, by omega, by go_num, A6, c6, rfl, by rw [HT.out, HN.out]; exact ho6', hp6, hb6'⟩
        case measure => simp [intOf]; omega
    · obtain rfl : k = n1 := by omega
      have hK1 : zs.take k = zs := List.take_of_length_le (by rw [hz3.1]; omega)
      have hK2 : zs.drop k = [] := List.drop_eq_nil_of_le (by rw [hz3.1]; omega)
      rw [hK1] at hx
      rw [hK2, numsB_nil, List.nil_append] at hp
      clear hK1 hK2
      obtain ⟨wo, rfl⟩ : ∃ wo, wo = wr := ⟨_, rfl⟩
      have hx4' := hx4
      clear hr4 hb5 hT256 hTl hx4
      go_wp2
      go_loopw [7, 10] (fun x i wr => ∃ j : Nat, j ≤ n2 ∧ i = .int .i64 j ∧ ∃ Ax nx cx, x = .slice Ax nx cx ∧ nx = 8 * k + (textsB ((ss.take j).map nats)).length ∧ OwnB wr (w3.heap.size + 1) 5 Ax nx cx (numsB zs ++ textsB ((ss.take j).map nats)) ∧ RdP wr w3.heap.size (textsB ((ss.drop j).map nats)) 0 ∧ Below w3.heap.size w3 wr) (fun _ i _ => n2 - (intOf i).toNat)
      case atStart => exact ⟨0, Nat.zero_le _, rfl, Ax, 8 * k, cx, rfl, rfl, by rw [show textsB ((ss.take 0).map nats) = [] from rfl, List.append_nil]; exact hx, hp, hb⟩
      clear hx hp hb
      case round =>
        obtain ⟨j, hj, rfl, Ay, ny, cy, rfl, hny, hy, hp, hb⟩ := hrel
        have HNY := hide hny
        have hny' : ny ≤ 8 * k + 4100 * j := by have := textsB_take_le ss j (by rw [hs3.1]; exact hj); omega
        clear hny
        by_cases hlt2 : j < n2
        · obtain ⟨b, o, z, rfl, hbl, hmem, ht, hd, hc0⟩ := hs3.at_drop hlt2
          have hzs := hss z hmem
          have hc := (hb.cell (p := ⟨b, o + j, none⟩) hbl).trans hc0
          clear hc0 hmem
          have HT := hide ht
          have HN := hide (show textsB ((ss.take j ++ [z]).map nats) = textsB ((ss.take j).map nats) ++ textB (nats z) by rw [List.map_append]; exact textsB_snoc _ _)
          rw [hd, List.map_cons, textsB_cons] at hp
          have hsub : ∀ x ∈ textB (nats z) ++ textsB ((ss.drop (j + 1)).map nats), x < 256 := by
            intro y hy
            have hone : ∀ q : ByteArray, ∀ y ∈ textB (nats q), y < 256 := by
              intro q y hy
              unfold textB at hy
              rcases List.mem_append.1 hy with h | h
              · exact encB_lt _ _ y h
              · exact nats_lt q y (List.mem_of_mem_take h)
            rcases List.mem_append.1 hy with h | h
            · exact hone z y h
            · unfold textsB at h
              obtain ⟨q, hq, hy⟩ := List.mem_flatten.1 h
              rw [List.map_map] at hq
              obtain ⟨z', _, rfl⟩ := List.mem_map.1 hq
              exact hone z' y hy
          have hsl : (textB (nats z) ++ textsB ((ss.drop (j + 1)).map nats)).length ≤ 140737488355328 := by
            have h1 := textsB_length ((ss.drop (j + 1)).map nats)
            have h2 := textB_length (nats z)
            rw [List.length_map, List.length_drop, hs3.1] at h1
            rw [List.length_append]
            omega
          clear ht hd
          obtain ⟨q1, q2, q3⟩ := text_back (nats z) (textsB ((ss.drop (j + 1)).map nats))
          have Q1 := hide (show strOf (textV (textB (nats z) ++ textsB ((ss.drop (j + 1)).map nats)) 0) = cutS z by rw [q1, strOf_cut])
          have Q2 := hide q2
          have Q3 := hide q3
          clear q1 q2 q3
          go_wp2_with fail
          refine (pText_any w3.heap.size 0 _ wr hp hsl hsub).mono ?_
          rintro e w5 ⟨rfl, hst⟩
          rw [Q1.out]
          rw [Q2.out, Q3.out] at hst
          have hx5 := hy.other hst.2 (by omega)
          have hc5 := hst.2.cell hc (by simp; omega)
          have HST := hide hst
          have hb5' := hb.grown hst.2 hb.size (fun k hk => by cases hk; exact Nat.le_refl _)
          clear hst hp hsub hsl Q1 Q2 Q3 hy hc
          have hg5 := HST.out.1.lt
          have HX := hide hx5
          clear hx5
          have hkI0 : (0 : Int) ≤ (j : Int) := by omega
          have hkI : (j : Int) < (n2 : Int) := by omega
          by_cases hsz : z.size ≤ 4096
          all_goals
            first
              | (have HS := hide (cutS_short hsz)
                 have hsI : ¬ (4096 : Int) < (z.size : Int) := by omega
                 have HQ : Hid (textsB ([z].map nats) = textB (nats z)) := hide (by have := textsB_one z; rw [cutS_short hsz] at this; exact this)
                 have hqs : z.size ≤ 140737488355328 := by omega)
              | (have HS : Hid (cutS z = z.extract 0 4096) := hide rfl
                 have hsI : (4096 : Int) < (z.size : Int) := by omega
                 have HQ : Hid (textsB ([z.extract 0 4096].map nats) = textB (nats z)) := hide (textsB_one z)
                 have hqs : (z.extract 0 4096).size ≤ 140737488355328 := by have := cutS_size z; unfold cutS at this; omega)
            rw [HS.out]
            go_wp2_with fail
            go_region
            go_wp2_with fail
            refine (ptext_any Ay ny cy _ _ 1 1 [_] _ (Bytes.drew ((HX.out.bytes).later ((Below.refl _ _).alloc (Nat.le_refl _) _))) (Col.drew ((Col.one w5 Value.string _ rfl _).more (by simp))) (by intro s hs; rw [List.mem_singleton.1 hs]; exact hqs) (by have := HK0.out; omega)).mono ?_
            rintro e w6 ⟨A6, c6, rfl, ho6, hb6⟩
            rw [HQ.out] at ho6
            rw [HQ.out]
            have ho6' := ho6.base_le (base' := w3.heap.size + 1) (by simp; omega)
            have hb6' : Below w3.heap.size w3 w6 := (hb5'.alloc hb5'.size _).drew.trans (hb6.mono (by simp; omega))
            have hp6 : RdP w6 w3.heap.size (textsB ((ss.drop (j + 1)).map nats)) 0 := (RdP.drew (HST.out.1.below ((Below.refl _ _).alloc (Nat.le_refl _) _) hg5)).below hb6 (by simp; omega)
            clear ho6 hb6
            go_wp2
            go_roundw
            case rel => exact ⟨j + 1, by omega, by go_num, A6, _, c6, rfl, by rw [HT.out, HN.out, List.length_append, HNY.out]; omega, by rw [HT.out, HN.out, ← List.append_assoc]; exact ho6', hp6, hb6'⟩
            case measure => simp [intOf]; omega
        · obtain rfl : j = n2 := by omega
          have hK1 : ss.take j = ss := List.take_of_length_le (by rw [hs3.1]; omega)
          have hK2 : ss.drop j = [] := List.drop_eq_nil_of_le (by rw [hs3.1]; omega)
          rw [hK1] at hy
          rw [hK2, List.map_nil, textsB_nil] at hp
          clear hK1 hK2
          have hxr := hx4'.later (hb.mono (Nat.le_refl _))
          have hyb := hy.bytes
          have hB := hB3.trans (hb.mono hB3.size)
          go_wp2_with fail
          refine (pDone_any w3.heap.size 0 [] wr hp (by simp)).mono ?_
          rintro e w' ⟨rfl, rfl⟩
          rw [show doneE [] 0 = 0 from rfl]
          go_wp2_with fail
          refine (same_any Ay ny cy _ _ A4 n4 c4 _ _ wr hyb hxr).mono ?_
          rintro e w' ⟨rfl, rfl⟩
          rw [dec_true _ rfl]
          go_wp2
          go_ret
          exact ⟨rfl, hB⟩
end Go.Proofs.Ytnklffmnjalhlaa
