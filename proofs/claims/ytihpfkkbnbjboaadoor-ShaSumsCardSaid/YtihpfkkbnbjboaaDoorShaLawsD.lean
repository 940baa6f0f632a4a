/-
  The law ShaBlocks as a walk.
-/
import Derived.Test.YtihpfkkbnbjboaaDoorShaLawsC
namespace Go.Proofs.YtihpfkkbnbjboaaDoor
set_option linter.unusedVariables false
set_option linter.unusedSimpArgs false
open Go.RowKit

theorem run_head (w : World) (g np cp n : Nat) (h1 : n ≤ cp) (h0 : 0 < cp) : (Instr.slice 22 (.slice (some ⟨g, 0, none⟩) np cp) none (some (.int .i64 (n : Int))) none).run Tryd.prog w = .ok (.slice (some ⟨g, 0, none⟩) n cp) w := by
  have hne : ¬ cp = 0 := by omega
  rw [run_slice_h (P := Tryd.prog) (w := w) (t := 22) (a := some ⟨g, 0, none⟩) (len := np) (cap := cp) (ht := Tryd.underlying22) (kh := .i64) (h := (n : Int)) (h0 := by omega) (h2 := by omega)]
  simp [go_sem, sliced, hne]
theorem sum_byte (l : List Nat) {i : Nat} (hi : i < 32) : byteAt (sumB l) i = byteAt (blocksN (padN l) ((padN l).length / 64)).list (i / 4) / 2 ^ (24 - 8 * (i % 4)) % 256 := by
  unfold sumB
  rw [flN_at _ _ _ hi, if_pos hi]
  rfl

theorem Bk.drewN {w : World} {b : Nat} {t : TypeId} {cs : Array Value} (h : Bk w b t cs) (k : Nat) : Bk (w.drewN k) b t cs := h
theorem byteAt_w32 {l : List Nat} (h : W32 l) (i : Nat) : byteAt l i < 4294967296 := by
  unfold byteAt
  rw [List.getD_eq_getElem?_getD]
  cases hx : l[i]? with
  | none => simp
  | some x => exact h x (List.mem_of_getElem? hx)

set_option maxRecDepth 20000 in
set_option maxHeartbeats 4000000 in
theorem shaBlocks_walk (A : Option Addr) (n c : Nat) (l : List Nat) (w : World) (hl : Bytes w w.heap.size A n l) (hn : n ≤ 140737488355328) (ht : Tabs w) :
    Calls Tryd.prog 5 #[.slice A n c] w fun e w' => e = .returned (.bool true) ∧ Below w.heap.size w w' := by
  go_enter Tryd.func5, Tryd.ntmps5
  go_wp2_with fail
  refine (alive04_any w ht).mono ?_
  rintro e w1 ⟨rfl, hb1⟩
  have hl1 := hl.later hb1
  have HT1 := hide (ht.later hb1)
  clear hl ht
  by_cases h5 : 2000 < n
  · have h5i : (2000 : Int) < (n : Int) := by omega
    go_wp2
    go_ret
    exact ⟨rfl, hb1⟩
  · have h5i : ¬ (2000 : Int) < (n : Int) := by omega
    have HB1 := hide hb1
    have HLn := hide hl1.1
    clear hb1
    go_wp2_with fail
    refine (pad_any A n c _ l w1 hl1 (Nat.le_refl _) (by omega)).mono ?_
    rintro e w2 ⟨Ap, cp, rfl, ho, hb2⟩
    have HB2 := hide (HB1.out.trans (hb2.mono HB1.out.size))
    have HT2 := hide (HT1.out.later hb2)
    have hl2 := hl1.later hb2
    clear hb2 HB1 hl1 HT1
    have hz : zerosN n = (119 - n % 64) % 64 := rfl
    have hz64 := zerosN_lt n
    have hmod64 : (n + 9 + zerosN n) % 64 = 0 := by omega
    have hplen := padN_length l
    have hhead := pad_head l
    have hsb := fun i (hi : i < 32) => sum_byte l hi
    rw [HLn.out] at hplen hhead
    obtain ⟨g, rfl, hg, hgl, _, hc⟩ := ho.cells (by omega)
    have hcap := ho.cap
    obtain ⟨np, hnp⟩ : ∃ np, np = n + 9 + zerosN n := ⟨_, rfl⟩
    have hn9 : n + 9 ≤ np := by omega
    have hn72 : np ≤ n + 72 := by omega
    rw [← hnp] at hc hmod64 hcap ho hplen ⊢
    obtain ⟨p, hpd⟩ : ∃ p, p = padN l := ⟨_, rfl⟩
    rw [← hpd] at ho hc hplen hhead hsb
    rw [hplen] at hsb
    have hpre : Bytes w2 w2.heap.size (some ⟨g, 0, none⟩) n l := by
      refine ⟨HLn.out, hl2.2.1, fun _ => ⟨g, 0, rfl, hgl, fun i hi => ?_⟩⟩
      rw [Nat.zero_add, hc i (by omega)]
      have e : byteAt p i = byteAt l i := by
        rw [← hhead]
        unfold byteAt
        rw [List.getD_eq_getElem?_getD, List.getD_eq_getElem?_getD, List.getElem?_take, if_pos hi]
      rw [e]
    have hs1 := fun k => run_str_of_bytes (P := Tryd.prog) (c := cp) (hpre.drewN k) Tryd.underlying22 Tryd.underlying5 Tryd.underlying9
    have hs2 := fun k => run_str_of_bytes (P := Tryd.prog) (c := c) (hl2.drewN k) Tryd.underlying22 Tryd.underlying5 Tryd.underlying9
    have hsl := fun W => run_head W g np cp n (by have := hcap.1; omega) (by have := hcap.1; omega)
    have q1 : ((np : Int).tmod 64 != 0) = false := by rw [Int.tmod_eq_emod_of_nonneg (by omega)]; simp; omega
    have q2 : decide (np ≤ n) = false := by simp; omega
    have HO := hide ho; have HPD := hide hpd; have HPL := hide hplen; have HM := hide hmod64; have HSB := hide hsb; have HL2 := hide hl2
    have hcapn := hcap.1
    generalize strOf l = sl at *
    have HC := hide hc
    have HP256 := hide (show ∀ x ∈ p, x < 256 by rw [hpd]; exact padN_lt HL2.out.2.1)
    clear hz hz64 hmod64 hplen hhead hsb hnp hc hcap ho hpd hpre hl2
    go_wp2_with fail
    go_quiet (fail)
    refine post_over (fun W => Below w2.heap.size w2 W) (below_drewN (Below.refl _ _) nq) ?_
    rintro W2 hb20
    have HB20 := hide hb20
    clear hb20 hs1 hs2 hsl q1 q2
    go_wp2_with fail
    refine (rfirst_any W2).mono ?_
    rintro e W3 ⟨rfl, hb3⟩
    have HB3 := hide (HB20.out.trans (hb3.mono HB20.out.size))
    clear hb3 HB20
    go_wp2_with ((with_reducible show wpList _ _ _ (⟨some 4, _, _, _, _, _⟩ :: _) _ _); refine hold ?_)
    refine held (wpList_alloc_to rfl 31 rfl _ zero8 ?_)
    refine wpList_over (fun W => Bk W W3.heap.size 31 (cw (List.replicate 8 0)) ∧ Below w2.heap.size w2 W) ⟨Bk.new W3 _ _, HB3.out.alloc HB3.out.size _⟩ ?_
    obtain ⟨gh, hgh⟩ : ∃ gh, gh = W3.heap.size := ⟨_, rfl⟩
    rw [← hgh]
    have hgh2 : w2.heap.size ≤ gh := by have := HB3.out.size; omega
    clear hgh HB3
    rintro W4 ⟨q1, q2⟩
    refine wpList_store_wide rfl 31 (.tmp 4) (.tmp 38) rfl gh 0 (cw firstL) rfl rfl 31 _ q1 (by simp [cw_size, firstL_length]) (by rw [cw_size]; exact size8) (cw_one _) ?_
    intro W5 h9
    rw [setRow_all (by simp [cw_size, firstL_length])] at h9
    have r1 := hide (h9.out ▸ q1.setRow_same (cw firstL) : Bk W5 gh 31 (cw firstL))
    have r2 := hide (h9.out ▸ below_setRow q2 hgh2 (cw firstL) : Below w2.heap.size w2 W5)
    clear h9 q1 q2
    go_wp2
    go_loopw [5] (fun i wr => ∃ k : Nat, 64 * k ≤ np ∧ i = .int .i64 ((64 * k : Nat) : Int) ∧ Bk wr gh 31 (cw (blocksN p k).list) ∧ Below w2.heap.size w2 wr) (fun i _ => np - (intOf i).toNat)
    case atStart => exact ⟨0, by omega, rfl, by rw [blocksN_zero]; exact r1.out, r2.out⟩
    case round =>
      obtain ⟨k, hk, rfl, b1, hb⟩ := hrel
      by_cases hlt : 64 * k < np
      · have hk1 : 64 * (k + 1) ≤ np := by have := HM.out; omega
        have hok := blocksN_ok p k
        have HS := hide (blocksN_succ p k)
        have HBLL := hide (blockN_length (p := p) (i := k) (by have := HPL.out; omega))
        have HBLT := hide (blockN_lt HP256.out k)
        have HAT : Hid (∀ t, t < 64 → byteAt (blockN p k) t = byteAt p (64 * k + t)) := hide (fun t ht => blockN_at ht)
        obtain ⟨j, hj⟩ : ∃ j, j = 64 * k := ⟨_, rfl⟩
        rw [← hj] at hlt HAT ⊢
        have HJ := hide hj
        have hj64 : j + 64 ≤ np := by omega
        have e1 : IntKind.i64.wrap ((j : Int) + 64) = ((j + 64 : Nat) : Int) := by rw [IntWalk.i64_in _ (by omega)]; omega
        have q1 : (j : Int) < (np : Int) := by omega
        have B1 := hide b1; have HBr := hide hb
        clear b1 hb hj hk1 hk hlt
        generalize blocksN p k = s at *
        obtain ⟨bl, hbl⟩ : ∃ bl, bl = blockN p k := ⟨_, rfl⟩
        rw [← hbl] at HS HBLL HBLT HAT
        clear hbl
        go_wp2_with ((with_reducible show wpList _ _ _ (⟨some 6, _, _, _, _, _⟩ :: _) _ _); refine hold ?_)
        refine held (wpList_alloc_to rfl 32 rfl _ zeroSec ?_)
        refine wpList_over (fun W => Bk W wr.heap.size 32 (cb (List.replicate 64 0)) ∧ Bk W gh 31 (cw s.list) ∧ Below w2.heap.size w2 W) ⟨Bk.new wr _ _, B1.out.alloc _, HBr.out.alloc HBr.out.size _⟩ ?_
        obtain ⟨gb, hgb⟩ : ∃ gb, gb = wr.heap.size := ⟨_, rfl⟩
        have hghb : gh < gb := by have := B1.out.lt; omega
        rw [← hgb]
        clear hgb B1 HBr
        rintro W6 ⟨b1, b2, b3⟩
        have B1 := hide b1; have B2 := hide b2; have B3 := hide b3
        clear b1 b2 b3
        go_wp2
        go_loopw [7] (fun i wr => ∃ t : Nat, t ≤ 64 ∧ i = .int .i64 (t : Int) ∧ Bk wr gb 32 (cb (partL bl t)) ∧ Bk wr gh 31 (cw s.list) ∧ Below w2.heap.size w2 wr) (fun i _ => 64 - (intOf i).toNat)
        case atStart => exact ⟨0, Nat.zero_le _, rfl, by rw [partL_zero, HBLL.out]; exact B1.out, B2.out, B3.out⟩
        case round =>
          obtain ⟨t, ht, rfl, c1, c2, hb⟩ := hrel
          by_cases htl : t < 64
          · obtain ⟨m, hm⟩ : ∃ m, m = j + t := ⟨_, rfl⟩
            have hat := HAT.out t htl
            rw [← hm] at hat
            have hc := (hb.cell (p := ⟨g, m, none⟩) hgl).trans (HC.out m (by omega))
            rw [← hat] at hc
            have hcb := c1.byte (i := t) (by rw [partL_length (by rw [HBLL.out]; omega), HBLL.out]; exact htl)
            have hf := c1.frozen t
            have e2 : (j : Int) + (t : Int) = (m : Int) := by omega
            have e3 : IntKind.i64.wrap (m : Int) = (m : Int) := IntWalk.i64_in _ (by omega)
            have q3 : (m : Int) < (np : Int) := by omega
            have q4 : (t : Int) < 64 := by omega
            have hbyt := partL_set (vals := bl) (k := t) (by rw [HBLL.out]; exact htl) rfl
            have HBY := hide hbyt
            have HM2 := hide hm
            generalize byteAt bl t = x at *
            generalize byteAt (partL bl t) t = y at *
            have C1 := hide c1; have C2 := hide c2; have C3 := hide hb
            clear c1 c2 hb hat hm hbyt
            go_wp2
            go_roundw
            case rel => exact ⟨t + 1, by omega, by go_num, by rw [← HBY.out]; exact C1.out.putb _ _ rfl, C2.out.far (by show gh ≠ gb; omega) _, C3.out.setCell (by show w2.heap.size ≤ gb; omega) _⟩
            case measure => simp [intOf]; omega
          · have ht64 : t = bl.length := by rw [HBLL.out]; omega
            have htn : ¬ (t : Int) < 64 := by omega
            rw [ht64, partL_all] at c1
            have C1 := hide c1; have C2 := hide c2; have C3 := hide hb
            clear c1 c2 hb ht64 htl ht
            go_wp2_with ((with_reducible show wpList _ _ _ (⟨some 57, _, _, _, _, _⟩ :: _) _ _); refine hold ?_)
            refine held (wpList_load_mid rfl 31 (.tmp 4) rfl gh 0 rfl _ _ C2.out.range Tryd.underlying31 rfl (by rw [Array.length_toList, cw_size]; exact size8) ?_)
            refine wpList_load_mid rfl 32 (.tmp 6) rfl gb 0 rfl _ _ C1.out.range Tryd.underlying32 rfl (by rw [Array.length_toList, cb_size, HBLL.out]; exact sizeSec) ?_
            rw [Array.toArray_toList, Array.toArray_toList]
            go_wp2_with fail
            refine (step_any s bl wr hok HBLL.out HBLT.out (HT2.out.later C3.out)).mono ?_
            rintro e W7 ⟨rfl, hb7⟩
            have E1 := hide (C2.out.below hb7 C2.out.lt); have E3 := hide (C3.out.trans (hb7.mono C3.out.size))
            clear C1 C2 C3 hb7
            rw [← HS.out]
            generalize hs2 : blocksN p (k + 1) = s2 at *
            have HS2 := hide hs2
            clear hs2 HS
            go_wp2_with ((with_reducible show wpList _ _ _ (⟨none, .store _ _ _, _, _, _, _⟩ :: _) _ _); refine hold ?_)
            refine held (wpList_store_wide rfl 31 (.tmp 4) (.tmp 59) rfl gh 0 (cw s2.list) rfl rfl 31 _ E1.out (by simp [cw_size, Wd.list]) (by rw [cw_size]; exact size8) (cw_one _) ?_)
            intro W8 h8
            rw [setRow_all (by simp [cw_size, Wd.list])] at h8
            have F1 := hide (h8.out ▸ E1.out.setRow_same (cw s2.list) : Bk W8 gh 31 (cw s2.list))
            have F3 := hide (h8.out ▸ below_setRow E3.out hgh2 (cw s2.list) : Below w2.heap.size w2 W8)
            clear h8 E1 E3
            go_wp2
            go_roundw
            case rel => exact ⟨k + 1, by have := HJ.out; omega, by have := HJ.out; go_num, by rw [HS2.out]; exact F1.out, F3.out⟩
            case measure => simp [intOf]; omega
      · have hkn : k = np / 64 := by have := HM.out; omega
        have hsb := HSB.out
        rw [← hkn] at hsb
        have hki : ¬ ((64 * k : Nat) : Int) < (np : Int) := by omega
        have hw := wd_w32 (blocksN_ok p k)
        obtain ⟨j, hj⟩ : ∃ j, j = 64 * k := ⟨_, rfl⟩
        rw [← hj] at hki ⊢
        generalize blocksN p k = s at *
        have B1 := hide b1; have B3 := hide hb; have HSB2 := hide hsb; have HW := hide hw
        clear b1 hb hsb hw hkn hj hlt hk
        go_wp2_with fail
        refine (sum_any A n c w2.heap.size l wr (HL2.out.below B3.out (Nat.le_refl _)) B3.out.size (by omega) (HT2.out.later B3.out)).mono ?_
        rintro e W9 ⟨rfl, hb9⟩
        have E1 := hide (B1.out.below hb9 B1.out.lt); have E3 := hide (B3.out.trans (hb9.mono B3.out.size))
        clear B1 B3 hb9
        go_wp2_with ((with_reducible show wpList _ _ _ (⟨some 8, _, _, _, _, _⟩ :: _) _ _); refine hold ?_)
        refine held (wpList_alloc_to rfl 24 rfl _ zero32 ?_)
        refine wpList_over (fun W => Bk W W9.heap.size 24 (cb (List.replicate 32 0)) ∧ Bk W gh 31 (cw s.list) ∧ Below w2.heap.size w2 W) ⟨Bk.new W9 _ _, E1.out.alloc _, E3.out.alloc E3.out.size _⟩ ?_
        obtain ⟨gs, hgs⟩ : ∃ gs, gs = W9.heap.size := ⟨_, rfl⟩
        have hghs : gh < gs := by have := E1.out.lt; omega
        rw [← hgs]
        clear hgs E1 E3
        rintro W10 ⟨b1, b2, b3⟩
        refine wpList_store_wide rfl 24 (.tmp 8) (.tmp 61) rfl gs 0 (cb (sumB l)) rfl rfl 24 _ b1 (by rw [cb_size, cb_size, sumB_length]; simp) (by rw [cb_size, sumB_length]; exact size32) (cb_one _) ?_
        intro W11 h11
        rw [setRow_all (by rw [cb_size, cb_size, sumB_length]; simp)] at h11
        have F1 := hide (h11.out ▸ b1.setRow_same (cb (sumB l)) : Bk W11 gs 24 (cb (sumB l)))
        have F2 := hide (h11.out ▸ b2.setRow_other (by omega) (cb (sumB l)) : Bk W11 gh 31 (cw s.list))
        have F3 := hide (h11.out ▸ below_setRow b3 (by omega) (cb (sumB l)) : Below w2.heap.size w2 W11)
        clear h11 b1 b2 b3
        have HSL := hide (sumB_length l)
        generalize sumB l = sm at *
        go_wp2
        go_loopw [9] (fun i wr => ∃ t : Nat, t ≤ 32 ∧ i = .int .i64 (t : Int) ∧ Bk wr gs 24 (cb sm) ∧ Bk wr gh 31 (cw s.list) ∧ Below w2.heap.size w2 wr) (fun i _ => 32 - (intOf i).toNat)
        case atStart => exact ⟨0, Nat.zero_le _, rfl, F1.out, F2.out, F3.out⟩
        case round =>
          obtain ⟨t, ht, rfl, c1, c2, hb⟩ := hrel
          by_cases htl : t < 32
          · have q5 : (t : Int) < 32 := by omega
            have hx := c1.byte (i := t) (by rw [HSL.out]; exact htl)
            rw [HSB2.out t htl] at hx
            have hdm : t / 4 < 8 := by omega
            have hy := c2.word (i := t / 4) (by simp [Wd.list]; omega)
            have hyl := byteAt_w32 HW.out (t / 4)
            generalize byteAt s.list (t / 4) = y at *
            obtain ⟨d, m, hd, hm, hm4, hd4⟩ : ∃ d m, d = t / 4 ∧ m = t % 4 ∧ m < 4 ∧ t = 4 * d + m := ⟨_, _, rfl, rfl, by omega, by omega⟩
            rw [← hm] at hx
            rw [← hd] at hy
            rw [← hd] at hdm
            have d1 : (t : Int).tdiv 4 = (d : Int) := by rw [Int.tdiv_eq_ediv_of_nonneg (by omega)]; omega
            have d2 : (t : Int).tmod 4 = (m : Int) := by rw [Int.tmod_eq_emod_of_nonneg (by omega)]; omega
            have d3 : (d : Int) < 8 := by omega
            have C1 := hide c1; have C2 := hide c2; have C3 := hide hb; have HD4 := hide hd4
            clear c1 c2 hb hd hm hd4
            go_wp2_with fail
            match m, hm4 with
            | 0, _ =>
              have qb : ((y : Int) / 16777216 % 256 != (y : Int) / 16777216) = false := by simp; omega
              go_quiet (fail)
              go_wp2
              go_roundw
              case rel => exact ⟨t + 1, by omega, by go_num, C1.out.drewN _, C2.out.drewN _, below_drewN C3.out _⟩
              case measure => simp [intOf]; omega
            | 1, _ =>
              go_quiet (fail)
              go_wp2
              go_roundw
              case rel => exact ⟨t + 1, by omega, by go_num, C1.out.drewN _, C2.out.drewN _, below_drewN C3.out _⟩
              case measure => simp [intOf]; omega
            | 2, _ =>
              go_quiet (fail)
              go_wp2
              go_roundw
              case rel => exact ⟨t + 1, by omega, by go_num, C1.out.drewN _, C2.out.drewN _, below_drewN C3.out _⟩
              case measure => simp [intOf]; omega
            | 3, _ =>
              go_quiet (fail)
              go_wp2
              go_roundw
              case rel => exact ⟨t + 1, by omega, by go_num, C1.out.drewN _, C2.out.drewN _, below_drewN C3.out _⟩
              case measure => simp [intOf]; omega
          · have htn : ¬ (t : Int) < 32 := by omega
            have C3 := hide hb
            clear c1 c2 hb
            go_wp2
            go_ret
            exact ⟨rfl, (C3.out.mono HB2.out.size |> HB2.out.trans)⟩
end Go.Proofs.YtihpfkkbnbjboaaDoor
