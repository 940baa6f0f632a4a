/-
  Contracts over package wal: the pen puts a record's bytes, sector by sector.
-/
import Derived.Test.YtofbpkaebngnlaaDoorQWalSmall
import Derived.Test.YtofbpkaebngnlaaDoorQPackWalksA
import Derived.Laws.CopyOwn
namespace Go.Proofs.YtofbpkaebngnlaaDoor
set_option linter.unusedVariables false
set_option linter.unusedSimpArgs false
set_option linter.unusedVariables false
set_option linter.unusedSimpArgs false
open Go.RowKit

theorem secv_bv (l : List Nat) : secv (secN l) = l.map bv := by
  unfold secv secN
  rw [List.map_map]
  rfl
theorem cells_zsec : (secv zsec).toArray = (List.replicate 64 (Value.int .u8 0)).toArray := rfl
theorem splice_pad {l : List Nat} (h : l.length ≤ 64) : splice (secv zsec) 0 (l.map bv) = secv (secN (padB l)) := by
  rw [secv_bv, padB, List.map_append, List.map_replicate]
  unfold splice
  have e : secv zsec = List.replicate 64 (Value.int .u8 0) := rfl
  rw [List.length_map, Nat.zero_add, e, List.take_zero, List.nil_append, List.drop_replicate]
  rfl
theorem range_chunks (l : List Nat) (i : Nat) : (List.range (i + 1)).map (chunkL l) = (List.range i).map (chunkL l) ++ [chunkL l i] := by
  rw [List.range_succ, List.map_append]; rfl
theorem piece_take (l : List Nat) (i : Nat) : pieceB l i = (l.drop (64 * i)).take 64 := rfl

section
variable {P : Program}
/-- b[k:] -/
theorem wpList_slice_from {ops : Array Oper} {rest : List Oper} {o : Oper} {a : Act} {w : World} {Q : Exit → Act → World → Prop} (hgd : o.guard = none) (x lo : Operand) (t e : TypeId)
    (ho : o.op = .slice t x (some lo) none none) (ht : P.underlying t = some (.slice e)) (hsz : (P.info? e).map (·.size) = some 1)
    (A : Option Addr) (n c k B : Nat) (l : List Nat) (hx : a.eval x = .slice A n c) (hlo : a.eval lo = .int .i64 (k : Int)) (hl : Bytes w B A n l) (hk : k ≤ n) (hnc : n ≤ c)
    (h : ∀ A' c', n - k ≤ c' → c' ≤ c → Bytes w B A' (n - k) (l.drop k) → wpList P ops Q rest (a.put o.dst (.slice A' (n - k) c')) w) : wpList P ops Q (o :: rest) a w :=
  wpList_plain hgd fun _ hK => by
    have hel : P.elem t = e := by simp [Program.elem, ht]
    have ht' : P.underlying t = some (.slice (P.elem t)) := by rw [hel]; exact ht
    have hs : ∀ W : World, (sizeOf (P.elem t)).run P W = .ok 1 W := by
      intro W
      rw [hel]
      cases hq : P.info? e with
      | none => simp [hq] at hsz
      | some i =>
        have : i.size = 1 := by simpa [hq] using hsz
        simp [sizeOf, hq, this, go_sem, run_typeInfo _ hq]
    have hrun : (Instr.sliceAt t (.slice A n c) (some (.int .i64 (k : Int))) none none).run P w = .ok (.slice (if c = k then A else A.map (·.add k)) (n - k) (c - k)) w := by
      rw [run_sliceAt_slice w t _ _ _ _ ht', run_slice_l w t A n c ht' .i64 (k : Int) (by omega) (by omega), hs]
      simp only [Result.andThen_ok, sliced, Int.toNat_natCast, Nat.mul_one]
    have hB := hl.rest hk
    have hB' : Bytes w B (if c = k then A else A.map (·.add k)) (n - k) (l.drop k) := by
      by_cases hck : c = k
      · have h0 : n - k = 0 := by omega
        rw [h0] at hB ⊢
        exact ⟨hB.1, hB.2.1, fun h => absurd h (Nat.lt_irrefl _)⟩
      · rw [if_neg hck]; exact hB
    refine wp_value (v := .slice (if c = k then A else A.map (·.add k)) (n - k) (c - k)) (w' := w) ?_ (hK _ _ (h _ _ (by omega) (by omega) hB'))
    unfold execOp
    simp [ho, hx, hlo, hrun]
end
theorem size_u8 : (Tryd.prog.info? 5).map (·.size) = some 1 := by kernel_rfl
theorem run_puts_ok {d : Dk} {a i : Nat} {f : Nat → List Int} (h : (runM d (putsD a ((List.range i).map f))).2 = 0) :
    runM d (putsD a ((List.range (i + 1)).map f)) = putM (runM d (putsD a ((List.range i).map f))).1 ((a + i : Nat) : Int) (f i) := by
  rw [List.range_succ, List.map_append, List.map_singleton, putsD_snoc, runM_ok h, List.length_map, List.length_range, runM_one]
  rfl
theorem run_puts_bad {d : Dk} {a i m : Nat} {f : Nat → List Int} (hi : i ≤ m) (h : (runM d (putsD a ((List.range i).map f))).2 ≠ 0) :
    runM d (putsD a ((List.range m).map f)) = runM d (putsD a ((List.range i).map f)) := by
  obtain ⟨k, rfl⟩ : ∃ k, m = i + k := ⟨m - i, by omega⟩
  rw [List.range_add, List.map_append, putsD_append, runM_bad h]

/-- what holds at the head of a round -/
def PbRel (g : Nat) (d : Dk) (a n c : Nat) (l : List Nat) (w : World) (x y : Value) (wr : World) : Prop :=
  ∃ (i m : Nat) (A' : Option Addr) (c' : Nat), m = n - 64 * i ∧ i ≤ nck n ∧ x = .int .i64 ((a + i : Nat) : Int) ∧ y = .slice A' m c' ∧ m ≤ c' ∧ c' ≤ c ∧ Bytes wr g A' m (l.drop (64 * i)) ∧
    (runM d (putsD a ((List.range i).map (chunkL l)))).2 = 0 ∧ PenIs wr g (runM d (putsD a ((List.range i).map (chunkL l)))).1 ∧ w.grownBy wr (some g)

set_option maxRecDepth 20000 in
set_option maxHeartbeats 4000000 in
theorem putBytes_any (g : Nat) (d : Dk) (a : Nat) (A : Option Addr) (n c : Nat) (l : List Nat) (w : World) (hp : PenIs w g d) (hl : Bytes w g A n l) (hnc : n ≤ c) (hc : c ≤ maxLen) (hn : n ≤ 6000) (ha : a ≤ 1000000) :
    Calls Tryd.prog 26 #[.pointer (some ⟨g, 0, none⟩), .int .i64 (a : Int), .slice A n c] w (PenRes g (runM d (putsD a (bodyL l))) w) := by
  have hlen := hl.1
  have hbody : bodyL l = (List.range (nck n)).map (chunkL l) := by rw [← hlen]; rfl
  rw [hbody]
  have HLEN := Lib.hid hlen
  have hgl := hp.lt
  unfold maxLen at hc
  have hck : nck n ≤ 95 := by unfold nck; omega
  have HST : Hid (PbRel g d a n c l w (.int .i64 (a : Int)) (.slice A n c) w) := Lib.hid ⟨0, n, A, c, by omega, Nat.zero_le _, rfl, rfl, hnc, Nat.le_refl _, by simpa using hl, rfl, hp, World.grownBy.refl _ _⟩
  clear hbody hlen hl hp
  go_enter Tryd.func26, Tryd.ntmps26
  go_wp2_with fail
  go_loopw [1, 2] (fun x y wr => PbRel g d a n c l w x y wr) (fun x _ _ => a + 100 - (intOf x).toNat)
  case atStart => exact HST.out
  case round =>
    obtain ⟨i, m, A', c', hm, hi, rfl, rfl, hmc, hcc, hby, hrun, hpen, hgr⟩ := hrel
    clear HST
    have HM := Lib.hid hm
    clear hm
    by_cases hlt : 0 < m
    · have hlti : (0 : Int) < (m : Int) := by omega
      have hin : i < nck n := by have := HM.out; unfold nck; omega
      obtain ⟨k, hk⟩ : ∃ k, k = min 64 m := ⟨_, rfl⟩
      have hk64 : k ≤ 64 := by omega
      have hkm : k ≤ m := by omega
      have hkp : 0 < k := by omega
      have HK := Lib.hid hk
      clear hk
      have HR := Lib.hid hrun
      have HP := Lib.hid hpen
      have HG := Lib.hid hgr
      have HB := Lib.hid hby
      clear hrun hpen hgr hby
      go_wp2_with ((with_reducible show wpList _ _ _ (⟨_, .alloc 58, _, _, _, _⟩ :: _) _ _); refine hold ?_)
      refine held (wpList_alloc_to rfl 58 rfl (secv zsec).toArray (by kernel_rfl) ?_)
      have hb1 : Below wr.heap.size wr (wr.alloc (.cells (secv zsec).toArray 58)) := (Below.refl _ _).alloc (Nat.le_refl _) _
      have HBX := Lib.hid (Bk.new wr 58 (secv zsec).toArray)
      have HP1 := Lib.hid (HP.out.below hb1)
      have HB1 := Lib.hid (HB.out.below hb1 (Nat.le_of_lt HP.out.lt))
      have hgw := HP.out.lt
      go_wp2_with ((with_reducible show wpList _ _ _ (⟨some 13, _, _, _, _, _⟩ :: _) _ _); refine hold ?_)
      have hpl : (pieceB l i).length = k := by rw [pieceB_length, HK.out, HM.out, HLEN.out]
      refine held (wpList_copy_splice rfl (.tmp 11) (.tmp 12) 32 32 rfl 5 Tryd.underlying32 size_u8 (some ⟨wr.heap.size, 0, none⟩) A' 64 64 m c' rfl rfl wr.heap.size 0 (secv zsec) 58 HBX.out ((pieceB l i).map bv) ?hn ?hpos ?hfit (bv_one _) wr.heap.size wr hb1 (Nat.le_refl _) ?_)
      case hn => rw [List.length_map, hpl, HK.out]; exact Nat.min_comm _ _
      case hfit => rw [List.length_map, hpl, secv_length]; simp [zsec]; omega
      case hpos =>
        intro _
        refine ⟨rfl, ?_⟩
        obtain ⟨b, o, e, hbB, hcell⟩ := HB1.out.2.2 hlt
        refine ⟨_, e, fun j v hv => ?_⟩
        have hj : j < k := by
          have := (List.getElem?_eq_some_iff.1 hv).1
          rw [List.length_map, hpl] at this
          exact this
        rw [Addr.add_mid, hcell j (by omega)]
        have e2 : ((pieceB l i).map bv)[j]? = some (bv (byteAt (l.drop (64 * i)) j)) := by
          rw [List.getElem?_map, pieceB, List.getElem?_take, if_pos (by omega)]
          unfold byteAt
          rw [List.getD_eq_getElem?_getD, List.getElem?_eq_getElem (by rw [List.length_drop, HLEN.out]; have := HM.out; omega)]
          rfl
        rw [e2] at hv
        exact hv
      intro w2 hx2 hb2
      rw [List.length_map, hpl]
      have HX2 : Hid (Bk w2 wr.heap.size 58 (secv (chunkL l i)).toArray) := Lib.hid (by
        have := hx2.out
        rw [splice_pad (by rw [hpl]; exact hk64)] at this
        exact this)
      have HP2 := Lib.hid (HP.out.below hb2)
      have HB2 := Lib.hid (HB.out.below hb2 (Nat.le_of_lt HP.out.lt))
      have HG2 := Lib.hid (grownBy_trans HG.out (grown_of_below hb2 (some g)))
      have hlt2 := HX2.out.lt
      clear HBX hb1 HP1 HB1 hx2 hb2 HB HP HG
      have hgk : goInt k = .int .i64 (k : Int) := rfl
      rw [hgk]
      clear hgk
      go_wp2_with ((with_reducible show wpList _ _ _ (⟨some 14, _, _, _, _, _⟩ :: _) _ _); refine hold ?_)
      refine held (wpList_slice_from rfl (.tmp 10) (.tmp 13) 32 5 rfl Tryd.underlying32 size_u8 A' m c' k g (l.drop (64 * i)) rfl rfl HB2.out hkm hmc ?_)
      intro A2 c2 hm2 hc2 hby2
      have HB3 := Lib.hid hby2
      clear hby2 HB2
      go_wp2_with ((with_reducible show wpList _ _ _ (⟨some 17, _, _, _, _, _⟩ :: _) _ _); refine hold ?_)
      refine held (wpList_load_mid rfl 58 (.tmp 6) rfl wr.heap.size 0 rfl (secv (chunkL l i)) (.array 64 5) (fun j v hv => by rw [Nat.zero_add, HX2.out.cell]; simpa using hv) Tryd.underlying58 rfl (by rw [secv_length, chunkL_length]; exact size_sec) ?_)
      go_wp2_with fail
      refine (pput_any g _ ((a : Int) + (i : Int)) (chunkL l i) w2 HP2.out (chunkL_length l i)).mono ?_
      rintro e w3 ⟨he, hp3, hg3⟩
      have hcast : ((a + i : Nat) : Int) = (a : Int) + (i : Int) := by omega
      have hnext := run_puts_ok (a := a) HR.out
      rw [hcast] at hnext
      have HG3 := Lib.hid (grownBy_trans HG2.out hg3)
      have hB4 : Bytes w3 g A2 (m - k) (l.drop (64 * i + k)) := by
        have := HB3.out.below (Below.of_grown (B := g) hg3 (Nat.le_refl _) (Nat.le_of_lt HP2.out.lt)) (Nat.le_refl _)
        rw [List.drop_drop] at this
        exact this
      rw [← hnext] at he hp3
      by_cases h0 : (runM d (putsD a ((List.range (i + 1)).map (chunkL l)))).2 = 0
      · rw [penE_ok h0] at he
        subst he
        have HREL : Hid (PbRel g d a n c l w (.int .i64 ((a : Int) + (i : Int) + 1)) (.slice A2 (m - k) c2) w3) := by
          have e3 : 64 * (i + 1) = 64 * i + k ∨ l.drop (64 * (i + 1)) = l.drop (64 * i + k) := by
            by_cases h64 : k = 64
            · left; omega
            · right
              have := HK.out; have := HM.out
              rw [List.drop_eq_nil_of_le (by rw [HLEN.out]; omega), List.drop_eq_nil_of_le (by rw [HLEN.out]; omega)]
          have e4 : l.drop (64 * (i + 1)) = l.drop (64 * i + k) := by
            rcases e3 with h | h
            · rw [h]
            · exact h
          refine Lib.hid ⟨i + 1, m - k, A2, c2, by have := HK.out; have := HM.out; omega, hin, by first | (congr 1; omega) | congr 1, rfl, hm2, by omega, by rw [e4]; exact hB4, h0, hp3, HG3.out⟩
        clear hp3 hg3 hnext hcast hB4 h0 HX2 HP2 HG2 HB3
        go_wp2
        go_roundw
        case rel => exact HREL.out
        case measure => simp [intOf]; omega
      · rw [penE_bad h0] at he
        subst he
        have hall := run_puts_bad (m := nck n) (a := a) (d := d) (f := chunkL l) hin h0
        clear hnext
        generalize runM d (putsD a ((List.range (i + 1)).map (chunkL l))) = X at *
        have HALL := Lib.hid hall
        clear hall
        have HP3 := Lib.hid hp3
        have HB0 := Lib.hid h0
        clear hp3 hg3 hcast hB4 h0
        go_wp2
        rw [HALL.out]
        exact ⟨rfl, (penE_bad HB0.out).symm, HP3.out, HG3.out⟩
    · have hin : i = nck n := by have := HM.out; unfold nck at hi ⊢; omega
      have hlti : ¬ (0 : Int) < (m : Int) := by omega
      have HI := Lib.hid hin
      have HR := Lib.hid hrun
      have HP := Lib.hid hpen
      have HG := Lib.hid hgr
      clear hrun hpen hgr hby hin
      go_wp2
      go_end0
      rw [← HI.out]
      exact ⟨(penE_ok HR.out).symm, HP.out, HG.out⟩
theorem putBytes_at (g : Nat) (d : Dk) (a : Nat) (z : Int) (hz : z = (a : Int)) (A : Option Addr) (n c : Nat) (l : List Nat) (w : World) (hp : PenIs w g d) (hl : Bytes w g A n l) (hnc : n ≤ c) (hc : c ≤ maxLen) (hn : n ≤ 6000) (ha : a ≤ 1000000) :
    Calls Tryd.prog 26 #[.pointer (some ⟨g, 0, none⟩), .int .i64 z, .slice A n c] w (PenRes g (runM d (putsD a (bodyL l))) w) := by
  subst hz
  exact putBytes_any g d a A n c l w hp hl hnc hc hn ha
end Go.Proofs.YtofbpkaebngnlaaDoor
