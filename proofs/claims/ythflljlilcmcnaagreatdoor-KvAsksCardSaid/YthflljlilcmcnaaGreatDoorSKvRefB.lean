/-
  A part of the proof: see the last text.
-/
import Derived.Test.YthflljlilcmcnaaGreatDoorSKvTrans
import Derived.Test.YthflljlilcmcnaaGreatDoorSKvGet
import Derived.Deep.RegionHeld
namespace Go.Proofs.YthflljlilcmcnaaGreatDoor
set_option linter.unusedVariables false
set_option linter.unusedSimpArgs false
open Go.RowKit
set_option linter.unusedVariables false
set_option linter.unusedSimpArgs false
theorem nums_one (z : Int) : encB 8 (clampB z) = numsB [z] := by simp [numsB]
theorem texts_one (s : ByteArray) : textB (nats s) = textsB ([s].map nats) := by simp [textsB]
theorem texts_two (s t : ByteArray) : textsB ([s].map nats) ++ textsB ([t].map nats) = textsB ([s, t].map nats) := by simp [textsB]
theorem textB_le2 (s : ByteArray) : (textB (nats s)).length ≤ 4100 := by
  rw [textB_cut, List.length_append, encB_length, nats_length, cutS_size]; omega
theorem lay_gone (X : List Nat) (ck cv : ByteArray) : X ++ encB 8 (clampB 1) ++ textB (nats ck) = X ++ chgN (ck, cv, true) := by rw [chg_true, nums_one, texts_one, List.append_assoc]
theorem lay_put (X : List Nat) (ck cv : ByteArray) : X ++ encB 8 (clampB 0) ++ textB (nats ck) ++ textB (nats cv) = X ++ chgN (ck, cv, false) := by rw [chg_false, nums_one, texts_one, texts_one, List.append_assoc, List.append_assoc, texts_two]
theorem len_gone (m : Nat) (ck cv : ByteArray) : m + 8 + (textB (nats ck)).length = m + (chgN (ck, cv, true)).length := by
  have := congrArg List.length (lay_gone [] ck cv)
  simp only [List.nil_append, List.length_append, encB_length] at this
  omega
theorem len_put (m : Nat) (ck cv : ByteArray) : m + 8 + (textB (nats ck)).length + (textB (nats cv)).length = m + (chgN (ck, cv, false)).length := by
  have := congrArg List.length (lay_put [] ck cv)
  simp only [List.nil_append, List.length_append, encB_length] at this
  omega
set_option maxRecDepth 20000 in
set_option maxHeartbeats 8000000 in
theorem x6bytes_any (A : Option Addr) (n c : Nat) (l : List Chg) (w : World) (hl : ColK 3 chgC w w.heap.size A n l) (hs : ∀ x ∈ l, x.1.size ≤ 140737488355328 ∧ x.2.1.size ≤ 140737488355328) (hn : n ≤ 10000) :
    Calls Tryz.prog 34 #[.slice A n c] w fun e w' => ∃ m, m ≤ 8 + 8208 * n ∧ Made w.heap.size w m (transN l) e w' := by
  have HL := Lib.hid hl
  have HS := Lib.hid hs
  have HLN := Lib.hid hl.1
  have hm : Tryz.prog.follows .mixedOrders = true := by kernel_rfl
  have HNUM := Lib.hid (rnum_any none 0 0 (n : Int) [] w Bytes.nil (by omega))
  clear hl hs
  go_enter Tryz.func34, Tryz.ntmps34
  go_wp2_with fail
  refine HNUM.out.mono ?_
  rintro e w1 ⟨A1, c1, rfl, ho1, hb1⟩
  have HB1 := Lib.hid hb1
  have HO1 : Hid (OwnB w1 w.heap.size 5 A1 8 c1 (numsB [(n : Int)])) := Lib.hid (by rw [← nums_one]; simpa using ho1)
  clear ho1 hb1 HNUM
  go_wp2_with fail
  go_loopw [3, 4] (fun o i wx => ∃ (k m : Nat) (A2 : Option Addr) (c2 : Nat), k ≤ n ∧ i = .int .i64 (k : Int) ∧ o = .slice A2 m c2 ∧ m ≤ 8 + 8208 * k ∧ OwnB wx w.heap.size 5 A2 m c2 (numsB [(n : Int)] ++ ((l.take k).map chgN).flatten) ∧ Below w.heap.size w wx) (fun _ i _ => n - (intOf i).toNat)
  case atStart => exact ⟨0, 8, A1, c1, Nat.zero_le _, rfl, rfl, by omega, by have := HO1.out; simpa using this, HB1.out⟩
  case round =>
    obtain ⟨k, m, A2, c2, hk, rfl, rfl, hm8, ho, hb⟩ := hrel
    have HB := Lib.hid hb
    have HO := Lib.hid ho
    clear hb ho HO1 HB1
    by_cases hlt : k < n
    · obtain ⟨b, o, a, rfl, hbb, hla, htk, hrow⟩ := (HL.out.below HB.out (Nat.le_refl _)).at_ hlt
      obtain ⟨hsz1, hsz2⟩ := HS.out a (List.mem_of_getElem? hla)
      have HSN := Lib.hid (chgs_snoc htk)
      obtain ⟨ck, cv, cg⟩ := a
      simp only at hsz1 hsz2
      have r0 := hrow 0 _ rfl
      have r1 := hrow 1 _ rfl
      have r2 := hrow 2 _ rfl
      rw [Nat.add_zero] at r0
      have hk0 : (0 : Int) ≤ (k : Int) := by omega
      have hkn : (k : Int) < (n : Int) := by omega
      have hbr : b < wr.heap.size := Nat.lt_of_lt_of_le hbb HB.out.size
      have hm9 : m ≤ 90000000 := by omega
      have hmul : 8 + 8208 * (k + 1) = 8 + 8208 * k + 8208 := by omega
      have hcl := chgN_len (ck, cv, cg)
      clear hla htk hrow
      cases cg
      · have HCH : Hid (chgN (ck, cv, false) = numsB [0] ++ textsB ([ck, cv].map nats)) := Lib.hid (chg_false ck cv)
        go_wp2_with fail
        refine wp_region_held_drew (S := fun W' => Below wr.heap.size wr W') hm (Below.refl wr.heap.size wr).drew (fun hHeld => ?_)
        generalize hW0 : wr.drew = W at *
        clear hW0
        simp only [List.size_toArray, List.length_cons, List.length_nil, Nat.reduceAdd]
        refine wpAnyH_take (i := 0) (v := .slice A2 m c2) rfl (by kernel_rfl) (by kernel_rfl) (by kernel_rfl) (fun _ _ _ h => h) (Or.inl ⟨by rfl, fun w0 hC => by simp [execOp, Act.eval, Act.put, go_sem]⟩) hHeld ?_
        try simp only [Act.put, List.setIfInBounds_toArray, List.set_cons_zero, List.set_cons_succ]
        refine wpAnyH_take (i := 2) (v := .slice (some ⟨b, o, none⟩) n c) rfl (by kernel_rfl) (by kernel_rfl) (by kernel_rfl) (fun _ _ _ h => h) (Or.inl ⟨by rfl, fun w0 hC => by simp [execOp, Act.eval, Act.put, go_sem]⟩) hHeld ?_
        try simp only [Act.put, List.setIfInBounds_toArray, List.set_cons_zero, List.set_cons_succ]
        refine wpAnyH_take (i := 3) (v := .int .i64 (k : Int)) rfl (by kernel_rfl) (by kernel_rfl) (by kernel_rfl) (fun _ _ _ h => h) (Or.inl ⟨by rfl, fun w0 hC => by simp [execOp, Act.eval, Act.put, go_sem]⟩) hHeld ?_
        try simp only [Act.put, List.setIfInBounds_toArray, List.set_cons_zero, List.set_cons_succ]
        refine wpAnyH_take (i := 4) (v := .pointer (some ⟨b, o + k * 3, none⟩)) rfl (by kernel_rfl) (by kernel_rfl) (by kernel_rfl) (fun _ _ _ h => h) (Or.inl ⟨by rfl, fun w0 hC => by simp [execOp, Act.eval, Act.put, go_sem, hk0, hkn, hlt]⟩) hHeld ?_
        try simp only [Act.put, List.setIfInBounds_toArray, List.set_cons_zero, List.set_cons_succ]
        refine wpAnyH_take (i := 5) (v := .pointer (some ⟨b, o + k * 3, none⟩)) rfl (by kernel_rfl) (by kernel_rfl) (by kernel_rfl) (fun _ _ _ h => h) (Or.inl ⟨by rfl, fun w0 hC => by simp [execOp, Act.eval, Act.put, go_sem]⟩) hHeld ?_
        try simp only [Act.put, List.setIfInBounds_toArray, List.set_cons_zero, List.set_cons_succ]
        refine wpAnyH_take (i := 6) (v := .string ck) rfl (by kernel_rfl) (by kernel_rfl) (by kernel_rfl) (fun _ _ _ h => h) (Or.inl ⟨by rfl, fun w0 hC => by simp [execOp, Act.eval, Act.put, go_sem, (hC.cell (p := ⟨b, o + k * 3, none⟩) hbr).trans r0]⟩) hHeld ?_
        try simp only [Act.put, List.setIfInBounds_toArray, List.set_cons_zero, List.set_cons_succ]
        refine wpAnyH_take (i := 8) (v := .slice (some ⟨b, o, none⟩) n c) rfl (by kernel_rfl) (by kernel_rfl) (by kernel_rfl) (fun _ _ _ h => h) (Or.inl ⟨by rfl, fun w0 hC => by simp [execOp, Act.eval, Act.put, go_sem]⟩) hHeld ?_
        try simp only [Act.put, List.setIfInBounds_toArray, List.set_cons_zero, List.set_cons_succ]
        refine wpAnyH_take (i := 9) (v := .int .i64 (k : Int)) rfl (by kernel_rfl) (by kernel_rfl) (by kernel_rfl) (fun _ _ _ h => h) (Or.inl ⟨by rfl, fun w0 hC => by simp [execOp, Act.eval, Act.put, go_sem]⟩) hHeld ?_
        try simp only [Act.put, List.setIfInBounds_toArray, List.set_cons_zero, List.set_cons_succ]
        refine wpAnyH_take (i := 10) (v := .pointer (some ⟨b, o + k * 3, none⟩)) rfl (by kernel_rfl) (by kernel_rfl) (by kernel_rfl) (fun _ _ _ h => h) (Or.inl ⟨by rfl, fun w0 hC => by simp [execOp, Act.eval, Act.put, go_sem, hk0, hkn, hlt]⟩) hHeld ?_
        try simp only [Act.put, List.setIfInBounds_toArray, List.set_cons_zero, List.set_cons_succ]
        refine wpAnyH_take (i := 11) (v := .pointer (some ⟨b, o + k * 3 + 1, none⟩)) rfl (by kernel_rfl) (by kernel_rfl) (by kernel_rfl) (fun _ _ _ h => h) (Or.inl ⟨by rfl, fun w0 hC => by simp [execOp, Act.eval, Act.put, go_sem]⟩) hHeld ?_
        try simp only [Act.put, List.setIfInBounds_toArray, List.set_cons_zero, List.set_cons_succ]
        refine wpAnyH_take (i := 12) (v := .string cv) rfl (by kernel_rfl) (by kernel_rfl) (by kernel_rfl) (fun _ _ _ h => h) (Or.inl ⟨by rfl, fun w0 hC => by simp [execOp, Act.eval, Act.put, go_sem, (hC.cell (p := ⟨b, o + k * 3 + 1, none⟩) hbr).trans r1]⟩) hHeld ?_
        try simp only [Act.put, List.setIfInBounds_toArray, List.set_cons_zero, List.set_cons_succ]
        refine wpAnyH_ready (rs := [1]) (by kernel_rfl) (by simp) (AllReadyH.cons rfl (fun K hK => ?_) AllReadyH.nil)
        rw [if_pos (by rfl)]
        go_wp2_with fail
        refine (rnum_any A2 m c2 0 _ W (HO.out.below hHeld).bytes (by omega)).mono ?_
        rintro e W2 ⟨A3, c3, rfl, ho3, hb3⟩
        have hS := hHeld.trans (hb3.mono hHeld.size)
        have HO3 := Lib.hid ho3
        clear hb3 hHeld ho3
        refine hK.out _ _ hS (fun hHeld => ?_)
        clear hK K
        try simp only [Act.put, List.setIfInBounds_toArray, List.set_cons_zero, List.set_cons_succ]
        clear hS
        refine wpAnyH_ready (rs := [7]) (by kernel_rfl) (by simp) (AllReadyH.cons rfl (fun K hK => ?_) AllReadyH.nil)
        rw [if_pos (by rfl)]
        go_wp2_with fail
        have hbs : w.heap.size ≤ W2.heap.size := Nat.le_trans HB.out.size hHeld.size
        refine (rtext_any A3 (m + 8) c3 ck _ W2 HO3.out.bytes (by omega) hsz1).mono ?_
        rintro e W3 ⟨A4, c4, rfl, ho4, hb4⟩
        have hS := hHeld.trans (hb4.mono hHeld.size)
        have hl4 := ho4.len
        have HO4 := Lib.hid ho4
        have h42 := textB_le2 ck
        clear hb4 hHeld ho4
        refine hK.out _ _ hS (fun hHeld => ?_)
        clear hK K
        try simp only [Act.put, List.setIfInBounds_toArray, List.set_cons_zero, List.set_cons_succ]
        clear hS
        refine wpAnyH_ready (rs := [13]) (by kernel_rfl) (by simp) (AllReadyH.cons rfl (fun K hK => ?_) AllReadyH.nil)
        rw [if_pos (by rfl)]
        go_wp2_with fail
        refine (rtext_any A4 (m + 8 + (textB (nats ck)).length) c4 cv _ W3 HO4.out.bytes (by omega) hsz2).mono ?_
        rintro e W4 ⟨A5, c5, rfl, ho5, hb5⟩
        have hS := hHeld.trans (hb5.mono hHeld.size)
        have hl5 := ho5.len
        have HO5 := Lib.hid ho5
        have h52 := textB_le2 cv
        have hbs5 : w.heap.size ≤ W3.heap.size := Nat.le_trans HB.out.size hHeld.size
        clear hb5 hHeld ho5
        refine hK.out _ _ hS (fun hHeld => ?_)
        clear hK K
        try simp only [Act.put, List.setIfInBounds_toArray, List.set_cons_zero, List.set_cons_succ]
        clear hS
        refine wpAnyH_ready (rs := [14]) (by kernel_rfl) (by simp) (AllReadyH.cons rfl (fun K hK => ?_) AllReadyH.nil)
        rw [if_pos (by rfl)]
        go_wp2_with fail
        refine hK.out _ _ hHeld (fun hHeld => ?_)
        clear hK K
        try simp only [Act.put, List.setIfInBounds_toArray, List.set_cons_zero, List.set_cons_succ]
        refine wpAnyH_done (by kernel_rfl) ?_ _
        have HB5 := Lib.hid (HB.out.trans (hHeld.mono HB.out.size))
        have HOF : Hid (OwnB W4 w.heap.size 5 A5 (m + (chgN (ck, cv, false)).length) c5 (numsB [(n : Int)] ++ ((l.take (k + 1)).map chgN).flatten)) := Lib.hid (by
          have h1 := HO5.out.base_le (base' := w.heap.size) hbs5
          rw [lay_put _ ck cv, len_put m ck cv] at h1
          rw [HSN.out, ← List.append_assoc]
          exact h1)
        rw [len_put m ck cv]
        clear hHeld
        go_wp2_with fail
        go_roundw
        case rel => exact ⟨k + 1, m + (chgN (ck, cv, false)).length, A5, c5, by omega, by go_num, rfl, by omega, HOF.out, HB5.out⟩
        case measure => simp [intOf]; omega
      · have HCH : Hid (chgN (ck, cv, true) = numsB [1] ++ textsB ([ck].map nats)) := Lib.hid (chg_true ck cv)
        go_wp2_with fail
        refine wp_region_held_drew (S := fun W' => Below wr.heap.size wr W') hm (Below.refl wr.heap.size wr).drew (fun hHeld => ?_)
        generalize hW0 : wr.drew = W at *
        clear hW0
        simp only [List.size_toArray, List.length_cons, List.length_nil, Nat.reduceAdd]
        refine wpAnyH_take (i := 0) (v := .slice A2 m c2) rfl (by kernel_rfl) (by kernel_rfl) (by kernel_rfl) (fun _ _ _ h => h) (Or.inl ⟨by rfl, fun w0 hC => by simp [execOp, Act.eval, Act.put, go_sem]⟩) hHeld ?_
        try simp only [Act.put, List.setIfInBounds_toArray, List.set_cons_zero, List.set_cons_succ]
        refine wpAnyH_take (i := 2) (v := .slice (some ⟨b, o, none⟩) n c) rfl (by kernel_rfl) (by kernel_rfl) (by kernel_rfl) (fun _ _ _ h => h) (Or.inl ⟨by rfl, fun w0 hC => by simp [execOp, Act.eval, Act.put, go_sem]⟩) hHeld ?_
        try simp only [Act.put, List.setIfInBounds_toArray, List.set_cons_zero, List.set_cons_succ]
        refine wpAnyH_take (i := 3) (v := .int .i64 (k : Int)) rfl (by kernel_rfl) (by kernel_rfl) (by kernel_rfl) (fun _ _ _ h => h) (Or.inl ⟨by rfl, fun w0 hC => by simp [execOp, Act.eval, Act.put, go_sem]⟩) hHeld ?_
        try simp only [Act.put, List.setIfInBounds_toArray, List.set_cons_zero, List.set_cons_succ]
        refine wpAnyH_take (i := 4) (v := .pointer (some ⟨b, o + k * 3, none⟩)) rfl (by kernel_rfl) (by kernel_rfl) (by kernel_rfl) (fun _ _ _ h => h) (Or.inl ⟨by rfl, fun w0 hC => by simp [execOp, Act.eval, Act.put, go_sem, hk0, hkn, hlt]⟩) hHeld ?_
        try simp only [Act.put, List.setIfInBounds_toArray, List.set_cons_zero, List.set_cons_succ]
        refine wpAnyH_take (i := 5) (v := .pointer (some ⟨b, o + k * 3, none⟩)) rfl (by kernel_rfl) (by kernel_rfl) (by kernel_rfl) (fun _ _ _ h => h) (Or.inl ⟨by rfl, fun w0 hC => by simp [execOp, Act.eval, Act.put, go_sem]⟩) hHeld ?_
        try simp only [Act.put, List.setIfInBounds_toArray, List.set_cons_zero, List.set_cons_succ]
        refine wpAnyH_take (i := 6) (v := .string ck) rfl (by kernel_rfl) (by kernel_rfl) (by kernel_rfl) (fun _ _ _ h => h) (Or.inl ⟨by rfl, fun w0 hC => by simp [execOp, Act.eval, Act.put, go_sem, (hC.cell (p := ⟨b, o + k * 3, none⟩) hbr).trans r0]⟩) hHeld ?_
        try simp only [Act.put, List.setIfInBounds_toArray, List.set_cons_zero, List.set_cons_succ]
        refine wpAnyH_ready (rs := [1]) (by kernel_rfl) (by simp) (AllReadyH.cons rfl (fun K hK => ?_) AllReadyH.nil)
        rw [if_pos (by rfl)]
        go_wp2_with fail
        refine (rnum_any A2 m c2 1 _ W (HO.out.below hHeld).bytes (by omega)).mono ?_
        rintro e W2 ⟨A3, c3, rfl, ho3, hb3⟩
        have hS := hHeld.trans (hb3.mono hHeld.size)
        have HO3 := Lib.hid ho3
        clear hb3 hHeld ho3
        refine hK.out _ _ hS (fun hHeld => ?_)
        clear hK K
        try simp only [Act.put, List.setIfInBounds_toArray, List.set_cons_zero, List.set_cons_succ]
        clear hS
        refine wpAnyH_ready (rs := [7]) (by kernel_rfl) (by simp) (AllReadyH.cons rfl (fun K hK => ?_) AllReadyH.nil)
        rw [if_pos (by rfl)]
        go_wp2_with fail
        have hbs : w.heap.size ≤ W2.heap.size := Nat.le_trans HB.out.size hHeld.size
        refine (rtext_any A3 (m + 8) c3 ck _ W2 HO3.out.bytes (by omega) hsz1).mono ?_
        rintro e W3 ⟨A4, c4, rfl, ho4, hb4⟩
        have hS := hHeld.trans (hb4.mono hHeld.size)
        have hl4 := ho4.len
        have HO4 := Lib.hid ho4
        have h42 := textB_le2 ck
        clear hb4 hHeld ho4
        refine hK.out _ _ hS (fun hHeld => ?_)
        clear hK K
        try simp only [Act.put, List.setIfInBounds_toArray, List.set_cons_zero, List.set_cons_succ]
        clear hS
        refine wpAnyH_ready (rs := [8]) (by kernel_rfl) (by simp) (AllReadyH.cons rfl (fun K hK => ?_) AllReadyH.nil)
        rw [if_pos (by rfl)]
        go_wp2_with fail
        refine hK.out _ _ hHeld (fun hHeld => ?_)
        clear hK K
        try simp only [Act.put, List.setIfInBounds_toArray, List.set_cons_zero, List.set_cons_succ]
        refine wpAnyH_done (by kernel_rfl) ?_ _
        have HB5 := Lib.hid (HB.out.trans (hHeld.mono HB.out.size))
        have HOF : Hid (OwnB W3 w.heap.size 5 A4 (m + (chgN (ck, cv, true)).length) c4 (numsB [(n : Int)] ++ ((l.take (k + 1)).map chgN).flatten)) := Lib.hid (by
          have h1 := HO4.out.base_le (base' := w.heap.size) hbs
          rw [lay_gone _ ck cv, len_gone m ck cv] at h1
          rw [HSN.out, ← List.append_assoc]
          exact h1)
        rw [len_gone m ck cv]
        clear hHeld
        go_wp2_with fail
        go_roundw
        case rel => exact ⟨k + 1, m + (chgN (ck, cv, true)).length, A4, c4, by omega, by go_num, rfl, by omega, HOF.out, HB5.out⟩
        case measure => simp [intOf]; omega
    · have hkn : ¬ (k : Int) < (n : Int) := by omega
      have hmn : 8 + 8208 * k ≤ 8 + 8208 * n := by omega
      have HF : Hid (numsB [(n : Int)] ++ ((l.take k).map chgN).flatten = transN l) := Lib.hid (by rw [List.take_of_length_le (by rw [HLN.out]; omega)]; unfold transN; rw [HLN.out])
      go_wp2_with fail
      go_ret
      exact ⟨m, by omega, A2, c2, rfl, by rw [← HF.out]; exact HO.out, HB.out⟩
end Go.Proofs.YthflljlilcmcnaaGreatDoor
