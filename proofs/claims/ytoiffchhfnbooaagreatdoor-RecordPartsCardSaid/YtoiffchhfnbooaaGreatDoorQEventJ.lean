/-
  Contracts over the document's own package for events: an event's bytes.
-/
import Derived.Test.YtoiffchhfnbooaaGreatDoorQEventH
import Derived.Test.YtoiffchhfnbooaaGreatDoorQEventG
import Derived.Deep.DeepCutAuto
import Derived.Deep.RegionHeld3
namespace Go.Proofs.YtoiffchhfnbooaaGreatDoor
set_option linter.unusedVariables false
set_option linter.unusedSimpArgs false
open Go.RowKit
set_option linter.unusedVariables false
set_option linter.unusedSimpArgs false

def accD (e : Ev) (k : Nat) : List Nat := numsB [e.kind, e.at_] ++ (nineL.take k).flatMap (layD e)
theorem accD_next {e : Ev} {k c : Nat} (hc : nineL[k]? = some c) : accD e (k + 1) = accD e k ++ layD e c := by
  unfold accD
  rw [take_snoc_n nineL k c hc, List.flatMap_append, List.flatMap_singleton, List.append_assoc]
theorem accD_all (e : Ev) : accD e 9 = bytesE e := by rw [← bytes_doc]; rfl
theorem layD_in {e : Ev} {c : Nat} (h : decide (c ∈ partsN e.kind) = true) : layD e c = layP e c := if_pos (of_decide_eq_true h)
theorem layD_out {e : Ev} {c : Nat} (h : decide (c ∈ partsN e.kind) = false) : layD e c = [] := if_neg (of_decide_eq_false h)
theorem accD_small {e : Ev} (hr : rightE e = true) (k : Nat) : (accD e k).length ≤ 50000 := by
  have h1 := flat_len_le (f := layD e) (p := nineL.take k) (m := 5000) fun c hc => by
    unfold layD
    split
    · rename_i hm; exact layP_len ((rightE_parts hr).2.2.1 c hm)
    · exact Nat.zero_le _
  have h2 : (nineL.take k).length ≤ 9 := by rw [List.length_take]; exact Nat.min_le_right _ _
  unfold accD
  rw [List.length_append, numsB_length, List.length_cons, List.length_singleton]
  omega
structure DnAt (w : World) (h : Eh) (l : List Nat) (A : Option Addr) (N c : Nat) (wx : World) : Prop where
  bx : Bk wx w.heap.size 29 (evC h)
  own : OwnB wx w.heap.size 5 A N c l
  below : Below w.heap.size w wx
theorem DnAt.next {w W w' : World} {h : Eh} {l l' l2 : List Nat} {A : Option Addr} {N c n : Nat} {e : Ending} (d : DnAt w h l A N c W) (hm : Made W.heap.size W n l' e w') (hl : l' = l2) : ∃ A2 N2 c2, e = .returned (.slice A2 N2 c2) ∧ DnAt w h l2 A2 N2 c2 w' := by
  subst hl
  obtain ⟨A2, c2, he, ho, hb⟩ := hm
  exact ⟨A2, n, c2, he, ⟨d.bx.below hb d.bx.lt, ho.base_le d.below.size, d.below.trans (hb.mono d.below.size)⟩⟩
theorem nums_one (z : Int) : numsB [z] = encB 8 (clampB z) := by rw [numsB_cons, numsB_nil, List.append_nil]
theorem nums_take {l : List Int} {k : Nat} {z : Int} (h : l.take (k + 1) = l.take k ++ [z]) : numsB (l.take (k + 1)) = numsB (l.take k) ++ encB 8 (clampB z) := by rw [h, numsB_snoc]
theorem ends_take2 {l : List Rg} {k : Nat} {x y : Int} (h : l.take (k + 1) = l.take k ++ [(x, y)]) : numsB (endsL (l.take (k + 1))) = numsB (endsL (l.take k)) ++ encB 8 (clampB x) ++ encB 8 (clampB y) := by
  rw [h, endsL_snoc, show endsL (l.take k) ++ [x, y] = endsL (l.take k) ++ [x] ++ [y] by simp, numsB_snoc, numsB_snoc]
set_option maxRecDepth 40000 in
set_option maxHeartbeats 8000000 in
theorem xeEncode_any (h : Eh) (w : World) (Hh : EvIn w w.heap.size h) : Calls Tryz.prog 18 #[.agg (evC h)] w (EncIs h w) := by
  have HH := Lib.hid Hh
  clear Hh
  go_enter Tryz.func18, Tryz.ntmps18
  go_wp2_with ((with_reducible show wpList _ _ _ (⟨some 10, _, _, _, _, _⟩ :: _) _ _); refine hold ?_)
  refine held (list_overE (fun W => Bk W w.heap.size 29 (evC h) ∧ Below w.heap.size w W) ⟨Bk.new _ _ _, (Below.refl _ _).alloc (Nat.le_refl _) _⟩ ?_)
  rintro W ⟨q1, q2⟩
  have Q1 := Lib.hid q1
  have Q2 := Lib.hid q2
  clear q1 q2
  refine wpList_load_mid rfl 29 (.tmp 1) rfl w.heap.size 0 rfl _ _ Q1.out.range Tryz.underlying29 rfl (by kernel_rfl) ?_
  go_wp2_with fail
  refine (xeRight_any h W (HH.out.later Q2.out)).mono ?_
  rintro e W1 ⟨rfl, hb⟩
  have R1 := Lib.hid (Q1.out.below hb Q1.out.lt)
  have R2 := Lib.hid (Q2.out.trans (hb.mono Q2.out.size))
  have c0 : W1.cell? ⟨w.heap.size, 0, none⟩ = some (.int .i64 h.e.kind) := R1.out.cell 0
  clear hb Q1 Q2
  cases hr : rightE h.e
  · have HZ : Hid (encE h.e = 1) := Lib.hid (by unfold encE; rw [hr]; rfl)
    have HV : Hid (encV h.e = []) := Lib.hid (by unfold encV; rw [hr]; rfl)
    clear hr
    go_wp2_with fail
    go_ret2
    exact ⟨none, 0, 0, by rw [HZ.out]; rfl, by rw [HV.out]; exact OwnB.nil, R2.out⟩
  have HRT := Lib.hid hr
  have HZ : Hid (encE h.e = 0) := Lib.hid (if_pos hr)
  have HV : Hid (encV h.e = accD h.e 9) := Lib.hid (by rw [accD_all]; exact if_pos hr)
  clear hr
  go_wp2_with fail
  refine (xeParts_any h.e.kind W1).mono ?_
  rintro e w' ⟨rfl, rfl⟩
  go_upto_region 4 with (fail)
  go_cut [5] (fun x5 wx => ∃ A N c, x5 = .slice A N c ∧ DnAt w h (accD h.e 0) A N c wx)
  case first =>
    have hlt := R1.out.lt
    have f0 : W1.cell? ⟨w.heap.size, 0, none⟩ = some (.int .i64 h.e.kind) := R1.out.cell 0
    have f1 : W1.cell? ⟨w.heap.size, 1, none⟩ = some (.int .i64 h.e.at_) := R1.out.cell 1
    clear c0
    go_wp2_with fail
    refine wp_region_held_drew (S := fun W' => Below W1.heap.size W1 W') (by kernel_rfl) (show Below W1.heap.size W1 W1.drew from (Below.refl _ _).drew) (fun hHeld => ?_)
    simp only [List.size_toArray, List.length_cons, List.length_nil, Nat.reduceAdd]
    refine wpAnyH_take (i := 0) (v := .pointer (some ⟨w.heap.size, 0, none⟩)) rfl (by kernel_rfl) (by kernel_rfl) (by kernel_rfl) (fun _ _ _ h => h) (Or.inl ⟨by rfl, fun w0 hC => by simp [execOp, Act.eval, Act.put, go_sem]⟩) hHeld ?_
    try simp only [Act.put, List.setIfInBounds_toArray, List.set_cons_zero, List.set_cons_succ, List.getElem_toArray, List.getElem_cons_zero, List.getElem_cons_succ]
    refine wpAnyH_take (i := 1) (v := .int .i64 h.e.kind) rfl (by kernel_rfl) (by kernel_rfl) (by kernel_rfl) (fun _ _ _ h => h) (Or.inl ⟨by rfl, fun w0 hC => by simp [execOp, Act.eval, Act.put, go_sem, (hC.cell (p := ⟨w.heap.size, 0, none⟩) hlt).trans f0]⟩) hHeld ?_
    try simp only [Act.put, List.setIfInBounds_toArray, List.set_cons_zero, List.set_cons_succ, List.getElem_toArray, List.getElem_cons_zero, List.getElem_cons_succ]
    refine wpAnyH_take (i := 3) (v := .pointer (some ⟨w.heap.size, 1, none⟩)) rfl (by kernel_rfl) (by kernel_rfl) (by kernel_rfl) (fun _ _ _ h => h) (Or.inl ⟨by rfl, fun w0 hC => by simp [execOp, Act.eval, Act.put, go_sem]⟩) hHeld ?_
    try simp only [Act.put, List.setIfInBounds_toArray, List.set_cons_zero, List.set_cons_succ, List.getElem_toArray, List.getElem_cons_zero, List.getElem_cons_succ]
    refine wpAnyH_take (i := 4) (v := .int .i64 h.e.at_) rfl (by kernel_rfl) (by kernel_rfl) (by kernel_rfl) (fun _ _ _ h => h) (Or.inl ⟨by rfl, fun w0 hC => by simp [execOp, Act.eval, Act.put, go_sem, (hC.cell (p := ⟨w.heap.size, 1, none⟩) hlt).trans f1]⟩) hHeld ?_
    try simp only [Act.put, List.setIfInBounds_toArray, List.set_cons_zero, List.set_cons_succ, List.getElem_toArray, List.getElem_cons_zero, List.getElem_cons_succ]
    obtain ⟨V0, hV0⟩ : ∃ V, V = W1.drew := ⟨_, rfl⟩
    have D0 : Hid (DnAt w h [] none 0 0 V0) := Lib.hid ⟨by rw [hV0]; exact R1.out.drew, OwnB.nil, by rw [hV0]; exact R2.out.drew⟩
    rw [← hV0] at hHeld ⊢
    clear hV0
    refine wpAnyH_ready (rs := [2]) (by kernel_rfl) (by simp) (AllReadyH.cons rfl (fun K hK => ?_) AllReadyH.nil)
    rw [if_pos (by rfl)]
    go_wp2_with fail
    refine (rnum_any none 0 0 h.e.kind [] V0 Bytes.nil (by omega)).mono ?_
    rintro e V1 hm
    have hSa : Below W1.heap.size W1 V1 := by obtain ⟨_, _, _, _, hb5⟩ := hm; exact hHeld.trans (hb5.mono hHeld.size)
    obtain ⟨A1, N1, c1, rfl, d⟩ := D0.out.next hm (l2 := numsB [h.e.kind]) (by rw [nums_one]; rfl)
    have D1 := Lib.hid d
    clear hHeld hm d
    refine hK.out _ _ hSa (fun hHeld => ?_)
    clear hK K
    try simp only [Act.put, List.setIfInBounds_toArray, List.set_cons_zero, List.set_cons_succ, List.getElem_toArray, List.getElem_cons_zero, List.getElem_cons_succ]
    clear hSa
    have hn1 : N1 ≤ 8 := by have := D1.out.own.len; rw [numsB_length] at this; simp at this; omega
    refine wpAnyH_ready (rs := [5]) (by kernel_rfl) (by simp) (AllReadyH.cons rfl (fun K hK => ?_) AllReadyH.nil)
    rw [if_pos (by rfl)]
    go_wp2_with fail
    refine (rnum_any A1 N1 c1 h.e.at_ _ V1 D1.out.own.bytes (by omega)).mono ?_
    rintro e V2 hm
    have hSa : Below W1.heap.size W1 V2 := by obtain ⟨_, _, _, _, hb5⟩ := hm; exact hHeld.trans (hb5.mono hHeld.size)
    obtain ⟨A2, N2, c2, rfl, d⟩ := D1.out.next hm (l2 := accD h.e 0) (by unfold accD; rw [List.take_zero, List.flatMap_nil, List.append_nil, numsB_cons [h.e.at_], nums_one, nums_one])
    have D2 := Lib.hid d
    clear hHeld hm d
    refine hK.out _ _ hSa (fun hHeld => ?_)
    clear hK K
    try simp only [Act.put, List.setIfInBounds_toArray, List.set_cons_zero, List.set_cons_succ, List.getElem_toArray, List.getElem_cons_zero, List.getElem_cons_succ]
    clear hSa
    refine wpAnyH_ready (rs := [6]) (by kernel_rfl) (by simp) (AllReadyH.cons rfl (fun K hK => ?_) AllReadyH.nil)
    rw [if_pos (by rfl)]
    go_wp2_with fail
    refine hK.out _ _ hHeld (fun hHeld => ?_)
    clear hK K
    try simp only [Act.put, List.setIfInBounds_toArray, List.set_cons_zero, List.set_cons_succ, List.getElem_toArray, List.getElem_cons_zero, List.getElem_cons_succ]
    refine wpAnyH_done (by kernel_rfl) ?_ _
    go_wp2_with fail
    go_meet
    exact ⟨A2, N2, c2, rfl, D2.out⟩
  case rest =>
  obtain ⟨A, N, c, rfl, hd⟩ := hcut
  clear c0 R1 R2
  generalize wc = W2 at *
  have D := Lib.hid hd
  clear hd
  obtain ⟨b98, hb98⟩ : ∃ b, decide (98 ∈ partsN h.e.kind) = b := ⟨_, rfl⟩
  have CP : Hid (Calls Tryz.prog 36 #[.string (strOf (partsN h.e.kind)), .int .u8 98] W2 fun e w' => e = .returned (.bool b98) ∧ W2 = w') := Lib.hid (by rw [← hb98]; exact xehasP_any h.e.kind 98 W2)
  have HBB := Lib.hid hb98
  clear hb98
  go_wp2_with fail
  refine CP.out.mono ?_
  rintro e w' ⟨rfl, rfl⟩
  clear CP
  go_upto_if 23 with (fail)
  go_cut [5] (fun x5 wx => ∃ A N c, x5 = .slice A N c ∧ DnAt w h (accD h.e 1) A N c wx)
  case first =>
    have HNX := Lib.hid (accD_next (e := h.e) (k := 0) (c := 98) rfl)
    have hNl := D.out.own.len
    have hsm := accD_small HRT.out 0
    have hN : N ≤ 50000 := by omega
    clear hNl hsm
    cases b98
    · have HE : Hid (accD h.e 1 = accD h.e 0) := Lib.hid (by rw [HNX.out, layD_out HBB.out, List.append_nil])
      go_wp2_with fail
      go_meet
      exact ⟨A, N, c, rfl, by rw [HE.out]; exact D.out⟩
    · have HE : Hid (accD h.e 1 = accD h.e 0 ++ layP h.e 98) := Lib.hid (by rw [HNX.out, layD_in HBB.out])
      have HOK : Hid (okQ h.e 98 = true) := Lib.hid ((rightE_parts HRT.out).2.2.1 98 (of_decide_eq_true HBB.out))
      clear HNX
      have f0 : W2.cell? ⟨w.heap.size, 2, none⟩ = some (.string h.e.box) := D.out.bx.cell 2
      go_wp2_with fail
      refine (rtext_any A N c h.e.box _ W2 D.out.own.bytes (by omega) HH.out.2.2.2.2.2.2.1).mono ?_
      rintro e W3 hm
      obtain ⟨A3, N3, c3, rfl, d⟩ := D.out.next hm (l2 := accD h.e 1) (by rw [HE.out]; rfl)
      have D3 := Lib.hid d
      clear hm d f0
      go_wp2_with fail
      go_meet
      exact ⟨A3, N3, c3, rfl, D3.out⟩
  case rest =>
  obtain ⟨A, N, c, rfl, hd⟩ := hcut
  clear D HBB
  generalize wc = W2 at *
  have D := Lib.hid hd
  clear hd
  obtain ⟨b116, hb116⟩ : ∃ b, decide (116 ∈ partsN h.e.kind) = b := ⟨_, rfl⟩
  have CP : Hid (Calls Tryz.prog 36 #[.string (strOf (partsN h.e.kind)), .int .u8 116] W2 fun e w' => e = .returned (.bool b116) ∧ W2 = w') := Lib.hid (by rw [← hb116]; exact xehasP_any h.e.kind 116 W2)
  have HBB := Lib.hid hb116
  clear hb116
  go_wp2_with fail
  refine CP.out.mono ?_
  rintro e w' ⟨rfl, rfl⟩
  clear CP
  go_upto_if 29 with (fail)
  go_cut [5] (fun x5 wx => ∃ A N c, x5 = .slice A N c ∧ DnAt w h (accD h.e 2) A N c wx)
  case first =>
    have HNX := Lib.hid (accD_next (e := h.e) (k := 1) (c := 116) rfl)
    have hNl := D.out.own.len
    have hsm := accD_small HRT.out 1
    have hN : N ≤ 50000 := by omega
    clear hNl hsm
    cases b116
    · have HE : Hid (accD h.e 2 = accD h.e 1) := Lib.hid (by rw [HNX.out, layD_out HBB.out, List.append_nil])
      go_wp2_with fail
      go_meet
      exact ⟨A, N, c, rfl, by rw [HE.out]; exact D.out⟩
    · have HE : Hid (accD h.e 2 = accD h.e 1 ++ layP h.e 116) := Lib.hid (by rw [HNX.out, layD_in HBB.out])
      have HOK : Hid (okQ h.e 116 = true) := Lib.hid ((rightE_parts HRT.out).2.2.1 116 (of_decide_eq_true HBB.out))
      clear HNX
      have f0 : W2.cell? ⟨w.heap.size, 3, none⟩ = some (.string h.e.to_) := D.out.bx.cell 3
      go_wp2_with fail
      refine (rtext_any A N c h.e.to_ _ W2 D.out.own.bytes (by omega) HH.out.2.2.2.2.2.2.2).mono ?_
      rintro e W3 hm
      obtain ⟨A3, N3, c3, rfl, d⟩ := D.out.next hm (l2 := accD h.e 2) (by rw [HE.out]; rfl)
      have D3 := Lib.hid d
      clear hm d f0
      go_wp2_with fail
      go_meet
      exact ⟨A3, N3, c3, rfl, D3.out⟩
  case rest =>
  obtain ⟨A, N, c, rfl, hd⟩ := hcut
  clear D HBB
  generalize wc = W2 at *
  have D := Lib.hid hd
  clear hd
  obtain ⟨b105, hb105⟩ : ∃ b, decide (105 ∈ partsN h.e.kind) = b := ⟨_, rfl⟩
  have CP : Hid (Calls Tryz.prog 36 #[.string (strOf (partsN h.e.kind)), .int .u8 105] W2 fun e w' => e = .returned (.bool b105) ∧ W2 = w') := Lib.hid (by rw [← hb105]; exact xehasP_any h.e.kind 105 W2)
  have HBB := Lib.hid hb105
  clear hb105
  go_wp2_with fail
  refine CP.out.mono ?_
  rintro e w' ⟨rfl, rfl⟩
  clear CP
  go_upto_if 35 with (fail)
  go_cut [5] (fun x5 wx => ∃ A N c, x5 = .slice A N c ∧ DnAt w h (accD h.e 3) A N c wx)
  case first =>
    have HNX := Lib.hid (accD_next (e := h.e) (k := 2) (c := 105) rfl)
    have hNl := D.out.own.len
    have hsm := accD_small HRT.out 2
    have hN : N ≤ 50000 := by omega
    clear hNl hsm
    cases b105
    · have HE : Hid (accD h.e 3 = accD h.e 2) := Lib.hid (by rw [HNX.out, layD_out HBB.out, List.append_nil])
      go_wp2_with fail
      go_meet
      exact ⟨A, N, c, rfl, by rw [HE.out]; exact D.out⟩
    · have HE : Hid (accD h.e 3 = accD h.e 2 ++ layP h.e 105) := Lib.hid (by rw [HNX.out, layD_in HBB.out])
      have HOK : Hid (okQ h.e 105 = true) := Lib.hid ((rightE_parts HRT.out).2.2.1 105 (of_decide_eq_true HBB.out))
      clear HNX
      have f0 : W2.cell? ⟨w.heap.size, 4, none⟩ = some (.slice h.A1 h.n1 h.c1) := D.out.bx.cell 4
      have hlen := HH.out.1.1
      have HLN := Lib.hid hlen
      have h60 : h.n1 ≤ 60 := by have := (idsB_len (l := h.e.ids) HOK.out).2; omega
      clear hlen
      go_wp2_with fail
      refine (rnum_any A N c (h.n1 : Int) _ W2 D.out.own.bytes (by omega)).mono ?_
      rintro e W3 hm
      obtain ⟨A3, N3, c3, rfl, d⟩ := D.out.next hm (l2 := accD h.e 2 ++ numsB [(h.n1 : Int)] ++ numsB (h.e.ids.take 0)) (by rw [nums_one, List.take_zero, numsB_nil, List.append_nil])
      have D3 := Lib.hid d
      clear hm d f0
      go_wp2_with fail
      go_loopw [5, 6] (fun t i wx => ∃ (k : Nat) (A : Option Addr) (N c : Nat), k ≤ h.n1 ∧ i = .int .i64 (k : Int) ∧ t = .slice A N c ∧ DnAt w h (accD h.e 2 ++ numsB [(h.n1 : Int)] ++ numsB (h.e.ids.take k)) A N c wx) (fun _ i _ => h.n1 - (intOf i).toNat)
      case atStart => exact ⟨0, A3, N3, c3, Nat.zero_le _, rfl, rfl, D3.out⟩
      case round =>
        obtain ⟨k, A4, N4, c4, hk, rfl, rfl, hd⟩ := hrel
        have DR := Lib.hid hd
        have f0 : wr.cell? ⟨w.heap.size, 4, none⟩ = some (.slice h.A1 h.n1 h.c1) := hd.bx.cell 4
        clear hd
        have hN4 : N4 ≤ 60000 := by
          have h1 := DR.out.own.len
          have h2 := accD_small HRT.out 2
          rw [List.length_append, List.length_append, numsB_length, numsB_length, List.length_take] at h1
          simp at h1
          omega
        by_cases hlt : k < h.n1
        · obtain ⟨b, og, z, hA, hbb, hla, htk, hc⟩ := (HH.out.later DR.out.below).1.at_ hlt
          rw [hA] at f0
          unfold ints at hc
          have hk0 : (0 : Int) ≤ (k : Int) := by omega
          have hkn : (k : Int) < (h.n1 : Int) := by omega
          have HT := Lib.hid (nums_take htk)
          clear hla htk hA
          go_wp2_with fail
          refine (rnum_any A4 N4 c4 z _ wr DR.out.own.bytes (by omega)).mono ?_
          rintro e W4 hm
          obtain ⟨A5, N5, c5, rfl, d⟩ := DR.out.next hm (l2 := accD h.e 2 ++ numsB [(h.n1 : Int)] ++ numsB (h.e.ids.take (k + 1))) (by rw [HT.out, ← List.append_assoc])
          have D5 := Lib.hid d
          clear hm d f0 hc
          go_wp2_with fail
          go_roundw
          case rel => exact ⟨k + 1, A5, N5, c5, by omega, by go_num, rfl, D5.out⟩
          case measure => simp [intOf]; omega
        · have hkn : ¬ (k : Int) < (h.n1 : Int) := by omega
          have HF : Hid (accD h.e 3 = accD h.e 2 ++ numsB [(h.n1 : Int)] ++ numsB (h.e.ids.take k)) := Lib.hid (by
            rw [HE.out, List.take_of_length_le (by rw [HLN.out]; omega), ← HLN.out, List.append_assoc]; rfl)
          go_wp2_with fail
          go_meet
          exact ⟨A4, N4, c4, rfl, by rw [HF.out]; exact DR.out⟩
  case rest =>
  obtain ⟨A, N, c, rfl, hd⟩ := hcut
  clear D HBB
  generalize wc = W2 at *
  have D := Lib.hid hd
  clear hd
  obtain ⟨b115, hb115⟩ : ∃ b, decide (115 ∈ partsN h.e.kind) = b := ⟨_, rfl⟩
  have CP : Hid (Calls Tryz.prog 36 #[.string (strOf (partsN h.e.kind)), .int .u8 115] W2 fun e w' => e = .returned (.bool b115) ∧ W2 = w') := Lib.hid (by rw [← hb115]; exact xehasP_any h.e.kind 115 W2)
  have HBB := Lib.hid hb115
  clear hb115
  go_wp2_with fail
  refine CP.out.mono ?_
  rintro e w' ⟨rfl, rfl⟩
  clear CP
  go_upto_if 56 with (fail)
  go_cut [5] (fun x5 wx => ∃ A N c, x5 = .slice A N c ∧ DnAt w h (accD h.e 4) A N c wx)
  case first =>
    have HNX := Lib.hid (accD_next (e := h.e) (k := 3) (c := 115) rfl)
    have hNl := D.out.own.len
    have hsm := accD_small HRT.out 3
    have hN : N ≤ 50000 := by omega
    clear hNl hsm
    cases b115
    · have HE : Hid (accD h.e 4 = accD h.e 3) := Lib.hid (by rw [HNX.out, layD_out HBB.out, List.append_nil])
      go_wp2_with fail
      go_meet
      exact ⟨A, N, c, rfl, by rw [HE.out]; exact D.out⟩
    · have HE : Hid (accD h.e 4 = accD h.e 3 ++ layP h.e 115) := Lib.hid (by rw [HNX.out, layD_in HBB.out])
      have HOK : Hid (okQ h.e 115 = true) := Lib.hid ((rightE_parts HRT.out).2.2.1 115 (of_decide_eq_true HBB.out))
      clear HNX
      have f0 : W2.cell? ⟨w.heap.size, 5, none⟩ = some (.slice h.A2 h.n2 h.c2) := D.out.bx.cell 5
      have hlen := HH.out.2.1.1
      have HLN := Lib.hid hlen
      have h60 : h.n2 ≤ 60 := by have := setB_len (l := h.e.set) HOK.out; omega
      clear hlen
      go_wp2_with fail
      refine (rnum_any A N c (h.n2 : Int) _ W2 D.out.own.bytes (by omega)).mono ?_
      rintro e W3 hm
      obtain ⟨A3, N3, c3, rfl, d⟩ := D.out.next hm (l2 := accD h.e 3 ++ numsB [(h.n2 : Int)] ++ numsB (endsL (h.e.set.take 0))) (by rw [nums_one, List.take_zero]; exact (List.append_nil _).symm)
      have D3 := Lib.hid d
      clear hm d f0
      go_wp2_with fail
      go_loopw [5, 7] (fun t i wx => ∃ (k : Nat) (A : Option Addr) (N c : Nat), k ≤ h.n2 ∧ i = .int .i64 (k : Int) ∧ t = .slice A N c ∧ DnAt w h (accD h.e 3 ++ numsB [(h.n2 : Int)] ++ numsB (endsL (h.e.set.take k))) A N c wx) (fun _ i _ => h.n2 - (intOf i).toNat)
      case atStart => exact ⟨0, A3, N3, c3, Nat.zero_le _, rfl, rfl, D3.out⟩
      case round =>
        obtain ⟨k, A4, N4, c4, hk, rfl, rfl, hd⟩ := hrel
        have DR := Lib.hid hd
        have f0 : wr.cell? ⟨w.heap.size, 5, none⟩ = some (.slice h.A2 h.n2 h.c2) := hd.bx.cell 5
        clear hd
        have hN4 : N4 ≤ 60000 := by
          have h1 := DR.out.own.len
          have h2 := accD_small HRT.out 3
          rw [List.length_append, List.length_append, numsB_length, numsB_length, endsL_len, List.length_take] at h1
          simp at h1
          omega
        by_cases hlt : k < h.n2
        · obtain ⟨b, og, zz, hA, hbb, hla, htk, hrow⟩ := (HH.out.later DR.out.below).2.1.at_ hlt
          obtain ⟨x, y⟩ := zz
          rw [hA] at f0
          have r0 : wr.cell? ⟨b, og + k * 2, none⟩ = some (.int .i64 x) := by have := hrow 0 _ rfl; rwa [Nat.add_zero] at this
          have r1 : wr.cell? ⟨b, og + k * 2 + 1, none⟩ = some (.int .i64 y) := hrow 1 _ rfl
          have hk0 : (0 : Int) ≤ (k : Int) := by omega
          have hkn : (k : Int) < (h.n2 : Int) := by omega
          have HT := Lib.hid (ends_take2 htk)
          have hlt0 := DR.out.bx.lt
          clear hla htk hA hrow
          go_wp2_with fail
          refine wp_region_held_drew (S := fun W' => Below wr.heap.size wr W') (by kernel_rfl) (show Below wr.heap.size wr wr.drew from (Below.refl _ _).drew) (fun hHeld => ?_)
          simp only [List.size_toArray, List.length_cons, List.length_nil, Nat.reduceAdd]
          refine wpAnyH_take (i := 0) (v := .slice A4 N4 c4) rfl (by kernel_rfl) (by kernel_rfl) (by kernel_rfl) (fun _ _ _ h => h) (Or.inl ⟨by rfl, fun w0 hC => by simp [execOp, Act.eval, Act.put, go_sem]⟩) hHeld ?_
          try simp only [Act.put, List.setIfInBounds_toArray, List.set_cons_zero, List.set_cons_succ, List.getElem_toArray, List.getElem_cons_zero, List.getElem_cons_succ]
          refine wpAnyH_take (i := 1) (v := .pointer (some ⟨w.heap.size, 5, none⟩)) rfl (by kernel_rfl) (by kernel_rfl) (by kernel_rfl) (fun _ _ _ h => h) (Or.inl ⟨by rfl, fun w0 hC => by simp [execOp, Act.eval, Act.put, go_sem]⟩) hHeld ?_
          try simp only [Act.put, List.setIfInBounds_toArray, List.set_cons_zero, List.set_cons_succ, List.getElem_toArray, List.getElem_cons_zero, List.getElem_cons_succ]
          refine wpAnyH_take (i := 2) (v := .slice (some ⟨b, og, none⟩) h.n2 h.c2) rfl (by kernel_rfl) (by kernel_rfl) (by kernel_rfl) (fun _ _ _ h => h) (Or.inl ⟨by rfl, fun w0 hC => by simp [execOp, Act.eval, Act.put, go_sem, (hC.cell (p := ⟨w.heap.size, 5, none⟩) hlt0).trans f0]⟩) hHeld ?_
          try simp only [Act.put, List.setIfInBounds_toArray, List.set_cons_zero, List.set_cons_succ, List.getElem_toArray, List.getElem_cons_zero, List.getElem_cons_succ]
          refine wpAnyH_take (i := 3) (v := .int .i64 (k : Int)) rfl (by kernel_rfl) (by kernel_rfl) (by kernel_rfl) (fun _ _ _ h => h) (Or.inl ⟨by rfl, fun w0 hC => by simp [execOp, Act.eval, Act.put, go_sem]⟩) hHeld ?_
          try simp only [Act.put, List.setIfInBounds_toArray, List.set_cons_zero, List.set_cons_succ, List.getElem_toArray, List.getElem_cons_zero, List.getElem_cons_succ]
          refine wpAnyH_take (i := 4) (v := .pointer (some ⟨b, og + k * 2, none⟩)) rfl (by kernel_rfl) (by kernel_rfl) (by kernel_rfl) (fun _ _ _ h => h) (Or.inl ⟨by rfl, fun w0 hC => by simp [execOp, Act.eval, Act.put, go_sem, hk0, hkn, hlt]⟩) hHeld ?_
          try simp only [Act.put, List.setIfInBounds_toArray, List.set_cons_zero, List.set_cons_succ, List.getElem_toArray, List.getElem_cons_zero, List.getElem_cons_succ]
          refine wpAnyH_take (i := 5) (v := .pointer (some ⟨b, og + k * 2, none⟩)) rfl (by kernel_rfl) (by kernel_rfl) (by kernel_rfl) (fun _ _ _ h => h) (Or.inl ⟨by rfl, fun w0 hC => by simp [execOp, Act.eval, Act.put, go_sem]⟩) hHeld ?_
          try simp only [Act.put, List.setIfInBounds_toArray, List.set_cons_zero, List.set_cons_succ, List.getElem_toArray, List.getElem_cons_zero, List.getElem_cons_succ]
          refine wpAnyH_take (i := 6) (v := .int .i64 x) rfl (by kernel_rfl) (by kernel_rfl) (by kernel_rfl) (fun _ _ _ h => h) (Or.inl ⟨by rfl, fun w0 hC => by simp [execOp, Act.eval, Act.put, go_sem, (hC.cell (p := ⟨b, og + k * 2, none⟩) hbb).trans r0]⟩) hHeld ?_
          try simp only [Act.put, List.setIfInBounds_toArray, List.set_cons_zero, List.set_cons_succ, List.getElem_toArray, List.getElem_cons_zero, List.getElem_cons_succ]
          refine wpAnyH_take (i := 8) (v := .pointer (some ⟨w.heap.size, 5, none⟩)) rfl (by kernel_rfl) (by kernel_rfl) (by kernel_rfl) (fun _ _ _ h => h) (Or.inl ⟨by rfl, fun w0 hC => by simp [execOp, Act.eval, Act.put, go_sem]⟩) hHeld ?_
          try simp only [Act.put, List.setIfInBounds_toArray, List.set_cons_zero, List.set_cons_succ, List.getElem_toArray, List.getElem_cons_zero, List.getElem_cons_succ]
          refine wpAnyH_take (i := 9) (v := .slice (some ⟨b, og, none⟩) h.n2 h.c2) rfl (by kernel_rfl) (by kernel_rfl) (by kernel_rfl) (fun _ _ _ h => h) (Or.inl ⟨by rfl, fun w0 hC => by simp [execOp, Act.eval, Act.put, go_sem, (hC.cell (p := ⟨w.heap.size, 5, none⟩) hlt0).trans f0]⟩) hHeld ?_
          try simp only [Act.put, List.setIfInBounds_toArray, List.set_cons_zero, List.set_cons_succ, List.getElem_toArray, List.getElem_cons_zero, List.getElem_cons_succ]
          refine wpAnyH_take (i := 10) (v := .int .i64 (k : Int)) rfl (by kernel_rfl) (by kernel_rfl) (by kernel_rfl) (fun _ _ _ h => h) (Or.inl ⟨by rfl, fun w0 hC => by simp [execOp, Act.eval, Act.put, go_sem]⟩) hHeld ?_
          try simp only [Act.put, List.setIfInBounds_toArray, List.set_cons_zero, List.set_cons_succ, List.getElem_toArray, List.getElem_cons_zero, List.getElem_cons_succ]
          refine wpAnyH_take (i := 11) (v := .pointer (some ⟨b, og + k * 2, none⟩)) rfl (by kernel_rfl) (by kernel_rfl) (by kernel_rfl) (fun _ _ _ h => h) (Or.inl ⟨by rfl, fun w0 hC => by simp [execOp, Act.eval, Act.put, go_sem, hk0, hkn, hlt]⟩) hHeld ?_
          try simp only [Act.put, List.setIfInBounds_toArray, List.set_cons_zero, List.set_cons_succ, List.getElem_toArray, List.getElem_cons_zero, List.getElem_cons_succ]
          refine wpAnyH_take (i := 12) (v := .pointer (some ⟨b, og + k * 2 + 1, none⟩)) rfl (by kernel_rfl) (by kernel_rfl) (by kernel_rfl) (fun _ _ _ h => h) (Or.inl ⟨by rfl, fun w0 hC => by simp [execOp, Act.eval, Act.put, go_sem]⟩) hHeld ?_
          try simp only [Act.put, List.setIfInBounds_toArray, List.set_cons_zero, List.set_cons_succ, List.getElem_toArray, List.getElem_cons_zero, List.getElem_cons_succ]
          refine wpAnyH_take (i := 13) (v := .int .i64 y) rfl (by kernel_rfl) (by kernel_rfl) (by kernel_rfl) (fun _ _ _ h => h) (Or.inl ⟨by rfl, fun w0 hC => by simp [execOp, Act.eval, Act.put, go_sem, (hC.cell (p := ⟨b, og + k * 2 + 1, none⟩) hbb).trans r1]⟩) hHeld ?_
          try simp only [Act.put, List.setIfInBounds_toArray, List.set_cons_zero, List.set_cons_succ, List.getElem_toArray, List.getElem_cons_zero, List.getElem_cons_succ]
          obtain ⟨V0, hV0⟩ : ∃ V, V = wr.drew := ⟨_, rfl⟩
          have E0 : Hid (DnAt w h (accD h.e 3 ++ numsB [(h.n2 : Int)] ++ numsB (endsL (h.e.set.take k))) A4 N4 c4 V0) := Lib.hid ⟨by rw [hV0]; exact DR.out.bx.drew, by rw [hV0]; exact DR.out.own.below (Below.refl _ _).drew, by rw [hV0]; exact DR.out.below.drew⟩
          rw [← hV0] at hHeld ⊢
          clear hV0
          refine wpAnyH_ready (rs := [7]) (by kernel_rfl) (by simp) (AllReadyH.cons rfl (fun K hK => ?_) AllReadyH.nil)
          rw [if_pos (by rfl)]
          go_wp2_with fail
          refine (rnum_any A4 N4 c4 x _ V0 E0.out.own.bytes (by omega)).mono ?_
          rintro e V1 hm
          have hSa : Below wr.heap.size wr V1 := by obtain ⟨_, _, _, _, hb5⟩ := hm; exact hHeld.trans (hb5.mono hHeld.size)
          obtain ⟨A5, N5, c5, rfl, d⟩ := E0.out.next hm rfl
          have E1 := Lib.hid d
          clear hHeld hm d
          refine hK.out _ _ hSa (fun hHeld => ?_)
          clear hK K
          try simp only [Act.put, List.setIfInBounds_toArray, List.set_cons_zero, List.set_cons_succ, List.getElem_toArray, List.getElem_cons_zero, List.getElem_cons_succ]
          clear hSa
          have hN5 : N5 ≤ 60008 := by
            have h1 := E1.out.own.len
            have h2 := E0.out.own.len
            rw [List.length_append, encB_length] at h1
            omega
          refine wpAnyH_ready (rs := [14]) (by kernel_rfl) (by simp) (AllReadyH.cons rfl (fun K hK => ?_) AllReadyH.nil)
          rw [if_pos (by rfl)]
          go_wp2_with fail
          refine (rnum_any A5 N5 c5 y _ V1 E1.out.own.bytes (by omega)).mono ?_
          rintro e V2 hm
          have hSa : Below wr.heap.size wr V2 := by obtain ⟨_, _, _, _, hb5⟩ := hm; exact hHeld.trans (hb5.mono hHeld.size)
          obtain ⟨A6, N6, c6, rfl, d⟩ := E1.out.next hm (l2 := accD h.e 3 ++ numsB [(h.n2 : Int)] ++ numsB (endsL (h.e.set.take (k + 1)))) (by rw [HT.out]; simp only [List.append_assoc])
          have E2 := Lib.hid d
          clear hHeld hm d
          refine hK.out _ _ hSa (fun hHeld => ?_)
          clear hK K
          try simp only [Act.put, List.setIfInBounds_toArray, List.set_cons_zero, List.set_cons_succ, List.getElem_toArray, List.getElem_cons_zero, List.getElem_cons_succ]
          clear hSa
          refine wpAnyH_ready (rs := [15]) (by kernel_rfl) (by simp) (AllReadyH.cons rfl (fun K hK => ?_) AllReadyH.nil)
          rw [if_pos (by rfl)]
          go_wp2_with fail
          refine hK.out _ _ hHeld (fun hHeld => ?_)
          clear hK K
          try simp only [Act.put, List.setIfInBounds_toArray, List.set_cons_zero, List.set_cons_succ, List.getElem_toArray, List.getElem_cons_zero, List.getElem_cons_succ]
          refine wpAnyH_done (by kernel_rfl) ?_ _
          go_wp2_with fail
          go_roundw
          case rel => exact ⟨k + 1, A6, N6, c6, by omega, by go_num, rfl, E2.out⟩
          case measure => simp [intOf]; omega
        · have hkn : ¬ (k : Int) < (h.n2 : Int) := by omega
          have HF : Hid (accD h.e 4 = accD h.e 3 ++ numsB [(h.n2 : Int)] ++ numsB (endsL (h.e.set.take k))) := Lib.hid (by
            rw [HE.out, List.take_of_length_le (by rw [HLN.out]; omega), ← HLN.out, List.append_assoc]; rfl)
          go_wp2_with fail
          go_meet
          exact ⟨A4, N4, c4, rfl, by rw [HF.out]; exact DR.out⟩
  case rest =>
  obtain ⟨A, N, c, rfl, hd⟩ := hcut
  clear D HBB
  generalize wc = W2 at *
  have D := Lib.hid hd
  clear hd
  have f6 : W2.cell? ⟨w.heap.size, 6, none⟩ = some (.int .i64 h.e.mode) := D.out.bx.cell 6
  have f7 : W2.cell? ⟨w.heap.size, 7, none⟩ = some (.int .i64 h.e.flags) := D.out.bx.cell 7
  have f8 : W2.cell? ⟨w.heap.size, 8, none⟩ = some (.int .i64 h.e.date) := D.out.bx.cell 8
  have f9 : W2.cell? ⟨w.heap.size, 9, none⟩ = some (.int .i64 h.e.n) := D.out.bx.cell 9
  go_upto_region 22 with (fail)
  refine code_over (fun W => Bk W W2.heap.size 66 #[.int .i64 h.e.mode, .int .i64 h.e.flags, .int .i64 h.e.date, .int .i64 h.e.n] ∧ DnAt w h (accD h.e 4) A N c W) ⟨Bk.new _ _ _, ⟨D.out.bx.alloc _, D.out.own.alloc _, D.out.below.alloc D.out.below.size _⟩⟩ ?_
  rintro W3 ⟨g4, d⟩
  obtain ⟨b8, hb8⟩ : ∃ b, b = W2.heap.size := ⟨_, rfl⟩
  have G4 : Hid (Bk W3 b8 66 #[.int .i64 h.e.mode, .int .i64 h.e.flags, .int .i64 h.e.date, .int .i64 h.e.n]) := Lib.hid (by rw [hb8]; exact g4)
  rw [← hb8]
  clear hb8 g4 f6 f7 f8 f9 D
  have D := Lib.hid d
  clear d
  go_wp2_with fail
  go_loopw [5, 9] (fun t i wx => ∃ (k : Nat) (A : Option Addr) (N c : Nat), k ≤ 4 ∧ i = .int .i64 (k : Int) ∧ t = .slice A N c ∧ DnAt w h (accD h.e (4 + k)) A N c wx ∧ Bk wx b8 66 #[.int .i64 h.e.mode, .int .i64 h.e.flags, .int .i64 h.e.date, .int .i64 h.e.n]) (fun _ i _ => 4 - (intOf i).toNat)
  case atStart => exact ⟨0, A, N, c, by omega, rfl, rfl, D.out, G4.out⟩
  case round =>
    obtain ⟨k, A4, N4, c4, hk, rfl, rfl, hd, hg⟩ := hrel
    have DR := Lib.hid hd
    have GR := Lib.hid hg
    have hN4 : N4 ≤ 50000 := by
      have h1 := DR.out.own.len
      have h2 := accD_small HRT.out (4 + k)
      omega
    clear hd hg D G4
    rcases (by omega : k = 0 ∨ k = 1 ∨ k = 2 ∨ k = 3 ∨ k = 4) with rfl | rfl | rfl | rfl | rfl
    · have CP : Hid (Calls Tryz.prog 36 #[.string (strOf (partsN h.e.kind)), .int .u8 109] wr fun e w' => e = .returned (.bool (decide (109 ∈ partsN h.e.kind))) ∧ wr = w') := Lib.hid (xehasP_any h.e.kind 109 wr)
      have HNX := Lib.hid (accD_next (e := h.e) (k := 4 + 0) (c := 109) rfl)
      cases hin : decide (109 ∈ partsN h.e.kind)
      · rw [hin] at CP
        have HE : Hid (accD h.e (4 + 0 + 1) = accD h.e (4 + 0)) := Lib.hid (by rw [HNX.out, layD_out hin, List.append_nil])
        clear hin
        go_wp2_with fail
        refine CP.out.mono ?_
        rintro e w' ⟨rfl, rfl⟩
        clear CP
        go_wp2_with fail
        go_roundw
        case rel => exact ⟨0 + 1, A4, N4, c4, by omega, rfl, rfl, by have := HE.out; rw [Nat.add_assoc] at this; rw [this]; exact DR.out, GR.out⟩
        case measure => simp [intOf]
      · rw [hin] at CP
        have HE : Hid (accD h.e (4 + 0 + 1) = accD h.e (4 + 0) ++ encB 8 (clampB h.e.mode)) := Lib.hid (by rw [HNX.out, layD_in hin, ← nums_one]; rfl)
        have f0 : wr.cell? ⟨b8, 0, none⟩ = some (.int .i64 h.e.mode) := GR.out.cell 0
        clear hin
        go_wp2_with fail
        refine CP.out.mono ?_
        rintro e w' ⟨rfl, rfl⟩
        clear CP
        go_wp2_with fail
        refine (rnum_any A4 N4 c4 h.e.mode _ wr DR.out.own.bytes (by omega)).mono ?_
        rintro e W4 hm
        have hb4 : Below wr.heap.size wr W4 := by obtain ⟨_, _, _, _, hb5⟩ := hm; exact hb5
        obtain ⟨A5, N5, c5, rfl, d⟩ := DR.out.next hm (l2 := accD h.e (4 + 0 + 1)) HE.out.symm
        have D5 := Lib.hid d
        have G5 := Lib.hid (GR.out.below hb4 GR.out.lt)
        clear hm d f0 hb4
        go_wp2_with fail
        go_roundw
        case rel => exact ⟨0 + 1, A5, N5, c5, by omega, rfl, rfl, by have := D5.out; rwa [Nat.add_assoc] at this, G5.out⟩
        case measure => simp [intOf]
    · have CP : Hid (Calls Tryz.prog 36 #[.string (strOf (partsN h.e.kind)), .int .u8 102] wr fun e w' => e = .returned (.bool (decide (102 ∈ partsN h.e.kind))) ∧ wr = w') := Lib.hid (xehasP_any h.e.kind 102 wr)
      have HNX := Lib.hid (accD_next (e := h.e) (k := 4 + 1) (c := 102) rfl)
      cases hin : decide (102 ∈ partsN h.e.kind)
      · rw [hin] at CP
        have HE : Hid (accD h.e (4 + 1 + 1) = accD h.e (4 + 1)) := Lib.hid (by rw [HNX.out, layD_out hin, List.append_nil])
        clear hin
        go_wp2_with fail
        refine CP.out.mono ?_
        rintro e w' ⟨rfl, rfl⟩
        clear CP
        go_wp2_with fail
        go_roundw
        case rel => exact ⟨1 + 1, A4, N4, c4, by omega, rfl, rfl, by have := HE.out; rw [Nat.add_assoc] at this; rw [this]; exact DR.out, GR.out⟩
        case measure => simp [intOf]
      · rw [hin] at CP
        have HE : Hid (accD h.e (4 + 1 + 1) = accD h.e (4 + 1) ++ encB 8 (clampB h.e.flags)) := Lib.hid (by rw [HNX.out, layD_in hin, ← nums_one]; rfl)
        have f0 : wr.cell? ⟨b8, 1, none⟩ = some (.int .i64 h.e.flags) := GR.out.cell 1
        clear hin
        go_wp2_with fail
        refine CP.out.mono ?_
        rintro e w' ⟨rfl, rfl⟩
        clear CP
        go_wp2_with fail
        refine (rnum_any A4 N4 c4 h.e.flags _ wr DR.out.own.bytes (by omega)).mono ?_
        rintro e W4 hm
        have hb4 : Below wr.heap.size wr W4 := by obtain ⟨_, _, _, _, hb5⟩ := hm; exact hb5
        obtain ⟨A5, N5, c5, rfl, d⟩ := DR.out.next hm (l2 := accD h.e (4 + 1 + 1)) HE.out.symm
        have D5 := Lib.hid d
        have G5 := Lib.hid (GR.out.below hb4 GR.out.lt)
        clear hm d f0 hb4
        go_wp2_with fail
        go_roundw
        case rel => exact ⟨1 + 1, A5, N5, c5, by omega, rfl, rfl, by have := D5.out; rwa [Nat.add_assoc] at this, G5.out⟩
        case measure => simp [intOf]
    · have CP : Hid (Calls Tryz.prog 36 #[.string (strOf (partsN h.e.kind)), .int .u8 100] wr fun e w' => e = .returned (.bool (decide (100 ∈ partsN h.e.kind))) ∧ wr = w') := Lib.hid (xehasP_any h.e.kind 100 wr)
      have HNX := Lib.hid (accD_next (e := h.e) (k := 4 + 2) (c := 100) rfl)
      cases hin : decide (100 ∈ partsN h.e.kind)
      · rw [hin] at CP
        have HE : Hid (accD h.e (4 + 2 + 1) = accD h.e (4 + 2)) := Lib.hid (by rw [HNX.out, layD_out hin, List.append_nil])
        clear hin
        go_wp2_with fail
        refine CP.out.mono ?_
        rintro e w' ⟨rfl, rfl⟩
        clear CP
        go_wp2_with fail
        go_roundw
        case rel => exact ⟨2 + 1, A4, N4, c4, by omega, rfl, rfl, by have := HE.out; rw [Nat.add_assoc] at this; rw [this]; exact DR.out, GR.out⟩
        case measure => simp [intOf]
      · rw [hin] at CP
        have HE : Hid (accD h.e (4 + 2 + 1) = accD h.e (4 + 2) ++ encB 8 (clampB h.e.date)) := Lib.hid (by rw [HNX.out, layD_in hin, ← nums_one]; rfl)
        have f0 : wr.cell? ⟨b8, 2, none⟩ = some (.int .i64 h.e.date) := GR.out.cell 2
        clear hin
        go_wp2_with fail
        refine CP.out.mono ?_
        rintro e w' ⟨rfl, rfl⟩
        clear CP
        go_wp2_with fail
        refine (rnum_any A4 N4 c4 h.e.date _ wr DR.out.own.bytes (by omega)).mono ?_
        rintro e W4 hm
        have hb4 : Below wr.heap.size wr W4 := by obtain ⟨_, _, _, _, hb5⟩ := hm; exact hb5
        obtain ⟨A5, N5, c5, rfl, d⟩ := DR.out.next hm (l2 := accD h.e (4 + 2 + 1)) HE.out.symm
        have D5 := Lib.hid d
        have G5 := Lib.hid (GR.out.below hb4 GR.out.lt)
        clear hm d f0 hb4
        go_wp2_with fail
        go_roundw
        case rel => exact ⟨2 + 1, A5, N5, c5, by omega, rfl, rfl, by have := D5.out; rwa [Nat.add_assoc] at this, G5.out⟩
        case measure => simp [intOf]
    · have CP : Hid (Calls Tryz.prog 36 #[.string (strOf (partsN h.e.kind)), .int .u8 110] wr fun e w' => e = .returned (.bool (decide (110 ∈ partsN h.e.kind))) ∧ wr = w') := Lib.hid (xehasP_any h.e.kind 110 wr)
      have HNX := Lib.hid (accD_next (e := h.e) (k := 4 + 3) (c := 110) rfl)
      cases hin : decide (110 ∈ partsN h.e.kind)
      · rw [hin] at CP
        have HE : Hid (accD h.e (4 + 3 + 1) = accD h.e (4 + 3)) := Lib.hid (by rw [HNX.out, layD_out hin, List.append_nil])
        clear hin
        go_wp2_with fail
        refine CP.out.mono ?_
        rintro e w' ⟨rfl, rfl⟩
        clear CP
        go_wp2_with fail
        go_roundw
        case rel => exact ⟨3 + 1, A4, N4, c4, by omega, rfl, rfl, by have := HE.out; rw [Nat.add_assoc] at this; rw [this]; exact DR.out, GR.out⟩
        case measure => simp [intOf]
      · rw [hin] at CP
        have HE : Hid (accD h.e (4 + 3 + 1) = accD h.e (4 + 3) ++ encB 8 (clampB h.e.n)) := Lib.hid (by rw [HNX.out, layD_in hin, ← nums_one]; rfl)
        have f0 : wr.cell? ⟨b8, 3, none⟩ = some (.int .i64 h.e.n) := GR.out.cell 3
        clear hin
        go_wp2_with fail
        refine CP.out.mono ?_
        rintro e w' ⟨rfl, rfl⟩
        clear CP
        go_wp2_with fail
        refine (rnum_any A4 N4 c4 h.e.n _ wr DR.out.own.bytes (by omega)).mono ?_
        rintro e W4 hm
        have hb4 : Below wr.heap.size wr W4 := by obtain ⟨_, _, _, _, hb5⟩ := hm; exact hb5
        obtain ⟨A5, N5, c5, rfl, d⟩ := DR.out.next hm (l2 := accD h.e (4 + 3 + 1)) HE.out.symm
        have D5 := Lib.hid d
        have G5 := Lib.hid (GR.out.below hb4 GR.out.lt)
        clear hm d f0 hb4
        go_wp2_with fail
        go_roundw
        case rel => exact ⟨3 + 1, A5, N5, c5, by omega, rfl, rfl, by have := D5.out; rwa [Nat.add_assoc] at this, G5.out⟩
        case measure => simp [intOf]
    · have D := Lib.hid (show DnAt w h (accD h.e 8) A4 N4 c4 wr from DR.out)
      clear DR GR
      obtain ⟨b121, hb121⟩ : ∃ b, decide (121 ∈ partsN h.e.kind) = b := ⟨_, rfl⟩
      have CP : Hid (Calls Tryz.prog 36 #[.string (strOf (partsN h.e.kind)), .int .u8 121] wr fun e w' => e = .returned (.bool b121) ∧ wr = w') := Lib.hid (by rw [← hb121]; exact xehasP_any h.e.kind 121 wr)
      have HNX := Lib.hid (accD_next (e := h.e) (k := 8) (c := 121) rfl)
      have HBB := Lib.hid hb121
      clear hb121
      cases b121
      · have HE : Hid (accD h.e 9 = accD h.e 8) := Lib.hid (by rw [HNX.out, layD_out HBB.out, List.append_nil])
        go_wp2_with fail
        refine CP.out.mono ?_
        rintro e w' ⟨rfl, rfl⟩
        clear CP
        go_wp2_with fail
        go_ret2
        exact ⟨A4, N4, c4, by rw [HZ.out]; rfl, by rw [HV.out, HE.out]; exact D.out.own, D.out.below⟩
      · have hok : okQ h.e 121 = true := (rightE_parts HRT.out).2.2.1 121 (of_decide_eq_true HBB.out)
        have hbl : h.e.body.length ≤ 2000 := of_decide_eq_true hok
        have hbody := (HH.out.later D.out.below).2.2.1
        have HE : Hid (accD h.e 9 = accD h.e 8 ++ textB (nats (strOf h.e.body))) := Lib.hid (by rw [HNX.out, layD_in HBB.out, nats_strOf _ hbody.2.1]; rfl)
        have hcv := run_str_of_bytes (P := Tryz.prog) (c := h.c3) hbody Tryz.underlying27 Tryz.underlying5 Tryz.underlying9
        have HSZ : Hid ((strOf h.e.body).size ≤ 140737488355328) := Lib.hid (by rw [strOf_size]; omega)
        have f0 : wr.cell? ⟨w.heap.size, 10, none⟩ = some (.slice h.A3 h.n3 h.c3) := D.out.bx.cell 10
        clear hok hbl hbody
        go_wp2_with fail
        refine CP.out.mono ?_
        rintro e w' ⟨rfl, rfl⟩
        clear CP
        go_wp2_with fail
        refine (rtext_any A4 N4 c4 (strOf h.e.body) _ wr D.out.own.bytes (by omega) HSZ.out).mono ?_
        rintro e W4 hm
        obtain ⟨A5, N5, c5, rfl, d⟩ := D.out.next hm (l2 := accD h.e 9) HE.out.symm
        have D5 := Lib.hid d
        clear hm d f0 hcv
        go_wp2_with fail
        go_ret2
        exact ⟨A5, N5, c5, by rw [HZ.out]; rfl, by rw [HV.out]; exact D5.out.own, D5.out.below⟩
end Go.Proofs.YtoiffchhfnbooaaGreatDoor
