/-
  The law Parts of layer 15, as a walk.
-/
import Derived.Test.YtoiffchhfnbooaaGreatDoorQRecLawM
import Derived.Deep.DeepCutAuto
import Derived.Deep.QuietTactic
import Derived.BigQuiet
import Derived.IntWalk
namespace Go.Proofs.YtoiffchhfnbooaaGreatDoor
set_option linter.unusedVariables false
set_option linter.unusedSimpArgs false
open Go.RowKit
set_option linter.unusedVariables false
set_option linter.unusedSimpArgs false
theorem wpList_build_wanted15 {P : Program} {ops : Array Oper} {rest : List Oper} {o : Oper} {a : Act} {w : World} {Q : Exit → Act → World → Prop} (hw : Region.wanted o (yielded ops a.tmps) = true) (t : TypeId) (parts : Array (Nat × Operand)) (ho : o.op = .build t parts)
    (vals : List (Nat × Value)) (hv : (parts.toList.map fun p => (p.1, a.eval p.2)) = vals) (cells : Array Value) (hb : P.built t vals = some cells) (h : wpList P ops Q rest (a.put o.dst (.agg cells)) w) : wpList P ops Q (o :: rest) a w :=
  wpList_step fun K hK => by rw [if_pos hw]; exact wp_value (exec_build15 ho hv hb) (hK _ _ h)
theorem exec_to15 {P : Program} {o : Oper} {ρ : Operand → Value} {w : World} {x hi : Operand} {t e : TypeId} (ho : o.op = .slice t x none (some hi) none) (ht : P.underlying t = some (.slice e)) (hsz : (P.info? e).map (·.size) = some 1)
    {g off n c j : Nat} (hx : ρ x = .slice (some ⟨g, off, none⟩) n c) (hhi : ρ hi = .int .i64 (j : Int)) (hj : j ≤ c) (hc : 0 < c) : (execOp ρ o).run P w = .ok (.value (.slice (some ⟨g, off, none⟩) j c)) w := by
  have hel : P.elem t = e := by simp [Program.elem, ht]
  have ht' : P.underlying t = some (.slice (P.elem t)) := by rw [hel]; exact ht
  have hs : ∀ W : World, (sizeOf (P.elem t)).run P W = .ok 1 W := by
    intro W
    rw [hel]
    cases hq : P.info? e with
    | none => simp [hq] at hsz
    | some i =>
      have : i.size = 1 := by simpa [hq] using hsz
      simp [sizeOf, hq, this, go_sem, run_typeInfo _ hq]
  have hc0 : ¬ c = 0 := by omega
  have hrun : (Instr.sliceAt t (.slice (some ⟨g, off, none⟩) n c) none (some (.int .i64 (j : Int))) none).run P w = .ok (.slice (some ⟨g, off, none⟩) j c) w := by
    rw [run_sliceAt_slice w t _ _ _ _ ht', run_slice_h w t _ n c ht' .i64 (j : Int) (by omega) (by omega), hs]
    simp [Result.andThen_ok, sliced, Int.toNat_natCast, hc0, Addr.add]
  unfold execOp
  simp [ho, hx, hhi, hrun]
theorem exec_str15 {P : Program} {o : Oper} {ρ : Operand → Value} {w : World} {x : Operand} {src dst e : TypeId} (ho : o.op = .convert src dst x) {B n c : Nat} {A : Option Addr} {l : List Nat} (hx : ρ x = .slice A n c) (h : Bytes w B A n l) (hs : P.underlying src = some (.slice e)) (he : P.underlying e = some (.int .u8)) (hd : P.underlying dst = some .string) :
    (execOp ρ o).run P w = .ok (.value (.string (strOf l))) w := by
  unfold execOp
  simp [ho, hx, run_str_of_bytes (c := c) h hs he hd]
theorem dec_pre {v j : Nat} (hv : v < 256 ^ 8) (hj : j ≤ 8) : decB ((encB 8 v).take j) ≤ v := by
  have h1 := decB_append ((encB 8 v).take j) ((encB 8 v).drop j)
  rw [List.take_append_drop, decB_encB 8 v hv] at h1
  have h2 : 1 ≤ 256 ^ ((encB 8 v).drop j).length := Nat.one_le_pow _ _ (by omega)
  calc decB ((encB 8 v).take j) = decB ((encB 8 v).take j) * 1 := (Nat.mul_one _).symm
    _ ≤ decB ((encB 8 v).take j) * 256 ^ ((encB 8 v).drop j).length := Nat.mul_le_mul_left _ h2
    _ ≤ v := h1
theorem rec_head {c : Ch} {e : Ev} (hc : c.Ok) : (recB c e).take 32 = c.head ∧ (recB c e).drop 40 = bytesE e ∧ ∀ i, 32 ≤ i → i < 40 → byteAt (recB c e) i = byteAt (encB 8 (clampB (c.count + 1))) (i - 32) := by
  have h8 := encB_length 8 (clampB (c.count + 1))
  unfold recB
  refine ⟨?_, ?_, fun i h1 h2 => ?_⟩
  · rw [List.append_assoc, List.take_append_of_le_length (by rw [hc.1]; exact Nat.le_refl _), List.take_of_length_le (by rw [hc.1]; exact Nat.le_refl _)]
  · rw [List.drop_append_of_le_length (by rw [List.length_append, hc.1, h8]; exact Nat.le_refl _), List.drop_of_length_le (by rw [List.length_append, hc.1, h8]; exact Nat.le_refl _), List.nil_append]
  · unfold byteAt
    rw [List.getD_eq_getElem?_getD, List.getD_eq_getElem?_getD, List.append_assoc, List.getElem?_append_right (by rw [hc.1]; exact h1), hc.1, List.getElem?_append_left (by rw [h8]; omega)]
set_option maxRecDepth 100000 in
set_option maxHeartbeats 8000000 in
theorem recordParts_walk (c : Ch) (h : Eh) (w : World) (hc : c.Ok) (Hh : EvIn w w.heap.size h) (hK : Kinds w) (ht : Tabs w) : Calls Tryz.prog 5 #[.agg (chC c), .agg (evC h)] w fun e w' => e = .returned (.bool true) ∧ Below w.heap.size w w' := by
  have hmx : Tryz.prog.follows .mixedOrders = true := by kernel_rfl
  have HC := Lib.hid hc
  have HH := Lib.hid Hh
  have HK := Lib.hid hK
  have HT := Lib.hid ht
  clear hc Hh hK ht
  go_enter Tryz.func5, Tryz.ntmps5
  go_wp2_with fail
  refine calls_overE (fun W => RcLw w c h W) ⟨(Bk.new _ _ _).alloc _, Bk.new2 _ _ _ _, ((Below.refl _ _).alloc (Nat.le_refl _) _).alloc (by simp) _⟩ ?_
  rintro W q
  have Q0 := Lib.hid q
  clear q
  refine (alive15_any W (HK.out.below Q0.out.2.2) (Tabs.later15 HT.out Q0.out.2.2)).mono ?_
  rintro e W1 ⟨rfl, hb⟩
  have Q1 := Lib.hid (Q0.out.next hb)
  clear hb Q0
  go_wp2_with ((with_reducible show wpList _ _ _ (⟨some 14, _, _, _, _, _⟩ :: _) _ _); refine hold ?_)
  refine held (wpList_load_mid rfl 29 (.tmp 3) rfl (w.heap.size + 1) 0 rfl _ _ Q1.out.2.1.range Tryz.underlying29 rfl (by kernel_rfl) ?_)
  go_wp2_with fail
  refine (xeGreat_any h W1).mono ?_
  rintro e W2 ⟨gr, rfl, hsm, hb⟩
  have Q2 := Lib.hid (Q1.out.next hb)
  clear hsm hb Q1
  cases gr
  case true =>
    go_wp2_with fail
    go_ret
    exact ⟨rfl, Q2.out.2.2⟩
  obtain ⟨X, hX⟩ : ∃ X, nextC c h.e = X := ⟨_, rfl⟩
  have HXO : Hid X.Ok := Lib.hid (by rw [← hX]; exact nextC_ok c h.e)
  have HX := Lib.hid hX
  clear hX
  obtain ⟨er, her⟩ : ∃ er, nextE c h.e = er := ⟨_, rfl⟩
  have HER := Lib.hid her
  clear her
  obtain ⟨rb, hrb⟩ : ∃ rb, nextB c h.e = rb := ⟨_, rfl⟩
  have HRB := Lib.hid hrb
  clear hrb
  go_wp2_with ((with_reducible show wpList _ _ _ (⟨some 17, _, _, _, _, _⟩ :: _) _ _); refine hold ?_)
  refine held (wpList_load_mid rfl 24 (.tmp 2) rfl w.heap.size 0 rfl _ _ Q2.out.1.range Tryz.underlying24 rfl (info_chl HC.out) ?_)
  refine wpList_load_mid rfl 29 (.tmp 3) rfl (w.heap.size + 1) 0 rfl _ _ Q2.out.2.1.range Tryz.underlying29 rfl (by kernel_rfl) ?_
  go_wp2_with fail
  refine (rcNext_any c h W2 HC.out (HH.out.later Q2.out.2.2) (HK.out.below Q2.out.2.2) (Tabs.later15 HT.out Q2.out.2.2)).mono ?_
  rintro e V3 ⟨A3, N3, k3, rfl, ho, hb⟩
  have P3 := Lib.hid (Q2.out.next hb)
  have O3 := Lib.hid ho
  clear ho
  clear hb Q2
  rw [HX.out, HER.out]
  rw [HRB.out] at O3
  go_wp2_with ((with_reducible show wpList _ _ _ (⟨none, _, _, _, _, _⟩ :: _) _ _); refine hold ?_)
  refine held (wpList_store_wide rfl 24 (.tmp 6) (.tmp 21) rfl V3.heap.size 0 (chC X) rfl rfl 24 (chC ch0) (Bk.new V3 24 (chC ch0)) (by rw [chC_size HXO.out]; exact Nat.le_refl _) (info_ch' HXO.out) (chC_one _) ?_)
  intro W4 hw
  obtain ⟨k6, hb⟩ := ch_new HXO.out hw
  have Q4 := Lib.hid (P3.out.next hb)
  have K6 := Lib.hid k6
  have O4 := Lib.hid (O3.out.below hb)
  obtain ⟨b6, hb6⟩ : ∃ b, V3.heap.size = b := ⟨_, rfl⟩
  rw [hb6] at K6 ⊢
  clear k6 hb hw hb6 P3 O3
  by_cases he : er = 0
  case neg =>
    have hrb : rb = [] := by rw [← HRB.out]; exact if_neg (by rw [HER.out]; exact he)
    have hxc : X = ch0 := by rw [← HX.out]; exact if_neg (by rw [HER.out]; exact he)
    have hN : N3 = 0 := by rw [← O4.out.len, hrb]; rfl
    have hne : (((er : Nat) : Int) != 0) = true := by simpa using he
    subst hN
    have heql : ∀ W, (binOp .eql 24 (.agg (chC X)) (.agg (chC ch0))).run Tryz.prog W = .ok (.bool true) W := fun W => by rw [run_eql_ch W X ch0 HXO.out ch0_ok, decide_eq_true hxc]
    clear hrb hxc he
    go_wp2_with ((with_reducible show wpList _ _ _ (⟨some 29, _, _, _, _, _⟩ :: _) _ _); refine hold ?_)
    refine held (wpList_load_wanted (by rfl) 24 (.tmp 6) rfl b6 0 rfl _ _ K6.out.range Tryz.underlying24 rfl (info_chl HXO.out) ?_)
    refine wpList_build_wanted15 (by rfl) 24 #[] rfl [] rfl (chC ch0) built_ch0 ?_
    go_wp2_with fail
    go_ret
    exact ⟨rfl, Q4.out.2.2⟩
  subst he
  have HN0 := Lib.hid (nextE_0 HER.out)
  have HRC : Hid (rb = recB c h.e) := Lib.hid (by rw [← HRB.out]; exact if_pos HER.out)
  have HXC : Hid (X.count = c.count + 1) := Lib.hid (by rw [← HX.out]; exact nextC_count HER.out)
  have HEV : Hid (encE h.e = 0 ∧ encV h.e = bytesE h.e) := Lib.hid ⟨if_pos HN0.out.2, if_pos HN0.out.2⟩
  go_wp2_with ((with_reducible show wpList _ _ _ (⟨some 34, _, _, _, _, _⟩ :: _) _ _); refine hold ?_)
  refine held (wpList_load_mid rfl 29 (.tmp 3) rfl (w.heap.size + 1) 0 rfl _ _ Q4.out.2.1.range Tryz.underlying29 rfl (by kernel_rfl) ?_)
  go_wp2_with fail
  refine (xeEncode_any h W4 (HH.out.later Q4.out.2.2)).mono ?_
  rintro e W5 ⟨A8, N8, k8, rfl, ho, hb⟩
  rw [HEV.out.1]
  rw [HEV.out.2] at ho
  have Q5 := Lib.hid (Q4.out.next hb)
  have K5 := Lib.hid (K6.out.below hb K6.out.lt)
  have O5 := Lib.hid (O4.out.below hb)
  have O8 := Lib.hid ho
  clear ho hb Q4 K6 O4
  have HLB := Lib.hid (bytesE_len HN0.out.2)
  have HN8 : Hid (N8 = (bytesE h.e).length ∧ N8 ≤ 20016) := Lib.hid ⟨O8.out.len.symm, by rw [← O8.out.len]; exact HLB.out.2⟩
  have HN3 : Hid (N3 = 40 + N8) := Lib.hid (by rw [← O5.out.len, HRC.out, recB_len HC.out, HN8.out.1])
  have hneq : (((N3 : Nat) : Int) != 40 + ((N8 : Nat) : Int)) = false := by rw [HN3.out]; simp
  have hn8 : N8 ≤ 20016 := HN8.out.2
  obtain ⟨g5, hA, _, _, _, hcell⟩ := O5.out.cells (by have := HN3.out; omega)
  subst hA
  have HCELL := Lib.hid hcell
  clear hcell
  obtain ⟨v, hv⟩ : ∃ v, clampB (c.count + 1) = v := ⟨_, rfl⟩
  have HV : Hid ((v : Int) = c.count + 1 ∧ v ≤ 1099511627776) := Lib.hid (by
    have h1 := HN0.out.1
    rw [clampB_mid (by omega) (by omega)] at hv
    omega)
  have HVE := Lib.hid hv
  clear hv
  go_wp2_with fail
  clear hneq hn8
  go_loop [10, 11] (fun x y => ∃ i : Nat, 32 ≤ i ∧ i ≤ 40 ∧ y = .int .i64 (i : Int) ∧ x = .int .i64 ((decB ((encB 8 v).take (i - 32)) : Nat) : Int)) (fun _ y => 40 - (intOf y).toNat)
  case atStart => exact ⟨32, Nat.le_refl _, by omega, rfl, rfl⟩
  case round =>
    obtain ⟨i, hi1, hi2, rfl, rfl⟩ := hrel
    by_cases hlt : i < 40
    · have hci := HCELL.out i (by have := HN3.out; omega)
      have hbi : byteAt rb i = byteAt (encB 8 v) (i - 32) := by rw [HRC.out, ← HVE.out]; exact (rec_head HC.out).2.2 i hi1 hlt
      rw [hbi] at hci
      obtain ⟨y, hy⟩ : ∃ y, byteAt (encB 8 v) (i - 32) = y := ⟨_, rfl⟩
      have hy2 : y < 256 := by
        rw [← hy]
        unfold byteAt
        rw [List.getD_eq_getElem?_getD, List.getElem?_eq_getElem (by rw [encB_length]; omega)]
        exact encB_lt 8 v _ (List.getElem_mem _)
      have htk := decB_take (encB 8 v) (i - 32) (by rw [encB_length]; omega)
      rw [hy] at htk hci
      have hle := dec_pre (v := v) (j := i - 32 + 1) (by have := HV.out.2; omega) (by omega)
      rw [htk] at hle
      obtain ⟨d, hd⟩ : ∃ d, decB ((encB 8 v).take (i - 32)) = d := ⟨_, rfl⟩
      rw [hd] at htk hle ⊢
      have HTK : Hid (decB ((encB 8 v).take (i + 1 - 32)) = d * 256 + y) := Lib.hid (by rw [show i + 1 - 32 = i - 32 + 1 by omega]; exact htk)
      have hb1 : (d : Int) * 256 + (y : Int) ≤ 1099511627776 := by have := HV.out.2; omega
      have hd1 : (d : Int) * 256 ≤ 1099511627776 := by omega
      have hd2 : d ≤ 4294967296 := by omega
      have hi0 : (0 : Int) ≤ (i : Int) := by omega
      have hi3 : (i : Int) < 40 := by omega
      have hi4 : (i : Int) < (N3 : Int) := by have := HN3.out; omega
      clear hbi hy htk hle hd
      go_wp2_with fail
      go_round
      case rel => exact ⟨i + 1, by omega, by omega, by go_num, by rw [HTK.out]; go_num⟩
      case measure => simp [intOf]; omega
    · obtain rfl : i = 40 := by omega
      have HDV : Hid (((decB ((encB 8 v).take (40 - 32)) : Nat) : Int) = c.count + 1) := Lib.hid (by rw [show 40 - 32 = 8 from rfl, List.take_of_length_le (by rw [encB_length]; exact Nat.le_refl _), decB_encB 8 v (by have := HV.out.2; omega)]; exact HV.out.1)
      rw [HDV.out]
      obtain ⟨z, hz⟩ : ∃ z, c.count = z := ⟨_, rfl⟩
      have HZ := Lib.hid hz
      rw [hz] at HXC ⊢
      have HZB : Hid (0 ≤ z ∧ z < 1099511627776) := Lib.hid (by have := HN0.out.1; rw [hz] at this; exact this)
      have HW := Lib.hid (IntWalk.i64_in (z + 1) (by have := HZB.out; omega))
      have HW8 := Lib.hid (IntWalk.i64_in (40 + (N8 : Int)) (by have := HN8.out.2; omega))
      have HEQ8 : Hid ((((N3 : Nat) : Int) == 40 + ((N8 : Nat) : Int)) = true) := Lib.hid (by rw [HN3.out]; simp)
      have HK3 : Hid (32 ≤ k3 ∧ 0 < k3 ∧ N3 ≤ k3 ∧ 40 ≤ N3 ∧ N3 - 40 = N8 ∧ 32 ≤ N3) := Lib.hid (by have h1 := O5.out.cap.1; have h2 := HN3.out; omega)
      have HHD : Hid (rb.take 32 = c.head ∧ rb.drop 40 = bytesE h.e) := Lib.hid (by rw [HRC.out]; exact ⟨(rec_head HC.out).1, (rec_head HC.out).2.1⟩)
      clear hz hlt hi1 hi2 HDV
      go_wp2_with fail
      obtain ⟨A9, hA9⟩ : ∃ A9, A9 = (if k3 = 40 then some ⟨g5, 0, none⟩ else (some ⟨g5, 0, none⟩ : Option Addr).map (·.add 40)) := ⟨_, rfl⟩
      have HA9 := Lib.hid hA9
      clear hA9
      have E8 := Lib.hid (O8.out.below (Below.refl _ _).drew)
      refine wp_region_held_drew (S := fun W' => RcLw w c h W' ∧ Bk W' b6 24 (chC X) ∧ OwnB W' W2.heap.size 5 (some ⟨g5, 0, none⟩) N3 k3 rb) hmx ⟨Q5.out.drew, K5.out.drew, O5.out.below (Below.refl _ _).drew⟩ (fun hHeld => ?_)
      clear Q5 K5 O5 O8
      generalize hW0 : W5.drew = V0 at *
      clear hW0
      simp only [List.size_toArray, List.length_cons, List.length_nil, Nat.reduceAdd]
      refine wpAnyH_take (i := 0) (v := .int .i64 0) rfl (by kernel_rfl) (by kernel_rfl) (by kernel_rfl) (fun _ _ _ h => h) (Or.inl ⟨by rfl, fun w0 hC => by simp [execOp, Act.eval, Act.put, go_sem]⟩) hHeld ?_
      try simp only [Act.put, List.setIfInBounds_toArray, List.set_cons_zero, List.set_cons_succ, List.getElem_toArray, List.getElem_cons_zero, List.getElem_cons_succ]
      refine wpAnyH_take (i := 1) (v := .bool true) rfl (by kernel_rfl) (by kernel_rfl) (by kernel_rfl) (fun _ _ _ h => h) (Or.inl ⟨by rfl, fun w0 hC => by simp [execOp, Act.eval, Act.put, go_sem]⟩) hHeld ?_
      try simp only [Act.put, List.setIfInBounds_toArray, List.set_cons_zero, List.set_cons_succ, List.getElem_toArray, List.getElem_cons_zero, List.getElem_cons_succ]
      refine wpAnyH_take (i := 2) (v := .bool true) rfl (by kernel_rfl) (by kernel_rfl) (by kernel_rfl) (fun _ _ _ h => h) (Or.inl ⟨by rfl, fun w0 hC => by simp [execOp, Act.eval, Act.put, go_sem]⟩) hHeld ?_
      try simp only [Act.put, List.setIfInBounds_toArray, List.set_cons_zero, List.set_cons_succ, List.getElem_toArray, List.getElem_cons_zero, List.getElem_cons_succ]
      refine wpAnyH_take (i := 3) (v := .slice (some ⟨g5, 0, none⟩) N3 k3) rfl (by kernel_rfl) (by kernel_rfl) (by kernel_rfl) (fun _ _ _ h => h) (Or.inl ⟨by rfl, fun w0 hC => by simp [execOp, Act.eval, Act.put, go_sem]⟩) hHeld ?_
      try simp only [Act.put, List.setIfInBounds_toArray, List.set_cons_zero, List.set_cons_succ, List.getElem_toArray, List.getElem_cons_zero, List.getElem_cons_succ]
      refine wpAnyH_take (i := 4) (v := .int .i64 (N3 : Int)) rfl (by kernel_rfl) (by kernel_rfl) (by kernel_rfl) (fun _ _ _ h => h) (Or.inl ⟨by rfl, fun w0 hC => by simp [execOp, Act.eval, Act.put, go_sem]⟩) hHeld ?_
      try simp only [Act.put, List.setIfInBounds_toArray, List.set_cons_zero, List.set_cons_succ, List.getElem_toArray, List.getElem_cons_zero, List.getElem_cons_succ]
      refine wpAnyH_take (i := 5) (v := .slice A8 N8 k8) rfl (by kernel_rfl) (by kernel_rfl) (by kernel_rfl) (fun _ _ _ h => h) (Or.inl ⟨by rfl, fun w0 hC => by simp [execOp, Act.eval, Act.put, go_sem]⟩) hHeld ?_
      try simp only [Act.put, List.setIfInBounds_toArray, List.set_cons_zero, List.set_cons_succ, List.getElem_toArray, List.getElem_cons_zero, List.getElem_cons_succ]
      refine wpAnyH_take (i := 6) (v := .int .i64 (N8 : Int)) rfl (by kernel_rfl) (by kernel_rfl) (by kernel_rfl) (fun _ _ _ h => h) (Or.inl ⟨by rfl, fun w0 hC => by simp [execOp, Act.eval, Act.put, go_sem]⟩) hHeld ?_
      try simp only [Act.put, List.setIfInBounds_toArray, List.set_cons_zero, List.set_cons_succ, List.getElem_toArray, List.getElem_cons_zero, List.getElem_cons_succ]
      refine wpAnyH_take (i := 7) (v := .int .i64 (40 + (N8 : Int))) rfl (by kernel_rfl) (by kernel_rfl) (by kernel_rfl) (fun _ _ _ h => h) (Or.inl ⟨by rfl, fun w0 hC => by simp [execOp, Act.eval, Act.put, go_sem, HW8.out]⟩) hHeld ?_
      try simp only [Act.put, List.setIfInBounds_toArray, List.set_cons_zero, List.set_cons_succ, List.getElem_toArray, List.getElem_cons_zero, List.getElem_cons_succ]
      refine wpAnyH_take (i := 8) (v := .bool true) rfl (by kernel_rfl) (by kernel_rfl) (by kernel_rfl) (fun _ _ _ h => h) (Or.inl ⟨by rfl, fun w0 hC => by simp [execOp, Act.eval, Act.put, go_sem, HEQ8.out]⟩) hHeld ?_
      try simp only [Act.put, List.setIfInBounds_toArray, List.set_cons_zero, List.set_cons_succ, List.getElem_toArray, List.getElem_cons_zero, List.getElem_cons_succ]
      refine wpAnyH_take (i := 9) (v := .bool true) rfl (by kernel_rfl) (by kernel_rfl) (by kernel_rfl) (fun _ _ _ h => h) (Or.inl ⟨by rfl, fun w0 hC => by simp [execOp, Act.eval, Act.put, go_sem]⟩) hHeld ?_
      try simp only [Act.put, List.setIfInBounds_toArray, List.set_cons_zero, List.set_cons_succ, List.getElem_toArray, List.getElem_cons_zero, List.getElem_cons_succ]
      refine wpAnyH_take (i := 10) (v := .bool true) rfl (by kernel_rfl) (by kernel_rfl) (by kernel_rfl) (fun _ _ _ h => h) (Or.inl ⟨by rfl, fun w0 hC => by simp [execOp, Act.eval, Act.put, go_sem]⟩) hHeld ?_
      try simp only [Act.put, List.setIfInBounds_toArray, List.set_cons_zero, List.set_cons_succ, List.getElem_toArray, List.getElem_cons_zero, List.getElem_cons_succ]
      refine wpAnyH_take (i := 11) (v := .slice (some ⟨g5, 0, none⟩) N3 k3) rfl (by kernel_rfl) (by kernel_rfl) (by kernel_rfl) (fun _ _ _ h => h) (Or.inl ⟨by rfl, fun w0 hC => by simp [execOp, Act.eval, Act.put, go_sem]⟩) hHeld ?_
      try simp only [Act.put, List.setIfInBounds_toArray, List.set_cons_zero, List.set_cons_succ, List.getElem_toArray, List.getElem_cons_zero, List.getElem_cons_succ]
      refine wpAnyH_take (i := 12) (v := .slice (some ⟨g5, 0, none⟩) 32 k3) rfl (by kernel_rfl) (by kernel_rfl) (by kernel_rfl) (fun _ _ _ h => h) (Or.inl ⟨by rfl, fun w0 hC => exec_to15 rfl Tryz.underlying27 ch_size_u8 rfl rfl HK3.out.1 HK3.out.2.1⟩) hHeld ?_
      try simp only [Act.put, List.setIfInBounds_toArray, List.set_cons_zero, List.set_cons_succ, List.getElem_toArray, List.getElem_cons_zero, List.getElem_cons_succ]
      refine wpAnyH_take (i := 13) (v := .string (strOf c.head)) rfl (by kernel_rfl) (by kernel_rfl) (by kernel_rfl) (fun _ _ _ h => h) (Or.inl ⟨by rfl, fun w0 hC => by rw [← HHD.out.1]; exact exec_str15 rfl rfl (hC.2.2.bytes.to HK3.out.2.2.2.2.2) Tryz.underlying27 Tryz.underlying5 Tryz.underlying9⟩) hHeld ?_
      try simp only [Act.put, List.setIfInBounds_toArray, List.set_cons_zero, List.set_cons_succ, List.getElem_toArray, List.getElem_cons_zero, List.getElem_cons_succ]
      refine wpAnyH_take (i := 14) (v := .pointer (some ⟨w.heap.size, 0, none⟩)) rfl (by kernel_rfl) (by kernel_rfl) (by kernel_rfl) (fun _ _ _ h => h) (Or.inl ⟨by rfl, fun w0 hC => by simp [execOp, Act.eval, Act.put, go_sem]⟩) hHeld ?_
      try simp only [Act.put, List.setIfInBounds_toArray, List.set_cons_zero, List.set_cons_succ, List.getElem_toArray, List.getElem_cons_zero, List.getElem_cons_succ]
      refine wpAnyH_take (i := 15) (v := .slice (some ⟨w.heap.size, 0, none⟩) 32 32) rfl (by kernel_rfl) (by kernel_rfl) (by kernel_rfl) (fun _ _ _ h => h) (Or.inl ⟨by rfl, fun w0 hC => by simp [execOp, Act.eval, Act.put, go_sem]⟩) hHeld ?_
      try simp only [Act.put, List.setIfInBounds_toArray, List.set_cons_zero, List.set_cons_succ, List.getElem_toArray, List.getElem_cons_zero, List.getElem_cons_succ]
      refine wpAnyH_take (i := 16) (v := .string (strOf c.head)) rfl (by kernel_rfl) (by kernel_rfl) (by kernel_rfl) (fun _ _ _ h => h) (Or.inl ⟨by rfl, fun w0 hC => exec_str15 rfl rfl (hC.1.1.headBytes HC.out (Nat.lt_succ_self _)) Tryz.underlying27 Tryz.underlying5 Tryz.underlying9⟩) hHeld ?_
      try simp only [Act.put, List.setIfInBounds_toArray, List.set_cons_zero, List.set_cons_succ, List.getElem_toArray, List.getElem_cons_zero, List.getElem_cons_succ]
      refine wpAnyH_take (i := 17) (v := .bool true) rfl (by kernel_rfl) (by kernel_rfl) (by kernel_rfl) (fun _ _ _ h => h) (Or.inl ⟨by rfl, fun w0 hC => by simp [execOp, Act.eval, Act.put, go_sem]⟩) hHeld ?_
      try simp only [Act.put, List.setIfInBounds_toArray, List.set_cons_zero, List.set_cons_succ, List.getElem_toArray, List.getElem_cons_zero, List.getElem_cons_succ]
      refine wpAnyH_take (i := 18) (v := .bool true) rfl (by kernel_rfl) (by kernel_rfl) (by kernel_rfl) (fun _ _ _ h => h) (Or.inl ⟨by rfl, fun w0 hC => by simp [execOp, Act.eval, Act.put, go_sem]⟩) hHeld ?_
      try simp only [Act.put, List.setIfInBounds_toArray, List.set_cons_zero, List.set_cons_succ, List.getElem_toArray, List.getElem_cons_zero, List.getElem_cons_succ]
      refine wpAnyH_take (i := 19) (v := .bool true) rfl (by kernel_rfl) (by kernel_rfl) (by kernel_rfl) (fun _ _ _ h => h) (Or.inl ⟨by rfl, fun w0 hC => by simp [execOp, Act.eval, Act.put, go_sem]⟩) hHeld ?_
      try simp only [Act.put, List.setIfInBounds_toArray, List.set_cons_zero, List.set_cons_succ, List.getElem_toArray, List.getElem_cons_zero, List.getElem_cons_succ]
      refine wpAnyH_take (i := 20) (v := .int .i64 (z + 1)) rfl (by kernel_rfl) (by kernel_rfl) (by kernel_rfl) (fun _ _ _ h => h) (Or.inl ⟨by rfl, fun w0 hC => by simp [execOp, Act.eval, Act.put, go_sem]⟩) hHeld ?_
      try simp only [Act.put, List.setIfInBounds_toArray, List.set_cons_zero, List.set_cons_succ, List.getElem_toArray, List.getElem_cons_zero, List.getElem_cons_succ]
      refine wpAnyH_take (i := 21) (v := .pointer (some ⟨w.heap.size, 32, none⟩)) rfl (by kernel_rfl) (by kernel_rfl) (by kernel_rfl) (fun _ _ _ h => h) (Or.inl ⟨by rfl, fun w0 hC => by simp [execOp, Act.eval, Act.put, go_sem]⟩) hHeld ?_
      try simp only [Act.put, List.setIfInBounds_toArray, List.set_cons_zero, List.set_cons_succ, List.getElem_toArray, List.getElem_cons_zero, List.getElem_cons_succ]
      refine wpAnyH_take (i := 22) (v := .int .i64 z) rfl (by kernel_rfl) (by kernel_rfl) (by kernel_rfl) (fun _ _ _ h => h) (Or.inl ⟨by rfl, fun w0 hC => by simp [execOp, Act.eval, Act.put, go_sem, hC.1.1.count HC.out, HZ.out]⟩) hHeld ?_
      try simp only [Act.put, List.setIfInBounds_toArray, List.set_cons_zero, List.set_cons_succ, List.getElem_toArray, List.getElem_cons_zero, List.getElem_cons_succ]
      refine wpAnyH_take (i := 23) (v := .int .i64 (z + 1)) rfl (by kernel_rfl) (by kernel_rfl) (by kernel_rfl) (fun _ _ _ h => h) (Or.inl ⟨by rfl, fun w0 hC => by simp [execOp, Act.eval, Act.put, go_sem, HW.out]⟩) hHeld ?_
      try simp only [Act.put, List.setIfInBounds_toArray, List.set_cons_zero, List.set_cons_succ, List.getElem_toArray, List.getElem_cons_zero, List.getElem_cons_succ]
      refine wpAnyH_take (i := 24) (v := .bool true) rfl (by kernel_rfl) (by kernel_rfl) (by kernel_rfl) (fun _ _ _ h => h) (Or.inl ⟨by rfl, fun w0 hC => by simp [execOp, Act.eval, Act.put, go_sem]⟩) hHeld ?_
      try simp only [Act.put, List.setIfInBounds_toArray, List.set_cons_zero, List.set_cons_succ, List.getElem_toArray, List.getElem_cons_zero, List.getElem_cons_succ]
      refine wpAnyH_take (i := 25) (v := .bool true) rfl (by kernel_rfl) (by kernel_rfl) (by kernel_rfl) (fun _ _ _ h => h) (Or.inl ⟨by rfl, fun w0 hC => by simp [execOp, Act.eval, Act.put, go_sem]⟩) hHeld ?_
      try simp only [Act.put, List.setIfInBounds_toArray, List.set_cons_zero, List.set_cons_succ, List.getElem_toArray, List.getElem_cons_zero, List.getElem_cons_succ]
      refine wpAnyH_take (i := 26) (v := .bool true) rfl (by kernel_rfl) (by kernel_rfl) (by kernel_rfl) (fun _ _ _ h => h) (Or.inl ⟨by rfl, fun w0 hC => by simp [execOp, Act.eval, Act.put, go_sem]⟩) hHeld ?_
      try simp only [Act.put, List.setIfInBounds_toArray, List.set_cons_zero, List.set_cons_succ, List.getElem_toArray, List.getElem_cons_zero, List.getElem_cons_succ]
      refine wpAnyH_take (i := 27) (v := .slice (some ⟨g5, 0, none⟩) N3 k3) rfl (by kernel_rfl) (by kernel_rfl) (by kernel_rfl) (fun _ _ _ h => h) (Or.inl ⟨by rfl, fun w0 hC => by simp [execOp, Act.eval, Act.put, go_sem]⟩) hHeld ?_
      try simp only [Act.put, List.setIfInBounds_toArray, List.set_cons_zero, List.set_cons_succ, List.getElem_toArray, List.getElem_cons_zero, List.getElem_cons_succ]
      refine wpAnyH_take (i := 28) (v := .slice A9 (N3 - 40) (k3 - 40)) rfl (by kernel_rfl) (by kernel_rfl) (by kernel_rfl) (fun _ _ _ h => h) (Or.inl ⟨by rfl, fun w0 hC => by rw [HA9.out]; exact exec_from15 rfl Tryz.underlying27 ch_size_u8 rfl rfl HK3.out.2.2.2.1 HK3.out.2.2.1⟩) hHeld ?_
      try simp only [Act.put, List.setIfInBounds_toArray, List.set_cons_zero, List.set_cons_succ, List.getElem_toArray, List.getElem_cons_zero, List.getElem_cons_succ]
      refine wpAnyH_take (i := 29) (v := .slice A8 N8 k8) rfl (by kernel_rfl) (by kernel_rfl) (by kernel_rfl) (fun _ _ _ h => h) (Or.inl ⟨by rfl, fun w0 hC => by simp [execOp, Act.eval, Act.put, go_sem]⟩) hHeld ?_
      try simp only [Act.put, List.setIfInBounds_toArray, List.set_cons_zero, List.set_cons_succ, List.getElem_toArray, List.getElem_cons_zero, List.getElem_cons_succ]
      refine wpAnyH_ready (rs := [30]) (by kernel_rfl) (by simp) (AllReadyH.cons rfl (fun K hK => ?_) AllReadyH.nil)
      rw [if_pos (by rfl)]
      go_wp2_with fail
      have CS := Lib.hid (evx3Same_any A9 (N3 - 40) (k3 - 40) _ _ A8 N8 k8 _ _ V0 (by rw [HA9.out]; exact Bytes.from15 hHeld.2.2.bytes HK3.out.2.2.2.1 HK3.out.2.2.1) E8.out.bytes)
      rw [decide_eq_true HHD.out.2] at CS
      refine CS.out.mono ?_
      rintro e w' ⟨rfl, rfl⟩
      clear CS
      have hS := hHeld
      clear hHeld
      refine hK.out _ _ hS (fun hHeld => ?_)
      clear hK K
      try simp only [Act.put, List.setIfInBounds_toArray, List.set_cons_zero, List.set_cons_succ, List.getElem_toArray, List.getElem_cons_zero, List.getElem_cons_succ]
      clear hS E8
      refine wpAnyH_take (i := 31) (v := .bool true) rfl (by kernel_rfl) (by kernel_rfl) (by kernel_rfl) (fun _ _ _ h => h) (Or.inl ⟨by rfl, fun w0 hC => by simp [execOp, Act.eval, Act.put, go_sem]⟩) hHeld ?_
      try simp only [Act.put, List.setIfInBounds_toArray, List.set_cons_zero, List.set_cons_succ, List.getElem_toArray, List.getElem_cons_zero, List.getElem_cons_succ]
      refine wpAnyH_take (i := 32) (v := .bool true) rfl (by kernel_rfl) (by kernel_rfl) (by kernel_rfl) (fun _ _ _ h => h) (Or.inl ⟨by rfl, fun w0 hC => by simp [execOp, Act.eval, Act.put, go_sem]⟩) hHeld ?_
      try simp only [Act.put, List.setIfInBounds_toArray, List.set_cons_zero, List.set_cons_succ, List.getElem_toArray, List.getElem_cons_zero, List.getElem_cons_succ]
      refine wpAnyH_take (i := 33) (v := .pointer (some ⟨b6, 32, none⟩)) rfl (by kernel_rfl) (by kernel_rfl) (by kernel_rfl) (fun _ _ _ h => h) (Or.inl ⟨by rfl, fun w0 hC => by simp [execOp, Act.eval, Act.put, go_sem]⟩) hHeld ?_
      try simp only [Act.put, List.setIfInBounds_toArray, List.set_cons_zero, List.set_cons_succ, List.getElem_toArray, List.getElem_cons_zero, List.getElem_cons_succ]
      refine wpAnyH_take (i := 34) (v := .int .i64 (z + 1)) rfl (by kernel_rfl) (by kernel_rfl) (by kernel_rfl) (fun _ _ _ h => h) (Or.inl ⟨by rfl, fun w0 hC => by simp [execOp, Act.eval, Act.put, go_sem, hC.2.1.count HXO.out, HXC.out]⟩) hHeld ?_
      try simp only [Act.put, List.setIfInBounds_toArray, List.set_cons_zero, List.set_cons_succ, List.getElem_toArray, List.getElem_cons_zero, List.getElem_cons_succ]
      refine wpAnyH_take (i := 35) (v := .int .i64 (z + 1)) rfl (by kernel_rfl) (by kernel_rfl) (by kernel_rfl) (fun _ _ _ h => h) (Or.inl ⟨by rfl, fun w0 hC => by simp [execOp, Act.eval, Act.put, go_sem]⟩) hHeld ?_
      try simp only [Act.put, List.setIfInBounds_toArray, List.set_cons_zero, List.set_cons_succ, List.getElem_toArray, List.getElem_cons_zero, List.getElem_cons_succ]
      refine wpAnyH_take (i := 36) (v := .bool true) rfl (by kernel_rfl) (by kernel_rfl) (by kernel_rfl) (fun _ _ _ h => h) (Or.inl ⟨by rfl, fun w0 hC => by simp [execOp, Act.eval, Act.put, go_sem]⟩) hHeld ?_
      try simp only [Act.put, List.setIfInBounds_toArray, List.set_cons_zero, List.set_cons_succ, List.getElem_toArray, List.getElem_cons_zero, List.getElem_cons_succ]
      refine wpAnyH_take (i := 37) (v := .bool true) rfl (by kernel_rfl) (by kernel_rfl) (by kernel_rfl) (fun _ _ _ h => h) (Or.inl ⟨by rfl, fun w0 hC => by simp [execOp, Act.eval, Act.put, go_sem]⟩) hHeld ?_
      try simp only [Act.put, List.setIfInBounds_toArray, List.set_cons_zero, List.set_cons_succ, List.getElem_toArray, List.getElem_cons_zero, List.getElem_cons_succ]
      refine wpAnyH_ready (rs := [38]) (by kernel_rfl) (by simp) (AllReadyH.cons rfl (fun K hK => ?_) AllReadyH.nil)
      rw [if_pos (by rfl)]
      go_wp2_with fail
      have hS := hHeld
      clear hHeld
      refine hK.out _ _ hS (fun hHeld => ?_)
      clear hK K
      try simp only [Act.put, List.setIfInBounds_toArray, List.set_cons_zero, List.set_cons_succ, List.getElem_toArray, List.getElem_cons_zero, List.getElem_cons_succ]
      clear hS
      refine wpAnyH_done (by kernel_rfl) ?_ _
      go_wp2_with fail
      go_ret
      exact ⟨rfl, hHeld.1.2.2⟩
end Go.Proofs.YtoiffchhfnbooaaGreatDoor
