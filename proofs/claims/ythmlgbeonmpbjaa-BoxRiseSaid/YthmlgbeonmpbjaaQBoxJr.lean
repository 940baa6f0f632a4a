/-
  Contracts over package box: flags stored, by the document's own.
-/
import Derived.Test.YthmlgbeonmpbjaaQBoxJ
namespace Go.Proofs.Ythmlgbeonmpbjaa
set_option linter.unusedVariables false
set_option linter.unusedSimpArgs false
open Go.RowKit
set_option linter.unusedVariables false
set_option linter.unusedSimpArgs false

set_option maxRecDepth 20000 in
set_option maxHeartbeats 8000000 in
theorem x11store_any (nm : ByteArray) (v nx : Int) (A : Option Addr) (n c : Nat) (l : List Mg) (B : Option Addr) (m d0 : Nat) (ids : List Int) (mode flags : Int) (w : World) (hl : MsgsIn w w.heap.size A n l) (hn : n ≤ 1000000) (hsm : ∀ m ∈ l, m.body.length ≤ 1000000) (hi : Col ints w w.heap.size B m ids) (hm : m ≤ 140737488355328) :
    Calls Try.prog 18 #[.agg #[.string nm, .int .i64 v, .int .i64 nx, .slice A n c], .slice B m d0, .int .i64 mode, .int .i64 flags] w (StoreIs ⟨nm, v, nx, l⟩ ids mode flags w) := by
  have hB : Below w.heap.size w ((w.alloc (.cells #[.string nm, .int .i64 v, .int .i64 nx, .slice A n c] 24)).alloc (.cells #[.string ⟨#[]⟩, .int .i64 0, .int .i64 0, .slice none 0 0] 24)) := ((Below.refl _ _).alloc (Nat.le_refl _) _).alloc (by simp) _
  have hat : TwoAt w nm v nx A n c (w.heap.size + 2) ((w.alloc (.cells #[.string nm, .int .i64 v, .int .i64 nx, .slice A n c] 24)).alloc (.cells #[.string ⟨#[]⟩, .int .i64 0, .int .i64 0, .slice none 0 0] 24)) := ⟨(Bk.new _ _ _).alloc _, Bk.new2 _ _ _ _, hB, by simp, by simp⟩
  have HL := Lib.hid hl
  have HSM := Lib.hid hsm
  have HI := Lib.hid hi
  have hmx : Try.prog.follows .mixedOrders = true := by kernel_rfl
  have HZ : Hid (((w.alloc (.cells #[.string nm, .int .i64 v, .int .i64 nx, .slice A n c] 24)).alloc (.cells #[.string ⟨#[]⟩, .int .i64 0, .int .i64 0, .slice none 0 0] 24)).heap.size = w.heap.size + 2) := Lib.hid (by simp)
  have HAT := Lib.hid hat
  obtain ⟨⟨c0, c1, c2, c3⟩, -, -, -, -⟩ := hat.1.four
  have hR := x11right_any nm v nx A n c l _ (hl.later hB) (by omega)
  clear hat hB hl hsm hi
  by_cases hap : apE 0 mode flags ≠ 0
  · have HE : Hid (storeE ⟨nm, v, nx, l⟩ ids mode flags = 1) := Lib.hid (storeE_arg (fun h => hap h.2))
    have HAP := Lib.hid (apE_one hap)
    clear hap
    cases hok : okBx ⟨nm, v, nx, l⟩
    · have HOK := Lib.hid hok
      clear hok
      rw [HOK.out] at hR
      have HRR := Lib.hid hR
      clear hR
      go_enter Try.func18, Try.ntmps18
      go_wp2_with fail
      generalize (w.alloc (.cells #[.string nm, .int .i64 v, .int .i64 nx, .slice A n c] 24)).alloc (.cells #[.string ⟨#[]⟩, .int .i64 0, .int .i64 0, .slice none 0 0] 24) = W2 at *
      refine (x8fapply_any 0 mode flags W2).mono ?_
      rintro e w3' ⟨z, dd, rfl, hz, hdd, rfl⟩
      rw [HAP.out] at hdd
      subst hdd
      clear hz
      go_wp2_with fail
      refine HRR.out.mono ?_
      rintro e w3 ⟨rfl, hb3⟩
      have HAT3 := Lib.hid (HAT.out.below hb3)
      clear hb3 HAT HRR HZ c0 c1 c2 c3
      obtain ⟨⟨b0, b1, b2, b3⟩, -, -, -, -⟩ := HAT3.out.1.four
      obtain ⟨⟨r0, r1, r2, r3⟩, s0, s1, s2, s3⟩ := HAT3.out.2.1.four
      go_wp2_with fail
      refine bodyPost_ret (results_cell2 rfl _ _ ⟨w.heap.size + 1, 0, none⟩ _ _ rfl rfl (Bk.box_ (Bk.put4 HAT3.out.2.1 _ _ _ _))) rfl (StoreIs.no (z := 1) HE.out (by omega) ?_ ?_)
      · exact HL.out.later (below_put4 HAT3.out.2.2.1 (by omega) _ _ _ _)
      · exact below_put4 HAT3.out.2.2.1 (by omega) _ _ _ _
    · have HOK := Lib.hid hok
      clear hok
      rw [HOK.out] at hR
      have HRR := Lib.hid hR
      clear hR
      go_enter Try.func18, Try.ntmps18
      go_wp2_with fail
      generalize (w.alloc (.cells #[.string nm, .int .i64 v, .int .i64 nx, .slice A n c] 24)).alloc (.cells #[.string ⟨#[]⟩, .int .i64 0, .int .i64 0, .slice none 0 0] 24) = W2 at *
      refine (x8fapply_any 0 mode flags W2).mono ?_
      rintro e w3' ⟨z, dd, rfl, hz, hdd, rfl⟩
      rw [HAP.out] at hdd
      subst hdd
      clear hz
      go_wp2_with fail
      refine HRR.out.mono ?_
      rintro e w3 ⟨rfl, hb3⟩
      have HAT3 := Lib.hid (HAT.out.below hb3)
      clear hb3 HAT HRR HZ c0 c1 c2 c3
      obtain ⟨⟨b0, b1, b2, b3⟩, -, -, -, -⟩ := HAT3.out.1.four
      obtain ⟨⟨r0, r1, r2, r3⟩, s0, s1, s2, s3⟩ := HAT3.out.2.1.four
      go_wp2_with fail
      refine bodyPost_ret (results_cell2 rfl _ _ ⟨w.heap.size + 1, 0, none⟩ _ _ rfl rfl (Bk.box_ (Bk.put4 HAT3.out.2.1 _ _ _ _))) rfl (StoreIs.no (z := 1) HE.out (by omega) ?_ ?_)
      · exact HL.out.later (below_put4 HAT3.out.2.2.1 (by omega) _ _ _ _)
      · exact below_put4 HAT3.out.2.2.1 (by omega) _ _ _ _
  have HAP : Hid (apE 0 mode flags = 0) := Lib.hid (by omega)
  clear hap
  cases hok : okBx ⟨nm, v, nx, l⟩
  · have HE : Hid (storeE ⟨nm, v, nx, l⟩ ids mode flags = 1) := Lib.hid (storeE_arg (fun h => by rw [okBx_yes h.1] at hok; cases hok))
    have HOK := Lib.hid hok
    clear hok
    rw [HOK.out] at hR
    have HRR := Lib.hid hR
    clear hR
    go_enter Try.func18, Try.ntmps18
    go_wp2_with fail
    generalize (w.alloc (.cells #[.string nm, .int .i64 v, .int .i64 nx, .slice A n c] 24)).alloc (.cells #[.string ⟨#[]⟩, .int .i64 0, .int .i64 0, .slice none 0 0] 24) = W2 at *
    refine (x8fapply_any 0 mode flags W2).mono ?_
    rintro e w3' ⟨z, dd, rfl, hz, hdd, rfl⟩
    rw [HAP.out] at hdd
    subst hdd
    clear hz
    go_wp2_with fail
    refine HRR.out.mono ?_
    rintro e w3 ⟨rfl, hb3⟩
    have HAT3 := Lib.hid (HAT.out.below hb3)
    clear hb3 HAT HRR HZ c0 c1 c2 c3
    obtain ⟨⟨b0, b1, b2, b3⟩, -, -, -, -⟩ := HAT3.out.1.four
    obtain ⟨⟨r0, r1, r2, r3⟩, s0, s1, s2, s3⟩ := HAT3.out.2.1.four
    go_wp2_with fail
    refine bodyPost_ret (results_cell2 rfl _ _ ⟨w.heap.size + 1, 0, none⟩ _ _ rfl rfl (Bk.box_ (Bk.put4 HAT3.out.2.1 _ _ _ _))) rfl (StoreIs.no (z := 1) HE.out (by omega) ?_ ?_)
    · exact HL.out.later (below_put4 HAT3.out.2.2.1 (by omega) _ _ _ _)
    · exact below_put4 HAT3.out.2.2.1 (by omega) _ _ _ _
  have HOKB := Lib.hid (okBx_iff.1 hok)
  have HOK := Lib.hid hok
  clear hok
  cases hth : thereU l ids
  · have HE : Hid (storeE ⟨nm, v, nx, l⟩ ids mode flags = 6) := Lib.hid (storeE_none HOKB.out HAP.out hth)
    have HTH := Lib.hid hth
    clear hth
    rw [HOK.out] at hR
    have HRR := Lib.hid hR
    clear hR
    go_enter Try.func18, Try.ntmps18
    go_wp2_with fail
    generalize (w.alloc (.cells #[.string nm, .int .i64 v, .int .i64 nx, .slice A n c] 24)).alloc (.cells #[.string ⟨#[]⟩, .int .i64 0, .int .i64 0, .slice none 0 0] 24) = W2 at *
    refine (x8fapply_any 0 mode flags W2).mono ?_
    rintro e w3' ⟨z, dd, rfl, hz, hdd, rfl⟩
    rw [HAP.out] at hdd
    subst hdd
    clear hz
    go_wp2_with fail
    refine HRR.out.mono ?_
    rintro e w3 ⟨rfl, hb3⟩
    have HAT3 := Lib.hid (HAT.out.below hb3)
    clear hb3 HAT HRR HZ c0 c1 c2 c3
    obtain ⟨⟨b0, b1, b2, b3⟩, -, -, -, -⟩ := HAT3.out.1.four
    go_wp2_with fail
    clear b0 b1 b2 b3
    have hM := x11there_any nm v nx A n c l B m d0 ids w3 (HL.out.later HAT3.out.2.2.1) hn ((HI.out.below HAT3.out.2.2.1 (Nat.le_refl _)).more HAT3.out.2.2.1.size) hm
    rw [HTH.out] at hM
    refine hM.mono ?_
    rintro e w4 ⟨rfl, hb4⟩
    have HAT4 := Lib.hid (HAT3.out.below hb4)
    clear hb4 hM HAT3
    obtain ⟨⟨b0, b1, b2, b3⟩, -, -, -, -⟩ := HAT4.out.1.four
    obtain ⟨⟨r0, r1, r2, r3⟩, s0, s1, s2, s3⟩ := HAT4.out.2.1.four
    go_wp2_with fail
    refine bodyPost_ret (results_cell2 rfl _ _ ⟨w.heap.size + 1, 0, none⟩ _ _ rfl rfl (Bk.box_ (Bk.put4 HAT4.out.2.1 _ _ _ _))) rfl (StoreIs.no (z := 6) HE.out (by omega) ?_ ?_)
    · exact HL.out.later (below_put4 HAT4.out.2.2.1 (by omega) _ _ _ _)
    · exact below_put4 HAT4.out.2.2.1 (by omega) _ _ _ _
  have HE : Hid (storeE ⟨nm, v, nx, l⟩ ids mode flags = 0) := Lib.hid (storeE_ok HOKB.out HAP.out hth)
  have HTH := Lib.hid hth
  clear hth
  rw [HOK.out] at hR
  have HRR := Lib.hid hR
  clear hR
  go_enter Try.func18, Try.ntmps18
  go_wp2_with fail
  generalize (w.alloc (.cells #[.string nm, .int .i64 v, .int .i64 nx, .slice A n c] 24)).alloc (.cells #[.string ⟨#[]⟩, .int .i64 0, .int .i64 0, .slice none 0 0] 24) = W2 at *
  refine (x8fapply_any 0 mode flags W2).mono ?_
  rintro e w3' ⟨z, dd, rfl, hz, hdd, rfl⟩
  rw [HAP.out] at hdd
  subst hdd
  clear hz
  go_wp2_with fail
  refine HRR.out.mono ?_
  rintro e w3 ⟨rfl, hb3⟩
  have HAT3 := Lib.hid (HAT.out.below hb3)
  clear hb3 HAT HRR HZ c0 c1 c2 c3
  obtain ⟨⟨b0, b1, b2, b3⟩, -, -, -, -⟩ := HAT3.out.1.four
  go_wp2_with fail
  clear b0 b1 b2 b3
  have hM := x11there_any nm v nx A n c l B m d0 ids w3 (HL.out.later HAT3.out.2.2.1) hn ((HI.out.below HAT3.out.2.2.1 (Nat.le_refl _)).more HAT3.out.2.2.1.size) hm
  rw [HTH.out] at hM
  refine hM.mono ?_
  rintro e w4 ⟨rfl, hb4⟩
  have HAT4 := Lib.hid (HAT3.out.below hb4)
  clear hb4 hM HAT3
  obtain ⟨⟨b0, b1, b2, b3⟩, -, -, -, -⟩ := HAT4.out.1.four
  go_wp2_with fail
  clear b0 b1 b2 b3
  refine (x11copy_any nm v nx A n c l w4 (HL.out.later HAT4.out.2.2.1) hn HSM.out).mono ?_
  rintro e w5 ⟨A', c', rfl, ho, hb⟩
  have hba : Below w5.heap.size w5 (w5.alloc (.cells #[.string nm, .int .i64 v, .int .i64 nx, .slice A' n c'] 24)) := (Below.refl _ _).alloc (Nat.le_refl _) _
  obtain ⟨bo, hbo⟩ : ∃ bo, w5.heap.size = bo := ⟨_, rfl⟩
  have hbl : w.heap.size + 2 ≤ bo := by have := hb.size; have := HAT4.out.2.2.2.1; omega
  have HST4 : Hid (StoAt w nm v nx A n c A' c' bo l (w5.alloc (.cells #[.string nm, .int .i64 v, .int .i64 nx, .slice A' n c'] 24))) := Lib.hid ⟨(HAT4.out.below hb).below hba, by rw [← hbo]; exact Bk.new _ _ _, (ho.from_ HAT4.out.2.2.2.1).below hba, hbl⟩
  clear ho hb hba HAT4
  go_wp2_with fail
  try rw [hbo]
  clear hbo
  generalize w5.alloc (.cells #[.string nm, .int .i64 v, .int .i64 nx, .slice A' n c'] 24) = w4 at *
  go_loopw [13] (fun i wx => ∃ k : Nat, k ≤ m ∧ i = .int .i64 (k : Int) ∧ StoAt w nm v nx A n c A' c' bo (storeL l (ids.take k) mode flags) wx) (fun i _ => m - (intOf i).toNat)
  case atStart => exact ⟨0, Nat.zero_le _, rfl, by rw [List.take_zero, storeL_nil]; exact HST4.out⟩
  case round =>
    obtain ⟨k, hk, rfl, hst⟩ := hrel
    have HST := Lib.hid hst
    clear hst
    by_cases hlt : k < m
    · have hws := HST.out.1.2.2.1
      obtain ⟨bi, oi, u, rfl, hbi, hlu, htu, hcu⟩ := ((HI.out.below hws (Nat.le_refl _)).more hws.size).at_ hlt
      replace hcu : wr.cell? ⟨bi, oi + k, none⟩ = some (.int .i64 u) := hcu
      have hpne : placeN l u ≠ 0 := thereU_mem HTH.out (List.mem_of_getElem? hlu)
      obtain ⟨p, hp⟩ : ∃ p, placeN l u = p + 1 := ⟨placeN l u - 1, by omega⟩
      have hpn : p < n := by have := placeN_le l u; rw [HL.out.len] at this; omega
      obtain ⟨a, ha⟩ : ∃ a, (storeL l (ids.take k) mode flags)[p]? = some a := ⟨_, List.getElem?_eq_getElem (by rw [storeL_len, HL.out.len]; exact hpn)⟩
      have HST8 := Lib.hid (storeL_step HOKB.out.2.2.2.2.2 htu hp HAP.out ha)
      have HA := Lib.hid ha
      have hPM := HST.out.2.2.1.msgs (small_store HSM.out)
      obtain ⟨g, x, rfl, hgb, hgl, _⟩ := HST.out.2.2.1.at_ hpn
      have CP := x11place_any nm v nx u (some ⟨g, 0, none⟩) n c' _ wr.drew (hPM.later (Below.refl _ _).drew) hn
      rw [storeL_place, show (placeN l u : Int) = (p : Int) + 1 by rw [hp]; rfl] at CP
      have hst1 := HST.out.below (((Below.refl wr.heap.size wr).drew).alloc (Nat.le_refl _) (.cells #[.string nm, .int .i64 v, .int .i64 nx, .slice (some ⟨g, 0, none⟩) n c'] 24))
      have HST1 := Lib.hid hst1
      have HGL1 := Lib.hid (show g < (wr.drew.alloc (.cells #[.string nm, .int .i64 v, .int .i64 nx, .slice (some ⟨g, 0, none⟩) n c'] 24)).heap.size by have : wr.drew.heap.size = wr.heap.size := rfl; simp; omega)
      obtain ⟨⟨e0, e1, e2, e3⟩, -, -, -, -⟩ := HST.out.2.1.four
      have k0 : (0 : Int) ≤ (k : Int) := by omega
      have k1 : (k : Int) < (m : Int) := by omega
      have p0 : (0 : Int) ≤ (p : Int) := by omega
      have p1 : (p : Int) < (n : Int) := by omega
      have pw : IntKind.i64.wrap (p : Int) = (p : Int) := IntWalk.i64_in _ (by omega)
      clear hws hlu htu hpne hp ha hPM hst1 HST
      have hS0 : (wr.drew.cell? ⟨bo, 0, none⟩ = some (.string nm) ∧ wr.drew.cell? ⟨bo, 1, none⟩ = some (.int .i64 v) ∧ wr.drew.cell? ⟨bo, 2, none⟩ = some (.int .i64 nx) ∧ wr.drew.cell? ⟨bo, 3, none⟩ = some (.slice (some ⟨g, 0, none⟩) n c')) ∧ wr.drew.cell? ⟨bi, oi + k, none⟩ = some (.int .i64 u) := ⟨⟨e0, e1, e2, e3⟩, hcu⟩
      clear e0 e1 e2 e3 hcu
      go_wp2_with fail
      refine wp_region_held_drew (S := fun W' => (W'.cell? ⟨bo, 0, none⟩ = some (.string nm) ∧ W'.cell? ⟨bo, 1, none⟩ = some (.int .i64 v) ∧ W'.cell? ⟨bo, 2, none⟩ = some (.int .i64 nx) ∧ W'.cell? ⟨bo, 3, none⟩ = some (.slice (some ⟨g, 0, none⟩) n c')) ∧ W'.cell? ⟨bi, oi + k, none⟩ = some (.int .i64 u)) hmx hS0 (fun hHeld => ?_)
      clear hS0
      simp only [List.size_toArray, List.length_cons, List.length_nil, Nat.reduceAdd]
      refine wpAnyH_take (i := 0) (v := .agg #[.string nm, .int .i64 v, .int .i64 nx, .slice (some ⟨g, 0, none⟩) n c']) rfl (by kernel_rfl) (by kernel_rfl) (by kernel_rfl) (fun _ _ _ h => h) (Or.inl ⟨by rfl, fun w0 hC => by simp [execOp, Act.eval, Act.put, go_sem, hC.1.1, hC.1.2.1, hC.1.2.2.1, hC.1.2.2.2]⟩) hHeld ?_
      try simp only [Act.put, List.setIfInBounds_toArray, List.set_cons_zero, List.set_cons_succ, List.getElem_toArray, List.getElem_cons_zero, List.getElem_cons_succ]
      refine wpAnyH_take (i := 1) (v := .slice (some ⟨bi, oi, none⟩) m d0) rfl (by kernel_rfl) (by kernel_rfl) (by kernel_rfl) (fun _ _ _ h => h) (Or.inl ⟨by rfl, fun w0 hC => by simp [execOp, Act.eval, Act.put, go_sem]⟩) hHeld ?_
      try simp only [Act.put, List.setIfInBounds_toArray, List.set_cons_zero, List.set_cons_succ, List.getElem_toArray, List.getElem_cons_zero, List.getElem_cons_succ]
      refine wpAnyH_take (i := 2) (v := .int .i64 (k : Int)) rfl (by kernel_rfl) (by kernel_rfl) (by kernel_rfl) (fun _ _ _ h => h) (Or.inl ⟨by rfl, fun w0 hC => by simp [execOp, Act.eval, Act.put, go_sem]⟩) hHeld ?_
      try simp only [Act.put, List.setIfInBounds_toArray, List.set_cons_zero, List.set_cons_succ, List.getElem_toArray, List.getElem_cons_zero, List.getElem_cons_succ]
      refine wpAnyH_take (i := 3) (v := .pointer (some ⟨bi, oi + k, none⟩)) rfl (by kernel_rfl) (by kernel_rfl) (by kernel_rfl) (fun _ _ _ h => h) (Or.inl ⟨by rfl, fun w0 hC => by simp [execOp, Act.eval, Act.put, go_sem, k0, k1, hlt]⟩) hHeld ?_
      try simp only [Act.put, List.setIfInBounds_toArray, List.set_cons_zero, List.set_cons_succ, List.getElem_toArray, List.getElem_cons_zero, List.getElem_cons_succ]
      refine wpAnyH_take (i := 4) (v := .int .i64 u) rfl (by kernel_rfl) (by kernel_rfl) (by kernel_rfl) (fun _ _ _ h => h) (Or.inl ⟨by rfl, fun w0 hC => by simp [execOp, Act.eval, Act.put, go_sem, hC.2]⟩) hHeld ?_
      try simp only [Act.put, List.setIfInBounds_toArray, List.set_cons_zero, List.set_cons_succ, List.getElem_toArray, List.getElem_cons_zero, List.getElem_cons_succ]
      refine wpAnyH_ready (rs := [5]) (by kernel_rfl) (by simp) (AllReadyH.cons rfl (fun K hK => ?_) AllReadyH.nil)
      rw [if_pos (by rfl)]
      go_wp2_with fail
      refine CP.mono ?_
      rintro e W3 ⟨rfl, rfl⟩
      have hS : ((wr.drew.alloc (.cells #[.string nm, .int .i64 v, .int .i64 nx, .slice (some ⟨g, 0, none⟩) n c'] 24)).cell? ⟨bo, 0, none⟩ = some (.string nm) ∧ (wr.drew.alloc (.cells #[.string nm, .int .i64 v, .int .i64 nx, .slice (some ⟨g, 0, none⟩) n c'] 24)).cell? ⟨bo, 1, none⟩ = some (.int .i64 v) ∧ (wr.drew.alloc (.cells #[.string nm, .int .i64 v, .int .i64 nx, .slice (some ⟨g, 0, none⟩) n c'] 24)).cell? ⟨bo, 2, none⟩ = some (.int .i64 nx) ∧ (wr.drew.alloc (.cells #[.string nm, .int .i64 v, .int .i64 nx, .slice (some ⟨g, 0, none⟩) n c'] 24)).cell? ⟨bo, 3, none⟩ = some (.slice (some ⟨g, 0, none⟩) n c')) ∧ (wr.drew.alloc (.cells #[.string nm, .int .i64 v, .int .i64 nx, .slice (some ⟨g, 0, none⟩) n c'] 24)).cell? ⟨bi, oi + k, none⟩ = some (.int .i64 u) :=
        ⟨⟨HST1.out.2.1.cell 0, HST1.out.2.1.cell 1, HST1.out.2.1.cell 2, HST1.out.2.1.cell 3⟩, (((Below.refl _ _).alloc (Nat.le_refl _) _ : Below wr.drew.heap.size wr.drew (wr.drew.alloc (.cells #[.string nm, .int .i64 v, .int .i64 nx, .slice (some ⟨g, 0, none⟩) n c'] 24))).cell (p := ⟨bi, oi + k, none⟩) (World.block_lt_of_cell? _ _ hHeld.2)).trans hHeld.2⟩
      clear hHeld CP
      refine hK.out _ _ hS (fun hHeld => ?_)
      clear hK K
      try simp only [Act.put, List.setIfInBounds_toArray, List.set_cons_zero, List.set_cons_succ, List.getElem_toArray, List.getElem_cons_zero, List.getElem_cons_succ]
      clear hS
      refine wpAnyH_take (i := 6) (v := .int .i64 (p : Int)) rfl (by kernel_rfl) (by kernel_rfl) (by kernel_rfl) (fun _ _ _ h => h) (Or.inl ⟨by rfl, fun w0 hC => by simp [execOp, Act.eval, Act.put, go_sem, pw]⟩) hHeld ?_
      try simp only [Act.put, List.setIfInBounds_toArray, List.set_cons_zero, List.set_cons_succ, List.getElem_toArray, List.getElem_cons_zero, List.getElem_cons_succ]
      refine wpAnyH_take (i := 7) (v := .int .i64 (p : Int)) rfl (by kernel_rfl) (by kernel_rfl) (by kernel_rfl) (fun _ _ _ h => h) (Or.inl ⟨by rfl, fun w0 hC => by simp [execOp, Act.eval, Act.put, go_sem]⟩) hHeld ?_
      try simp only [Act.put, List.setIfInBounds_toArray, List.set_cons_zero, List.set_cons_succ, List.getElem_toArray, List.getElem_cons_zero, List.getElem_cons_succ]
      refine wpAnyH_done (by kernel_rfl) ?_ _
      clear hHeld pw
      generalize wr.drew.alloc (.cells #[.string nm, .int .i64 v, .int .i64 nx, .slice (some ⟨g, 0, none⟩) n c'] 24) = W4 at *
      have x3 := HST1.out.2.1.cell 3
      go_wp2_with fail
      have hS0 : W4.drew.cell? ⟨bo, 3, none⟩ = some (.slice (some ⟨g, 0, none⟩) n c') := x3
      refine wp_region_held_drew (S := fun W' => W'.cell? ⟨bo, 3, none⟩ = some (.slice (some ⟨g, 0, none⟩) n c')) hmx hS0 (fun hHeld => ?_)
      have HST6 := Lib.hid (HST1.out.below (Below.refl _ _).drew)
      clear hS0 HST1 x3 HGL1
      generalize W4.drew = W at *
      simp only [List.size_toArray, List.length_cons, List.length_nil, Nat.reduceAdd]
      refine wpAnyH_take (i := 0) (v := .pointer (some ⟨bo, 3, none⟩)) rfl (by kernel_rfl) (by kernel_rfl) (by kernel_rfl) (fun _ _ _ h => h) (Or.inl ⟨by rfl, fun w0 hC => by simp [execOp, Act.eval, Act.put, go_sem]⟩) hHeld ?_
      try simp only [Act.put, List.setIfInBounds_toArray, List.set_cons_zero, List.set_cons_succ, List.getElem_toArray, List.getElem_cons_zero, List.getElem_cons_succ]
      refine wpAnyH_take (i := 1) (v := .slice (some ⟨g, 0, none⟩) n c') rfl (by kernel_rfl) (by kernel_rfl) (by kernel_rfl) (fun _ _ _ h => h) (Or.inl ⟨by rfl, fun w0 hC => by simp [execOp, Act.eval, Act.put, go_sem, hC]⟩) hHeld ?_
      try simp only [Act.put, List.setIfInBounds_toArray, List.set_cons_zero, List.set_cons_succ, List.getElem_toArray, List.getElem_cons_zero, List.getElem_cons_succ]
      refine wpAnyH_take (i := 2) (v := .int .i64 (p : Int)) rfl (by kernel_rfl) (by kernel_rfl) (by kernel_rfl) (fun _ _ _ h => h) (Or.inl ⟨by rfl, fun w0 hC => by simp [execOp, Act.eval, Act.put, go_sem]⟩) hHeld ?_
      try simp only [Act.put, List.setIfInBounds_toArray, List.set_cons_zero, List.set_cons_succ, List.getElem_toArray, List.getElem_cons_zero, List.getElem_cons_succ]
      refine wpAnyH_take (i := 3) (v := .pointer (some ⟨bo, 3, none⟩)) rfl (by kernel_rfl) (by kernel_rfl) (by kernel_rfl) (fun _ _ _ h => h) (Or.inl ⟨by rfl, fun w0 hC => by simp [execOp, Act.eval, Act.put, go_sem]⟩) hHeld ?_
      try simp only [Act.put, List.setIfInBounds_toArray, List.set_cons_zero, List.set_cons_succ, List.getElem_toArray, List.getElem_cons_zero, List.getElem_cons_succ]
      refine wpAnyH_take (i := 4) (v := .slice (some ⟨g, 0, none⟩) n c') rfl (by kernel_rfl) (by kernel_rfl) (by kernel_rfl) (fun _ _ _ h => h) (Or.inl ⟨by rfl, fun w0 hC => by simp [execOp, Act.eval, Act.put, go_sem, hC]⟩) hHeld ?_
      try simp only [Act.put, List.setIfInBounds_toArray, List.set_cons_zero, List.set_cons_succ, List.getElem_toArray, List.getElem_cons_zero, List.getElem_cons_succ]
      refine wpAnyH_take (i := 5) (v := .int .i64 (p : Int)) rfl (by kernel_rfl) (by kernel_rfl) (by kernel_rfl) (fun _ _ _ h => h) (Or.inl ⟨by rfl, fun w0 hC => by simp [execOp, Act.eval, Act.put, go_sem]⟩) hHeld ?_
      try simp only [Act.put, List.setIfInBounds_toArray, List.set_cons_zero, List.set_cons_succ, List.getElem_toArray, List.getElem_cons_zero, List.getElem_cons_succ]
      refine wpAnyH_take (i := 6) (v := .pointer (some ⟨g, p * 4, none⟩)) rfl (by kernel_rfl) (by kernel_rfl) (by kernel_rfl) (fun _ _ _ h => h) (Or.inl ⟨by rfl, fun w0 hC => by simp [execOp, Act.eval, Act.put, go_sem, p0, p1, hpn]⟩) hHeld ?_
      try simp only [Act.put, List.setIfInBounds_toArray, List.set_cons_zero, List.set_cons_succ, List.getElem_toArray, List.getElem_cons_zero, List.getElem_cons_succ]
      refine wpAnyH_take (i := 7) (v := .pointer (some ⟨g, p * 4 + 1, none⟩)) rfl (by kernel_rfl) (by kernel_rfl) (by kernel_rfl) (fun _ _ _ h => h) (Or.inl ⟨by rfl, fun w0 hC => by simp [execOp, Act.eval, Act.put, go_sem]⟩) hHeld ?_
      try simp only [Act.put, List.setIfInBounds_toArray, List.set_cons_zero, List.set_cons_succ, List.getElem_toArray, List.getElem_cons_zero, List.getElem_cons_succ]
      refine wpAnyH_take (i := 9) (v := .int .i64 mode) rfl (by kernel_rfl) (by kernel_rfl) (by kernel_rfl) (fun _ _ _ h => h) (Or.inl ⟨by rfl, fun w0 hC => by simp [execOp, Act.eval, Act.put, go_sem]⟩) hHeld ?_
      try simp only [Act.put, List.setIfInBounds_toArray, List.set_cons_zero, List.set_cons_succ, List.getElem_toArray, List.getElem_cons_zero, List.getElem_cons_succ]
      refine wpAnyH_take (i := 10) (v := .int .i64 flags) rfl (by kernel_rfl) (by kernel_rfl) (by kernel_rfl) (fun _ _ _ h => h) (Or.inl ⟨by rfl, fun w0 hC => by simp [execOp, Act.eval, Act.put, go_sem]⟩) hHeld ?_
      try simp only [Act.put, List.setIfInBounds_toArray, List.set_cons_zero, List.set_cons_succ, List.getElem_toArray, List.getElem_cons_zero, List.getElem_cons_succ]
      obtain ⟨_, _, f1, g1, _⟩ := HST6.out.2.2.1.putF HA.out 0
      have HF1 := Lib.hid f1
      have HG1 := Lib.hid g1
      clear f1
      refine wpAnyH_ready (rs := [8]) (by kernel_rfl) (by simp) (AllReadyH.cons rfl (fun K hK => ?_) AllReadyH.nil)
      rw [if_pos (by rfl)]
      go_wp2_with fail
      have hS := hHeld
      clear hHeld g1
      refine hK.out _ _ hS (fun hHeld => ?_)
      clear hK K
      try simp only [Act.put, List.setIfInBounds_toArray, List.set_cons_zero, List.set_cons_succ, List.getElem_toArray, List.getElem_cons_zero, List.getElem_cons_succ]
      clear hS
      refine wpAnyH_ready (rs := [11]) (by kernel_rfl) (by simp) (AllReadyH.cons rfl (fun K hK => ?_) AllReadyH.nil)
      rw [if_pos (by rfl)]
      go_wp2_with fail
      refine (x8fapply_any a.flags mode flags W).mono ?_
      rintro e W3 ⟨z, dd, rfl, hz, hdd, rfl⟩
      have HZZ := Lib.hid hz
      clear hz hdd
      have hS := hHeld
      clear hHeld
      refine hK.out _ _ hS (fun hHeld => ?_)
      clear hK K
      try simp only [Act.put, List.setIfInBounds_toArray, List.set_cons_zero, List.set_cons_succ, List.getElem_toArray, List.getElem_cons_zero, List.getElem_cons_succ]
      clear hS
      refine wpAnyH_take (i := 12) (v := .tuple #[.int .i64 z, .int .i64 dd]) rfl (by kernel_rfl) (by kernel_rfl) (by kernel_rfl) (fun _ _ _ h => h) (Or.inl ⟨by rfl, fun w0 hC => by simp [execOp, Act.eval, Act.put, go_sem]⟩) hHeld ?_
      try simp only [Act.put, List.setIfInBounds_toArray, List.set_cons_zero, List.set_cons_succ, List.getElem_toArray, List.getElem_cons_zero, List.getElem_cons_succ]
      refine wpAnyH_take (i := 13) (v := .int .i64 z) rfl (by kernel_rfl) (by kernel_rfl) (by kernel_rfl) (fun _ _ _ h => h) (Or.inl ⟨by rfl, fun w0 hC => by simp [execOp, Act.eval, Act.put, go_sem]⟩) hHeld ?_
      try simp only [Act.put, List.setIfInBounds_toArray, List.set_cons_zero, List.set_cons_succ, List.getElem_toArray, List.getElem_cons_zero, List.getElem_cons_succ]
      refine wpAnyH_take (i := 14) (v := .int .i64 dd) rfl (by kernel_rfl) (by kernel_rfl) (by kernel_rfl) (fun _ _ _ h => h) (Or.inl ⟨by rfl, fun w0 hC => by simp [execOp, Act.eval, Act.put, go_sem]⟩) hHeld ?_
      try simp only [Act.put, List.setIfInBounds_toArray, List.set_cons_zero, List.set_cons_succ, List.getElem_toArray, List.getElem_cons_zero, List.getElem_cons_succ]
      refine wpAnyH_take (i := 15) (v := .pointer (some ⟨g, p * 4, none⟩)) rfl (by kernel_rfl) (by kernel_rfl) (by kernel_rfl) (fun _ _ _ h => h) (Or.inl ⟨by rfl, fun w0 hC => by simp [execOp, Act.eval, Act.put, go_sem, p0, p1, hpn]⟩) hHeld ?_
      try simp only [Act.put, List.setIfInBounds_toArray, List.set_cons_zero, List.set_cons_succ, List.getElem_toArray, List.getElem_cons_zero, List.getElem_cons_succ]
      refine wpAnyH_take (i := 16) (v := .pointer (some ⟨g, p * 4 + 1, none⟩)) rfl (by kernel_rfl) (by kernel_rfl) (by kernel_rfl) (fun _ _ _ h => h) (Or.inl ⟨by rfl, fun w0 hC => by simp [execOp, Act.eval, Act.put, go_sem]⟩) hHeld ?_
      try simp only [Act.put, List.setIfInBounds_toArray, List.set_cons_zero, List.set_cons_succ, List.getElem_toArray, List.getElem_cons_zero, List.getElem_cons_succ]
      have f1 := HF1.out
      have g1 := HG1.out
      refine wpAnyH_ready (rs := [17]) (by kernel_rfl) (by simp) (AllReadyH.cons rfl (fun K hK => ?_) AllReadyH.nil)
      rw [if_pos (by rfl)]
      go_wp2_with fail
      have hS : (W.setCell ⟨g, p * 4 + 1, none⟩ (.int .i64 z)).cell? ⟨bo, 3, none⟩ = some (.slice (some ⟨g, 0, none⟩) n c') := (HST6.out.put HA.out z).2.1.cell 3
      refine hK.out _ _ hS (fun hHeld => ?_)
      clear hK K
      try simp only [Act.put, List.setIfInBounds_toArray, List.set_cons_zero, List.set_cons_succ, List.getElem_toArray, List.getElem_cons_zero, List.getElem_cons_succ]
      refine wpAnyH_done (by kernel_rfl) ?_ _
      have HST7 : Hid (StoAt w nm v nx A n c (some ⟨g, 0, none⟩) c' bo (storeL l (ids.take (k + 1)) mode flags) (W.setCell ⟨g, p * 4 + 1, none⟩ (.int .i64 z))) := Lib.hid (by
        rw [← HST8.out, HZZ.out]
        exact HST6.out.put HA.out _)
      clear hHeld hS HST6 f1 g1 HF1 HG1
      go_wp2_with fail
      go_roundw
      case rel => exact ⟨k + 1, by omega, by go_num, HST7.out⟩
      case measure => simp [intOf]; omega
    · have hkn : ¬ (k : Int) < (m : Int) := by omega
      have hall : ids.take k = ids := List.take_of_length_le (by rw [HI.out.1]; omega)
      have HST5 : Hid (StoAt w nm v nx A n c A' c' bo (storeL l ids mode flags) wr) := Lib.hid (by have := HST.out; rwa [hall] at this)
      clear hall HST
      obtain ⟨⟨k0, k1, k2, k3⟩, -, -, -, -⟩ := HST5.out.2.1.four
      obtain ⟨⟨r0, r1, r2, r3⟩, s0, s1, s2, s3⟩ := HST5.out.1.2.1.four
      go_wp2_with fail
      refine bodyPost_ret (results_cell2 rfl _ _ ⟨w.heap.size + 1, 0, none⟩ _ _ rfl rfl (Bk.box_ (Bk.put4 HST5.out.1.2.1 _ _ _ _))) rfl (StoreIs.yes HE.out ?_ ?_)
      · exact (HST5.out.2.2.1.far (grown_put4 _ _ _ _ _ _) (by omega)).msgs (small_store HSM.out)
      · exact below_put4 HST5.out.1.2.2.1 (by omega) _ _ _ _
end Go.Proofs.Ythmlgbeonmpbjaa
