/-
  A part of the proof: see the last text.
-/
import Derived.Test.YtbogjfbfgbhdbaaGreatDoorSStE
import Derived.Test.YtbogjfbfgbhdbaaGreatDoorSStG
import Derived.Deep.DeepCutAuto
namespace Go.Proofs.YtbogjfbfgbhdbaaGreatDoor
open List renaming setIfInBounds_toArray → jA, set_cons_zero → jB, set_cons_succ → jC, getElem_toArray → jD, getElem_cons_zero → jE, getElem_cons_succ → jF
set_option linter.unusedVariables false
set_option linter.unusedSimpArgs false
open Go.RowKit
set_option linter.unusedVariables false
set_option linter.unusedSimpArgs false
theorem RowsK.moved {P : Program} {α : Type} {k : Nat} {f : α → List Value} {w : World} {e : TypeId} {g c : Nat} {l : List α} (h : RowsK k f w e g c l) {i j n : Nat} (hij : i ≤ j) (hj : j ≤ n) (hn : l.length = n) (hone : ∀ u, ∀ v ∈ f u, v.oneCell' = true) (t ty : TypeId) (ht : P.underlying t = some (.slice e)) {zv : Value} {by_ : Nat}
    (he : (P.info? e).map (fun i => (i.zero, i.size, i.bytes)) = some (some zv, k, by_)) (o cc : Nat) (ho : j < n → o = j * k) :
    ∃ cur, (Builtin.append_ #[t, t] ty #[.slice (some ⟨g, 0, none⟩) i c, .slice (some ⟨g, o, none⟩) (n - j) cc]).run P w = .ok (.slice (some ⟨g, 0, none⟩) (i + (n - j)) c) (w.setRow g cur) ∧ RowsK k f (w.setRow g cur) e g c (l.take i ++ l.drop j ++ l.drop (i + (n - j))) := by
  obtain ⟨q, hi, hz, hs', hby'⟩ := info_parts he
  have hlen : (l.drop j).length = n - j := by rw [List.length_drop, hn]
  obtain ⟨cur, hB, hsz, hR⟩ := h.put (j := i) (by omega) (l.drop j) (by rw [hlen]; have := h.2.1; omega)
  rw [hlen] at hR
  have hflat : ((l.drop j).flatMap f).length = (n - j) * k := by rw [flat_len h.1, hlen]
  refine ⟨_, ?_, hR⟩
  have := run_append_room (P := P) w t ty e q ht hi g i c cur hB ⟨g, o, none⟩ (n - j) cc ((l.drop j).flatMap f) (by rw [hflat, hs']) (fun x u hu => by
      rw [Addr.add_mid]
      have hjn : j < n := by
        rcases Nat.lt_or_ge j n with hq | hq
        · exact hq
        · exfalso
          have : l.drop j = [] := List.drop_eq_nil_of_le (by omega)
          rw [this] at hu
          simp at hu
      rw [ho hjn]
      exact h.flat j x u hu) (fun u hu => by obtain ⟨y, _, hv⟩ := List.mem_flatMap.1 hu; exact hone y u hv) (by have := h.2.1; omega) (by
        rw [hflat, hs', hsz, ← Nat.add_mul]
        exact Nat.mul_le_mul_right _ (by have := h.2.1; omega))
  rw [this]
  rw [hs']
  unfold splice
  rw [List.append_assoc]
theorem erase_rows {α : Type} {l : List α} {i n : Nat} (hn : l.length = n) (hi : i < n) : (l.take i ++ l.drop (i + 1) ++ l.drop (i + (n - (i + 1)))).take (n - 1) = l.eraseIdx i := by
  have h1 : (l.take i ++ l.drop (i + 1)).length = n - 1 := by simp; omega
  rw [List.take_append_of_le_length (by omega), List.take_of_length_le (by omega), List.eraseIdx_eq_take_drop_succ]
def DelIs {α : Type} (k : Nat) (f : α → List Value) (t : TypeId) (base n c : Nat) (A : Option Addr) (l : List α) (w : World) (e : Ending) (w' : World) : Prop :=
  e = .returned (.slice A n c) ∧ OwnK k f w' base t A n c l ∧ Below base w w' ∧ w.grownBy w' (Value.slice A n c).ownBlock
theorem zero_Tb : ∀ n, ∀ v ∈ (Builtin.zeroCells (Value.cells (.agg #[.int .i64 0, .string ByteArray.empty, .int .i64 0, .int .i64 0, .int .i64 0, .int .i64 0, .slice none 0 0])) n).toList, v.oneCell' = true := by
  intro n
  refine zero_one ?_ (by decide) n
  intro v hv
  simp only [Value.cells, List.mem_cons, List.not_mem_nil, or_false] at hv
  rcases hv with rfl | rfl | rfl | rfl | rfl | rfl | rfl <;> rfl
set_option maxRecDepth 20000 in
set_option maxHeartbeats 8000000 in
theorem zDeleteTb_any (base g n c i : Nat) (l : List Th) (w : World) (hl : OwnK 7 thC w base 51 (some ⟨g, 0, none⟩) n c l) (hi : i < n) (hn : n ≤ 1000000) (hbw : base ≤ w.heap.size) :
    Calls Tryz.prog 171 #[.slice (some ⟨g, 0, none⟩) n c, .int .i64 (i : Int), .int .i64 ((i : Int) + 1)] w (DelIs 7 thC 51 base (n - 1) c (some ⟨g, 0, none⟩) (l.eraseIdx i) w) := by
  have hmx : Tryz.prog.follows .mixedOrders = true := by kernel_rfl
  have hln := hl.len
  have hnc : n ≤ c := hl.cap.1
  have hcm : c ≤ 9223372036854775807 := hl.cap.2
  obtain ⟨g', hge, hgb, hR⟩ := hl.rows (by omega)
  injection hge with hge
  injection hge with hge
  subst hge
  have HR := Lib.hid hR
  have HGB := Lib.hid hgb
  have i0 : (0 : Int) ≤ (i : Int) := by omega
  have i1 : (0 : Int) ≤ (i : Int) + 1 := by omega
  have iin : (i : Int) ≤ (n : Int) := by omega
  have i1n : (i : Int) + 1 ≤ (n : Int) := by omega
  have ii1 : (i : Int) ≤ (i : Int) + 1 := by omega
  have nc : (n : Int) ≤ (c : Int) := by omega
  have ic : (i : Int) ≤ (c : Int) := by omega
  have n0 : (0 : Int) ≤ (n : Int) := by omega
  have hne : ((i : Int) == (i : Int) + 1) = false := by simp; omega
  have hti : ((i : Int) + 1).toNat = i + 1 := by omega
  have hni : ¬ (n = i) := by omega
  have hc0 : ¬ (c = 0) := by omega
  have hn0 : ¬ (n = 0) := by omega
  obtain ⟨o, hoo⟩ : ∃ o, o = (if c = i + 1 then 0 else (i + 1) * 7) := ⟨_, rfl⟩
  have HOO : Hid (i + 1 < n → o = (i + 1) * 7) := Lib.hid (fun h => by rw [hoo, if_neg (by omega)])
  have HAF := Lib.hid (fun W (h : RowsK 7 thC W 51 g c l) => RowsK.moved (P := Tryz.prog) h (i := i) (j := i + 1) (n := n) (by omega) (by omega) hln thC_one 25 25 Tryz.underlying25 info_tomb14 o (c - (i + 1)) HOO.out)
  have S2 : ∀ W, (Instr.sliceAt 25 (.slice (some ⟨g, 0, none⟩) n c) (some (.int .i64 ((i : Int) + 1))) none none).run Tryz.prog W = .ok (.slice (some ⟨g, o, none⟩) (n - (i + 1)) (c - (i + 1))) W := by
    intro W
    have hel : Tryz.prog.elem 25 = 51 := by simp [Program.elem, Tryz.underlying25]
    have hund : Tryz.prog.underlying 25 = some (.slice (Tryz.prog.elem 25)) := by rw [hel]; exact Tryz.underlying25
    have hsz : (sizeOf (Tryz.prog.elem 25)).run Tryz.prog W = .ok 7 W := by rw [hel]; exact Tryz.sizeOf51 W
    rw [run_sliceAt_slice W 25 _ _ _ _ hund, run_slice_l W 25 _ n c hund .i64 ((i : Int) + 1) (by omega) (by omega), hsz, hti]
    rw [hoo]
    by_cases hcc : c = i + 1
    · rw [if_pos hcc]
      simp [Result.andThen_ok, sliced, hcc]
    · rw [if_neg hcc]
      simp [Result.andThen_ok, sliced, hcc]
      rw [Addr.add_mid, Nat.zero_add]
  have S2H := Lib.hid S2
  clear S2 hoo hl hR hgb
  go_enter Tryz.func171, Tryz.ntmps171
  go_wp2_with fail
  refine wp_region_held_drew (S := fun _ => True) hmx trivial (fun hHeld => ?_)
  have HRD := Lib.hid (HR.out.drew)
  have HBD := Lib.hid ((Below.refl w.heap.size w).drew)
  generalize hW0 : w.drew = W at *
  have hgW : w.grownBy W (some g) := by rw [← hW0]; exact ⟨rfl, rfl, rfl, Nat.le_refl _, fun _ _ _ => rfl⟩
  clear hW0
  obtain ⟨cur, hrun, hR2⟩ := HAF.out W HRD.out
  have HRUN := Lib.hid hrun
  have HR2 := Lib.hid hR2
  have HGW := Lib.hid hgW
  clear hrun hR2 hgW
  simp only [List.size_toArray, List.length_cons, List.length_nil, Nat.reduceAdd]
  refine wpAnyH_take (i := 0) (v := .slice (some ⟨g, 0, none⟩) n c) rfl (by kernel_rfl) (by kernel_rfl) (by kernel_rfl) (fun _ _ _ h => h) (Or.inl ⟨by rfl, fun w0 hC => by simp [execOp, Act.eval, Act.put, go_sem]⟩) hHeld ?_
  try simp only [Act.put, jA, jB, jC, jD, jE, jF]
  refine wpAnyH_take (i := 1) (v := .int .i64 (i : Int)) rfl (by kernel_rfl) (by kernel_rfl) (by kernel_rfl) (fun _ _ _ h => h) (Or.inl ⟨by rfl, fun w0 hC => by simp [execOp, Act.eval, Act.put, go_sem]⟩) hHeld ?_
  try simp only [Act.put, jA, jB, jC, jD, jE, jF]
  refine wpAnyH_take (i := 2) (v := .slice (some ⟨g, 0, none⟩) i c) rfl (by kernel_rfl) (by kernel_rfl) (by kernel_rfl) (fun _ _ _ h => h) (Or.inl ⟨by rfl, fun w0 hC => by simp [execOp, Act.eval, Act.put, go_sem, i0, ic, hc0]⟩) hHeld ?_
  try simp only [Act.put, jA, jB, jC, jD, jE, jF]
  refine wpAnyH_take (i := 3) (v := .slice (some ⟨g, 0, none⟩) n c) rfl (by kernel_rfl) (by kernel_rfl) (by kernel_rfl) (fun _ _ _ h => h) (Or.inl ⟨by rfl, fun w0 hC => by simp [execOp, Act.eval, Act.put, go_sem]⟩) hHeld ?_
  try simp only [Act.put, jA, jB, jC, jD, jE, jF]
  refine wpAnyH_take (i := 4) (v := .int .i64 ((i : Int) + 1)) rfl (by kernel_rfl) (by kernel_rfl) (by kernel_rfl) (fun _ _ _ h => h) (Or.inl ⟨by rfl, fun w0 hC => by simp [execOp, Act.eval, Act.put, go_sem]⟩) hHeld ?_
  try simp only [Act.put, jA, jB, jC, jD, jE, jF]
  refine wpAnyH_take (i := 5) (v := .slice (some ⟨g, o, none⟩) (n - (i + 1)) (c - (i + 1))) rfl (by kernel_rfl) (by kernel_rfl) (by kernel_rfl) (fun _ _ _ h => h) (Or.inl ⟨by rfl, fun w0 hC => by simp [execOp, Act.eval, Act.put, S2H.out]⟩) hHeld ?_
  try simp only [Act.put, jA, jB, jC, jD, jE, jF]
  refine wpAnyH_ready (rs := [6]) (by kernel_rfl) (by simp) (AllReadyH.cons rfl (fun K hK => ?_) AllReadyH.nil)
  rw [if_pos (by rfl)]
  refine wp_append_ks (s := .tmp 22) (x := .tmp 25) rfl rfl rfl HRUN.out ?_
  refine hK.out _ _ trivial (fun hHeld => ?_)
  clear hK K
  try simp only [Act.put, jA, jB, jC, jD, jE, jF]
  refine wpAnyH_take (i := 7) (v := .slice (some ⟨g, 0, none⟩) (i + (n - (i + 1))) c) rfl (by kernel_rfl) (by kernel_rfl) (by kernel_rfl) (fun _ _ _ h => h) (Or.inl ⟨by rfl, fun w0 hC => by simp [execOp, Act.eval, Act.put, go_sem]⟩) hHeld ?_
  try simp only [Act.put, jA, jB, jC, jD, jE, jF]
  refine wpAnyH_done (by kernel_rfl) ?_ _
  have HB2 := Lib.hid (YtbogjfbfgbhdbaaGreatDoor.below_setRow ((Below.refl base w).grown HGW.out hbw (fun q hq => by injection hq with hq; have := HGB.out; omega)) HGB.out cur)
  have HG2 := Lib.hid (grown_trans HGW.out (grown_setRow W g cur))
  have hin : i + (n - (i + 1)) = n - 1 := by omega
  rw [hin]
  have hlen2 : (l.take i ++ l.drop (i + 1) ++ l.drop (i + (n - (i + 1)))).length = n := by simp; omega
  obtain ⟨cur2, hB2, hs2, hP2⟩ := HR2.out.cut (j := n - 1) (by omega)
  generalize W.setRow g cur = V at *
  have hzs : (Builtin.zeroCells (Value.cells (.agg #[.int .i64 0, .string ByteArray.empty, .int .i64 0, .int .i64 0, .int .i64 0, .int .i64 0, .slice none 0 0])) 1).size = 1 * 7 := by rw [size_zeroCells]; rfl
  have HCL := Lib.hid (fun ty cc => run_clear_k (P := Tryz.prog) V 25 51 ty (.agg #[.int .i64 0, .string ByteArray.empty, .int .i64 0, .int .i64 0, .int .i64 0, .int .i64 0, .slice none 0 0]) Tryz.underlying25 Tryz.zeroValue51 g ((n - 1) * 7) 1 cc (by omega) cur2 51 hB2 (zero_Tb _) (by rw [hzs, hs2, ← Nat.add_mul]; exact Nat.mul_le_mul_right _ (by omega)))
  have HP3 := Lib.hid (hP2 (Builtin.zeroCells (Value.cells (.agg #[.int .i64 0, .string ByteArray.empty, .int .i64 0, .int .i64 0, .int .i64 0, .int .i64 0, .slice none 0 0])) 1).toList (by rw [Array.length_toList, hzs, ← Nat.add_mul]; exact Nat.mul_le_mul_right _ (by omega)))
  rw [erase_rows hln hi] at HP3
  have hn1 : (0 : Int) ≤ ((n - 1 : Nat) : Int) := by omega
  have hn2 : ((n - 1 : Nat) : Int) ≤ (n : Int) := by omega
  have hcn : ¬ (c = n - 1) := by omega
  have hnn : n - (n - 1) = 1 := by omega
  clear hB2 hs2 hP2 hzs HR2 HRD HBD HAF HRUN hlen2 hHeld S2H HGW HOO
  go_wp2_with ((with_reducible show wpList _ _ _ (⟨none, _, _, _, _, _⟩ :: _) _ _); refine hold ?_)
  refine held (wpList_plain rfl fun K hK => wp_clear_k (s := .tmp 31) rfl rfl (HCL.out _ _) (hK _ _ ?_))
  have HB4 := Lib.hid (fun cs => YtbogjfbfgbhdbaaGreatDoor.below_setRow HB2.out HGB.out cs)
  have HG4 := Lib.hid (fun cs => grown_trans HG2.out (grown_setRow V g cs))
  go_wp2_with fail
  go_ret
  refine ⟨rfl, ?_, HB4.out _, HG4.out _⟩
  have := HP3.out.own HGB.out
  rw [show (l.eraseIdx i).length = n - 1 by rw [List.length_eraseIdx]; split <;> omega] at this
  exact this
end Go.Proofs.YtbogjfbfgbhdbaaGreatDoor
