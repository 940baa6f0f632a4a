/-
  Contracts over the document's own package for events: may an event be?
-/
import Derived.Test.YtoiffchhfnbooaaGreatDoorQEventF
import Derived.Deep.DeepCutAuto
import Derived.Deep.RegionHeld3
namespace Go.Proofs.YtoiffchhfnbooaaGreatDoor
set_option linter.unusedVariables false
set_option linter.unusedSimpArgs false
open Go.RowKit
set_option linter.unusedVariables false
set_option linter.unusedSimpArgs false

def goodAt (e : Ev) (c : Nat) : Bool := if c ∈ partsN e.kind then okQ e c else noneP e c
theorem rightD_eq (e : Ev) : rightE e = (!(partsN e.kind).isEmpty && (tmB e.at_ && nineL.all (goodAt e))) := (right_doc e).symm
theorem rightD_stop {e : Ev} {c : Nat} (hc : c ∈ nineL) (h : goodAt e c = false) : rightE e = false := by
  rw [rightD_eq]
  have : nineL.all (goodAt e) = false := by
    rw [List.all_eq_false]
    exact ⟨c, hc, by rw [h]; decide⟩
  rw [this, Bool.and_false, Bool.and_false]
theorem rightD_yes {e : Ev} (h0 : ¬ partsN e.kind = []) (h1 : tmB e.at_ = true) (h2 : ∀ c ∈ nineL, goodAt e c = true) : rightE e = true := by
  rw [rightD_eq, h1, List.all_eq_true.2 h2]
  have : (partsN e.kind).isEmpty = false := by simpa using h0
  rw [this]
  rfl
theorem good_in {e : Ev} {c : Nat} (h : c ∈ partsN e.kind) : goodAt e c = okQ e c := if_pos h
theorem good_out {e : Ev} {c : Nat} (h : ¬ c ∈ partsN e.kind) : goodAt e c = noneP e c := if_neg h
theorem good_next {e : Ev} {k c : Nat} (h : ∀ x ∈ nineL.take k, goodAt e x = true) (hc : nineL[k]? = some c) (hx : goodAt e c = true) : ∀ x ∈ nineL.take (k + 1), goodAt e x = true := by
  intro x hm
  rw [take_snoc_n nineL k c hc] at hm
  rcases List.mem_append.1 hm with hm | hm
  · exact h x hm
  · rw [List.mem_singleton.1 hm]; exact hx
def goodC (e : Ev) : Array Value := #[.bool (okQ e 98), .bool (okQ e 116), .bool (okQ e 105), .bool (okQ e 115), .bool (okQ e 109), .bool (okQ e 102), .bool (okQ e 100), .bool (okQ e 110), .bool (okQ e 121)]
def noneC (e : Ev) : Array Value := #[.bool (noneP e 98), .bool (noneP e 116), .bool (noneP e 105), .bool (noneP e 115), .bool (noneP e 109), .bool (noneP e 102), .bool (noneP e 100), .bool (noneP e 110), .bool (noneP e 121)]
theorem none_text (s : ByteArray) : s.toList.isEmpty = decide (s = noText) := by
  have h := strs_empty (nats s)
  rw [strOf_nats] at h
  rw [h]
  refine decide_eq_decide.2 ⟨fun e => ?_, fun e => by rw [e]; rfl⟩
  rw [← strOf_nats s, e]; rfl
theorem none_len {α : Type} {l : List α} {n : Nat} (h : l.length = n) : ((n : Int) == 0) = decide (l = []) := by
  rw [← h]
  cases l with
  | nil => rfl
  | cons a l => simp; omega
theorem none_int (z : Int) : (z == 0) = decide (z = 0) := rfl
theorem ids_full {l : List Int} {n : Nat} (h : l.length = n) (h1 : (1 : Int) ≤ (n : Int)) (h2 : (n : Int) ≤ 60) : idsB l = riseB l := by
  unfold idsB
  rw [decide_eq_true (by omega), Bool.true_and]
theorem oper_store_wide {P : Program} {o : Oper} {a : Act} {w : World} {K : Act → World → Prop} {Q : Exit → Act → World → Prop} (ty : TypeId) (x y : Operand) (ho : o.op = .store ty x y)
    (g : Nat) (cells : Array Value) (hx : a.eval x = .pointer (some ⟨g, 0, none⟩)) (hy : a.eval y = .agg cells)
    (t : TypeId) (cur : Array Value) (hg : Bk w g t cur) (hfit : cells.size = cur.size) (hi : (P.info? ty).map (·.size) = some cells.size) (h1 : ∀ v ∈ cells.toList, v.oneCell' = true)
    (h : ∀ w', Hid (w' = w.setRow g cells) → K (a.put o.dst undef) w') : o.wp P a w K Q := by
  refine wp_skip (w' := w.setRow g cells) ?_ (h _ rfl)
  have := run_storeCells_at P g 0 t cells.toList 0 cur w hg (by simp; omega) h1
  simp only [Nat.add_zero, Nat.zero_add, List.append_assoc] at this
  have e : splice cur.toList 0 cells.toList = cells.toList := splice_all (by simp [hfit])
  unfold splice at e
  simp only [Nat.zero_add] at e
  cases hq : P.info? ty with
  | none => simp [hq] at hi
  | some i =>
    have hs : cells.size = i.size := by simp [hq] at hi; omega
    unfold execOp
    simp only [ho, hx, hy, Instr.storeAt, Instr.sureAddr, Sem.run_bind, Sem.run_pure, Result.andThen_ok]
    simp only [e, Array.toArray_toList] at this
    simp [storeVar, sizeOf, typeInfo, hq, Value.cells, hs, this]
theorem info_b9 : (Tryz.prog.info? 91).map (·.size) = some 9 := by kernel_rfl
set_option maxRecDepth 20000 in
set_option maxHeartbeats 8000000 in
theorem xeRight_any (h : Eh) (w : World) (Hh : EvIn w w.heap.size h) : Calls Tryz.prog 34 #[.agg (evC h)] w (RightIs h w) := by
  have HH := Lib.hid Hh
  clear Hh
  go_enter Tryz.func34, Tryz.ntmps34
  go_wp2_with ((with_reducible show wpList _ _ _ (⟨some 8, _, _, _, _, _⟩ :: _) _ _); refine hold ?_)
  refine held (list_overE (fun W => Bk W w.heap.size 29 (evC h) ∧ Below w.heap.size w W) ⟨Bk.new _ _ _, (Below.refl _ _).alloc (Nat.le_refl _) _⟩ ?_)
  rintro W1 ⟨q1, q2⟩
  have R1 := Lib.hid q1
  have R2 := Lib.hid q2
  have c0 : W1.cell? ⟨w.heap.size, 0, none⟩ = some (.int .i64 h.e.kind) := q1.cell 0
  have c1 : W1.cell? ⟨w.heap.size, 1, none⟩ = some (.int .i64 h.e.at_) := q1.cell 1
  have c4 : W1.cell? ⟨w.heap.size, 4, none⟩ = some (.slice h.A1 h.n1 h.c1) := q1.cell 4
  clear q1 q2
  go_wp2_with fail
  refine (xeParts_any h.e.kind W1).mono ?_
  rintro e w' ⟨rfl, rfl⟩
  by_cases hp0 : partsN h.e.kind = []
  · have HR := Lib.hid (right_empty hp0)
    have he : (strOf (partsN h.e.kind)).toList.isEmpty = true := by rw [strs_empty]; exact decide_eq_true hp0
    clear hp0
    go_wp2_with fail
    go_ret
    exact ⟨by rw [HR.out] <;> rfl, R2.out⟩
  have he : (strOf (partsN h.e.kind)).toList.isEmpty = false := by rw [strs_empty]; exact decide_eq_false hp0
  have HP0 := Lib.hid hp0
  clear hp0 c0
  go_wp2_with fail
  refine (xetime_any h.e.at_ W1).mono ?_
  rintro e w' ⟨rfl, rfl⟩
  cases ht : tmB h.e.at_
  · have HR := Lib.hid (right_time ht)
    clear ht
    go_wp2_with fail
    go_ret
    exact ⟨by rw [HR.out] <;> rfl, R2.out⟩
  have HT := Lib.hid ht
  clear ht c1
  go_upto_region 4 with (fail)
  go_cut [4] (fun x4 wx => x4 = .bool (idsB h.e.ids) ∧ Bk wx w.heap.size 29 (evC h) ∧ Below w.heap.size w wx)
  case first =>
    have hlen := HH.out.1.1
    by_cases h1 : (1 : Int) ≤ (h.n1 : Int)
    · by_cases h2 : (h.n1 : Int) ≤ 60
      · have HE := Lib.hid (ids_full hlen h1 h2)
        have CR := Lib.hid (x9Rising_any h.A1 h.n1 h.c1 h.e.ids W1 (HH.out.later R2.out).1 HH.out.2.2.2.1)
        clear hlen
        go_wp2_with fail
        refine CR.out.mono ?_
        rintro e W2 ⟨rfl, q, hq⟩
        clear CR
        go_wp2_with fail
        go_meet
        exact ⟨by rw [HE.out], R1.out.drewNE q, below_drewN R2.out q⟩
      · have HE : Hid (idsB h.e.ids = false) := Lib.hid (idsB_long (by omega))
        clear hlen
        go_wp2_with fail
        go_meet
        exact ⟨by rw [HE.out], R1.out, R2.out⟩
    · have HE : Hid (idsB h.e.ids = false) := Lib.hid (idsB_short (by omega))
      clear hlen
      go_wp2_with fail
      go_meet
      exact ⟨by rw [HE.out], R1.out, R2.out⟩
  case rest =>
    obtain ⟨rfl, hk, hb⟩ := hcut
    clear c4 R1 R2
    generalize wc = W2 at *
    have R1 := Lib.hid hk
    have R2 := Lib.hid hb
    clear hk hb
    go_upto_region 5 with (fail)
    go_cut [5] (fun x5 wx => ∃ b5, x5 = .pointer (some ⟨b5, 0, none⟩) ∧ Bk wx b5 91 (goodC h.e) ∧ Bk wx w.heap.size 29 (evC h) ∧ Below w.heap.size w wx)
    case first =>
      have hmx : Tryz.prog.follows .mixedOrders = true := by kernel_rfl
      have HB : Hid (decide ((h.n3 : Int) ≤ 2000) = okQ h.e 121) := Lib.hid (by
        have hbl := HH.out.2.2.1.1
        show _ = decide (h.e.body.length ≤ 2000)
        exact decide_eq_decide.2 (by omega))
      by_cases hmd : 0 ≤ h.e.mode
      · have HM : Hid (decide (h.e.mode ≤ 2) = okQ h.e 109) := Lib.hid (by
          show _ = decide (0 ≤ h.e.mode ∧ h.e.mode ≤ 2)
          exact decide_eq_decide.2 (by omega))
        go_wp2_with fail
        refine wp_region_held_drew (S := fun W' => Below W2.heap.size W2 W') hmx (Below.refl W2.heap.size W2).drew (fun hHeld => ?_)
        have k1 := Lib.hid (R1.out.drewNE 1)
        have k2 := Lib.hid (below_drewN R2.out 1)
        have hlt := R1.out.lt
        have d0 : W2.cell? ⟨w.heap.size, 0, none⟩ = (evC h)[0]? := R1.out.cell 0
        have d1 : W2.cell? ⟨w.heap.size, 1, none⟩ = (evC h)[1]? := R1.out.cell 1
        have d2 : W2.cell? ⟨w.heap.size, 2, none⟩ = (evC h)[2]? := R1.out.cell 2
        have d3 : W2.cell? ⟨w.heap.size, 3, none⟩ = (evC h)[3]? := R1.out.cell 3
        have d4 : W2.cell? ⟨w.heap.size, 4, none⟩ = (evC h)[4]? := R1.out.cell 4
        have d5 : W2.cell? ⟨w.heap.size, 5, none⟩ = (evC h)[5]? := R1.out.cell 5
        have d6 : W2.cell? ⟨w.heap.size, 6, none⟩ = (evC h)[6]? := R1.out.cell 6
        have d7 : W2.cell? ⟨w.heap.size, 7, none⟩ = (evC h)[7]? := R1.out.cell 7
        have d8 : W2.cell? ⟨w.heap.size, 8, none⟩ = (evC h)[8]? := R1.out.cell 8
        have d9 : W2.cell? ⟨w.heap.size, 9, none⟩ = (evC h)[9]? := R1.out.cell 9
        have d10 : W2.cell? ⟨w.heap.size, 10, none⟩ = (evC h)[10]? := R1.out.cell 10
        obtain ⟨V0, hV0⟩ : ∃ V, V = W2.drew := ⟨_, rfl⟩
        rw [← hV0] at hHeld ⊢
        replace k1 : Hid (Bk V0 w.heap.size 29 (evC h)) := Lib.hid (by rw [hV0]; exact R1.out.drew)
        replace k2 : Hid (Below w.heap.size w V0) := Lib.hid (by rw [hV0]; exact R2.out.drew)
        have k0 := k1
        have k3 : Hid (w.heap.size ≤ V0.heap.size) := Lib.hid k2.out.size
        have k4 : Hid (W2.heap.size ≤ V0.heap.size) := Lib.hid hHeld.size
        clear hV0
        simp only [List.size_toArray, List.length_cons, List.length_nil, Nat.reduceAdd]
        refine wpAnyH_take (i := 0) (v := .pointer (some ⟨w.heap.size, 2, none⟩)) rfl (by kernel_rfl) (by kernel_rfl) (by kernel_rfl) (fun _ _ _ h => h) (Or.inl ⟨by rfl, fun w0 hC => by simp [execOp, Act.eval, Act.put, go_sem]⟩) hHeld ?_
        try simp only [Act.put, List.setIfInBounds_toArray, List.set_cons_zero, List.set_cons_succ, List.getElem_toArray, List.getElem_cons_zero, List.getElem_cons_succ]
        refine wpAnyH_take (i := 1) (v := .string h.e.box) rfl (by kernel_rfl) (by kernel_rfl) (by kernel_rfl) (fun _ _ _ h => h) (Or.inl ⟨by rfl, fun w0 hC => by simp [execOp, Act.eval, Act.put, go_sem, (hC.cell (p := ⟨w.heap.size, 2, none⟩) hlt).trans d2, evC]⟩) hHeld ?_
        try simp only [Act.put, List.setIfInBounds_toArray, List.set_cons_zero, List.set_cons_succ, List.getElem_toArray, List.getElem_cons_zero, List.getElem_cons_succ]
        refine wpAnyH_take (i := 3) (v := .pointer (some ⟨w.heap.size, 3, none⟩)) rfl (by kernel_rfl) (by kernel_rfl) (by kernel_rfl) (fun _ _ _ h => h) (Or.inl ⟨by rfl, fun w0 hC => by simp [execOp, Act.eval, Act.put, go_sem]⟩) hHeld ?_
        try simp only [Act.put, List.setIfInBounds_toArray, List.set_cons_zero, List.set_cons_succ, List.getElem_toArray, List.getElem_cons_zero, List.getElem_cons_succ]
        refine wpAnyH_take (i := 4) (v := .string h.e.to_) rfl (by kernel_rfl) (by kernel_rfl) (by kernel_rfl) (fun _ _ _ h => h) (Or.inl ⟨by rfl, fun w0 hC => by simp [execOp, Act.eval, Act.put, go_sem, (hC.cell (p := ⟨w.heap.size, 3, none⟩) hlt).trans d3, evC]⟩) hHeld ?_
        try simp only [Act.put, List.setIfInBounds_toArray, List.set_cons_zero, List.set_cons_succ, List.getElem_toArray, List.getElem_cons_zero, List.getElem_cons_succ]
        refine wpAnyH_take (i := 6) (v := .bool (idsB h.e.ids)) rfl (by kernel_rfl) (by kernel_rfl) (by kernel_rfl) (fun _ _ _ h => h) (Or.inl ⟨by rfl, fun w0 hC => by simp [execOp, Act.eval, Act.put, go_sem]⟩) hHeld ?_
        try simp only [Act.put, List.setIfInBounds_toArray, List.set_cons_zero, List.set_cons_succ, List.getElem_toArray, List.getElem_cons_zero, List.getElem_cons_succ]
        refine wpAnyH_take (i := 7) (v := .pointer (some ⟨w.heap.size, 5, none⟩)) rfl (by kernel_rfl) (by kernel_rfl) (by kernel_rfl) (fun _ _ _ h => h) (Or.inl ⟨by rfl, fun w0 hC => by simp [execOp, Act.eval, Act.put, go_sem]⟩) hHeld ?_
        try simp only [Act.put, List.setIfInBounds_toArray, List.set_cons_zero, List.set_cons_succ, List.getElem_toArray, List.getElem_cons_zero, List.getElem_cons_succ]
        refine wpAnyH_take (i := 8) (v := .slice h.A2 h.n2 h.c2) rfl (by kernel_rfl) (by kernel_rfl) (by kernel_rfl) (fun _ _ _ h => h) (Or.inl ⟨by rfl, fun w0 hC => by simp [execOp, Act.eval, Act.put, go_sem, (hC.cell (p := ⟨w.heap.size, 5, none⟩) hlt).trans d5, evC]⟩) hHeld ?_
        try simp only [Act.put, List.setIfInBounds_toArray, List.set_cons_zero, List.set_cons_succ, List.getElem_toArray, List.getElem_cons_zero, List.getElem_cons_succ]
        refine wpAnyH_take (i := 10) (v := .pointer (some ⟨w.heap.size, 6, none⟩)) rfl (by kernel_rfl) (by kernel_rfl) (by kernel_rfl) (fun _ _ _ h => h) (Or.inl ⟨by rfl, fun w0 hC => by simp [execOp, Act.eval, Act.put, go_sem]⟩) hHeld ?_
        try simp only [Act.put, List.setIfInBounds_toArray, List.set_cons_zero, List.set_cons_succ, List.getElem_toArray, List.getElem_cons_zero, List.getElem_cons_succ]
        refine wpAnyH_take (i := 11) (v := .int .i64 h.e.mode) rfl (by kernel_rfl) (by kernel_rfl) (by kernel_rfl) (fun _ _ _ h => h) (Or.inl ⟨by rfl, fun w0 hC => by simp [execOp, Act.eval, Act.put, go_sem, (hC.cell (p := ⟨w.heap.size, 6, none⟩) hlt).trans d6, evC]⟩) hHeld ?_
        try simp only [Act.put, List.setIfInBounds_toArray, List.set_cons_zero, List.set_cons_succ, List.getElem_toArray, List.getElem_cons_zero, List.getElem_cons_succ]
        refine wpAnyH_take (i := 12) (v := .bool true) rfl (by kernel_rfl) (by kernel_rfl) (by kernel_rfl) (fun _ _ _ h => h) (Or.inl ⟨by rfl, fun w0 hC => by simp [execOp, Act.eval, Act.put, go_sem, hmd]⟩) hHeld ?_
        try simp only [Act.put, List.setIfInBounds_toArray, List.set_cons_zero, List.set_cons_succ, List.getElem_toArray, List.getElem_cons_zero, List.getElem_cons_succ]
        refine wpAnyH_take (i := 18) (v := .pointer (some ⟨w.heap.size, 7, none⟩)) rfl (by kernel_rfl) (by kernel_rfl) (by kernel_rfl) (fun _ _ _ h => h) (Or.inl ⟨by rfl, fun w0 hC => by simp [execOp, Act.eval, Act.put, go_sem]⟩) hHeld ?_
        try simp only [Act.put, List.setIfInBounds_toArray, List.set_cons_zero, List.set_cons_succ, List.getElem_toArray, List.getElem_cons_zero, List.getElem_cons_succ]
        refine wpAnyH_take (i := 19) (v := .int .i64 h.e.flags) rfl (by kernel_rfl) (by kernel_rfl) (by kernel_rfl) (fun _ _ _ h => h) (Or.inl ⟨by rfl, fun w0 hC => by simp [execOp, Act.eval, Act.put, go_sem, (hC.cell (p := ⟨w.heap.size, 7, none⟩) hlt).trans d7, evC]⟩) hHeld ?_
        try simp only [Act.put, List.setIfInBounds_toArray, List.set_cons_zero, List.set_cons_succ, List.getElem_toArray, List.getElem_cons_zero, List.getElem_cons_succ]
        refine wpAnyH_take (i := 21) (v := .pointer (some ⟨w.heap.size, 8, none⟩)) rfl (by kernel_rfl) (by kernel_rfl) (by kernel_rfl) (fun _ _ _ h => h) (Or.inl ⟨by rfl, fun w0 hC => by simp [execOp, Act.eval, Act.put, go_sem]⟩) hHeld ?_
        try simp only [Act.put, List.setIfInBounds_toArray, List.set_cons_zero, List.set_cons_succ, List.getElem_toArray, List.getElem_cons_zero, List.getElem_cons_succ]
        refine wpAnyH_take (i := 22) (v := .int .i64 h.e.date) rfl (by kernel_rfl) (by kernel_rfl) (by kernel_rfl) (fun _ _ _ h => h) (Or.inl ⟨by rfl, fun w0 hC => by simp [execOp, Act.eval, Act.put, go_sem, (hC.cell (p := ⟨w.heap.size, 8, none⟩) hlt).trans d8, evC]⟩) hHeld ?_
        try simp only [Act.put, List.setIfInBounds_toArray, List.set_cons_zero, List.set_cons_succ, List.getElem_toArray, List.getElem_cons_zero, List.getElem_cons_succ]
        refine wpAnyH_take (i := 24) (v := .pointer (some ⟨w.heap.size, 9, none⟩)) rfl (by kernel_rfl) (by kernel_rfl) (by kernel_rfl) (fun _ _ _ h => h) (Or.inl ⟨by rfl, fun w0 hC => by simp [execOp, Act.eval, Act.put, go_sem]⟩) hHeld ?_
        try simp only [Act.put, List.setIfInBounds_toArray, List.set_cons_zero, List.set_cons_succ, List.getElem_toArray, List.getElem_cons_zero, List.getElem_cons_succ]
        refine wpAnyH_take (i := 25) (v := .int .i64 h.e.n) rfl (by kernel_rfl) (by kernel_rfl) (by kernel_rfl) (fun _ _ _ h => h) (Or.inl ⟨by rfl, fun w0 hC => by simp [execOp, Act.eval, Act.put, go_sem, (hC.cell (p := ⟨w.heap.size, 9, none⟩) hlt).trans d9, evC]⟩) hHeld ?_
        try simp only [Act.put, List.setIfInBounds_toArray, List.set_cons_zero, List.set_cons_succ, List.getElem_toArray, List.getElem_cons_zero, List.getElem_cons_succ]
        refine wpAnyH_take (i := 27) (v := .pointer (some ⟨w.heap.size, 10, none⟩)) rfl (by kernel_rfl) (by kernel_rfl) (by kernel_rfl) (fun _ _ _ h => h) (Or.inl ⟨by rfl, fun w0 hC => by simp [execOp, Act.eval, Act.put, go_sem]⟩) hHeld ?_
        try simp only [Act.put, List.setIfInBounds_toArray, List.set_cons_zero, List.set_cons_succ, List.getElem_toArray, List.getElem_cons_zero, List.getElem_cons_succ]
        refine wpAnyH_take (i := 28) (v := .slice h.A3 h.n3 h.c3) rfl (by kernel_rfl) (by kernel_rfl) (by kernel_rfl) (fun _ _ _ h => h) (Or.inl ⟨by rfl, fun w0 hC => by simp [execOp, Act.eval, Act.put, go_sem, (hC.cell (p := ⟨w.heap.size, 10, none⟩) hlt).trans d10, evC]⟩) hHeld ?_
        try simp only [Act.put, List.setIfInBounds_toArray, List.set_cons_zero, List.set_cons_succ, List.getElem_toArray, List.getElem_cons_zero, List.getElem_cons_succ]
        refine wpAnyH_take (i := 29) (v := .int .i64 (h.n3 : Int)) rfl (by kernel_rfl) (by kernel_rfl) (by kernel_rfl) (fun _ _ _ h => h) (Or.inl ⟨by rfl, fun w0 hC => by simp [execOp, Act.eval, Act.put, go_sem]⟩) hHeld ?_
        try simp only [Act.put, List.setIfInBounds_toArray, List.set_cons_zero, List.set_cons_succ, List.getElem_toArray, List.getElem_cons_zero, List.getElem_cons_succ]
        refine wpAnyH_take (i := 30) (v := .bool (okQ h.e 121)) rfl (by kernel_rfl) (by kernel_rfl) (by kernel_rfl) (fun _ _ _ h => h) (Or.inl ⟨by rfl, fun w0 hC => by simp [execOp, Act.eval, Act.put, go_sem, HB.out]⟩) hHeld ?_
        try simp only [Act.put, List.setIfInBounds_toArray, List.set_cons_zero, List.set_cons_succ, List.getElem_toArray, List.getElem_cons_zero, List.getElem_cons_succ]
        refine wpAnyH_ready (rs := [2, 32]) (by kernel_rfl) (by simp) (AllReadyH.cons rfl (fun K hK => ?_) (AllReadyH.cons rfl (fun K hK => ?_) AllReadyH.nil))
        · rw [if_pos (by rfl)]
          go_wp2_with fail
          refine (xaRight_any h.e.box HH.out.2.2.2.2.2.2.1 _).mono ?_
          rintro e w' ⟨rfl, rfl⟩
          have hSa := hHeld
          clear hHeld
          refine hK.out _ _ hSa (fun hHeld => ?_)
          clear hK K
          try simp only [Act.put, List.setIfInBounds_toArray, List.set_cons_zero, List.set_cons_succ, List.getElem_toArray, List.getElem_cons_zero, List.getElem_cons_succ]
          clear hSa
          refine wpAnyH_ready (rs := [5, 32]) (by kernel_rfl) (by simp) (AllReadyH.cons rfl (fun K hK => ?_) (AllReadyH.cons rfl (fun K hK => ?_) AllReadyH.nil))
          · rw [if_pos (by rfl)]
            go_wp2_with fail
            refine (xaRight_any h.e.to_ HH.out.2.2.2.2.2.2.2 _).mono ?_
            rintro e w' ⟨rfl, rfl⟩
            have hSa := hHeld
            clear hHeld
            refine hK.out _ _ hSa (fun hHeld => ?_)
            clear hK K
            try simp only [Act.put, List.setIfInBounds_toArray, List.set_cons_zero, List.set_cons_succ, List.getElem_toArray, List.getElem_cons_zero, List.getElem_cons_succ]
            clear hSa
            refine wpAnyH_ready (rs := [9, 32]) (by kernel_rfl) (by simp) (AllReadyH.cons rfl (fun K hK => ?_) (AllReadyH.cons rfl (fun K hK => ?_) AllReadyH.nil))
            · rw [if_pos (by rfl)]
              go_wp2_with fail
              refine (xeset_any h.A2 h.n2 h.c2 h.e.set V0 (HH.out.later k2.out).2.1 HH.out.2.2.2.2.1).mono ?_
              rintro e w' ⟨rfl, rfl⟩
              have hSa := hHeld
              clear hHeld
              refine hK.out _ _ hSa (fun hHeld => ?_)
              clear hK K
              try simp only [Act.put, List.setIfInBounds_toArray, List.set_cons_zero, List.set_cons_succ, List.getElem_toArray, List.getElem_cons_zero, List.getElem_cons_succ]
              clear hSa
              refine wpAnyH_take (i := 13) (v := .bool true) rfl (by kernel_rfl) (by kernel_rfl) (by kernel_rfl) (fun _ _ _ h => h) (Or.inl ⟨by rfl, fun w0 hC => by simp [execOp, Act.eval, Act.put, go_sem]⟩) hHeld ?_
              try simp only [Act.put, List.setIfInBounds_toArray, List.set_cons_zero, List.set_cons_succ, List.getElem_toArray, List.getElem_cons_zero, List.getElem_cons_succ]
              refine wpAnyH_take (i := 14) (v := .pointer (some ⟨w.heap.size, 6, none⟩)) rfl (by kernel_rfl) (by kernel_rfl) (by kernel_rfl) (fun _ _ _ h => h) (Or.inl ⟨by rfl, fun w0 hC => by simp [execOp, Act.eval, Act.put, go_sem]⟩) hHeld ?_
              try simp only [Act.put, List.setIfInBounds_toArray, List.set_cons_zero, List.set_cons_succ, List.getElem_toArray, List.getElem_cons_zero, List.getElem_cons_succ]
              refine wpAnyH_take (i := 15) (v := .int .i64 h.e.mode) rfl (by kernel_rfl) (by kernel_rfl) (by kernel_rfl) (fun _ _ _ h => h) (Or.inl ⟨by rfl, fun w0 hC => by simp [execOp, Act.eval, Act.put, go_sem, (hC.cell (p := ⟨w.heap.size, 6, none⟩) hlt).trans d6, evC]⟩) hHeld ?_
              try simp only [Act.put, List.setIfInBounds_toArray, List.set_cons_zero, List.set_cons_succ, List.getElem_toArray, List.getElem_cons_zero, List.getElem_cons_succ]
              refine wpAnyH_take (i := 16) (v := .bool (okQ h.e 109)) rfl (by kernel_rfl) (by kernel_rfl) (by kernel_rfl) (fun _ _ _ h => h) (Or.inl ⟨by rfl, fun w0 hC => by simp [execOp, Act.eval, Act.put, go_sem, HM.out]⟩) hHeld ?_
              try simp only [Act.put, List.setIfInBounds_toArray, List.set_cons_zero, List.set_cons_succ, List.getElem_toArray, List.getElem_cons_zero, List.getElem_cons_succ]
              refine wpAnyH_take (i := 17) (v := .bool (okQ h.e 109)) rfl (by kernel_rfl) (by kernel_rfl) (by kernel_rfl) (fun _ _ _ h => h) (Or.inl ⟨by rfl, fun w0 hC => by simp [execOp, Act.eval, Act.put, go_sem]⟩) hHeld ?_
              try simp only [Act.put, List.setIfInBounds_toArray, List.set_cons_zero, List.set_cons_succ, List.getElem_toArray, List.getElem_cons_zero, List.getElem_cons_succ]
              refine wpAnyH_ready (rs := [20, 32]) (by kernel_rfl) (by simp) (AllReadyH.cons rfl (fun K hK => ?_) (AllReadyH.cons rfl (fun K hK => ?_) AllReadyH.nil))
              · rw [if_pos (by rfl)]
                go_wp2_with fail
                refine (x8fright_any h.e.flags _).mono ?_
                rintro e w' ⟨rfl, rfl⟩
                have hSa := hHeld
                clear hHeld
                refine hK.out _ _ hSa (fun hHeld => ?_)
                clear hK K
                try simp only [Act.put, List.setIfInBounds_toArray, List.set_cons_zero, List.set_cons_succ, List.getElem_toArray, List.getElem_cons_zero, List.getElem_cons_succ]
                clear hSa
                refine wpAnyH_ready (rs := [23, 32]) (by kernel_rfl) (by simp) (AllReadyH.cons rfl (fun K hK => ?_) (AllReadyH.cons rfl (fun K hK => ?_) AllReadyH.nil))
                · rw [if_pos (by rfl)]
                  go_wp2_with fail
                  refine (xetime_any h.e.date _).mono ?_
                  rintro e w' ⟨rfl, rfl⟩
                  have hSa := hHeld
                  clear hHeld
                  refine hK.out _ _ hSa (fun hHeld => ?_)
                  clear hK K
                  try simp only [Act.put, List.setIfInBounds_toArray, List.set_cons_zero, List.set_cons_succ, List.getElem_toArray, List.getElem_cons_zero, List.getElem_cons_succ]
                  clear hSa
                  refine wpAnyH_ready (rs := [26, 32]) (by kernel_rfl) (by simp) (AllReadyH.cons rfl (fun K hK => ?_) (AllReadyH.cons rfl (fun K hK => ?_) AllReadyH.nil))
                  · rw [if_pos (by rfl)]
                    go_wp2_with fail
                    refine (xetime_any h.e.n _).mono ?_
                    rintro e w' ⟨rfl, rfl⟩
                    have hSa := hHeld
                    clear hHeld
                    refine hK.out _ _ hSa (fun hHeld => ?_)
                    clear hK K
                    try simp only [Act.put, List.setIfInBounds_toArray, List.set_cons_zero, List.set_cons_succ, List.getElem_toArray, List.getElem_cons_zero, List.getElem_cons_succ]
                    clear hSa
                    refine wpAnyH_take (i := 31) (v := .agg #[.bool (okQ h.e 98), .bool (okQ h.e 116), .bool (okQ h.e 105), .bool (okQ h.e 115), .bool (okQ h.e 109), .bool (okQ h.e 102), .bool (okQ h.e 100), .bool (okQ h.e 110), .bool (okQ h.e 121)]) rfl (by kernel_rfl) (by kernel_rfl) (by kernel_rfl) (fun _ _ _ h => h) (Or.inl ⟨by rfl, fun w0 hC => by simp [execOp, Act.eval, Act.put, go_sem]; exact ⟨rfl, rfl, rfl, rfl, rfl, rfl, rfl⟩⟩) hHeld ?_
                    try simp only [Act.put, List.setIfInBounds_toArray, List.set_cons_zero, List.set_cons_succ, List.getElem_toArray, List.getElem_cons_zero, List.getElem_cons_succ]
                    refine wpAnyH_ready (rs := [32]) (by kernel_rfl) (by simp) (AllReadyH.cons rfl (fun K hK => ?_) AllReadyH.nil)
                    rw [if_pos (by rfl)]
                    go_wp2_with fail
                    have hSa := hHeld.alloc hHeld.size (.cells #[.bool false, .bool false, .bool false, .bool false, .bool false, .bool false, .bool false, .bool false, .bool false] 91)
                    replace k1 := Lib.hid (k1.out.alloc (.cells #[.bool false, .bool false, .bool false, .bool false, .bool false, .bool false, .bool false, .bool false, .bool false] 91))
                    replace k2 := Lib.hid (k2.out.alloc k2.out.size (.cells #[.bool false, .bool false, .bool false, .bool false, .bool false, .bool false, .bool false, .bool false, .bool false] 91))
                    have kb := Lib.hid (Bk.new V0 91 #[.bool false, .bool false, .bool false, .bool false, .bool false, .bool false, .bool false, .bool false, .bool false])
                    clear hHeld
                    refine hK.out _ _ hSa (fun hHeld => ?_)
                    clear hK K
                    try simp only [Act.put, List.setIfInBounds_toArray, List.set_cons_zero, List.set_cons_succ, List.getElem_toArray, List.getElem_cons_zero, List.getElem_cons_succ]
                    clear hSa
                    refine wpAnyH_ready (rs := [33]) (by kernel_rfl) (by simp) (AllReadyH.cons rfl (fun K hK => ?_) AllReadyH.nil)
                    rw [if_pos (by rfl)]
                    refine oper_store_wide 91 _ _ rfl V0.heap.size (goodC h.e) rfl rfl 91 _ kb.out rfl info_b9 (by intro v hv; simp [goodC] at hv; rcases hv with rfl | rfl | rfl | rfl | rfl | rfl | rfl | rfl | rfl <;> rfl) ?_
                    intro W9 hW9
                    have hl0 : w.heap.size ≠ V0.heap.size := by have := k0.out.lt; omega
                    have z1 : Hid (Bk W9 V0.heap.size 91 (goodC h.e)) := Lib.hid (by rw [hW9.out]; exact kb.out.setRow_same _)
                    have z2 : Hid (Bk W9 w.heap.size 29 (evC h)) := Lib.hid (by rw [hW9.out]; exact k1.out.setRow_other hl0 _)
                    have z3 : Hid (Below w.heap.size w W9) := Lib.hid (by rw [hW9.out]; exact below_setRow k2.out k3.out _)
                    have hSa : Below W2.heap.size W2 W9 := by rw [hW9.out]; exact below_setRow hHeld k4.out _
                    clear hHeld hW9
                    refine hK.out _ _ hSa (fun hHeld => ?_)
                    clear hK K
                    try simp only [Act.put, List.setIfInBounds_toArray, List.set_cons_zero, List.set_cons_succ, List.getElem_toArray, List.getElem_cons_zero, List.getElem_cons_succ]
                    clear hSa
                    refine wpAnyH_done (by kernel_rfl) ?_ _
                    go_wp2_with fail
                    go_meet
                    exact ⟨V0.heap.size, rfl, z1.out, z2.out, z3.out⟩
                  · rw [if_pos (by rfl)]
                    go_wp2_with fail
                    have hSa := hHeld.alloc hHeld.size (.cells #[.bool false, .bool false, .bool false, .bool false, .bool false, .bool false, .bool false, .bool false, .bool false] 91)
                    replace k1 := Lib.hid (k1.out.alloc (.cells #[.bool false, .bool false, .bool false, .bool false, .bool false, .bool false, .bool false, .bool false, .bool false] 91))
                    replace k2 := Lib.hid (k2.out.alloc k2.out.size (.cells #[.bool false, .bool false, .bool false, .bool false, .bool false, .bool false, .bool false, .bool false, .bool false] 91))
                    have kb := Lib.hid (Bk.new V0 91 #[.bool false, .bool false, .bool false, .bool false, .bool false, .bool false, .bool false, .bool false, .bool false])
                    clear hHeld
                    refine hK.out _ _ hSa (fun hHeld => ?_)
                    clear hK K
                    try simp only [Act.put, List.setIfInBounds_toArray, List.set_cons_zero, List.set_cons_succ, List.getElem_toArray, List.getElem_cons_zero, List.getElem_cons_succ]
                    clear hSa
                    refine wpAnyH_ready (rs := [26]) (by kernel_rfl) (by simp) (AllReadyH.cons rfl (fun K hK => ?_) AllReadyH.nil)
                    rw [if_pos (by rfl)]
                    go_wp2_with fail
                    refine (xetime_any h.e.n _).mono ?_
                    rintro e w' ⟨rfl, rfl⟩
                    have hSa := hHeld
                    clear hHeld
                    refine hK.out _ _ hSa (fun hHeld => ?_)
                    clear hK K
                    try simp only [Act.put, List.setIfInBounds_toArray, List.set_cons_zero, List.set_cons_succ, List.getElem_toArray, List.getElem_cons_zero, List.getElem_cons_succ]
                    clear hSa
                    refine wpAnyH_take (i := 31) (v := .agg #[.bool (okQ h.e 98), .bool (okQ h.e 116), .bool (okQ h.e 105), .bool (okQ h.e 115), .bool (okQ h.e 109), .bool (okQ h.e 102), .bool (okQ h.e 100), .bool (okQ h.e 110), .bool (okQ h.e 121)]) rfl (by kernel_rfl) (by kernel_rfl) (by kernel_rfl) (fun _ _ _ h => h) (Or.inl ⟨by rfl, fun w0 hC => by simp [execOp, Act.eval, Act.put, go_sem]; exact ⟨rfl, rfl, rfl, rfl, rfl, rfl, rfl⟩⟩) hHeld ?_
                    try simp only [Act.put, List.setIfInBounds_toArray, List.set_cons_zero, List.set_cons_succ, List.getElem_toArray, List.getElem_cons_zero, List.getElem_cons_succ]
                    refine wpAnyH_ready (rs := [33]) (by kernel_rfl) (by simp) (AllReadyH.cons rfl (fun K hK => ?_) AllReadyH.nil)
                    rw [if_pos (by rfl)]
                    refine oper_store_wide 91 _ _ rfl V0.heap.size (goodC h.e) rfl rfl 91 _ kb.out rfl info_b9 (by intro v hv; simp [goodC] at hv; rcases hv with rfl | rfl | rfl | rfl | rfl | rfl | rfl | rfl | rfl <;> rfl) ?_
                    intro W9 hW9
                    have hl0 : w.heap.size ≠ V0.heap.size := by have := k0.out.lt; omega
                    have z1 : Hid (Bk W9 V0.heap.size 91 (goodC h.e)) := Lib.hid (by rw [hW9.out]; exact kb.out.setRow_same _)
                    have z2 : Hid (Bk W9 w.heap.size 29 (evC h)) := Lib.hid (by rw [hW9.out]; exact k1.out.setRow_other hl0 _)
                    have z3 : Hid (Below w.heap.size w W9) := Lib.hid (by rw [hW9.out]; exact below_setRow k2.out k3.out _)
                    have hSa : Below W2.heap.size W2 W9 := by rw [hW9.out]; exact below_setRow hHeld k4.out _
                    clear hHeld hW9
                    refine hK.out _ _ hSa (fun hHeld => ?_)
                    clear hK K
                    try simp only [Act.put, List.setIfInBounds_toArray, List.set_cons_zero, List.set_cons_succ, List.getElem_toArray, List.getElem_cons_zero, List.getElem_cons_succ]
                    clear hSa
                    refine wpAnyH_done (by kernel_rfl) ?_ _
                    go_wp2_with fail
                    go_meet
                    exact ⟨V0.heap.size, rfl, z1.out, z2.out, z3.out⟩
                · rw [if_pos (by rfl)]
                  go_wp2_with fail
                  have hSa := hHeld.alloc hHeld.size (.cells #[.bool false, .bool false, .bool false, .bool false, .bool false, .bool false, .bool false, .bool false, .bool false] 91)
                  replace k1 := Lib.hid (k1.out.alloc (.cells #[.bool false, .bool false, .bool false, .bool false, .bool false, .bool false, .bool false, .bool false, .bool false] 91))
                  replace k2 := Lib.hid (k2.out.alloc k2.out.size (.cells #[.bool false, .bool false, .bool false, .bool false, .bool false, .bool false, .bool false, .bool false, .bool false] 91))
                  have kb := Lib.hid (Bk.new V0 91 #[.bool false, .bool false, .bool false, .bool false, .bool false, .bool false, .bool false, .bool false, .bool false])
                  clear hHeld
                  refine hK.out _ _ hSa (fun hHeld => ?_)
                  clear hK K
                  try simp only [Act.put, List.setIfInBounds_toArray, List.set_cons_zero, List.set_cons_succ, List.getElem_toArray, List.getElem_cons_zero, List.getElem_cons_succ]
                  clear hSa
                  refine wpAnyH_ready (rs := [23]) (by kernel_rfl) (by simp) (AllReadyH.cons rfl (fun K hK => ?_) AllReadyH.nil)
                  rw [if_pos (by rfl)]
                  go_wp2_with fail
                  refine (xetime_any h.e.date _).mono ?_
                  rintro e w' ⟨rfl, rfl⟩
                  have hSa := hHeld
                  clear hHeld
                  refine hK.out _ _ hSa (fun hHeld => ?_)
                  clear hK K
                  try simp only [Act.put, List.setIfInBounds_toArray, List.set_cons_zero, List.set_cons_succ, List.getElem_toArray, List.getElem_cons_zero, List.getElem_cons_succ]
                  clear hSa
                  refine wpAnyH_ready (rs := [26]) (by kernel_rfl) (by simp) (AllReadyH.cons rfl (fun K hK => ?_) AllReadyH.nil)
                  rw [if_pos (by rfl)]
                  go_wp2_with fail
                  refine (xetime_any h.e.n _).mono ?_
                  rintro e w' ⟨rfl, rfl⟩
                  have hSa := hHeld
                  clear hHeld
                  refine hK.out _ _ hSa (fun hHeld => ?_)
                  clear hK K
                  try simp only [Act.put, List.setIfInBounds_toArray, List.set_cons_zero, List.set_cons_succ, List.getElem_toArray, List.getElem_cons_zero, List.getElem_cons_succ]
                  clear hSa
                  refine wpAnyH_take (i := 31) (v := .agg #[.bool (okQ h.e 98), .bool (okQ h.e 116), .bool (okQ h.e 105), .bool (okQ h.e 115), .bool (okQ h.e 109), .bool (okQ h.e 102), .bool (okQ h.e 100), .bool (okQ h.e 110), .bool (okQ h.e 121)]) rfl (by kernel_rfl) (by kernel_rfl) (by kernel_rfl) (fun _ _ _ h => h) (Or.inl ⟨by rfl, fun w0 hC => by simp [execOp, Act.eval, Act.put, go_sem]; exact ⟨rfl, rfl, rfl, rfl, rfl, rfl, rfl⟩⟩) hHeld ?_
                  try simp only [Act.put, List.setIfInBounds_toArray, List.set_cons_zero, List.set_cons_succ, List.getElem_toArray, List.getElem_cons_zero, List.getElem_cons_succ]
                  refine wpAnyH_ready (rs := [33]) (by kernel_rfl) (by simp) (AllReadyH.cons rfl (fun K hK => ?_) AllReadyH.nil)
                  rw [if_pos (by rfl)]
                  refine oper_store_wide 91 _ _ rfl V0.heap.size (goodC h.e) rfl rfl 91 _ kb.out rfl info_b9 (by intro v hv; simp [goodC] at hv; rcases hv with rfl | rfl | rfl | rfl | rfl | rfl | rfl | rfl | rfl <;> rfl) ?_
                  intro W9 hW9
                  have hl0 : w.heap.size ≠ V0.heap.size := by have := k0.out.lt; omega
                  have z1 : Hid (Bk W9 V0.heap.size 91 (goodC h.e)) := Lib.hid (by rw [hW9.out]; exact kb.out.setRow_same _)
                  have z2 : Hid (Bk W9 w.heap.size 29 (evC h)) := Lib.hid (by rw [hW9.out]; exact k1.out.setRow_other hl0 _)
                  have z3 : Hid (Below w.heap.size w W9) := Lib.hid (by rw [hW9.out]; exact below_setRow k2.out k3.out _)
                  have hSa : Below W2.heap.size W2 W9 := by rw [hW9.out]; exact below_setRow hHeld k4.out _
                  clear hHeld hW9
                  refine hK.out _ _ hSa (fun hHeld => ?_)
                  clear hK K
                  try simp only [Act.put, List.setIfInBounds_toArray, List.set_cons_zero, List.set_cons_succ, List.getElem_toArray, List.getElem_cons_zero, List.getElem_cons_succ]
                  clear hSa
                  refine wpAnyH_done (by kernel_rfl) ?_ _
                  go_wp2_with fail
                  go_meet
                  exact ⟨V0.heap.size, rfl, z1.out, z2.out, z3.out⟩
              · rw [if_pos (by rfl)]
                go_wp2_with fail
                have hSa := hHeld.alloc hHeld.size (.cells #[.bool false, .bool false, .bool false, .bool false, .bool false, .bool false, .bool false, .bool false, .bool false] 91)
                replace k1 := Lib.hid (k1.out.alloc (.cells #[.bool false, .bool false, .bool false, .bool false, .bool false, .bool false, .bool false, .bool false, .bool false] 91))
                replace k2 := Lib.hid (k2.out.alloc k2.out.size (.cells #[.bool false, .bool false, .bool false, .bool false, .bool false, .bool false, .bool false, .bool false, .bool false] 91))
                have kb := Lib.hid (Bk.new V0 91 #[.bool false, .bool false, .bool false, .bool false, .bool false, .bool false, .bool false, .bool false, .bool false])
                clear hHeld
                refine hK.out _ _ hSa (fun hHeld => ?_)
                clear hK K
                try simp only [Act.put, List.setIfInBounds_toArray, List.set_cons_zero, List.set_cons_succ, List.getElem_toArray, List.getElem_cons_zero, List.getElem_cons_succ]
                clear hSa
                refine wpAnyH_ready (rs := [20]) (by kernel_rfl) (by simp) (AllReadyH.cons rfl (fun K hK => ?_) AllReadyH.nil)
                rw [if_pos (by rfl)]
                go_wp2_with fail
                refine (x8fright_any h.e.flags _).mono ?_
                rintro e w' ⟨rfl, rfl⟩
                have hSa := hHeld
                clear hHeld
                refine hK.out _ _ hSa (fun hHeld => ?_)
                clear hK K
                try simp only [Act.put, List.setIfInBounds_toArray, List.set_cons_zero, List.set_cons_succ, List.getElem_toArray, List.getElem_cons_zero, List.getElem_cons_succ]
                clear hSa
                refine wpAnyH_ready (rs := [23]) (by kernel_rfl) (by simp) (AllReadyH.cons rfl (fun K hK => ?_) AllReadyH.nil)
                rw [if_pos (by rfl)]
                go_wp2_with fail
                refine (xetime_any h.e.date _).mono ?_
                rintro e w' ⟨rfl, rfl⟩
                have hSa := hHeld
                clear hHeld
                refine hK.out _ _ hSa (fun hHeld => ?_)
                clear hK K
                try simp only [Act.put, List.setIfInBounds_toArray, List.set_cons_zero, List.set_cons_succ, List.getElem_toArray, List.getElem_cons_zero, List.getElem_cons_succ]
                clear hSa
                refine wpAnyH_ready (rs := [26]) (by kernel_rfl) (by simp) (AllReadyH.cons rfl (fun K hK => ?_) AllReadyH.nil)
                rw [if_pos (by rfl)]
                go_wp2_with fail
                refine (xetime_any h.e.n _).mono ?_
                rintro e w' ⟨rfl, rfl⟩
                have hSa := hHeld
                clear hHeld
                refine hK.out _ _ hSa (fun hHeld => ?_)
                clear hK K
                try simp only [Act.put, List.setIfInBounds_toArray, List.set_cons_zero, List.set_cons_succ, List.getElem_toArray, List.getElem_cons_zero, List.getElem_cons_succ]
                clear hSa
                refine wpAnyH_take (i := 31) (v := .agg #[.bool (okQ h.e 98), .bool (okQ h.e 116), .bool (okQ h.e 105), .bool (okQ h.e 115), .bool (okQ h.e 109), .bool (okQ h.e 102), .bool (okQ h.e 100), .bool (okQ h.e 110), .bool (okQ h.e 121)]) rfl (by kernel_rfl) (by kernel_rfl) (by kernel_rfl) (fun _ _ _ h => h) (Or.inl ⟨by rfl, fun w0 hC => by simp [execOp, Act.eval, Act.put, go_sem]; exact ⟨rfl, rfl, rfl, rfl, rfl, rfl, rfl⟩⟩) hHeld ?_
                try simp only [Act.put, List.setIfInBounds_toArray, List.set_cons_zero, List.set_cons_succ, List.getElem_toArray, List.getElem_cons_zero, List.getElem_cons_succ]
                refine wpAnyH_ready (rs := [33]) (by kernel_rfl) (by simp) (AllReadyH.cons rfl (fun K hK => ?_) AllReadyH.nil)
                rw [if_pos (by rfl)]
                refine oper_store_wide 91 _ _ rfl V0.heap.size (goodC h.e) rfl rfl 91 _ kb.out rfl info_b9 (by intro v hv; simp [goodC] at hv; rcases hv with rfl | rfl | rfl | rfl | rfl | rfl | rfl | rfl | rfl <;> rfl) ?_
                intro W9 hW9
                have hl0 : w.heap.size ≠ V0.heap.size := by have := k0.out.lt; omega
                have z1 : Hid (Bk W9 V0.heap.size 91 (goodC h.e)) := Lib.hid (by rw [hW9.out]; exact kb.out.setRow_same _)
                have z2 : Hid (Bk W9 w.heap.size 29 (evC h)) := Lib.hid (by rw [hW9.out]; exact k1.out.setRow_other hl0 _)
                have z3 : Hid (Below w.heap.size w W9) := Lib.hid (by rw [hW9.out]; exact below_setRow k2.out k3.out _)
                have hSa : Below W2.heap.size W2 W9 := by rw [hW9.out]; exact below_setRow hHeld k4.out _
                clear hHeld hW9
                refine hK.out _ _ hSa (fun hHeld => ?_)
                clear hK K
                try simp only [Act.put, List.setIfInBounds_toArray, List.set_cons_zero, List.set_cons_succ, List.getElem_toArray, List.getElem_cons_zero, List.getElem_cons_succ]
                clear hSa
                refine wpAnyH_done (by kernel_rfl) ?_ _
                go_wp2_with fail
                go_meet
                exact ⟨V0.heap.size, rfl, z1.out, z2.out, z3.out⟩
            · rw [if_pos (by rfl)]
              go_wp2_with fail
              have hSa := hHeld.alloc hHeld.size (.cells #[.bool false, .bool false, .bool false, .bool false, .bool false, .bool false, .bool false, .bool false, .bool false] 91)
              replace k1 := Lib.hid (k1.out.alloc (.cells #[.bool false, .bool false, .bool false, .bool false, .bool false, .bool false, .bool false, .bool false, .bool false] 91))
              replace k2 := Lib.hid (k2.out.alloc k2.out.size (.cells #[.bool false, .bool false, .bool false, .bool false, .bool false, .bool false, .bool false, .bool false, .bool false] 91))
              have kb := Lib.hid (Bk.new V0 91 #[.bool false, .bool false, .bool false, .bool false, .bool false, .bool false, .bool false, .bool false, .bool false])
              clear hHeld
              refine hK.out _ _ hSa (fun hHeld => ?_)
              clear hK K
              try simp only [Act.put, List.setIfInBounds_toArray, List.set_cons_zero, List.set_cons_succ, List.getElem_toArray, List.getElem_cons_zero, List.getElem_cons_succ]
              clear hSa
              refine wpAnyH_ready (rs := [9]) (by kernel_rfl) (by simp) (AllReadyH.cons rfl (fun K hK => ?_) AllReadyH.nil)
              rw [if_pos (by rfl)]
              go_wp2_with fail
              refine (xeset_any h.A2 h.n2 h.c2 h.e.set (V0.alloc (.cells #[.bool false, .bool false, .bool false, .bool false, .bool false, .bool false, .bool false, .bool false, .bool false] 91)) (HH.out.later k2.out).2.1 HH.out.2.2.2.2.1).mono ?_
              rintro e w' ⟨rfl, rfl⟩
              have hSa := hHeld
              clear hHeld
              refine hK.out _ _ hSa (fun hHeld => ?_)
              clear hK K
              try simp only [Act.put, List.setIfInBounds_toArray, List.set_cons_zero, List.set_cons_succ, List.getElem_toArray, List.getElem_cons_zero, List.getElem_cons_succ]
              clear hSa
              refine wpAnyH_take (i := 13) (v := .bool true) rfl (by kernel_rfl) (by kernel_rfl) (by kernel_rfl) (fun _ _ _ h => h) (Or.inl ⟨by rfl, fun w0 hC => by simp [execOp, Act.eval, Act.put, go_sem]⟩) hHeld ?_
              try simp only [Act.put, List.setIfInBounds_toArray, List.set_cons_zero, List.set_cons_succ, List.getElem_toArray, List.getElem_cons_zero, List.getElem_cons_succ]
              refine wpAnyH_take (i := 14) (v := .pointer (some ⟨w.heap.size, 6, none⟩)) rfl (by kernel_rfl) (by kernel_rfl) (by kernel_rfl) (fun _ _ _ h => h) (Or.inl ⟨by rfl, fun w0 hC => by simp [execOp, Act.eval, Act.put, go_sem]⟩) hHeld ?_
              try simp only [Act.put, List.setIfInBounds_toArray, List.set_cons_zero, List.set_cons_succ, List.getElem_toArray, List.getElem_cons_zero, List.getElem_cons_succ]
              refine wpAnyH_take (i := 15) (v := .int .i64 h.e.mode) rfl (by kernel_rfl) (by kernel_rfl) (by kernel_rfl) (fun _ _ _ h => h) (Or.inl ⟨by rfl, fun w0 hC => by simp [execOp, Act.eval, Act.put, go_sem, (hC.cell (p := ⟨w.heap.size, 6, none⟩) hlt).trans d6, evC]⟩) hHeld ?_
              try simp only [Act.put, List.setIfInBounds_toArray, List.set_cons_zero, List.set_cons_succ, List.getElem_toArray, List.getElem_cons_zero, List.getElem_cons_succ]
              refine wpAnyH_take (i := 16) (v := .bool (okQ h.e 109)) rfl (by kernel_rfl) (by kernel_rfl) (by kernel_rfl) (fun _ _ _ h => h) (Or.inl ⟨by rfl, fun w0 hC => by simp [execOp, Act.eval, Act.put, go_sem, HM.out]⟩) hHeld ?_
              try simp only [Act.put, List.setIfInBounds_toArray, List.set_cons_zero, List.set_cons_succ, List.getElem_toArray, List.getElem_cons_zero, List.getElem_cons_succ]
              refine wpAnyH_take (i := 17) (v := .bool (okQ h.e 109)) rfl (by kernel_rfl) (by kernel_rfl) (by kernel_rfl) (fun _ _ _ h => h) (Or.inl ⟨by rfl, fun w0 hC => by simp [execOp, Act.eval, Act.put, go_sem]⟩) hHeld ?_
              try simp only [Act.put, List.setIfInBounds_toArray, List.set_cons_zero, List.set_cons_succ, List.getElem_toArray, List.getElem_cons_zero, List.getElem_cons_succ]
              refine wpAnyH_ready (rs := [20]) (by kernel_rfl) (by simp) (AllReadyH.cons rfl (fun K hK => ?_) AllReadyH.nil)
              rw [if_pos (by rfl)]
              go_wp2_with fail
              refine (x8fright_any h.e.flags _).mono ?_
              rintro e w' ⟨rfl, rfl⟩
              have hSa := hHeld
              clear hHeld
              refine hK.out _ _ hSa (fun hHeld => ?_)
              clear hK K
              try simp only [Act.put, List.setIfInBounds_toArray, List.set_cons_zero, List.set_cons_succ, List.getElem_toArray, List.getElem_cons_zero, List.getElem_cons_succ]
              clear hSa
              refine wpAnyH_ready (rs := [23]) (by kernel_rfl) (by simp) (AllReadyH.cons rfl (fun K hK => ?_) AllReadyH.nil)
              rw [if_pos (by rfl)]
              go_wp2_with fail
              refine (xetime_any h.e.date _).mono ?_
              rintro e w' ⟨rfl, rfl⟩
              have hSa := hHeld
              clear hHeld
              refine hK.out _ _ hSa (fun hHeld => ?_)
              clear hK K
              try simp only [Act.put, List.setIfInBounds_toArray, List.set_cons_zero, List.set_cons_succ, List.getElem_toArray, List.getElem_cons_zero, List.getElem_cons_succ]
              clear hSa
              refine wpAnyH_ready (rs := [26]) (by kernel_rfl) (by simp) (AllReadyH.cons rfl (fun K hK => ?_) AllReadyH.nil)
              rw [if_pos (by rfl)]
              go_wp2_with fail
              refine (xetime_any h.e.n _).mono ?_
              rintro e w' ⟨rfl, rfl⟩
              have hSa := hHeld
              clear hHeld
              refine hK.out _ _ hSa (fun hHeld => ?_)
              clear hK K
              try simp only [Act.put, List.setIfInBounds_toArray, List.set_cons_zero, List.set_cons_succ, List.getElem_toArray, List.getElem_cons_zero, List.getElem_cons_succ]
              clear hSa
              refine wpAnyH_take (i := 31) (v := .agg #[.bool (okQ h.e 98), .bool (okQ h.e 116), .bool (okQ h.e 105), .bool (okQ h.e 115), .bool (okQ h.e 109), .bool (okQ h.e 102), .bool (okQ h.e 100), .bool (okQ h.e 110), .bool (okQ h.e 121)]) rfl (by kernel_rfl) (by kernel_rfl) (by kernel_rfl) (fun _ _ _ h => h) (Or.inl ⟨by rfl, fun w0 hC => by simp [execOp, Act.eval, Act.put, go_sem]; exact ⟨rfl, rfl, rfl, rfl, rfl, rfl, rfl⟩⟩) hHeld ?_
              try simp only [Act.put, List.setIfInBounds_toArray, List.set_cons_zero, List.set_cons_succ, List.getElem_toArray, List.getElem_cons_zero, List.getElem_cons_succ]
              refine wpAnyH_ready (rs := [33]) (by kernel_rfl) (by simp) (AllReadyH.cons rfl (fun K hK => ?_) AllReadyH.nil)
              rw [if_pos (by rfl)]
              refine oper_store_wide 91 _ _ rfl V0.heap.size (goodC h.e) rfl rfl 91 _ kb.out rfl info_b9 (by intro v hv; simp [goodC] at hv; rcases hv with rfl | rfl | rfl | rfl | rfl | rfl | rfl | rfl | rfl <;> rfl) ?_
              intro W9 hW9
              have hl0 : w.heap.size ≠ V0.heap.size := by have := k0.out.lt; omega
              have z1 : Hid (Bk W9 V0.heap.size 91 (goodC h.e)) := Lib.hid (by rw [hW9.out]; exact kb.out.setRow_same _)
              have z2 : Hid (Bk W9 w.heap.size 29 (evC h)) := Lib.hid (by rw [hW9.out]; exact k1.out.setRow_other hl0 _)
              have z3 : Hid (Below w.heap.size w W9) := Lib.hid (by rw [hW9.out]; exact below_setRow k2.out k3.out _)
              have hSa : Below W2.heap.size W2 W9 := by rw [hW9.out]; exact below_setRow hHeld k4.out _
              clear hHeld hW9
              refine hK.out _ _ hSa (fun hHeld => ?_)
              clear hK K
              try simp only [Act.put, List.setIfInBounds_toArray, List.set_cons_zero, List.set_cons_succ, List.getElem_toArray, List.getElem_cons_zero, List.getElem_cons_succ]
              clear hSa
              refine wpAnyH_done (by kernel_rfl) ?_ _
              go_wp2_with fail
              go_meet
              exact ⟨V0.heap.size, rfl, z1.out, z2.out, z3.out⟩
          · rw [if_pos (by rfl)]
            go_wp2_with fail
            have hSa := hHeld.alloc hHeld.size (.cells #[.bool false, .bool false, .bool false, .bool false, .bool false, .bool false, .bool false, .bool false, .bool false] 91)
            replace k1 := Lib.hid (k1.out.alloc (.cells #[.bool false, .bool false, .bool false, .bool false, .bool false, .bool false, .bool false, .bool false, .bool false] 91))
            replace k2 := Lib.hid (k2.out.alloc k2.out.size (.cells #[.bool false, .bool false, .bool false, .bool false, .bool false, .bool false, .bool false, .bool false, .bool false] 91))
            have kb := Lib.hid (Bk.new V0 91 #[.bool false, .bool false, .bool false, .bool false, .bool false, .bool false, .bool false, .bool false, .bool false])
            clear hHeld
            refine hK.out _ _ hSa (fun hHeld => ?_)
            clear hK K
            try simp only [Act.put, List.setIfInBounds_toArray, List.set_cons_zero, List.set_cons_succ, List.getElem_toArray, List.getElem_cons_zero, List.getElem_cons_succ]
            clear hSa
            refine wpAnyH_ready (rs := [5]) (by kernel_rfl) (by simp) (AllReadyH.cons rfl (fun K hK => ?_) AllReadyH.nil)
            rw [if_pos (by rfl)]
            go_wp2_with fail
            refine (xaRight_any h.e.to_ HH.out.2.2.2.2.2.2.2 _).mono ?_
            rintro e w' ⟨rfl, rfl⟩
            have hSa := hHeld
            clear hHeld
            refine hK.out _ _ hSa (fun hHeld => ?_)
            clear hK K
            try simp only [Act.put, List.setIfInBounds_toArray, List.set_cons_zero, List.set_cons_succ, List.getElem_toArray, List.getElem_cons_zero, List.getElem_cons_succ]
            clear hSa
            refine wpAnyH_ready (rs := [9]) (by kernel_rfl) (by simp) (AllReadyH.cons rfl (fun K hK => ?_) AllReadyH.nil)
            rw [if_pos (by rfl)]
            go_wp2_with fail
            refine (xeset_any h.A2 h.n2 h.c2 h.e.set (V0.alloc (.cells #[.bool false, .bool false, .bool false, .bool false, .bool false, .bool false, .bool false, .bool false, .bool false] 91)) (HH.out.later k2.out).2.1 HH.out.2.2.2.2.1).mono ?_
            rintro e w' ⟨rfl, rfl⟩
            have hSa := hHeld
            clear hHeld
            refine hK.out _ _ hSa (fun hHeld => ?_)
            clear hK K
            try simp only [Act.put, List.setIfInBounds_toArray, List.set_cons_zero, List.set_cons_succ, List.getElem_toArray, List.getElem_cons_zero, List.getElem_cons_succ]
            clear hSa
            refine wpAnyH_take (i := 13) (v := .bool true) rfl (by kernel_rfl) (by kernel_rfl) (by kernel_rfl) (fun _ _ _ h => h) (Or.inl ⟨by rfl, fun w0 hC => by simp [execOp, Act.eval, Act.put, go_sem]⟩) hHeld ?_
            try simp only [Act.put, List.setIfInBounds_toArray, List.set_cons_zero, List.set_cons_succ, List.getElem_toArray, List.getElem_cons_zero, List.getElem_cons_succ]
            refine wpAnyH_take (i := 14) (v := .pointer (some ⟨w.heap.size, 6, none⟩)) rfl (by kernel_rfl) (by kernel_rfl) (by kernel_rfl) (fun _ _ _ h => h) (Or.inl ⟨by rfl, fun w0 hC => by simp [execOp, Act.eval, Act.put, go_sem]⟩) hHeld ?_
            try simp only [Act.put, List.setIfInBounds_toArray, List.set_cons_zero, List.set_cons_succ, List.getElem_toArray, List.getElem_cons_zero, List.getElem_cons_succ]
            refine wpAnyH_take (i := 15) (v := .int .i64 h.e.mode) rfl (by kernel_rfl) (by kernel_rfl) (by kernel_rfl) (fun _ _ _ h => h) (Or.inl ⟨by rfl, fun w0 hC => by simp [execOp, Act.eval, Act.put, go_sem, (hC.cell (p := ⟨w.heap.size, 6, none⟩) hlt).trans d6, evC]⟩) hHeld ?_
            try simp only [Act.put, List.setIfInBounds_toArray, List.set_cons_zero, List.set_cons_succ, List.getElem_toArray, List.getElem_cons_zero, List.getElem_cons_succ]
            refine wpAnyH_take (i := 16) (v := .bool (okQ h.e 109)) rfl (by kernel_rfl) (by kernel_rfl) (by kernel_rfl) (fun _ _ _ h => h) (Or.inl ⟨by rfl, fun w0 hC => by simp [execOp, Act.eval, Act.put, go_sem, HM.out]⟩) hHeld ?_
            try simp only [Act.put, List.setIfInBounds_toArray, List.set_cons_zero, List.set_cons_succ, List.getElem_toArray, List.getElem_cons_zero, List.getElem_cons_succ]
            refine wpAnyH_take (i := 17) (v := .bool (okQ h.e 109)) rfl (by kernel_rfl) (by kernel_rfl) (by kernel_rfl) (fun _ _ _ h => h) (Or.inl ⟨by rfl, fun w0 hC => by simp [execOp, Act.eval, Act.put, go_sem]⟩) hHeld ?_
            try simp only [Act.put, List.setIfInBounds_toArray, List.set_cons_zero, List.set_cons_succ, List.getElem_toArray, List.getElem_cons_zero, List.getElem_cons_succ]
            refine wpAnyH_ready (rs := [20]) (by kernel_rfl) (by simp) (AllReadyH.cons rfl (fun K hK => ?_) AllReadyH.nil)
            rw [if_pos (by rfl)]
            go_wp2_with fail
            refine (x8fright_any h.e.flags _).mono ?_
            rintro e w' ⟨rfl, rfl⟩
            have hSa := hHeld
            clear hHeld
            refine hK.out _ _ hSa (fun hHeld => ?_)
            clear hK K
            try simp only [Act.put, List.setIfInBounds_toArray, List.set_cons_zero, List.set_cons_succ, List.getElem_toArray, List.getElem_cons_zero, List.getElem_cons_succ]
            clear hSa
            refine wpAnyH_ready (rs := [23]) (by kernel_rfl) (by simp) (AllReadyH.cons rfl (fun K hK => ?_) AllReadyH.nil)
            rw [if_pos (by rfl)]
            go_wp2_with fail
            refine (xetime_any h.e.date _).mono ?_
            rintro e w' ⟨rfl, rfl⟩
            have hSa := hHeld
            clear hHeld
            refine hK.out _ _ hSa (fun hHeld => ?_)
            clear hK K
            try simp only [Act.put, List.setIfInBounds_toArray, List.set_cons_zero, List.set_cons_succ, List.getElem_toArray, List.getElem_cons_zero, List.getElem_cons_succ]
            clear hSa
            refine wpAnyH_ready (rs := [26]) (by kernel_rfl) (by simp) (AllReadyH.cons rfl (fun K hK => ?_) AllReadyH.nil)
            rw [if_pos (by rfl)]
            go_wp2_with fail
            refine (xetime_any h.e.n _).mono ?_
            rintro e w' ⟨rfl, rfl⟩
            have hSa := hHeld
            clear hHeld
            refine hK.out _ _ hSa (fun hHeld => ?_)
            clear hK K
            try simp only [Act.put, List.setIfInBounds_toArray, List.set_cons_zero, List.set_cons_succ, List.getElem_toArray, List.getElem_cons_zero, List.getElem_cons_succ]
            clear hSa
            refine wpAnyH_take (i := 31) (v := .agg #[.bool (okQ h.e 98), .bool (okQ h.e 116), .bool (okQ h.e 105), .bool (okQ h.e 115), .bool (okQ h.e 109), .bool (okQ h.e 102), .bool (okQ h.e 100), .bool (okQ h.e 110), .bool (okQ h.e 121)]) rfl (by kernel_rfl) (by kernel_rfl) (by kernel_rfl) (fun _ _ _ h => h) (Or.inl ⟨by rfl, fun w0 hC => by simp [execOp, Act.eval, Act.put, go_sem]; exact ⟨rfl, rfl, rfl, rfl, rfl, rfl, rfl⟩⟩) hHeld ?_
            try simp only [Act.put, List.setIfInBounds_toArray, List.set_cons_zero, List.set_cons_succ, List.getElem_toArray, List.getElem_cons_zero, List.getElem_cons_succ]
            refine wpAnyH_ready (rs := [33]) (by kernel_rfl) (by simp) (AllReadyH.cons rfl (fun K hK => ?_) AllReadyH.nil)
            rw [if_pos (by rfl)]
            refine oper_store_wide 91 _ _ rfl V0.heap.size (goodC h.e) rfl rfl 91 _ kb.out rfl info_b9 (by intro v hv; simp [goodC] at hv; rcases hv with rfl | rfl | rfl | rfl | rfl | rfl | rfl | rfl | rfl <;> rfl) ?_
            intro W9 hW9
            have hl0 : w.heap.size ≠ V0.heap.size := by have := k0.out.lt; omega
            have z1 : Hid (Bk W9 V0.heap.size 91 (goodC h.e)) := Lib.hid (by rw [hW9.out]; exact kb.out.setRow_same _)
            have z2 : Hid (Bk W9 w.heap.size 29 (evC h)) := Lib.hid (by rw [hW9.out]; exact k1.out.setRow_other hl0 _)
            have z3 : Hid (Below w.heap.size w W9) := Lib.hid (by rw [hW9.out]; exact below_setRow k2.out k3.out _)
            have hSa : Below W2.heap.size W2 W9 := by rw [hW9.out]; exact below_setRow hHeld k4.out _
            clear hHeld hW9
            refine hK.out _ _ hSa (fun hHeld => ?_)
            clear hK K
            try simp only [Act.put, List.setIfInBounds_toArray, List.set_cons_zero, List.set_cons_succ, List.getElem_toArray, List.getElem_cons_zero, List.getElem_cons_succ]
            clear hSa
            refine wpAnyH_done (by kernel_rfl) ?_ _
            go_wp2_with fail
            go_meet
            exact ⟨V0.heap.size, rfl, z1.out, z2.out, z3.out⟩
        · rw [if_pos (by rfl)]
          go_wp2_with fail
          have hSa := hHeld.alloc hHeld.size (.cells #[.bool false, .bool false, .bool false, .bool false, .bool false, .bool false, .bool false, .bool false, .bool false] 91)
          replace k1 := Lib.hid (k1.out.alloc (.cells #[.bool false, .bool false, .bool false, .bool false, .bool false, .bool false, .bool false, .bool false, .bool false] 91))
          replace k2 := Lib.hid (k2.out.alloc k2.out.size (.cells #[.bool false, .bool false, .bool false, .bool false, .bool false, .bool false, .bool false, .bool false, .bool false] 91))
          have kb := Lib.hid (Bk.new V0 91 #[.bool false, .bool false, .bool false, .bool false, .bool false, .bool false, .bool false, .bool false, .bool false])
          clear hHeld
          refine hK.out _ _ hSa (fun hHeld => ?_)
          clear hK K
          try simp only [Act.put, List.setIfInBounds_toArray, List.set_cons_zero, List.set_cons_succ, List.getElem_toArray, List.getElem_cons_zero, List.getElem_cons_succ]
          clear hSa
          refine wpAnyH_ready (rs := [2]) (by kernel_rfl) (by simp) (AllReadyH.cons rfl (fun K hK => ?_) AllReadyH.nil)
          rw [if_pos (by rfl)]
          go_wp2_with fail
          refine (xaRight_any h.e.box HH.out.2.2.2.2.2.2.1 _).mono ?_
          rintro e w' ⟨rfl, rfl⟩
          have hSa := hHeld
          clear hHeld
          refine hK.out _ _ hSa (fun hHeld => ?_)
          clear hK K
          try simp only [Act.put, List.setIfInBounds_toArray, List.set_cons_zero, List.set_cons_succ, List.getElem_toArray, List.getElem_cons_zero, List.getElem_cons_succ]
          clear hSa
          refine wpAnyH_ready (rs := [5]) (by kernel_rfl) (by simp) (AllReadyH.cons rfl (fun K hK => ?_) AllReadyH.nil)
          rw [if_pos (by rfl)]
          go_wp2_with fail
          refine (xaRight_any h.e.to_ HH.out.2.2.2.2.2.2.2 _).mono ?_
          rintro e w' ⟨rfl, rfl⟩
          have hSa := hHeld
          clear hHeld
          refine hK.out _ _ hSa (fun hHeld => ?_)
          clear hK K
          try simp only [Act.put, List.setIfInBounds_toArray, List.set_cons_zero, List.set_cons_succ, List.getElem_toArray, List.getElem_cons_zero, List.getElem_cons_succ]
          clear hSa
          refine wpAnyH_ready (rs := [9]) (by kernel_rfl) (by simp) (AllReadyH.cons rfl (fun K hK => ?_) AllReadyH.nil)
          rw [if_pos (by rfl)]
          go_wp2_with fail
          refine (xeset_any h.A2 h.n2 h.c2 h.e.set (V0.alloc (.cells #[.bool false, .bool false, .bool false, .bool false, .bool false, .bool false, .bool false, .bool false, .bool false] 91)) (HH.out.later k2.out).2.1 HH.out.2.2.2.2.1).mono ?_
          rintro e w' ⟨rfl, rfl⟩
          have hSa := hHeld
          clear hHeld
          refine hK.out _ _ hSa (fun hHeld => ?_)
          clear hK K
          try simp only [Act.put, List.setIfInBounds_toArray, List.set_cons_zero, List.set_cons_succ, List.getElem_toArray, List.getElem_cons_zero, List.getElem_cons_succ]
          clear hSa
          refine wpAnyH_take (i := 13) (v := .bool true) rfl (by kernel_rfl) (by kernel_rfl) (by kernel_rfl) (fun _ _ _ h => h) (Or.inl ⟨by rfl, fun w0 hC => by simp [execOp, Act.eval, Act.put, go_sem]⟩) hHeld ?_
          try simp only [Act.put, List.setIfInBounds_toArray, List.set_cons_zero, List.set_cons_succ, List.getElem_toArray, List.getElem_cons_zero, List.getElem_cons_succ]
          refine wpAnyH_take (i := 14) (v := .pointer (some ⟨w.heap.size, 6, none⟩)) rfl (by kernel_rfl) (by kernel_rfl) (by kernel_rfl) (fun _ _ _ h => h) (Or.inl ⟨by rfl, fun w0 hC => by simp [execOp, Act.eval, Act.put, go_sem]⟩) hHeld ?_
          try simp only [Act.put, List.setIfInBounds_toArray, List.set_cons_zero, List.set_cons_succ, List.getElem_toArray, List.getElem_cons_zero, List.getElem_cons_succ]
          refine wpAnyH_take (i := 15) (v := .int .i64 h.e.mode) rfl (by kernel_rfl) (by kernel_rfl) (by kernel_rfl) (fun _ _ _ h => h) (Or.inl ⟨by rfl, fun w0 hC => by simp [execOp, Act.eval, Act.put, go_sem, (hC.cell (p := ⟨w.heap.size, 6, none⟩) hlt).trans d6, evC]⟩) hHeld ?_
          try simp only [Act.put, List.setIfInBounds_toArray, List.set_cons_zero, List.set_cons_succ, List.getElem_toArray, List.getElem_cons_zero, List.getElem_cons_succ]
          refine wpAnyH_take (i := 16) (v := .bool (okQ h.e 109)) rfl (by kernel_rfl) (by kernel_rfl) (by kernel_rfl) (fun _ _ _ h => h) (Or.inl ⟨by rfl, fun w0 hC => by simp [execOp, Act.eval, Act.put, go_sem, HM.out]⟩) hHeld ?_
          try simp only [Act.put, List.setIfInBounds_toArray, List.set_cons_zero, List.set_cons_succ, List.getElem_toArray, List.getElem_cons_zero, List.getElem_cons_succ]
          refine wpAnyH_take (i := 17) (v := .bool (okQ h.e 109)) rfl (by kernel_rfl) (by kernel_rfl) (by kernel_rfl) (fun _ _ _ h => h) (Or.inl ⟨by rfl, fun w0 hC => by simp [execOp, Act.eval, Act.put, go_sem]⟩) hHeld ?_
          try simp only [Act.put, List.setIfInBounds_toArray, List.set_cons_zero, List.set_cons_succ, List.getElem_toArray, List.getElem_cons_zero, List.getElem_cons_succ]
          refine wpAnyH_ready (rs := [20]) (by kernel_rfl) (by simp) (AllReadyH.cons rfl (fun K hK => ?_) AllReadyH.nil)
          rw [if_pos (by rfl)]
          go_wp2_with fail
          refine (x8fright_any h.e.flags _).mono ?_
          rintro e w' ⟨rfl, rfl⟩
          have hSa := hHeld
          clear hHeld
          refine hK.out _ _ hSa (fun hHeld => ?_)
          clear hK K
          try simp only [Act.put, List.setIfInBounds_toArray, List.set_cons_zero, List.set_cons_succ, List.getElem_toArray, List.getElem_cons_zero, List.getElem_cons_succ]
          clear hSa
          refine wpAnyH_ready (rs := [23]) (by kernel_rfl) (by simp) (AllReadyH.cons rfl (fun K hK => ?_) AllReadyH.nil)
          rw [if_pos (by rfl)]
          go_wp2_with fail
          refine (xetime_any h.e.date _).mono ?_
          rintro e w' ⟨rfl, rfl⟩
          have hSa := hHeld
          clear hHeld
          refine hK.out _ _ hSa (fun hHeld => ?_)
          clear hK K
          try simp only [Act.put, List.setIfInBounds_toArray, List.set_cons_zero, List.set_cons_succ, List.getElem_toArray, List.getElem_cons_zero, List.getElem_cons_succ]
          clear hSa
          refine wpAnyH_ready (rs := [26]) (by kernel_rfl) (by simp) (AllReadyH.cons rfl (fun K hK => ?_) AllReadyH.nil)
          rw [if_pos (by rfl)]
          go_wp2_with fail
          refine (xetime_any h.e.n _).mono ?_
          rintro e w' ⟨rfl, rfl⟩
          have hSa := hHeld
          clear hHeld
          refine hK.out _ _ hSa (fun hHeld => ?_)
          clear hK K
          try simp only [Act.put, List.setIfInBounds_toArray, List.set_cons_zero, List.set_cons_succ, List.getElem_toArray, List.getElem_cons_zero, List.getElem_cons_succ]
          clear hSa
          refine wpAnyH_take (i := 31) (v := .agg #[.bool (okQ h.e 98), .bool (okQ h.e 116), .bool (okQ h.e 105), .bool (okQ h.e 115), .bool (okQ h.e 109), .bool (okQ h.e 102), .bool (okQ h.e 100), .bool (okQ h.e 110), .bool (okQ h.e 121)]) rfl (by kernel_rfl) (by kernel_rfl) (by kernel_rfl) (fun _ _ _ h => h) (Or.inl ⟨by rfl, fun w0 hC => by simp [execOp, Act.eval, Act.put, go_sem]; exact ⟨rfl, rfl, rfl, rfl, rfl, rfl, rfl⟩⟩) hHeld ?_
          try simp only [Act.put, List.setIfInBounds_toArray, List.set_cons_zero, List.set_cons_succ, List.getElem_toArray, List.getElem_cons_zero, List.getElem_cons_succ]
          refine wpAnyH_ready (rs := [33]) (by kernel_rfl) (by simp) (AllReadyH.cons rfl (fun K hK => ?_) AllReadyH.nil)
          rw [if_pos (by rfl)]
          refine oper_store_wide 91 _ _ rfl V0.heap.size (goodC h.e) rfl rfl 91 _ kb.out rfl info_b9 (by intro v hv; simp [goodC] at hv; rcases hv with rfl | rfl | rfl | rfl | rfl | rfl | rfl | rfl | rfl <;> rfl) ?_
          intro W9 hW9
          have hl0 : w.heap.size ≠ V0.heap.size := by have := k0.out.lt; omega
          have z1 : Hid (Bk W9 V0.heap.size 91 (goodC h.e)) := Lib.hid (by rw [hW9.out]; exact kb.out.setRow_same _)
          have z2 : Hid (Bk W9 w.heap.size 29 (evC h)) := Lib.hid (by rw [hW9.out]; exact k1.out.setRow_other hl0 _)
          have z3 : Hid (Below w.heap.size w W9) := Lib.hid (by rw [hW9.out]; exact below_setRow k2.out k3.out _)
          have hSa : Below W2.heap.size W2 W9 := by rw [hW9.out]; exact below_setRow hHeld k4.out _
          clear hHeld hW9
          refine hK.out _ _ hSa (fun hHeld => ?_)
          clear hK K
          try simp only [Act.put, List.setIfInBounds_toArray, List.set_cons_zero, List.set_cons_succ, List.getElem_toArray, List.getElem_cons_zero, List.getElem_cons_succ]
          clear hSa
          refine wpAnyH_done (by kernel_rfl) ?_ _
          go_wp2_with fail
          go_meet
          exact ⟨V0.heap.size, rfl, z1.out, z2.out, z3.out⟩
      · have HM : Hid (false = okQ h.e 109) := Lib.hid (mode_lo hmd).symm
        go_wp2_with fail
        refine wp_region_held_drew (S := fun W' => Below W2.heap.size W2 W') hmx (Below.refl W2.heap.size W2).drew (fun hHeld => ?_)
        have k1 := Lib.hid (R1.out.drewNE 1)
        have k2 := Lib.hid (below_drewN R2.out 1)
        have hlt := R1.out.lt
        have d0 : W2.cell? ⟨w.heap.size, 0, none⟩ = (evC h)[0]? := R1.out.cell 0
        have d1 : W2.cell? ⟨w.heap.size, 1, none⟩ = (evC h)[1]? := R1.out.cell 1
        have d2 : W2.cell? ⟨w.heap.size, 2, none⟩ = (evC h)[2]? := R1.out.cell 2
        have d3 : W2.cell? ⟨w.heap.size, 3, none⟩ = (evC h)[3]? := R1.out.cell 3
        have d4 : W2.cell? ⟨w.heap.size, 4, none⟩ = (evC h)[4]? := R1.out.cell 4
        have d5 : W2.cell? ⟨w.heap.size, 5, none⟩ = (evC h)[5]? := R1.out.cell 5
        have d6 : W2.cell? ⟨w.heap.size, 6, none⟩ = (evC h)[6]? := R1.out.cell 6
        have d7 : W2.cell? ⟨w.heap.size, 7, none⟩ = (evC h)[7]? := R1.out.cell 7
        have d8 : W2.cell? ⟨w.heap.size, 8, none⟩ = (evC h)[8]? := R1.out.cell 8
        have d9 : W2.cell? ⟨w.heap.size, 9, none⟩ = (evC h)[9]? := R1.out.cell 9
        have d10 : W2.cell? ⟨w.heap.size, 10, none⟩ = (evC h)[10]? := R1.out.cell 10
        obtain ⟨V0, hV0⟩ : ∃ V, V = W2.drew := ⟨_, rfl⟩
        rw [← hV0] at hHeld ⊢
        replace k1 : Hid (Bk V0 w.heap.size 29 (evC h)) := Lib.hid (by rw [hV0]; exact R1.out.drew)
        replace k2 : Hid (Below w.heap.size w V0) := Lib.hid (by rw [hV0]; exact R2.out.drew)
        have k0 := k1
        have k3 : Hid (w.heap.size ≤ V0.heap.size) := Lib.hid k2.out.size
        have k4 : Hid (W2.heap.size ≤ V0.heap.size) := Lib.hid hHeld.size
        clear hV0
        simp only [List.size_toArray, List.length_cons, List.length_nil, Nat.reduceAdd]
        refine wpAnyH_take (i := 0) (v := .pointer (some ⟨w.heap.size, 2, none⟩)) rfl (by kernel_rfl) (by kernel_rfl) (by kernel_rfl) (fun _ _ _ h => h) (Or.inl ⟨by rfl, fun w0 hC => by simp [execOp, Act.eval, Act.put, go_sem]⟩) hHeld ?_
        try simp only [Act.put, List.setIfInBounds_toArray, List.set_cons_zero, List.set_cons_succ, List.getElem_toArray, List.getElem_cons_zero, List.getElem_cons_succ]
        refine wpAnyH_take (i := 1) (v := .string h.e.box) rfl (by kernel_rfl) (by kernel_rfl) (by kernel_rfl) (fun _ _ _ h => h) (Or.inl ⟨by rfl, fun w0 hC => by simp [execOp, Act.eval, Act.put, go_sem, (hC.cell (p := ⟨w.heap.size, 2, none⟩) hlt).trans d2, evC]⟩) hHeld ?_
        try simp only [Act.put, List.setIfInBounds_toArray, List.set_cons_zero, List.set_cons_succ, List.getElem_toArray, List.getElem_cons_zero, List.getElem_cons_succ]
        refine wpAnyH_take (i := 3) (v := .pointer (some ⟨w.heap.size, 3, none⟩)) rfl (by kernel_rfl) (by kernel_rfl) (by kernel_rfl) (fun _ _ _ h => h) (Or.inl ⟨by rfl, fun w0 hC => by simp [execOp, Act.eval, Act.put, go_sem]⟩) hHeld ?_
        try simp only [Act.put, List.setIfInBounds_toArray, List.set_cons_zero, List.set_cons_succ, List.getElem_toArray, List.getElem_cons_zero, List.getElem_cons_succ]
        refine wpAnyH_take (i := 4) (v := .string h.e.to_) rfl (by kernel_rfl) (by kernel_rfl) (by kernel_rfl) (fun _ _ _ h => h) (Or.inl ⟨by rfl, fun w0 hC => by simp [execOp, Act.eval, Act.put, go_sem, (hC.cell (p := ⟨w.heap.size, 3, none⟩) hlt).trans d3, evC]⟩) hHeld ?_
        try simp only [Act.put, List.setIfInBounds_toArray, List.set_cons_zero, List.set_cons_succ, List.getElem_toArray, List.getElem_cons_zero, List.getElem_cons_succ]
        refine wpAnyH_take (i := 6) (v := .bool (idsB h.e.ids)) rfl (by kernel_rfl) (by kernel_rfl) (by kernel_rfl) (fun _ _ _ h => h) (Or.inl ⟨by rfl, fun w0 hC => by simp [execOp, Act.eval, Act.put, go_sem]⟩) hHeld ?_
        try simp only [Act.put, List.setIfInBounds_toArray, List.set_cons_zero, List.set_cons_succ, List.getElem_toArray, List.getElem_cons_zero, List.getElem_cons_succ]
        refine wpAnyH_take (i := 7) (v := .pointer (some ⟨w.heap.size, 5, none⟩)) rfl (by kernel_rfl) (by kernel_rfl) (by kernel_rfl) (fun _ _ _ h => h) (Or.inl ⟨by rfl, fun w0 hC => by simp [execOp, Act.eval, Act.put, go_sem]⟩) hHeld ?_
        try simp only [Act.put, List.setIfInBounds_toArray, List.set_cons_zero, List.set_cons_succ, List.getElem_toArray, List.getElem_cons_zero, List.getElem_cons_succ]
        refine wpAnyH_take (i := 8) (v := .slice h.A2 h.n2 h.c2) rfl (by kernel_rfl) (by kernel_rfl) (by kernel_rfl) (fun _ _ _ h => h) (Or.inl ⟨by rfl, fun w0 hC => by simp [execOp, Act.eval, Act.put, go_sem, (hC.cell (p := ⟨w.heap.size, 5, none⟩) hlt).trans d5, evC]⟩) hHeld ?_
        try simp only [Act.put, List.setIfInBounds_toArray, List.set_cons_zero, List.set_cons_succ, List.getElem_toArray, List.getElem_cons_zero, List.getElem_cons_succ]
        refine wpAnyH_take (i := 10) (v := .pointer (some ⟨w.heap.size, 6, none⟩)) rfl (by kernel_rfl) (by kernel_rfl) (by kernel_rfl) (fun _ _ _ h => h) (Or.inl ⟨by rfl, fun w0 hC => by simp [execOp, Act.eval, Act.put, go_sem]⟩) hHeld ?_
        try simp only [Act.put, List.setIfInBounds_toArray, List.set_cons_zero, List.set_cons_succ, List.getElem_toArray, List.getElem_cons_zero, List.getElem_cons_succ]
        refine wpAnyH_take (i := 11) (v := .int .i64 h.e.mode) rfl (by kernel_rfl) (by kernel_rfl) (by kernel_rfl) (fun _ _ _ h => h) (Or.inl ⟨by rfl, fun w0 hC => by simp [execOp, Act.eval, Act.put, go_sem, (hC.cell (p := ⟨w.heap.size, 6, none⟩) hlt).trans d6, evC]⟩) hHeld ?_
        try simp only [Act.put, List.setIfInBounds_toArray, List.set_cons_zero, List.set_cons_succ, List.getElem_toArray, List.getElem_cons_zero, List.getElem_cons_succ]
        refine wpAnyH_take (i := 12) (v := .bool false) rfl (by kernel_rfl) (by kernel_rfl) (by kernel_rfl) (fun _ _ _ h => h) (Or.inl ⟨by rfl, fun w0 hC => by simp [execOp, Act.eval, Act.put, go_sem, hmd]⟩) hHeld ?_
        try simp only [Act.put, List.setIfInBounds_toArray, List.set_cons_zero, List.set_cons_succ, List.getElem_toArray, List.getElem_cons_zero, List.getElem_cons_succ]
        refine wpAnyH_take (i := 18) (v := .pointer (some ⟨w.heap.size, 7, none⟩)) rfl (by kernel_rfl) (by kernel_rfl) (by kernel_rfl) (fun _ _ _ h => h) (Or.inl ⟨by rfl, fun w0 hC => by simp [execOp, Act.eval, Act.put, go_sem]⟩) hHeld ?_
        try simp only [Act.put, List.setIfInBounds_toArray, List.set_cons_zero, List.set_cons_succ, List.getElem_toArray, List.getElem_cons_zero, List.getElem_cons_succ]
        refine wpAnyH_take (i := 19) (v := .int .i64 h.e.flags) rfl (by kernel_rfl) (by kernel_rfl) (by kernel_rfl) (fun _ _ _ h => h) (Or.inl ⟨by rfl, fun w0 hC => by simp [execOp, Act.eval, Act.put, go_sem, (hC.cell (p := ⟨w.heap.size, 7, none⟩) hlt).trans d7, evC]⟩) hHeld ?_
        try simp only [Act.put, List.setIfInBounds_toArray, List.set_cons_zero, List.set_cons_succ, List.getElem_toArray, List.getElem_cons_zero, List.getElem_cons_succ]
        refine wpAnyH_take (i := 21) (v := .pointer (some ⟨w.heap.size, 8, none⟩)) rfl (by kernel_rfl) (by kernel_rfl) (by kernel_rfl) (fun _ _ _ h => h) (Or.inl ⟨by rfl, fun w0 hC => by simp [execOp, Act.eval, Act.put, go_sem]⟩) hHeld ?_
        try simp only [Act.put, List.setIfInBounds_toArray, List.set_cons_zero, List.set_cons_succ, List.getElem_toArray, List.getElem_cons_zero, List.getElem_cons_succ]
        refine wpAnyH_take (i := 22) (v := .int .i64 h.e.date) rfl (by kernel_rfl) (by kernel_rfl) (by kernel_rfl) (fun _ _ _ h => h) (Or.inl ⟨by rfl, fun w0 hC => by simp [execOp, Act.eval, Act.put, go_sem, (hC.cell (p := ⟨w.heap.size, 8, none⟩) hlt).trans d8, evC]⟩) hHeld ?_
        try simp only [Act.put, List.setIfInBounds_toArray, List.set_cons_zero, List.set_cons_succ, List.getElem_toArray, List.getElem_cons_zero, List.getElem_cons_succ]
        refine wpAnyH_take (i := 24) (v := .pointer (some ⟨w.heap.size, 9, none⟩)) rfl (by kernel_rfl) (by kernel_rfl) (by kernel_rfl) (fun _ _ _ h => h) (Or.inl ⟨by rfl, fun w0 hC => by simp [execOp, Act.eval, Act.put, go_sem]⟩) hHeld ?_
        try simp only [Act.put, List.setIfInBounds_toArray, List.set_cons_zero, List.set_cons_succ, List.getElem_toArray, List.getElem_cons_zero, List.getElem_cons_succ]
        refine wpAnyH_take (i := 25) (v := .int .i64 h.e.n) rfl (by kernel_rfl) (by kernel_rfl) (by kernel_rfl) (fun _ _ _ h => h) (Or.inl ⟨by rfl, fun w0 hC => by simp [execOp, Act.eval, Act.put, go_sem, (hC.cell (p := ⟨w.heap.size, 9, none⟩) hlt).trans d9, evC]⟩) hHeld ?_
        try simp only [Act.put, List.setIfInBounds_toArray, List.set_cons_zero, List.set_cons_succ, List.getElem_toArray, List.getElem_cons_zero, List.getElem_cons_succ]
        refine wpAnyH_take (i := 27) (v := .pointer (some ⟨w.heap.size, 10, none⟩)) rfl (by kernel_rfl) (by kernel_rfl) (by kernel_rfl) (fun _ _ _ h => h) (Or.inl ⟨by rfl, fun w0 hC => by simp [execOp, Act.eval, Act.put, go_sem]⟩) hHeld ?_
        try simp only [Act.put, List.setIfInBounds_toArray, List.set_cons_zero, List.set_cons_succ, List.getElem_toArray, List.getElem_cons_zero, List.getElem_cons_succ]
        refine wpAnyH_take (i := 28) (v := .slice h.A3 h.n3 h.c3) rfl (by kernel_rfl) (by kernel_rfl) (by kernel_rfl) (fun _ _ _ h => h) (Or.inl ⟨by rfl, fun w0 hC => by simp [execOp, Act.eval, Act.put, go_sem, (hC.cell (p := ⟨w.heap.size, 10, none⟩) hlt).trans d10, evC]⟩) hHeld ?_
        try simp only [Act.put, List.setIfInBounds_toArray, List.set_cons_zero, List.set_cons_succ, List.getElem_toArray, List.getElem_cons_zero, List.getElem_cons_succ]
        refine wpAnyH_take (i := 29) (v := .int .i64 (h.n3 : Int)) rfl (by kernel_rfl) (by kernel_rfl) (by kernel_rfl) (fun _ _ _ h => h) (Or.inl ⟨by rfl, fun w0 hC => by simp [execOp, Act.eval, Act.put, go_sem]⟩) hHeld ?_
        try simp only [Act.put, List.setIfInBounds_toArray, List.set_cons_zero, List.set_cons_succ, List.getElem_toArray, List.getElem_cons_zero, List.getElem_cons_succ]
        refine wpAnyH_take (i := 30) (v := .bool (okQ h.e 121)) rfl (by kernel_rfl) (by kernel_rfl) (by kernel_rfl) (fun _ _ _ h => h) (Or.inl ⟨by rfl, fun w0 hC => by simp [execOp, Act.eval, Act.put, go_sem, HB.out]⟩) hHeld ?_
        try simp only [Act.put, List.setIfInBounds_toArray, List.set_cons_zero, List.set_cons_succ, List.getElem_toArray, List.getElem_cons_zero, List.getElem_cons_succ]
        refine wpAnyH_ready (rs := [2, 32]) (by kernel_rfl) (by simp) (AllReadyH.cons rfl (fun K hK => ?_) (AllReadyH.cons rfl (fun K hK => ?_) AllReadyH.nil))
        · rw [if_pos (by rfl)]
          go_wp2_with fail
          refine (xaRight_any h.e.box HH.out.2.2.2.2.2.2.1 _).mono ?_
          rintro e w' ⟨rfl, rfl⟩
          have hSa := hHeld
          clear hHeld
          refine hK.out _ _ hSa (fun hHeld => ?_)
          clear hK K
          try simp only [Act.put, List.setIfInBounds_toArray, List.set_cons_zero, List.set_cons_succ, List.getElem_toArray, List.getElem_cons_zero, List.getElem_cons_succ]
          clear hSa
          refine wpAnyH_ready (rs := [5, 32]) (by kernel_rfl) (by simp) (AllReadyH.cons rfl (fun K hK => ?_) (AllReadyH.cons rfl (fun K hK => ?_) AllReadyH.nil))
          · rw [if_pos (by rfl)]
            go_wp2_with fail
            refine (xaRight_any h.e.to_ HH.out.2.2.2.2.2.2.2 _).mono ?_
            rintro e w' ⟨rfl, rfl⟩
            have hSa := hHeld
            clear hHeld
            refine hK.out _ _ hSa (fun hHeld => ?_)
            clear hK K
            try simp only [Act.put, List.setIfInBounds_toArray, List.set_cons_zero, List.set_cons_succ, List.getElem_toArray, List.getElem_cons_zero, List.getElem_cons_succ]
            clear hSa
            refine wpAnyH_ready (rs := [9, 32]) (by kernel_rfl) (by simp) (AllReadyH.cons rfl (fun K hK => ?_) (AllReadyH.cons rfl (fun K hK => ?_) AllReadyH.nil))
            · rw [if_pos (by rfl)]
              go_wp2_with fail
              refine (xeset_any h.A2 h.n2 h.c2 h.e.set V0 (HH.out.later k2.out).2.1 HH.out.2.2.2.2.1).mono ?_
              rintro e w' ⟨rfl, rfl⟩
              have hSa := hHeld
              clear hHeld
              refine hK.out _ _ hSa (fun hHeld => ?_)
              clear hK K
              try simp only [Act.put, List.setIfInBounds_toArray, List.set_cons_zero, List.set_cons_succ, List.getElem_toArray, List.getElem_cons_zero, List.getElem_cons_succ]
              clear hSa
              refine wpAnyH_take (i := 13) (v := .bool false) rfl (by kernel_rfl) (by kernel_rfl) (by kernel_rfl) (fun _ _ _ h => h) (Or.inl ⟨by rfl, fun w0 hC => by simp [execOp, Act.eval, Act.put, go_sem]⟩) hHeld ?_
              try simp only [Act.put, List.setIfInBounds_toArray, List.set_cons_zero, List.set_cons_succ, List.getElem_toArray, List.getElem_cons_zero, List.getElem_cons_succ]
              refine wpAnyH_take (i := 14) (v := undef) rfl (by kernel_rfl) (by kernel_rfl) (by kernel_rfl) (fun _ _ _ h => h) (Or.inr ⟨by rfl, rfl⟩) hHeld ?_
              try simp only [Act.put, List.setIfInBounds_toArray, List.set_cons_zero, List.set_cons_succ, List.getElem_toArray, List.getElem_cons_zero, List.getElem_cons_succ]
              refine wpAnyH_take (i := 15) (v := undef) rfl (by kernel_rfl) (by kernel_rfl) (by kernel_rfl) (fun _ _ _ h => h) (Or.inr ⟨by rfl, rfl⟩) hHeld ?_
              try simp only [Act.put, List.setIfInBounds_toArray, List.set_cons_zero, List.set_cons_succ, List.getElem_toArray, List.getElem_cons_zero, List.getElem_cons_succ]
              refine wpAnyH_take (i := 16) (v := undef) rfl (by kernel_rfl) (by kernel_rfl) (by kernel_rfl) (fun _ _ _ h => h) (Or.inr ⟨by rfl, rfl⟩) hHeld ?_
              try simp only [Act.put, List.setIfInBounds_toArray, List.set_cons_zero, List.set_cons_succ, List.getElem_toArray, List.getElem_cons_zero, List.getElem_cons_succ]
              refine wpAnyH_take (i := 17) (v := .bool (okQ h.e 109)) rfl (by kernel_rfl) (by kernel_rfl) (by kernel_rfl) (fun _ _ _ h => h) (Or.inl ⟨by rfl, fun w0 hC => by rw [← HM.out]; simp [execOp, Act.eval, Act.put, go_sem]⟩) hHeld ?_
              try simp only [Act.put, List.setIfInBounds_toArray, List.set_cons_zero, List.set_cons_succ, List.getElem_toArray, List.getElem_cons_zero, List.getElem_cons_succ]
              refine wpAnyH_ready (rs := [20, 32]) (by kernel_rfl) (by simp) (AllReadyH.cons rfl (fun K hK => ?_) (AllReadyH.cons rfl (fun K hK => ?_) AllReadyH.nil))
              · rw [if_pos (by rfl)]
                go_wp2_with fail
                refine (x8fright_any h.e.flags _).mono ?_
                rintro e w' ⟨rfl, rfl⟩
                have hSa := hHeld
                clear hHeld
                refine hK.out _ _ hSa (fun hHeld => ?_)
                clear hK K
                try simp only [Act.put, List.setIfInBounds_toArray, List.set_cons_zero, List.set_cons_succ, List.getElem_toArray, List.getElem_cons_zero, List.getElem_cons_succ]
                clear hSa
                refine wpAnyH_ready (rs := [23, 32]) (by kernel_rfl) (by simp) (AllReadyH.cons rfl (fun K hK => ?_) (AllReadyH.cons rfl (fun K hK => ?_) AllReadyH.nil))
                · rw [if_pos (by rfl)]
                  go_wp2_with fail
                  refine (xetime_any h.e.date _).mono ?_
                  rintro e w' ⟨rfl, rfl⟩
                  have hSa := hHeld
                  clear hHeld
                  refine hK.out _ _ hSa (fun hHeld => ?_)
                  clear hK K
                  try simp only [Act.put, List.setIfInBounds_toArray, List.set_cons_zero, List.set_cons_succ, List.getElem_toArray, List.getElem_cons_zero, List.getElem_cons_succ]
                  clear hSa
                  refine wpAnyH_ready (rs := [26, 32]) (by kernel_rfl) (by simp) (AllReadyH.cons rfl (fun K hK => ?_) (AllReadyH.cons rfl (fun K hK => ?_) AllReadyH.nil))
                  · rw [if_pos (by rfl)]
                    go_wp2_with fail
                    refine (xetime_any h.e.n _).mono ?_
                    rintro e w' ⟨rfl, rfl⟩
                    have hSa := hHeld
                    clear hHeld
                    refine hK.out _ _ hSa (fun hHeld => ?_)
                    clear hK K
                    try simp only [Act.put, List.setIfInBounds_toArray, List.set_cons_zero, List.set_cons_succ, List.getElem_toArray, List.getElem_cons_zero, List.getElem_cons_succ]
                    clear hSa
                    refine wpAnyH_take (i := 31) (v := .agg #[.bool (okQ h.e 98), .bool (okQ h.e 116), .bool (okQ h.e 105), .bool (okQ h.e 115), .bool (okQ h.e 109), .bool (okQ h.e 102), .bool (okQ h.e 100), .bool (okQ h.e 110), .bool (okQ h.e 121)]) rfl (by kernel_rfl) (by kernel_rfl) (by kernel_rfl) (fun _ _ _ h => h) (Or.inl ⟨by rfl, fun w0 hC => by simp [execOp, Act.eval, Act.put, go_sem]; exact ⟨rfl, rfl, rfl, rfl, rfl, rfl, rfl⟩⟩) hHeld ?_
                    try simp only [Act.put, List.setIfInBounds_toArray, List.set_cons_zero, List.set_cons_succ, List.getElem_toArray, List.getElem_cons_zero, List.getElem_cons_succ]
                    refine wpAnyH_ready (rs := [32]) (by kernel_rfl) (by simp) (AllReadyH.cons rfl (fun K hK => ?_) AllReadyH.nil)
                    rw [if_pos (by rfl)]
                    go_wp2_with fail
                    have hSa := hHeld.alloc hHeld.size (.cells #[.bool false, .bool false, .bool false, .bool false, .bool false, .bool false, .bool false, .bool false, .bool false] 91)
                    replace k1 := Lib.hid (k1.out.alloc (.cells #[.bool false, .bool false, .bool false, .bool false, .bool false, .bool false, .bool false, .bool false, .bool false] 91))
                    replace k2 := Lib.hid (k2.out.alloc k2.out.size (.cells #[.bool false, .bool false, .bool false, .bool false, .bool false, .bool false, .bool false, .bool false, .bool false] 91))
                    have kb := Lib.hid (Bk.new V0 91 #[.bool false, .bool false, .bool false, .bool false, .bool false, .bool false, .bool false, .bool false, .bool false])
                    clear hHeld
                    refine hK.out _ _ hSa (fun hHeld => ?_)
                    clear hK K
                    try simp only [Act.put, List.setIfInBounds_toArray, List.set_cons_zero, List.set_cons_succ, List.getElem_toArray, List.getElem_cons_zero, List.getElem_cons_succ]
                    clear hSa
                    refine wpAnyH_ready (rs := [33]) (by kernel_rfl) (by simp) (AllReadyH.cons rfl (fun K hK => ?_) AllReadyH.nil)
                    rw [if_pos (by rfl)]
                    refine oper_store_wide 91 _ _ rfl V0.heap.size (goodC h.e) rfl rfl 91 _ kb.out rfl info_b9 (by intro v hv; simp [goodC] at hv; rcases hv with rfl | rfl | rfl | rfl | rfl | rfl | rfl | rfl | rfl <;> rfl) ?_
                    intro W9 hW9
                    have hl0 : w.heap.size ≠ V0.heap.size := by have := k0.out.lt; omega
                    have z1 : Hid (Bk W9 V0.heap.size 91 (goodC h.e)) := Lib.hid (by rw [hW9.out]; exact kb.out.setRow_same _)
                    have z2 : Hid (Bk W9 w.heap.size 29 (evC h)) := Lib.hid (by rw [hW9.out]; exact k1.out.setRow_other hl0 _)
                    have z3 : Hid (Below w.heap.size w W9) := Lib.hid (by rw [hW9.out]; exact below_setRow k2.out k3.out _)
                    have hSa : Below W2.heap.size W2 W9 := by rw [hW9.out]; exact below_setRow hHeld k4.out _
                    clear hHeld hW9
                    refine hK.out _ _ hSa (fun hHeld => ?_)
                    clear hK K
                    try simp only [Act.put, List.setIfInBounds_toArray, List.set_cons_zero, List.set_cons_succ, List.getElem_toArray, List.getElem_cons_zero, List.getElem_cons_succ]
                    clear hSa
                    refine wpAnyH_done (by kernel_rfl) ?_ _
                    go_wp2_with fail
                    go_meet
                    exact ⟨V0.heap.size, rfl, z1.out, z2.out, z3.out⟩
                  · rw [if_pos (by rfl)]
                    go_wp2_with fail
                    have hSa := hHeld.alloc hHeld.size (.cells #[.bool false, .bool false, .bool false, .bool false, .bool false, .bool false, .bool false, .bool false, .bool false] 91)
                    replace k1 := Lib.hid (k1.out.alloc (.cells #[.bool false, .bool false, .bool false, .bool false, .bool false, .bool false, .bool false, .bool false, .bool false] 91))
                    replace k2 := Lib.hid (k2.out.alloc k2.out.size (.cells #[.bool false, .bool false, .bool false, .bool false, .bool false, .bool false, .bool false, .bool false, .bool false] 91))
                    have kb := Lib.hid (Bk.new V0 91 #[.bool false, .bool false, .bool false, .bool false, .bool false, .bool false, .bool false, .bool false, .bool false])
                    clear hHeld
                    refine hK.out _ _ hSa (fun hHeld => ?_)
                    clear hK K
                    try simp only [Act.put, List.setIfInBounds_toArray, List.set_cons_zero, List.set_cons_succ, List.getElem_toArray, List.getElem_cons_zero, List.getElem_cons_succ]
                    clear hSa
                    refine wpAnyH_ready (rs := [26]) (by kernel_rfl) (by simp) (AllReadyH.cons rfl (fun K hK => ?_) AllReadyH.nil)
                    rw [if_pos (by rfl)]
                    go_wp2_with fail
                    refine (xetime_any h.e.n _).mono ?_
                    rintro e w' ⟨rfl, rfl⟩
                    have hSa := hHeld
                    clear hHeld
                    refine hK.out _ _ hSa (fun hHeld => ?_)
                    clear hK K
                    try simp only [Act.put, List.setIfInBounds_toArray, List.set_cons_zero, List.set_cons_succ, List.getElem_toArray, List.getElem_cons_zero, List.getElem_cons_succ]
                    clear hSa
                    refine wpAnyH_take (i := 31) (v := .agg #[.bool (okQ h.e 98), .bool (okQ h.e 116), .bool (okQ h.e 105), .bool (okQ h.e 115), .bool (okQ h.e 109), .bool (okQ h.e 102), .bool (okQ h.e 100), .bool (okQ h.e 110), .bool (okQ h.e 121)]) rfl (by kernel_rfl) (by kernel_rfl) (by kernel_rfl) (fun _ _ _ h => h) (Or.inl ⟨by rfl, fun w0 hC => by simp [execOp, Act.eval, Act.put, go_sem]; exact ⟨rfl, rfl, rfl, rfl, rfl, rfl, rfl⟩⟩) hHeld ?_
                    try simp only [Act.put, List.setIfInBounds_toArray, List.set_cons_zero, List.set_cons_succ, List.getElem_toArray, List.getElem_cons_zero, List.getElem_cons_succ]
                    refine wpAnyH_ready (rs := [33]) (by kernel_rfl) (by simp) (AllReadyH.cons rfl (fun K hK => ?_) AllReadyH.nil)
                    rw [if_pos (by rfl)]
                    refine oper_store_wide 91 _ _ rfl V0.heap.size (goodC h.e) rfl rfl 91 _ kb.out rfl info_b9 (by intro v hv; simp [goodC] at hv; rcases hv with rfl | rfl | rfl | rfl | rfl | rfl | rfl | rfl | rfl <;> rfl) ?_
                    intro W9 hW9
                    have hl0 : w.heap.size ≠ V0.heap.size := by have := k0.out.lt; omega
                    have z1 : Hid (Bk W9 V0.heap.size 91 (goodC h.e)) := Lib.hid (by rw [hW9.out]; exact kb.out.setRow_same _)
                    have z2 : Hid (Bk W9 w.heap.size 29 (evC h)) := Lib.hid (by rw [hW9.out]; exact k1.out.setRow_other hl0 _)
                    have z3 : Hid (Below w.heap.size w W9) := Lib.hid (by rw [hW9.out]; exact below_setRow k2.out k3.out _)
                    have hSa : Below W2.heap.size W2 W9 := by rw [hW9.out]; exact below_setRow hHeld k4.out _
                    clear hHeld hW9
                    refine hK.out _ _ hSa (fun hHeld => ?_)
                    clear hK K
                    try simp only [Act.put, List.setIfInBounds_toArray, List.set_cons_zero, List.set_cons_succ, List.getElem_toArray, List.getElem_cons_zero, List.getElem_cons_succ]
                    clear hSa
                    refine wpAnyH_done (by kernel_rfl) ?_ _
                    go_wp2_with fail
                    go_meet
                    exact ⟨V0.heap.size, rfl, z1.out, z2.out, z3.out⟩
                · rw [if_pos (by rfl)]
                  go_wp2_with fail
                  have hSa := hHeld.alloc hHeld.size (.cells #[.bool false, .bool false, .bool false, .bool false, .bool false, .bool false, .bool false, .bool false, .bool false] 91)
                  replace k1 := Lib.hid (k1.out.alloc (.cells #[.bool false, .bool false, .bool false, .bool false, .bool false, .bool false, .bool false, .bool false, .bool false] 91))
                  replace k2 := Lib.hid (k2.out.alloc k2.out.size (.cells #[.bool false, .bool false, .bool false, .bool false, .bool false, .bool false, .bool false, .bool false, .bool false] 91))
                  have kb := Lib.hid (Bk.new V0 91 #[.bool false, .bool false, .bool false, .bool false, .bool false, .bool false, .bool false, .bool false, .bool false])
                  clear hHeld
                  refine hK.out _ _ hSa (fun hHeld => ?_)
                  clear hK K
                  try simp only [Act.put, List.setIfInBounds_toArray, List.set_cons_zero, List.set_cons_succ, List.getElem_toArray, List.getElem_cons_zero, List.getElem_cons_succ]
                  clear hSa
                  refine wpAnyH_ready (rs := [23]) (by kernel_rfl) (by simp) (AllReadyH.cons rfl (fun K hK => ?_) AllReadyH.nil)
                  rw [if_pos (by rfl)]
                  go_wp2_with fail
                  refine (xetime_any h.e.date _).mono ?_
                  rintro e w' ⟨rfl, rfl⟩
                  have hSa := hHeld
                  clear hHeld
                  refine hK.out _ _ hSa (fun hHeld => ?_)
                  clear hK K
                  try simp only [Act.put, List.setIfInBounds_toArray, List.set_cons_zero, List.set_cons_succ, List.getElem_toArray, List.getElem_cons_zero, List.getElem_cons_succ]
                  clear hSa
                  refine wpAnyH_ready (rs := [26]) (by kernel_rfl) (by simp) (AllReadyH.cons rfl (fun K hK => ?_) AllReadyH.nil)
                  rw [if_pos (by rfl)]
                  go_wp2_with fail
                  refine (xetime_any h.e.n _).mono ?_
                  rintro e w' ⟨rfl, rfl⟩
                  have hSa := hHeld
                  clear hHeld
                  refine hK.out _ _ hSa (fun hHeld => ?_)
                  clear hK K
                  try simp only [Act.put, List.setIfInBounds_toArray, List.set_cons_zero, List.set_cons_succ, List.getElem_toArray, List.getElem_cons_zero, List.getElem_cons_succ]
                  clear hSa
                  refine wpAnyH_take (i := 31) (v := .agg #[.bool (okQ h.e 98), .bool (okQ h.e 116), .bool (okQ h.e 105), .bool (okQ h.e 115), .bool (okQ h.e 109), .bool (okQ h.e 102), .bool (okQ h.e 100), .bool (okQ h.e 110), .bool (okQ h.e 121)]) rfl (by kernel_rfl) (by kernel_rfl) (by kernel_rfl) (fun _ _ _ h => h) (Or.inl ⟨by rfl, fun w0 hC => by simp [execOp, Act.eval, Act.put, go_sem]; exact ⟨rfl, rfl, rfl, rfl, rfl, rfl, rfl⟩⟩) hHeld ?_
                  try simp only [Act.put, List.setIfInBounds_toArray, List.set_cons_zero, List.set_cons_succ, List.getElem_toArray, List.getElem_cons_zero, List.getElem_cons_succ]
                  refine wpAnyH_ready (rs := [33]) (by kernel_rfl) (by simp) (AllReadyH.cons rfl (fun K hK => ?_) AllReadyH.nil)
                  rw [if_pos (by rfl)]
                  refine oper_store_wide 91 _ _ rfl V0.heap.size (goodC h.e) rfl rfl 91 _ kb.out rfl info_b9 (by intro v hv; simp [goodC] at hv; rcases hv with rfl | rfl | rfl | rfl | rfl | rfl | rfl | rfl | rfl <;> rfl) ?_
                  intro W9 hW9
                  have hl0 : w.heap.size ≠ V0.heap.size := by have := k0.out.lt; omega
                  have z1 : Hid (Bk W9 V0.heap.size 91 (goodC h.e)) := Lib.hid (by rw [hW9.out]; exact kb.out.setRow_same _)
                  have z2 : Hid (Bk W9 w.heap.size 29 (evC h)) := Lib.hid (by rw [hW9.out]; exact k1.out.setRow_other hl0 _)
                  have z3 : Hid (Below w.heap.size w W9) := Lib.hid (by rw [hW9.out]; exact below_setRow k2.out k3.out _)
                  have hSa : Below W2.heap.size W2 W9 := by rw [hW9.out]; exact below_setRow hHeld k4.out _
                  clear hHeld hW9
                  refine hK.out _ _ hSa (fun hHeld => ?_)
                  clear hK K
                  try simp only [Act.put, List.setIfInBounds_toArray, List.set_cons_zero, List.set_cons_succ, List.getElem_toArray, List.getElem_cons_zero, List.getElem_cons_succ]
                  clear hSa
                  refine wpAnyH_done (by kernel_rfl) ?_ _
                  go_wp2_with fail
                  go_meet
                  exact ⟨V0.heap.size, rfl, z1.out, z2.out, z3.out⟩
              · rw [if_pos (by rfl)]
                go_wp2_with fail
                have hSa := hHeld.alloc hHeld.size (.cells #[.bool false, .bool false, .bool false, .bool false, .bool false, .bool false, .bool false, .bool false, .bool false] 91)
                replace k1 := Lib.hid (k1.out.alloc (.cells #[.bool false, .bool false, .bool false, .bool false, .bool false, .bool false, .bool false, .bool false, .bool false] 91))
                replace k2 := Lib.hid (k2.out.alloc k2.out.size (.cells #[.bool false, .bool false, .bool false, .bool false, .bool false, .bool false, .bool false, .bool false, .bool false] 91))
                have kb := Lib.hid (Bk.new V0 91 #[.bool false, .bool false, .bool false, .bool false, .bool false, .bool false, .bool false, .bool false, .bool false])
                clear hHeld
                refine hK.out _ _ hSa (fun hHeld => ?_)
                clear hK K
                try simp only [Act.put, List.setIfInBounds_toArray, List.set_cons_zero, List.set_cons_succ, List.getElem_toArray, List.getElem_cons_zero, List.getElem_cons_succ]
                clear hSa
                refine wpAnyH_ready (rs := [20]) (by kernel_rfl) (by simp) (AllReadyH.cons rfl (fun K hK => ?_) AllReadyH.nil)
                rw [if_pos (by rfl)]
                go_wp2_with fail
                refine (x8fright_any h.e.flags _).mono ?_
                rintro e w' ⟨rfl, rfl⟩
                have hSa := hHeld
                clear hHeld
                refine hK.out _ _ hSa (fun hHeld => ?_)
                clear hK K
                try simp only [Act.put, List.setIfInBounds_toArray, List.set_cons_zero, List.set_cons_succ, List.getElem_toArray, List.getElem_cons_zero, List.getElem_cons_succ]
                clear hSa
                refine wpAnyH_ready (rs := [23]) (by kernel_rfl) (by simp) (AllReadyH.cons rfl (fun K hK => ?_) AllReadyH.nil)
                rw [if_pos (by rfl)]
                go_wp2_with fail
                refine (xetime_any h.e.date _).mono ?_
                rintro e w' ⟨rfl, rfl⟩
                have hSa := hHeld
                clear hHeld
                refine hK.out _ _ hSa (fun hHeld => ?_)
                clear hK K
                try simp only [Act.put, List.setIfInBounds_toArray, List.set_cons_zero, List.set_cons_succ, List.getElem_toArray, List.getElem_cons_zero, List.getElem_cons_succ]
                clear hSa
                refine wpAnyH_ready (rs := [26]) (by kernel_rfl) (by simp) (AllReadyH.cons rfl (fun K hK => ?_) AllReadyH.nil)
                rw [if_pos (by rfl)]
                go_wp2_with fail
                refine (xetime_any h.e.n _).mono ?_
                rintro e w' ⟨rfl, rfl⟩
                have hSa := hHeld
                clear hHeld
                refine hK.out _ _ hSa (fun hHeld => ?_)
                clear hK K
                try simp only [Act.put, List.setIfInBounds_toArray, List.set_cons_zero, List.set_cons_succ, List.getElem_toArray, List.getElem_cons_zero, List.getElem_cons_succ]
                clear hSa
                refine wpAnyH_take (i := 31) (v := .agg #[.bool (okQ h.e 98), .bool (okQ h.e 116), .bool (okQ h.e 105), .bool (okQ h.e 115), .bool (okQ h.e 109), .bool (okQ h.e 102), .bool (okQ h.e 100), .bool (okQ h.e 110), .bool (okQ h.e 121)]) rfl (by kernel_rfl) (by kernel_rfl) (by kernel_rfl) (fun _ _ _ h => h) (Or.inl ⟨by rfl, fun w0 hC => by simp [execOp, Act.eval, Act.put, go_sem]; exact ⟨rfl, rfl, rfl, rfl, rfl, rfl, rfl⟩⟩) hHeld ?_
                try simp only [Act.put, List.setIfInBounds_toArray, List.set_cons_zero, List.set_cons_succ, List.getElem_toArray, List.getElem_cons_zero, List.getElem_cons_succ]
                refine wpAnyH_ready (rs := [33]) (by kernel_rfl) (by simp) (AllReadyH.cons rfl (fun K hK => ?_) AllReadyH.nil)
                rw [if_pos (by rfl)]
                refine oper_store_wide 91 _ _ rfl V0.heap.size (goodC h.e) rfl rfl 91 _ kb.out rfl info_b9 (by intro v hv; simp [goodC] at hv; rcases hv with rfl | rfl | rfl | rfl | rfl | rfl | rfl | rfl | rfl <;> rfl) ?_
                intro W9 hW9
                have hl0 : w.heap.size ≠ V0.heap.size := by have := k0.out.lt; omega
                have z1 : Hid (Bk W9 V0.heap.size 91 (goodC h.e)) := Lib.hid (by rw [hW9.out]; exact kb.out.setRow_same _)
                have z2 : Hid (Bk W9 w.heap.size 29 (evC h)) := Lib.hid (by rw [hW9.out]; exact k1.out.setRow_other hl0 _)
                have z3 : Hid (Below w.heap.size w W9) := Lib.hid (by rw [hW9.out]; exact below_setRow k2.out k3.out _)
                have hSa : Below W2.heap.size W2 W9 := by rw [hW9.out]; exact below_setRow hHeld k4.out _
                clear hHeld hW9
                refine hK.out _ _ hSa (fun hHeld => ?_)
                clear hK K
                try simp only [Act.put, List.setIfInBounds_toArray, List.set_cons_zero, List.set_cons_succ, List.getElem_toArray, List.getElem_cons_zero, List.getElem_cons_succ]
                clear hSa
                refine wpAnyH_done (by kernel_rfl) ?_ _
                go_wp2_with fail
                go_meet
                exact ⟨V0.heap.size, rfl, z1.out, z2.out, z3.out⟩
            · rw [if_pos (by rfl)]
              go_wp2_with fail
              have hSa := hHeld.alloc hHeld.size (.cells #[.bool false, .bool false, .bool false, .bool false, .bool false, .bool false, .bool false, .bool false, .bool false] 91)
              replace k1 := Lib.hid (k1.out.alloc (.cells #[.bool false, .bool false, .bool false, .bool false, .bool false, .bool false, .bool false, .bool false, .bool false] 91))
              replace k2 := Lib.hid (k2.out.alloc k2.out.size (.cells #[.bool false, .bool false, .bool false, .bool false, .bool false, .bool false, .bool false, .bool false, .bool false] 91))
              have kb := Lib.hid (Bk.new V0 91 #[.bool false, .bool false, .bool false, .bool false, .bool false, .bool false, .bool false, .bool false, .bool false])
              clear hHeld
              refine hK.out _ _ hSa (fun hHeld => ?_)
              clear hK K
              try simp only [Act.put, List.setIfInBounds_toArray, List.set_cons_zero, List.set_cons_succ, List.getElem_toArray, List.getElem_cons_zero, List.getElem_cons_succ]
              clear hSa
              refine wpAnyH_ready (rs := [9]) (by kernel_rfl) (by simp) (AllReadyH.cons rfl (fun K hK => ?_) AllReadyH.nil)
              rw [if_pos (by rfl)]
              go_wp2_with fail
              refine (xeset_any h.A2 h.n2 h.c2 h.e.set (V0.alloc (.cells #[.bool false, .bool false, .bool false, .bool false, .bool false, .bool false, .bool false, .bool false, .bool false] 91)) (HH.out.later k2.out).2.1 HH.out.2.2.2.2.1).mono ?_
              rintro e w' ⟨rfl, rfl⟩
              have hSa := hHeld
              clear hHeld
              refine hK.out _ _ hSa (fun hHeld => ?_)
              clear hK K
              try simp only [Act.put, List.setIfInBounds_toArray, List.set_cons_zero, List.set_cons_succ, List.getElem_toArray, List.getElem_cons_zero, List.getElem_cons_succ]
              clear hSa
              refine wpAnyH_take (i := 13) (v := .bool false) rfl (by kernel_rfl) (by kernel_rfl) (by kernel_rfl) (fun _ _ _ h => h) (Or.inl ⟨by rfl, fun w0 hC => by simp [execOp, Act.eval, Act.put, go_sem]⟩) hHeld ?_
              try simp only [Act.put, List.setIfInBounds_toArray, List.set_cons_zero, List.set_cons_succ, List.getElem_toArray, List.getElem_cons_zero, List.getElem_cons_succ]
              refine wpAnyH_take (i := 14) (v := undef) rfl (by kernel_rfl) (by kernel_rfl) (by kernel_rfl) (fun _ _ _ h => h) (Or.inr ⟨by rfl, rfl⟩) hHeld ?_
              try simp only [Act.put, List.setIfInBounds_toArray, List.set_cons_zero, List.set_cons_succ, List.getElem_toArray, List.getElem_cons_zero, List.getElem_cons_succ]
              refine wpAnyH_take (i := 15) (v := undef) rfl (by kernel_rfl) (by kernel_rfl) (by kernel_rfl) (fun _ _ _ h => h) (Or.inr ⟨by rfl, rfl⟩) hHeld ?_
              try simp only [Act.put, List.setIfInBounds_toArray, List.set_cons_zero, List.set_cons_succ, List.getElem_toArray, List.getElem_cons_zero, List.getElem_cons_succ]
              refine wpAnyH_take (i := 16) (v := undef) rfl (by kernel_rfl) (by kernel_rfl) (by kernel_rfl) (fun _ _ _ h => h) (Or.inr ⟨by rfl, rfl⟩) hHeld ?_
              try simp only [Act.put, List.setIfInBounds_toArray, List.set_cons_zero, List.set_cons_succ, List.getElem_toArray, List.getElem_cons_zero, List.getElem_cons_succ]
              refine wpAnyH_take (i := 17) (v := .bool (okQ h.e 109)) rfl (by kernel_rfl) (by kernel_rfl) (by kernel_rfl) (fun _ _ _ h => h) (Or.inl ⟨by rfl, fun w0 hC => by rw [← HM.out]; simp [execOp, Act.eval, Act.put, go_sem]⟩) hHeld ?_
              try simp only [Act.put, List.setIfInBounds_toArray, List.set_cons_zero, List.set_cons_succ, List.getElem_toArray, List.getElem_cons_zero, List.getElem_cons_succ]
              refine wpAnyH_ready (rs := [20]) (by kernel_rfl) (by simp) (AllReadyH.cons rfl (fun K hK => ?_) AllReadyH.nil)
              rw [if_pos (by rfl)]
              go_wp2_with fail
              refine (x8fright_any h.e.flags _).mono ?_
              rintro e w' ⟨rfl, rfl⟩
              have hSa := hHeld
              clear hHeld
              refine hK.out _ _ hSa (fun hHeld => ?_)
              clear hK K
              try simp only [Act.put, List.setIfInBounds_toArray, List.set_cons_zero, List.set_cons_succ, List.getElem_toArray, List.getElem_cons_zero, List.getElem_cons_succ]
              clear hSa
              refine wpAnyH_ready (rs := [23]) (by kernel_rfl) (by simp) (AllReadyH.cons rfl (fun K hK => ?_) AllReadyH.nil)
              rw [if_pos (by rfl)]
              go_wp2_with fail
              refine (xetime_any h.e.date _).mono ?_
              rintro e w' ⟨rfl, rfl⟩
              have hSa := hHeld
              clear hHeld
              refine hK.out _ _ hSa (fun hHeld => ?_)
              clear hK K
              try simp only [Act.put, List.setIfInBounds_toArray, List.set_cons_zero, List.set_cons_succ, List.getElem_toArray, List.getElem_cons_zero, List.getElem_cons_succ]
              clear hSa
              refine wpAnyH_ready (rs := [26]) (by kernel_rfl) (by simp) (AllReadyH.cons rfl (fun K hK => ?_) AllReadyH.nil)
              rw [if_pos (by rfl)]
              go_wp2_with fail
              refine (xetime_any h.e.n _).mono ?_
              rintro e w' ⟨rfl, rfl⟩
              have hSa := hHeld
              clear hHeld
              refine hK.out _ _ hSa (fun hHeld => ?_)
              clear hK K
              try simp only [Act.put, List.setIfInBounds_toArray, List.set_cons_zero, List.set_cons_succ, List.getElem_toArray, List.getElem_cons_zero, List.getElem_cons_succ]
              clear hSa
              refine wpAnyH_take (i := 31) (v := .agg #[.bool (okQ h.e 98), .bool (okQ h.e 116), .bool (okQ h.e 105), .bool (okQ h.e 115), .bool (okQ h.e 109), .bool (okQ h.e 102), .bool (okQ h.e 100), .bool (okQ h.e 110), .bool (okQ h.e 121)]) rfl (by kernel_rfl) (by kernel_rfl) (by kernel_rfl) (fun _ _ _ h => h) (Or.inl ⟨by rfl, fun w0 hC => by simp [execOp, Act.eval, Act.put, go_sem]; exact ⟨rfl, rfl, rfl, rfl, rfl, rfl, rfl⟩⟩) hHeld ?_
              try simp only [Act.put, List.setIfInBounds_toArray, List.set_cons_zero, List.set_cons_succ, List.getElem_toArray, List.getElem_cons_zero, List.getElem_cons_succ]
              refine wpAnyH_ready (rs := [33]) (by kernel_rfl) (by simp) (AllReadyH.cons rfl (fun K hK => ?_) AllReadyH.nil)
              rw [if_pos (by rfl)]
              refine oper_store_wide 91 _ _ rfl V0.heap.size (goodC h.e) rfl rfl 91 _ kb.out rfl info_b9 (by intro v hv; simp [goodC] at hv; rcases hv with rfl | rfl | rfl | rfl | rfl | rfl | rfl | rfl | rfl <;> rfl) ?_
              intro W9 hW9
              have hl0 : w.heap.size ≠ V0.heap.size := by have := k0.out.lt; omega
              have z1 : Hid (Bk W9 V0.heap.size 91 (goodC h.e)) := Lib.hid (by rw [hW9.out]; exact kb.out.setRow_same _)
              have z2 : Hid (Bk W9 w.heap.size 29 (evC h)) := Lib.hid (by rw [hW9.out]; exact k1.out.setRow_other hl0 _)
              have z3 : Hid (Below w.heap.size w W9) := Lib.hid (by rw [hW9.out]; exact below_setRow k2.out k3.out _)
              have hSa : Below W2.heap.size W2 W9 := by rw [hW9.out]; exact below_setRow hHeld k4.out _
              clear hHeld hW9
              refine hK.out _ _ hSa (fun hHeld => ?_)
              clear hK K
              try simp only [Act.put, List.setIfInBounds_toArray, List.set_cons_zero, List.set_cons_succ, List.getElem_toArray, List.getElem_cons_zero, List.getElem_cons_succ]
              clear hSa
              refine wpAnyH_done (by kernel_rfl) ?_ _
              go_wp2_with fail
              go_meet
              exact ⟨V0.heap.size, rfl, z1.out, z2.out, z3.out⟩
          · rw [if_pos (by rfl)]
            go_wp2_with fail
            have hSa := hHeld.alloc hHeld.size (.cells #[.bool false, .bool false, .bool false, .bool false, .bool false, .bool false, .bool false, .bool false, .bool false] 91)
            replace k1 := Lib.hid (k1.out.alloc (.cells #[.bool false, .bool false, .bool false, .bool false, .bool false, .bool false, .bool false, .bool false, .bool false] 91))
            replace k2 := Lib.hid (k2.out.alloc k2.out.size (.cells #[.bool false, .bool false, .bool false, .bool false, .bool false, .bool false, .bool false, .bool false, .bool false] 91))
            have kb := Lib.hid (Bk.new V0 91 #[.bool false, .bool false, .bool false, .bool false, .bool false, .bool false, .bool false, .bool false, .bool false])
            clear hHeld
            refine hK.out _ _ hSa (fun hHeld => ?_)
            clear hK K
            try simp only [Act.put, List.setIfInBounds_toArray, List.set_cons_zero, List.set_cons_succ, List.getElem_toArray, List.getElem_cons_zero, List.getElem_cons_succ]
            clear hSa
            refine wpAnyH_ready (rs := [5]) (by kernel_rfl) (by simp) (AllReadyH.cons rfl (fun K hK => ?_) AllReadyH.nil)
            rw [if_pos (by rfl)]
            go_wp2_with fail
            refine (xaRight_any h.e.to_ HH.out.2.2.2.2.2.2.2 _).mono ?_
            rintro e w' ⟨rfl, rfl⟩
            have hSa := hHeld
            clear hHeld
            refine hK.out _ _ hSa (fun hHeld => ?_)
            clear hK K
            try simp only [Act.put, List.setIfInBounds_toArray, List.set_cons_zero, List.set_cons_succ, List.getElem_toArray, List.getElem_cons_zero, List.getElem_cons_succ]
            clear hSa
            refine wpAnyH_ready (rs := [9]) (by kernel_rfl) (by simp) (AllReadyH.cons rfl (fun K hK => ?_) AllReadyH.nil)
            rw [if_pos (by rfl)]
            go_wp2_with fail
            refine (xeset_any h.A2 h.n2 h.c2 h.e.set (V0.alloc (.cells #[.bool false, .bool false, .bool false, .bool false, .bool false, .bool false, .bool false, .bool false, .bool false] 91)) (HH.out.later k2.out).2.1 HH.out.2.2.2.2.1).mono ?_
            rintro e w' ⟨rfl, rfl⟩
            have hSa := hHeld
            clear hHeld
            refine hK.out _ _ hSa (fun hHeld => ?_)
            clear hK K
            try simp only [Act.put, List.setIfInBounds_toArray, List.set_cons_zero, List.set_cons_succ, List.getElem_toArray, List.getElem_cons_zero, List.getElem_cons_succ]
            clear hSa
            refine wpAnyH_take (i := 13) (v := .bool false) rfl (by kernel_rfl) (by kernel_rfl) (by kernel_rfl) (fun _ _ _ h => h) (Or.inl ⟨by rfl, fun w0 hC => by simp [execOp, Act.eval, Act.put, go_sem]⟩) hHeld ?_
            try simp only [Act.put, List.setIfInBounds_toArray, List.set_cons_zero, List.set_cons_succ, List.getElem_toArray, List.getElem_cons_zero, List.getElem_cons_succ]
            refine wpAnyH_take (i := 14) (v := undef) rfl (by kernel_rfl) (by kernel_rfl) (by kernel_rfl) (fun _ _ _ h => h) (Or.inr ⟨by rfl, rfl⟩) hHeld ?_
            try simp only [Act.put, List.setIfInBounds_toArray, List.set_cons_zero, List.set_cons_succ, List.getElem_toArray, List.getElem_cons_zero, List.getElem_cons_succ]
            refine wpAnyH_take (i := 15) (v := undef) rfl (by kernel_rfl) (by kernel_rfl) (by kernel_rfl) (fun _ _ _ h => h) (Or.inr ⟨by rfl, rfl⟩) hHeld ?_
            try simp only [Act.put, List.setIfInBounds_toArray, List.set_cons_zero, List.set_cons_succ, List.getElem_toArray, List.getElem_cons_zero, List.getElem_cons_succ]
            refine wpAnyH_take (i := 16) (v := undef) rfl (by kernel_rfl) (by kernel_rfl) (by kernel_rfl) (fun _ _ _ h => h) (Or.inr ⟨by rfl, rfl⟩) hHeld ?_
            try simp only [Act.put, List.setIfInBounds_toArray, List.set_cons_zero, List.set_cons_succ, List.getElem_toArray, List.getElem_cons_zero, List.getElem_cons_succ]
            refine wpAnyH_take (i := 17) (v := .bool (okQ h.e 109)) rfl (by kernel_rfl) (by kernel_rfl) (by kernel_rfl) (fun _ _ _ h => h) (Or.inl ⟨by rfl, fun w0 hC => by rw [← HM.out]; simp [execOp, Act.eval, Act.put, go_sem]⟩) hHeld ?_
            try simp only [Act.put, List.setIfInBounds_toArray, List.set_cons_zero, List.set_cons_succ, List.getElem_toArray, List.getElem_cons_zero, List.getElem_cons_succ]
            refine wpAnyH_ready (rs := [20]) (by kernel_rfl) (by simp) (AllReadyH.cons rfl (fun K hK => ?_) AllReadyH.nil)
            rw [if_pos (by rfl)]
            go_wp2_with fail
            refine (x8fright_any h.e.flags _).mono ?_
            rintro e w' ⟨rfl, rfl⟩
            have hSa := hHeld
            clear hHeld
            refine hK.out _ _ hSa (fun hHeld => ?_)
            clear hK K
            try simp only [Act.put, List.setIfInBounds_toArray, List.set_cons_zero, List.set_cons_succ, List.getElem_toArray, List.getElem_cons_zero, List.getElem_cons_succ]
            clear hSa
            refine wpAnyH_ready (rs := [23]) (by kernel_rfl) (by simp) (AllReadyH.cons rfl (fun K hK => ?_) AllReadyH.nil)
            rw [if_pos (by rfl)]
            go_wp2_with fail
            refine (xetime_any h.e.date _).mono ?_
            rintro e w' ⟨rfl, rfl⟩
            have hSa := hHeld
            clear hHeld
            refine hK.out _ _ hSa (fun hHeld => ?_)
            clear hK K
            try simp only [Act.put, List.setIfInBounds_toArray, List.set_cons_zero, List.set_cons_succ, List.getElem_toArray, List.getElem_cons_zero, List.getElem_cons_succ]
            clear hSa
            refine wpAnyH_ready (rs := [26]) (by kernel_rfl) (by simp) (AllReadyH.cons rfl (fun K hK => ?_) AllReadyH.nil)
            rw [if_pos (by rfl)]
            go_wp2_with fail
            refine (xetime_any h.e.n _).mono ?_
            rintro e w' ⟨rfl, rfl⟩
            have hSa := hHeld
            clear hHeld
            refine hK.out _ _ hSa (fun hHeld => ?_)
            clear hK K
            try simp only [Act.put, List.setIfInBounds_toArray, List.set_cons_zero, List.set_cons_succ, List.getElem_toArray, List.getElem_cons_zero, List.getElem_cons_succ]
            clear hSa
            refine wpAnyH_take (i := 31) (v := .agg #[.bool (okQ h.e 98), .bool (okQ h.e 116), .bool (okQ h.e 105), .bool (okQ h.e 115), .bool (okQ h.e 109), .bool (okQ h.e 102), .bool (okQ h.e 100), .bool (okQ h.e 110), .bool (okQ h.e 121)]) rfl (by kernel_rfl) (by kernel_rfl) (by kernel_rfl) (fun _ _ _ h => h) (Or.inl ⟨by rfl, fun w0 hC => by simp [execOp, Act.eval, Act.put, go_sem]; exact ⟨rfl, rfl, rfl, rfl, rfl, rfl, rfl⟩⟩) hHeld ?_
            try simp only [Act.put, List.setIfInBounds_toArray, List.set_cons_zero, List.set_cons_succ, List.getElem_toArray, List.getElem_cons_zero, List.getElem_cons_succ]
            refine wpAnyH_ready (rs := [33]) (by kernel_rfl) (by simp) (AllReadyH.cons rfl (fun K hK => ?_) AllReadyH.nil)
            rw [if_pos (by rfl)]
            refine oper_store_wide 91 _ _ rfl V0.heap.size (goodC h.e) rfl rfl 91 _ kb.out rfl info_b9 (by intro v hv; simp [goodC] at hv; rcases hv with rfl | rfl | rfl | rfl | rfl | rfl | rfl | rfl | rfl <;> rfl) ?_
            intro W9 hW9
            have hl0 : w.heap.size ≠ V0.heap.size := by have := k0.out.lt; omega
            have z1 : Hid (Bk W9 V0.heap.size 91 (goodC h.e)) := Lib.hid (by rw [hW9.out]; exact kb.out.setRow_same _)
            have z2 : Hid (Bk W9 w.heap.size 29 (evC h)) := Lib.hid (by rw [hW9.out]; exact k1.out.setRow_other hl0 _)
            have z3 : Hid (Below w.heap.size w W9) := Lib.hid (by rw [hW9.out]; exact below_setRow k2.out k3.out _)
            have hSa : Below W2.heap.size W2 W9 := by rw [hW9.out]; exact below_setRow hHeld k4.out _
            clear hHeld hW9
            refine hK.out _ _ hSa (fun hHeld => ?_)
            clear hK K
            try simp only [Act.put, List.setIfInBounds_toArray, List.set_cons_zero, List.set_cons_succ, List.getElem_toArray, List.getElem_cons_zero, List.getElem_cons_succ]
            clear hSa
            refine wpAnyH_done (by kernel_rfl) ?_ _
            go_wp2_with fail
            go_meet
            exact ⟨V0.heap.size, rfl, z1.out, z2.out, z3.out⟩
        · rw [if_pos (by rfl)]
          go_wp2_with fail
          have hSa := hHeld.alloc hHeld.size (.cells #[.bool false, .bool false, .bool false, .bool false, .bool false, .bool false, .bool false, .bool false, .bool false] 91)
          replace k1 := Lib.hid (k1.out.alloc (.cells #[.bool false, .bool false, .bool false, .bool false, .bool false, .bool false, .bool false, .bool false, .bool false] 91))
          replace k2 := Lib.hid (k2.out.alloc k2.out.size (.cells #[.bool false, .bool false, .bool false, .bool false, .bool false, .bool false, .bool false, .bool false, .bool false] 91))
          have kb := Lib.hid (Bk.new V0 91 #[.bool false, .bool false, .bool false, .bool false, .bool false, .bool false, .bool false, .bool false, .bool false])
          clear hHeld
          refine hK.out _ _ hSa (fun hHeld => ?_)
          clear hK K
          try simp only [Act.put, List.setIfInBounds_toArray, List.set_cons_zero, List.set_cons_succ, List.getElem_toArray, List.getElem_cons_zero, List.getElem_cons_succ]
          clear hSa
          refine wpAnyH_ready (rs := [2]) (by kernel_rfl) (by simp) (AllReadyH.cons rfl (fun K hK => ?_) AllReadyH.nil)
          rw [if_pos (by rfl)]
          go_wp2_with fail
          refine (xaRight_any h.e.box HH.out.2.2.2.2.2.2.1 _).mono ?_
          rintro e w' ⟨rfl, rfl⟩
          have hSa := hHeld
          clear hHeld
          refine hK.out _ _ hSa (fun hHeld => ?_)
          clear hK K
          try simp only [Act.put, List.setIfInBounds_toArray, List.set_cons_zero, List.set_cons_succ, List.getElem_toArray, List.getElem_cons_zero, List.getElem_cons_succ]
          clear hSa
          refine wpAnyH_ready (rs := [5]) (by kernel_rfl) (by simp) (AllReadyH.cons rfl (fun K hK => ?_) AllReadyH.nil)
          rw [if_pos (by rfl)]
          go_wp2_with fail
          refine (xaRight_any h.e.to_ HH.out.2.2.2.2.2.2.2 _).mono ?_
          rintro e w' ⟨rfl, rfl⟩
          have hSa := hHeld
          clear hHeld
          refine hK.out _ _ hSa (fun hHeld => ?_)
          clear hK K
          try simp only [Act.put, List.setIfInBounds_toArray, List.set_cons_zero, List.set_cons_succ, List.getElem_toArray, List.getElem_cons_zero, List.getElem_cons_succ]
          clear hSa
          refine wpAnyH_ready (rs := [9]) (by kernel_rfl) (by simp) (AllReadyH.cons rfl (fun K hK => ?_) AllReadyH.nil)
          rw [if_pos (by rfl)]
          go_wp2_with fail
          refine (xeset_any h.A2 h.n2 h.c2 h.e.set (V0.alloc (.cells #[.bool false, .bool false, .bool false, .bool false, .bool false, .bool false, .bool false, .bool false, .bool false] 91)) (HH.out.later k2.out).2.1 HH.out.2.2.2.2.1).mono ?_
          rintro e w' ⟨rfl, rfl⟩
          have hSa := hHeld
          clear hHeld
          refine hK.out _ _ hSa (fun hHeld => ?_)
          clear hK K
          try simp only [Act.put, List.setIfInBounds_toArray, List.set_cons_zero, List.set_cons_succ, List.getElem_toArray, List.getElem_cons_zero, List.getElem_cons_succ]
          clear hSa
          refine wpAnyH_take (i := 13) (v := .bool false) rfl (by kernel_rfl) (by kernel_rfl) (by kernel_rfl) (fun _ _ _ h => h) (Or.inl ⟨by rfl, fun w0 hC => by simp [execOp, Act.eval, Act.put, go_sem]⟩) hHeld ?_
          try simp only [Act.put, List.setIfInBounds_toArray, List.set_cons_zero, List.set_cons_succ, List.getElem_toArray, List.getElem_cons_zero, List.getElem_cons_succ]
          refine wpAnyH_take (i := 14) (v := undef) rfl (by kernel_rfl) (by kernel_rfl) (by kernel_rfl) (fun _ _ _ h => h) (Or.inr ⟨by rfl, rfl⟩) hHeld ?_
          try simp only [Act.put, List.setIfInBounds_toArray, List.set_cons_zero, List.set_cons_succ, List.getElem_toArray, List.getElem_cons_zero, List.getElem_cons_succ]
          refine wpAnyH_take (i := 15) (v := undef) rfl (by kernel_rfl) (by kernel_rfl) (by kernel_rfl) (fun _ _ _ h => h) (Or.inr ⟨by rfl, rfl⟩) hHeld ?_
          try simp only [Act.put, List.setIfInBounds_toArray, List.set_cons_zero, List.set_cons_succ, List.getElem_toArray, List.getElem_cons_zero, List.getElem_cons_succ]
          refine wpAnyH_take (i := 16) (v := undef) rfl (by kernel_rfl) (by kernel_rfl) (by kernel_rfl) (fun _ _ _ h => h) (Or.inr ⟨by rfl, rfl⟩) hHeld ?_
          try simp only [Act.put, List.setIfInBounds_toArray, List.set_cons_zero, List.set_cons_succ, List.getElem_toArray, List.getElem_cons_zero, List.getElem_cons_succ]
          refine wpAnyH_take (i := 17) (v := .bool (okQ h.e 109)) rfl (by kernel_rfl) (by kernel_rfl) (by kernel_rfl) (fun _ _ _ h => h) (Or.inl ⟨by rfl, fun w0 hC => by rw [← HM.out]; simp [execOp, Act.eval, Act.put, go_sem]⟩) hHeld ?_
          try simp only [Act.put, List.setIfInBounds_toArray, List.set_cons_zero, List.set_cons_succ, List.getElem_toArray, List.getElem_cons_zero, List.getElem_cons_succ]
          refine wpAnyH_ready (rs := [20]) (by kernel_rfl) (by simp) (AllReadyH.cons rfl (fun K hK => ?_) AllReadyH.nil)
          rw [if_pos (by rfl)]
          go_wp2_with fail
          refine (x8fright_any h.e.flags _).mono ?_
          rintro e w' ⟨rfl, rfl⟩
          have hSa := hHeld
          clear hHeld
          refine hK.out _ _ hSa (fun hHeld => ?_)
          clear hK K
          try simp only [Act.put, List.setIfInBounds_toArray, List.set_cons_zero, List.set_cons_succ, List.getElem_toArray, List.getElem_cons_zero, List.getElem_cons_succ]
          clear hSa
          refine wpAnyH_ready (rs := [23]) (by kernel_rfl) (by simp) (AllReadyH.cons rfl (fun K hK => ?_) AllReadyH.nil)
          rw [if_pos (by rfl)]
          go_wp2_with fail
          refine (xetime_any h.e.date _).mono ?_
          rintro e w' ⟨rfl, rfl⟩
          have hSa := hHeld
          clear hHeld
          refine hK.out _ _ hSa (fun hHeld => ?_)
          clear hK K
          try simp only [Act.put, List.setIfInBounds_toArray, List.set_cons_zero, List.set_cons_succ, List.getElem_toArray, List.getElem_cons_zero, List.getElem_cons_succ]
          clear hSa
          refine wpAnyH_ready (rs := [26]) (by kernel_rfl) (by simp) (AllReadyH.cons rfl (fun K hK => ?_) AllReadyH.nil)
          rw [if_pos (by rfl)]
          go_wp2_with fail
          refine (xetime_any h.e.n _).mono ?_
          rintro e w' ⟨rfl, rfl⟩
          have hSa := hHeld
          clear hHeld
          refine hK.out _ _ hSa (fun hHeld => ?_)
          clear hK K
          try simp only [Act.put, List.setIfInBounds_toArray, List.set_cons_zero, List.set_cons_succ, List.getElem_toArray, List.getElem_cons_zero, List.getElem_cons_succ]
          clear hSa
          refine wpAnyH_take (i := 31) (v := .agg #[.bool (okQ h.e 98), .bool (okQ h.e 116), .bool (okQ h.e 105), .bool (okQ h.e 115), .bool (okQ h.e 109), .bool (okQ h.e 102), .bool (okQ h.e 100), .bool (okQ h.e 110), .bool (okQ h.e 121)]) rfl (by kernel_rfl) (by kernel_rfl) (by kernel_rfl) (fun _ _ _ h => h) (Or.inl ⟨by rfl, fun w0 hC => by simp [execOp, Act.eval, Act.put, go_sem]; exact ⟨rfl, rfl, rfl, rfl, rfl, rfl, rfl⟩⟩) hHeld ?_
          try simp only [Act.put, List.setIfInBounds_toArray, List.set_cons_zero, List.set_cons_succ, List.getElem_toArray, List.getElem_cons_zero, List.getElem_cons_succ]
          refine wpAnyH_ready (rs := [33]) (by kernel_rfl) (by simp) (AllReadyH.cons rfl (fun K hK => ?_) AllReadyH.nil)
          rw [if_pos (by rfl)]
          refine oper_store_wide 91 _ _ rfl V0.heap.size (goodC h.e) rfl rfl 91 _ kb.out rfl info_b9 (by intro v hv; simp [goodC] at hv; rcases hv with rfl | rfl | rfl | rfl | rfl | rfl | rfl | rfl | rfl <;> rfl) ?_
          intro W9 hW9
          have hl0 : w.heap.size ≠ V0.heap.size := by have := k0.out.lt; omega
          have z1 : Hid (Bk W9 V0.heap.size 91 (goodC h.e)) := Lib.hid (by rw [hW9.out]; exact kb.out.setRow_same _)
          have z2 : Hid (Bk W9 w.heap.size 29 (evC h)) := Lib.hid (by rw [hW9.out]; exact k1.out.setRow_other hl0 _)
          have z3 : Hid (Below w.heap.size w W9) := Lib.hid (by rw [hW9.out]; exact below_setRow k2.out k3.out _)
          have hSa : Below W2.heap.size W2 W9 := by rw [hW9.out]; exact below_setRow hHeld k4.out _
          clear hHeld hW9
          refine hK.out _ _ hSa (fun hHeld => ?_)
          clear hK K
          try simp only [Act.put, List.setIfInBounds_toArray, List.set_cons_zero, List.set_cons_succ, List.getElem_toArray, List.getElem_cons_zero, List.getElem_cons_succ]
          clear hSa
          refine wpAnyH_done (by kernel_rfl) ?_ _
          go_wp2_with fail
          go_meet
          exact ⟨V0.heap.size, rfl, z1.out, z2.out, z3.out⟩
    case rest =>
      obtain ⟨b5, rfl, hk5, hk1, hb⟩ := hcut
      generalize wc = W3 at *
      have x2 : W3.cell? ⟨w.heap.size, 2, none⟩ = some (.string h.e.box) := hk1.cell 2
      have x3 : W3.cell? ⟨w.heap.size, 3, none⟩ = some (.string h.e.to_) := hk1.cell 3
      have x4 : W3.cell? ⟨w.heap.size, 4, none⟩ = some (.slice h.A1 h.n1 h.c1) := hk1.cell 4
      have x5 : W3.cell? ⟨w.heap.size, 5, none⟩ = some (.slice h.A2 h.n2 h.c2) := hk1.cell 5
      have x6 : W3.cell? ⟨w.heap.size, 6, none⟩ = some (.int .i64 h.e.mode) := hk1.cell 6
      have x7 : W3.cell? ⟨w.heap.size, 7, none⟩ = some (.int .i64 h.e.flags) := hk1.cell 7
      have x8 : W3.cell? ⟨w.heap.size, 8, none⟩ = some (.int .i64 h.e.date) := hk1.cell 8
      have x9 : W3.cell? ⟨w.heap.size, 9, none⟩ = some (.int .i64 h.e.n) := hk1.cell 9
      have x10 : W3.cell? ⟨w.heap.size, 10, none⟩ = some (.slice h.A3 h.n3 h.c3) := hk1.cell 10
      have n98 : h.e.box.toList.isEmpty = noneP h.e 98 := none_text _
      have n116 : h.e.to_.toList.isEmpty = noneP h.e 116 := none_text _
      have n105 : ((h.n1 : Int) == 0) = noneP h.e 105 := none_len HH.out.1.1
      have n115 : ((h.n2 : Int) == 0) = noneP h.e 115 := none_len HH.out.2.1.1
      have n109 : (h.e.mode == 0) = noneP h.e 109 := none_int _
      have n102 : (h.e.flags == 0) = noneP h.e 102 := none_int _
      have n100 : (h.e.date == 0) = noneP h.e 100 := none_int _
      have n110 : (h.e.n == 0) = noneP h.e 110 := none_int _
      have n121 : ((h.n3 : Int) == 0) = noneP h.e 121 := none_len HH.out.2.2.1.1
      have K5 := Lib.hid hk5
      have K1 := Lib.hid hk1
      have KB := Lib.hid hb
      clear hk5 hk1 hb R1 R2
      go_upto_region 7 with (fail)
      refine code_over (fun W => Bk W b5 91 (goodC h.e) ∧ Bk W W3.heap.size 91 (noneC h.e) ∧ Below w.heap.size w W) ⟨K5.out.alloc _, Bk.new _ _ _, KB.out.alloc KB.out.size _⟩ ?_
      rintro W4 ⟨g5, g6, gb⟩
      have G5 := Lib.hid g5
      have G6 := Lib.hid g6
      have GB := Lib.hid gb
      obtain ⟨b6, hb6⟩ : ∃ b, b = W3.heap.size := ⟨_, rfl⟩
      rw [← hb6] at G6 ⊢
      clear hb6 g5 g6 gb K5 K1 KB x2 x3 x4 x5 x6 x7 x8 x9 x10 n98 n116 n105 n115 n109 n102 n100 n110 n121
      go_wp2_with fail
      go_loop [7] (fun i => ∃ k : Nat, k ≤ 9 ∧ i = .int .i64 (k : Int) ∧ ∀ x ∈ nineL.take k, goodAt h.e x = true) (fun i => 9 - (intOf i).toNat)
      case atStart => exact ⟨0, Nat.zero_le _, rfl, by simp⟩
      case round =>
        obtain ⟨k, hk, rfl, hm⟩ := hrel
        have HM := Lib.hid hm
        clear hm
        rcases (by omega : k = 0 ∨ k = 1 ∨ k = 2 ∨ k = 3 ∨ k = 4 ∨ k = 5 ∨ k = 6 ∨ k = 7 ∨ k = 8 ∨ k = 9) with rfl | rfl | rfl | rfl | rfl | rfl | rfl | rfl | rfl | rfl
        · have u : W4.cell? ⟨b5, 0, none⟩ = some (.bool (okQ h.e 98)) := G5.out.cell 0
          have v : W4.cell? ⟨b6, 0, none⟩ = some (.bool (noneP h.e 98)) := G6.out.cell 0
          have CP : Hid (Calls Tryz.prog 36 #[.string (strOf (partsN h.e.kind)), .int .u8 98] W4 fun e w' => e = .returned (.bool (decide (98 ∈ partsN h.e.kind))) ∧ W4 = w') := Lib.hid (xehasP_any h.e.kind 98 W4)
          by_cases hin : 98 ∈ partsN h.e.kind
          · rw [decide_eq_true hin] at CP
            cases hok : okQ h.e 98
            · have HF := Lib.hid (rightD_stop (e := h.e) (c := 98) (by decide) (by rw [good_in hin]; exact hok))
              rw [hok] at u
              clear hok hin
              go_wp2_with fail
              refine CP.out.mono ?_
              rintro e w' ⟨rfl, rfl⟩
              go_wp2_with fail
              go_ret
              exact ⟨by rw [HF.out] <;> rfl, GB.out⟩
            · have HN := Lib.hid (good_next (e := h.e) (k := 0) (c := 98) HM.out rfl (by rw [good_in hin]; exact hok))
              rw [hok] at u
              clear hok hin
              go_wp2_with fail
              refine CP.out.mono ?_
              rintro e w' ⟨rfl, rfl⟩
              go_wp2_with fail
              refine CP.out.mono ?_
              rintro e w' ⟨rfl, rfl⟩
              go_wp2_with fail
              go_round
              case rel => exact ⟨0 + 1, by omega, rfl, HN.out⟩
              case measure => simp [intOf]
          · rw [decide_eq_false hin] at CP
            cases hok : noneP h.e 98
            · have HF := Lib.hid (rightD_stop (e := h.e) (c := 98) (by decide) (by rw [good_out hin]; exact hok))
              rw [hok] at v
              clear hok hin
              go_wp2_with fail
              refine CP.out.mono ?_
              rintro e w' ⟨rfl, rfl⟩
              go_wp2_with fail
              refine CP.out.mono ?_
              rintro e w' ⟨rfl, rfl⟩
              go_wp2_with fail
              go_ret
              exact ⟨by rw [HF.out] <;> rfl, GB.out⟩
            · have HN := Lib.hid (good_next (e := h.e) (k := 0) (c := 98) HM.out rfl (by rw [good_out hin]; exact hok))
              rw [hok] at v
              clear hok hin
              go_wp2_with fail
              refine CP.out.mono ?_
              rintro e w' ⟨rfl, rfl⟩
              go_wp2_with fail
              refine CP.out.mono ?_
              rintro e w' ⟨rfl, rfl⟩
              go_wp2_with fail
              go_round
              case rel => exact ⟨0 + 1, by omega, rfl, HN.out⟩
              case measure => simp [intOf]
        · have u : W4.cell? ⟨b5, 1, none⟩ = some (.bool (okQ h.e 116)) := G5.out.cell 1
          have v : W4.cell? ⟨b6, 1, none⟩ = some (.bool (noneP h.e 116)) := G6.out.cell 1
          have CP : Hid (Calls Tryz.prog 36 #[.string (strOf (partsN h.e.kind)), .int .u8 116] W4 fun e w' => e = .returned (.bool (decide (116 ∈ partsN h.e.kind))) ∧ W4 = w') := Lib.hid (xehasP_any h.e.kind 116 W4)
          by_cases hin : 116 ∈ partsN h.e.kind
          · rw [decide_eq_true hin] at CP
            cases hok : okQ h.e 116
            · have HF := Lib.hid (rightD_stop (e := h.e) (c := 116) (by decide) (by rw [good_in hin]; exact hok))
              rw [hok] at u
              clear hok hin
              go_wp2_with fail
              refine CP.out.mono ?_
              rintro e w' ⟨rfl, rfl⟩
              go_wp2_with fail
              go_ret
              exact ⟨by rw [HF.out] <;> rfl, GB.out⟩
            · have HN := Lib.hid (good_next (e := h.e) (k := 1) (c := 116) HM.out rfl (by rw [good_in hin]; exact hok))
              rw [hok] at u
              clear hok hin
              go_wp2_with fail
              refine CP.out.mono ?_
              rintro e w' ⟨rfl, rfl⟩
              go_wp2_with fail
              refine CP.out.mono ?_
              rintro e w' ⟨rfl, rfl⟩
              go_wp2_with fail
              go_round
              case rel => exact ⟨1 + 1, by omega, rfl, HN.out⟩
              case measure => simp [intOf]
          · rw [decide_eq_false hin] at CP
            cases hok : noneP h.e 116
            · have HF := Lib.hid (rightD_stop (e := h.e) (c := 116) (by decide) (by rw [good_out hin]; exact hok))
              rw [hok] at v
              clear hok hin
              go_wp2_with fail
              refine CP.out.mono ?_
              rintro e w' ⟨rfl, rfl⟩
              go_wp2_with fail
              refine CP.out.mono ?_
              rintro e w' ⟨rfl, rfl⟩
              go_wp2_with fail
              go_ret
              exact ⟨by rw [HF.out] <;> rfl, GB.out⟩
            · have HN := Lib.hid (good_next (e := h.e) (k := 1) (c := 116) HM.out rfl (by rw [good_out hin]; exact hok))
              rw [hok] at v
              clear hok hin
              go_wp2_with fail
              refine CP.out.mono ?_
              rintro e w' ⟨rfl, rfl⟩
              go_wp2_with fail
              refine CP.out.mono ?_
              rintro e w' ⟨rfl, rfl⟩
              go_wp2_with fail
              go_round
              case rel => exact ⟨1 + 1, by omega, rfl, HN.out⟩
              case measure => simp [intOf]
        · have u : W4.cell? ⟨b5, 2, none⟩ = some (.bool (okQ h.e 105)) := G5.out.cell 2
          have v : W4.cell? ⟨b6, 2, none⟩ = some (.bool (noneP h.e 105)) := G6.out.cell 2
          have CP : Hid (Calls Tryz.prog 36 #[.string (strOf (partsN h.e.kind)), .int .u8 105] W4 fun e w' => e = .returned (.bool (decide (105 ∈ partsN h.e.kind))) ∧ W4 = w') := Lib.hid (xehasP_any h.e.kind 105 W4)
          by_cases hin : 105 ∈ partsN h.e.kind
          · rw [decide_eq_true hin] at CP
            cases hok : okQ h.e 105
            · have HF := Lib.hid (rightD_stop (e := h.e) (c := 105) (by decide) (by rw [good_in hin]; exact hok))
              rw [hok] at u
              clear hok hin
              go_wp2_with fail
              refine CP.out.mono ?_
              rintro e w' ⟨rfl, rfl⟩
              go_wp2_with fail
              go_ret
              exact ⟨by rw [HF.out] <;> rfl, GB.out⟩
            · have HN := Lib.hid (good_next (e := h.e) (k := 2) (c := 105) HM.out rfl (by rw [good_in hin]; exact hok))
              rw [hok] at u
              clear hok hin
              go_wp2_with fail
              refine CP.out.mono ?_
              rintro e w' ⟨rfl, rfl⟩
              go_wp2_with fail
              refine CP.out.mono ?_
              rintro e w' ⟨rfl, rfl⟩
              go_wp2_with fail
              go_round
              case rel => exact ⟨2 + 1, by omega, rfl, HN.out⟩
              case measure => simp [intOf]
          · rw [decide_eq_false hin] at CP
            cases hok : noneP h.e 105
            · have HF := Lib.hid (rightD_stop (e := h.e) (c := 105) (by decide) (by rw [good_out hin]; exact hok))
              rw [hok] at v
              clear hok hin
              go_wp2_with fail
              refine CP.out.mono ?_
              rintro e w' ⟨rfl, rfl⟩
              go_wp2_with fail
              refine CP.out.mono ?_
              rintro e w' ⟨rfl, rfl⟩
              go_wp2_with fail
              go_ret
              exact ⟨by rw [HF.out] <;> rfl, GB.out⟩
            · have HN := Lib.hid (good_next (e := h.e) (k := 2) (c := 105) HM.out rfl (by rw [good_out hin]; exact hok))
              rw [hok] at v
              clear hok hin
              go_wp2_with fail
              refine CP.out.mono ?_
              rintro e w' ⟨rfl, rfl⟩
              go_wp2_with fail
              refine CP.out.mono ?_
              rintro e w' ⟨rfl, rfl⟩
              go_wp2_with fail
              go_round
              case rel => exact ⟨2 + 1, by omega, rfl, HN.out⟩
              case measure => simp [intOf]
        · have u : W4.cell? ⟨b5, 3, none⟩ = some (.bool (okQ h.e 115)) := G5.out.cell 3
          have v : W4.cell? ⟨b6, 3, none⟩ = some (.bool (noneP h.e 115)) := G6.out.cell 3
          have CP : Hid (Calls Tryz.prog 36 #[.string (strOf (partsN h.e.kind)), .int .u8 115] W4 fun e w' => e = .returned (.bool (decide (115 ∈ partsN h.e.kind))) ∧ W4 = w') := Lib.hid (xehasP_any h.e.kind 115 W4)
          by_cases hin : 115 ∈ partsN h.e.kind
          · rw [decide_eq_true hin] at CP
            cases hok : okQ h.e 115
            · have HF := Lib.hid (rightD_stop (e := h.e) (c := 115) (by decide) (by rw [good_in hin]; exact hok))
              rw [hok] at u
              clear hok hin
              go_wp2_with fail
              refine CP.out.mono ?_
              rintro e w' ⟨rfl, rfl⟩
              go_wp2_with fail
              go_ret
              exact ⟨by rw [HF.out] <;> rfl, GB.out⟩
            · have HN := Lib.hid (good_next (e := h.e) (k := 3) (c := 115) HM.out rfl (by rw [good_in hin]; exact hok))
              rw [hok] at u
              clear hok hin
              go_wp2_with fail
              refine CP.out.mono ?_
              rintro e w' ⟨rfl, rfl⟩
              go_wp2_with fail
              refine CP.out.mono ?_
              rintro e w' ⟨rfl, rfl⟩
              go_wp2_with fail
              go_round
              case rel => exact ⟨3 + 1, by omega, rfl, HN.out⟩
              case measure => simp [intOf]
          · rw [decide_eq_false hin] at CP
            cases hok : noneP h.e 115
            · have HF := Lib.hid (rightD_stop (e := h.e) (c := 115) (by decide) (by rw [good_out hin]; exact hok))
              rw [hok] at v
              clear hok hin
              go_wp2_with fail
              refine CP.out.mono ?_
              rintro e w' ⟨rfl, rfl⟩
              go_wp2_with fail
              refine CP.out.mono ?_
              rintro e w' ⟨rfl, rfl⟩
              go_wp2_with fail
              go_ret
              exact ⟨by rw [HF.out] <;> rfl, GB.out⟩
            · have HN := Lib.hid (good_next (e := h.e) (k := 3) (c := 115) HM.out rfl (by rw [good_out hin]; exact hok))
              rw [hok] at v
              clear hok hin
              go_wp2_with fail
              refine CP.out.mono ?_
              rintro e w' ⟨rfl, rfl⟩
              go_wp2_with fail
              refine CP.out.mono ?_
              rintro e w' ⟨rfl, rfl⟩
              go_wp2_with fail
              go_round
              case rel => exact ⟨3 + 1, by omega, rfl, HN.out⟩
              case measure => simp [intOf]
        · have u : W4.cell? ⟨b5, 4, none⟩ = some (.bool (okQ h.e 109)) := G5.out.cell 4
          have v : W4.cell? ⟨b6, 4, none⟩ = some (.bool (noneP h.e 109)) := G6.out.cell 4
          have CP : Hid (Calls Tryz.prog 36 #[.string (strOf (partsN h.e.kind)), .int .u8 109] W4 fun e w' => e = .returned (.bool (decide (109 ∈ partsN h.e.kind))) ∧ W4 = w') := Lib.hid (xehasP_any h.e.kind 109 W4)
          by_cases hin : 109 ∈ partsN h.e.kind
          · rw [decide_eq_true hin] at CP
            cases hok : okQ h.e 109
            · have HF := Lib.hid (rightD_stop (e := h.e) (c := 109) (by decide) (by rw [good_in hin]; exact hok))
              rw [hok] at u
              clear hok hin
              go_wp2_with fail
              refine CP.out.mono ?_
              rintro e w' ⟨rfl, rfl⟩
              go_wp2_with fail
              go_ret
              exact ⟨by rw [HF.out] <;> rfl, GB.out⟩
            · have HN := Lib.hid (good_next (e := h.e) (k := 4) (c := 109) HM.out rfl (by rw [good_in hin]; exact hok))
              rw [hok] at u
              clear hok hin
              go_wp2_with fail
              refine CP.out.mono ?_
              rintro e w' ⟨rfl, rfl⟩
              go_wp2_with fail
              refine CP.out.mono ?_
              rintro e w' ⟨rfl, rfl⟩
              go_wp2_with fail
              go_round
              case rel => exact ⟨4 + 1, by omega, rfl, HN.out⟩
              case measure => simp [intOf]
          · rw [decide_eq_false hin] at CP
            cases hok : noneP h.e 109
            · have HF := Lib.hid (rightD_stop (e := h.e) (c := 109) (by decide) (by rw [good_out hin]; exact hok))
              rw [hok] at v
              clear hok hin
              go_wp2_with fail
              refine CP.out.mono ?_
              rintro e w' ⟨rfl, rfl⟩
              go_wp2_with fail
              refine CP.out.mono ?_
              rintro e w' ⟨rfl, rfl⟩
              go_wp2_with fail
              go_ret
              exact ⟨by rw [HF.out] <;> rfl, GB.out⟩
            · have HN := Lib.hid (good_next (e := h.e) (k := 4) (c := 109) HM.out rfl (by rw [good_out hin]; exact hok))
              rw [hok] at v
              clear hok hin
              go_wp2_with fail
              refine CP.out.mono ?_
              rintro e w' ⟨rfl, rfl⟩
              go_wp2_with fail
              refine CP.out.mono ?_
              rintro e w' ⟨rfl, rfl⟩
              go_wp2_with fail
              go_round
              case rel => exact ⟨4 + 1, by omega, rfl, HN.out⟩
              case measure => simp [intOf]
        · have u : W4.cell? ⟨b5, 5, none⟩ = some (.bool (okQ h.e 102)) := G5.out.cell 5
          have v : W4.cell? ⟨b6, 5, none⟩ = some (.bool (noneP h.e 102)) := G6.out.cell 5
          have CP : Hid (Calls Tryz.prog 36 #[.string (strOf (partsN h.e.kind)), .int .u8 102] W4 fun e w' => e = .returned (.bool (decide (102 ∈ partsN h.e.kind))) ∧ W4 = w') := Lib.hid (xehasP_any h.e.kind 102 W4)
          by_cases hin : 102 ∈ partsN h.e.kind
          · rw [decide_eq_true hin] at CP
            cases hok : okQ h.e 102
            · have HF := Lib.hid (rightD_stop (e := h.e) (c := 102) (by decide) (by rw [good_in hin]; exact hok))
              rw [hok] at u
              clear hok hin
              go_wp2_with fail
              refine CP.out.mono ?_
              rintro e w' ⟨rfl, rfl⟩
              go_wp2_with fail
              go_ret
              exact ⟨by rw [HF.out] <;> rfl, GB.out⟩
            · have HN := Lib.hid (good_next (e := h.e) (k := 5) (c := 102) HM.out rfl (by rw [good_in hin]; exact hok))
              rw [hok] at u
              clear hok hin
              go_wp2_with fail
              refine CP.out.mono ?_
              rintro e w' ⟨rfl, rfl⟩
              go_wp2_with fail
              refine CP.out.mono ?_
              rintro e w' ⟨rfl, rfl⟩
              go_wp2_with fail
              go_round
              case rel => exact ⟨5 + 1, by omega, rfl, HN.out⟩
              case measure => simp [intOf]
          · rw [decide_eq_false hin] at CP
            cases hok : noneP h.e 102
            · have HF := Lib.hid (rightD_stop (e := h.e) (c := 102) (by decide) (by rw [good_out hin]; exact hok))
              rw [hok] at v
              clear hok hin
              go_wp2_with fail
              refine CP.out.mono ?_
              rintro e w' ⟨rfl, rfl⟩
              go_wp2_with fail
              refine CP.out.mono ?_
              rintro e w' ⟨rfl, rfl⟩
              go_wp2_with fail
              go_ret
              exact ⟨by rw [HF.out] <;> rfl, GB.out⟩
            · have HN := Lib.hid (good_next (e := h.e) (k := 5) (c := 102) HM.out rfl (by rw [good_out hin]; exact hok))
              rw [hok] at v
              clear hok hin
              go_wp2_with fail
              refine CP.out.mono ?_
              rintro e w' ⟨rfl, rfl⟩
              go_wp2_with fail
              refine CP.out.mono ?_
              rintro e w' ⟨rfl, rfl⟩
              go_wp2_with fail
              go_round
              case rel => exact ⟨5 + 1, by omega, rfl, HN.out⟩
              case measure => simp [intOf]
        · have u : W4.cell? ⟨b5, 6, none⟩ = some (.bool (okQ h.e 100)) := G5.out.cell 6
          have v : W4.cell? ⟨b6, 6, none⟩ = some (.bool (noneP h.e 100)) := G6.out.cell 6
          have CP : Hid (Calls Tryz.prog 36 #[.string (strOf (partsN h.e.kind)), .int .u8 100] W4 fun e w' => e = .returned (.bool (decide (100 ∈ partsN h.e.kind))) ∧ W4 = w') := Lib.hid (xehasP_any h.e.kind 100 W4)
          by_cases hin : 100 ∈ partsN h.e.kind
          · rw [decide_eq_true hin] at CP
            cases hok : okQ h.e 100
            · have HF := Lib.hid (rightD_stop (e := h.e) (c := 100) (by decide) (by rw [good_in hin]; exact hok))
              rw [hok] at u
              clear hok hin
              go_wp2_with fail
              refine CP.out.mono ?_
              rintro e w' ⟨rfl, rfl⟩
              go_wp2_with fail
              go_ret
              exact ⟨by rw [HF.out] <;> rfl, GB.out⟩
            · have HN := Lib.hid (good_next (e := h.e) (k := 6) (c := 100) HM.out rfl (by rw [good_in hin]; exact hok))
              rw [hok] at u
              clear hok hin
              go_wp2_with fail
              refine CP.out.mono ?_
              rintro e w' ⟨rfl, rfl⟩
              go_wp2_with fail
              refine CP.out.mono ?_
              rintro e w' ⟨rfl, rfl⟩
              go_wp2_with fail
              go_round
              case rel => exact ⟨6 + 1, by omega, rfl, HN.out⟩
              case measure => simp [intOf]
          · rw [decide_eq_false hin] at CP
            cases hok : noneP h.e 100
            · have HF := Lib.hid (rightD_stop (e := h.e) (c := 100) (by decide) (by rw [good_out hin]; exact hok))
              rw [hok] at v
              clear hok hin
              go_wp2_with fail
              refine CP.out.mono ?_
              rintro e w' ⟨rfl, rfl⟩
              go_wp2_with fail
              refine CP.out.mono ?_
              rintro e w' ⟨rfl, rfl⟩
              go_wp2_with fail
              go_ret
              exact ⟨by rw [HF.out] <;> rfl, GB.out⟩
            · have HN := Lib.hid (good_next (e := h.e) (k := 6) (c := 100) HM.out rfl (by rw [good_out hin]; exact hok))
              rw [hok] at v
              clear hok hin
              go_wp2_with fail
              refine CP.out.mono ?_
              rintro e w' ⟨rfl, rfl⟩
              go_wp2_with fail
              refine CP.out.mono ?_
              rintro e w' ⟨rfl, rfl⟩
              go_wp2_with fail
              go_round
              case rel => exact ⟨6 + 1, by omega, rfl, HN.out⟩
              case measure => simp [intOf]
        · have u : W4.cell? ⟨b5, 7, none⟩ = some (.bool (okQ h.e 110)) := G5.out.cell 7
          have v : W4.cell? ⟨b6, 7, none⟩ = some (.bool (noneP h.e 110)) := G6.out.cell 7
          have CP : Hid (Calls Tryz.prog 36 #[.string (strOf (partsN h.e.kind)), .int .u8 110] W4 fun e w' => e = .returned (.bool (decide (110 ∈ partsN h.e.kind))) ∧ W4 = w') := Lib.hid (xehasP_any h.e.kind 110 W4)
          by_cases hin : 110 ∈ partsN h.e.kind
          · rw [decide_eq_true hin] at CP
            cases hok : okQ h.e 110
            · have HF := Lib.hid (rightD_stop (e := h.e) (c := 110) (by decide) (by rw [good_in hin]; exact hok))
              rw [hok] at u
              clear hok hin
              go_wp2_with fail
              refine CP.out.mono ?_
              rintro e w' ⟨rfl, rfl⟩
              go_wp2_with fail
              go_ret
              exact ⟨by rw [HF.out] <;> rfl, GB.out⟩
            · have HN := Lib.hid (good_next (e := h.e) (k := 7) (c := 110) HM.out rfl (by rw [good_in hin]; exact hok))
              rw [hok] at u
              clear hok hin
              go_wp2_with fail
              refine CP.out.mono ?_
              rintro e w' ⟨rfl, rfl⟩
              go_wp2_with fail
              refine CP.out.mono ?_
              rintro e w' ⟨rfl, rfl⟩
              go_wp2_with fail
              go_round
              case rel => exact ⟨7 + 1, by omega, rfl, HN.out⟩
              case measure => simp [intOf]
          · rw [decide_eq_false hin] at CP
            cases hok : noneP h.e 110
            · have HF := Lib.hid (rightD_stop (e := h.e) (c := 110) (by decide) (by rw [good_out hin]; exact hok))
              rw [hok] at v
              clear hok hin
              go_wp2_with fail
              refine CP.out.mono ?_
              rintro e w' ⟨rfl, rfl⟩
              go_wp2_with fail
              refine CP.out.mono ?_
              rintro e w' ⟨rfl, rfl⟩
              go_wp2_with fail
              go_ret
              exact ⟨by rw [HF.out] <;> rfl, GB.out⟩
            · have HN := Lib.hid (good_next (e := h.e) (k := 7) (c := 110) HM.out rfl (by rw [good_out hin]; exact hok))
              rw [hok] at v
              clear hok hin
              go_wp2_with fail
              refine CP.out.mono ?_
              rintro e w' ⟨rfl, rfl⟩
              go_wp2_with fail
              refine CP.out.mono ?_
              rintro e w' ⟨rfl, rfl⟩
              go_wp2_with fail
              go_round
              case rel => exact ⟨7 + 1, by omega, rfl, HN.out⟩
              case measure => simp [intOf]
        · have u : W4.cell? ⟨b5, 8, none⟩ = some (.bool (okQ h.e 121)) := G5.out.cell 8
          have v : W4.cell? ⟨b6, 8, none⟩ = some (.bool (noneP h.e 121)) := G6.out.cell 8
          have CP : Hid (Calls Tryz.prog 36 #[.string (strOf (partsN h.e.kind)), .int .u8 121] W4 fun e w' => e = .returned (.bool (decide (121 ∈ partsN h.e.kind))) ∧ W4 = w') := Lib.hid (xehasP_any h.e.kind 121 W4)
          by_cases hin : 121 ∈ partsN h.e.kind
          · rw [decide_eq_true hin] at CP
            cases hok : okQ h.e 121
            · have HF := Lib.hid (rightD_stop (e := h.e) (c := 121) (by decide) (by rw [good_in hin]; exact hok))
              rw [hok] at u
              clear hok hin
              go_wp2_with fail
              refine CP.out.mono ?_
              rintro e w' ⟨rfl, rfl⟩
              go_wp2_with fail
              go_ret
              exact ⟨by rw [HF.out] <;> rfl, GB.out⟩
            · have HN := Lib.hid (good_next (e := h.e) (k := 8) (c := 121) HM.out rfl (by rw [good_in hin]; exact hok))
              rw [hok] at u
              clear hok hin
              go_wp2_with fail
              refine CP.out.mono ?_
              rintro e w' ⟨rfl, rfl⟩
              go_wp2_with fail
              refine CP.out.mono ?_
              rintro e w' ⟨rfl, rfl⟩
              go_wp2_with fail
              go_round
              case rel => exact ⟨8 + 1, by omega, rfl, HN.out⟩
              case measure => simp [intOf]
          · rw [decide_eq_false hin] at CP
            cases hok : noneP h.e 121
            · have HF := Lib.hid (rightD_stop (e := h.e) (c := 121) (by decide) (by rw [good_out hin]; exact hok))
              rw [hok] at v
              clear hok hin
              go_wp2_with fail
              refine CP.out.mono ?_
              rintro e w' ⟨rfl, rfl⟩
              go_wp2_with fail
              refine CP.out.mono ?_
              rintro e w' ⟨rfl, rfl⟩
              go_wp2_with fail
              go_ret
              exact ⟨by rw [HF.out] <;> rfl, GB.out⟩
            · have HN := Lib.hid (good_next (e := h.e) (k := 8) (c := 121) HM.out rfl (by rw [good_out hin]; exact hok))
              rw [hok] at v
              clear hok hin
              go_wp2_with fail
              refine CP.out.mono ?_
              rintro e w' ⟨rfl, rfl⟩
              go_wp2_with fail
              refine CP.out.mono ?_
              rintro e w' ⟨rfl, rfl⟩
              go_wp2_with fail
              go_round
              case rel => exact ⟨8 + 1, by omega, rfl, HN.out⟩
              case measure => simp [intOf]
        · have HT2 := Lib.hid (rightD_yes HP0.out HT.out (fun c hc => HM.out c (by rwa [List.take_of_length_le (by decide)])))
          go_wp2_with fail
          go_ret
          exact ⟨by rw [HT2.out] <;> rfl, GB.out⟩
end Go.Proofs.YtoiffchhfnbooaaGreatDoor
