/-
  Contracts over what package rule calls of the library: rules deleted.
-/
import Derived.Test.YtkalnaidccgbiaaRuleF
namespace Go.Proofs.Ytkalnaidccgbiaa
open Go.RowKit
set_option linter.unusedVariables false
set_option linter.unusedSimpArgs false

def neR (box : ByteArray) (l : List Rul) : List Rul := l.filter (fun r => decide (r.1 ≠ box))
theorem neR_all {box : ByteArray} {l : List Rul} (h : ∀ r ∈ l, r.1 ≠ box) : neR box l = l := List.filter_eq_self.2 fun r hr => decide_eq_true (h r hr)
theorem neR_snoc_no {box : ByteArray} {l : List Rul} {k : Nat} {r : Rul} (e : l[k]? = some r) (h : r.1 = box) : neR box (l.take (k + 1)) = neR box (l.take k) := by
  rw [take_snoc_l l k r e]; unfold neR; rw [List.filter_append, List.filter_cons_of_neg (by simp [h]), List.filter_nil, List.append_nil]
theorem neR_snoc_yes {box : ByteArray} {l : List Rul} {k : Nat} {r : Rul} (e : l[k]? = some r) (h : r.1 ≠ box) : neR box (l.take (k + 1)) = neR box (l.take k) ++ [r] := by
  rw [take_snoc_l l k r e]; unfold neR; rw [List.filter_append, List.filter_cons_of_pos (by simp [h]), List.filter_nil]
/-- the state of the sweep: i rows are kept, j are seen -/
def Swept (box : ByteArray) (l m : List Rul) (i j : Nat) : Prop := m.length = l.length ∧ i < j ∧ j ≤ l.length ∧ m.take i = neR box (l.take j) ∧ m.drop j = l.drop j
theorem Swept.at_ {box : ByteArray} {l m : List Rul} {i j : Nat} (h : Swept box l m i j) : m[j]? = l[j]? := by
  obtain ⟨_, _, _, _, h⟩ := h
  have := congrArg (fun q => q[0]?) h
  simpa using this
theorem Swept.no {box : ByteArray} {l m : List Rul} {i j : Nat} {r : Rul} (h : Swept box l m i j) (e : l[j]? = some r) (hr : r.1 = box) : Swept box l m i (j + 1) := by
  obtain ⟨h1, h2, h3, h4, h5⟩ := h
  have hj : j < l.length := (List.getElem?_eq_some_iff.1 e).1
  refine ⟨h1, by omega, by omega, by rw [neR_snoc_no e hr, h4], ?_⟩
  rw [← List.drop_drop, ← List.drop_drop, h5]
theorem Swept.yes {box : ByteArray} {l m : List Rul} {i j : Nat} {r : Rul} (h : Swept box l m i j) (e : l[j]? = some r) (hr : r.1 ≠ box) : Swept box l (m.set i r) (i + 1) (j + 1) := by
  obtain ⟨h1, h2, h3, h4, h5⟩ := h
  have hj : j < l.length := (List.getElem?_eq_some_iff.1 e).1
  refine ⟨by rw [List.length_set, h1], by omega, by omega, ?_, ?_⟩
  · rw [neR_snoc_yes e hr, ← h4, take_snoc_l (m.set i r) i r (by rw [List.getElem?_set_self (by omega)]), List.take_set_of_le (Nat.le_refl _)]
  · rw [List.drop_set_of_lt (by omega), ← List.drop_drop, ← List.drop_drop, h5]
theorem Swept.start {box : ByteArray} {l : List Rul} {j : Nat} {r : Rul} (hu : ∀ x ∈ l.take j, x.1 ≠ box) (e : l[j]? = some r) (hr : r.1 = box) : Swept box l l j (j + 1) := by
  have hj : j < l.length := (List.getElem?_eq_some_iff.1 e).1
  exact ⟨rfl, by omega, by omega, by rw [neR_snoc_no e hr, neR_all hu], rfl⟩
theorem Swept.done {box : ByteArray} {l m : List Rul} {i : Nat} (h : Swept box l m i l.length) : m.take i = neR box l ∧ i < l.length ∧ i ≤ m.length := by
  obtain ⟨h1, h2, h3, h4, h5⟩ := h
  rw [List.take_of_length_le (Nat.le_refl _)] at h4
  exact ⟨h4, h2, by omega⟩

theorem wp_clear_k {P : Program} {o : Oper} {a : Act} {w w' : World} {K : Act → World → Prop} {Q : Exit → Act → World → Prop} {s : Operand} {t : TypeId} {v z : Value} (ho : o.op = .call { callee := .builtin .clear, args := #[s], argTypes := #[t] })
    (hs : a.eval s = v) (hrun : (Builtin.clear_ #[t] o.type #[v]).run P w = .ok z w') (hK : K (a.put o.dst z) w') : o.wp P a w K Q := by
  unfold Oper.wp execOp
  simp only [ho, resolve, invoke, builtin, Sem.run_bind, Sem.run_pure, Result.andThen_ok, List.map_toArray, List.map_cons, List.map_nil, hs, hrun]
  exact hK
theorem zero_rul : ∀ n, ∀ v ∈ (Builtin.zeroCells (Value.agg #[.string ByteArray.empty, .int .i64 0]).cells n).toList, v.oneCell' = true := by
  intro n
  refine zero_one ?_ (by decide) n
  intro v hv
  simp only [Value.cells, List.mem_cons, List.not_mem_nil, or_false] at hv
  rcases hv with rfl | rfl <;> rfl
set_option maxRecDepth 20000 in
set_option maxHeartbeats 8000000 in
theorem rlDelete_any (base : Nat) (A : Option Addr) (n c bb : Nat) (box : ByteArray) (l : List Rul) (w : World) (hl : OwnK 2 rulC w base 54 A n c l) (hn : n ≤ 1000000) (hA : w.cell? ⟨bb, 0, none⟩ = some (.string box)) (hbb : bb < base) (hbw : base ≤ w.heap.size) :
    Calls Try.prog 29 #[.slice A n c, .func (.func 31) #[] #[.pointer (some ⟨bb, 0, none⟩)]] w fun e w' => ∃ A' n', e = .returned (.slice A' n' c) ∧ n' ≤ n ∧ OwnK 2 rulC w' base 54 A' n' c (neR box l) ∧ Below base w w' := by
  have HO := Lib.hid hl
  have HA := Lib.hid hA
  have CI := Lib.hid (rlindexR_any A n c bb box l w hl.col (by omega) hA)
  clear hl hA
  go_enter Try.func29, Try.ntmps29
  go_wp2_with fail
  refine CI.out.mono ?_
  rintro e w1 ⟨z, rfl, hf, ha, hb⟩
  have HB := Lib.hid hb
  have HAT := Lib.hid ha
  have HF := Lib.hid hf
  clear hb ha hf CI
  rcases HF.out with ⟨hz, hall⟩ | ⟨j, hz, hj, hu⟩
  · have HALL := Lib.hid hall
    clear hall
    subst hz
    go_wp2_with fail
    go_ret
    exact ⟨A, n, rfl, Nat.le_refl _, by rw [neR_all HALL.out]; exact HO.out.below HB.out, HB.out.mono hbw⟩
  · obtain ⟨r, hr, hrb⟩ := HAT.out j hz
    subst hz
    obtain ⟨g, rfl, hbg, hR⟩ := HO.out.rows (by omega)
    have HL := Lib.hid HO.out.len
    have HSW := Lib.hid (Swept.start hu hr hrb)
    have HR := Lib.hid (hR.below HB.out)
    have HGB := Lib.hid hbg
    have hj1 : ((j : Int) == -1) = false := by simp
    have hnc : n ≤ c := HO.out.cap.1
    have hcm : c ≤ 9223372036854775807 := HO.out.cap.2
    clear hu hr hrb hR hbg HF
    go_wp2_with fail
    go_loopw [5, 6] (fun a b wx => ∃ (i j : Nat) (m : List Rul), a = .int .i64 (i : Int) ∧ b = .int .i64 (j : Int) ∧ j ≤ n ∧ i < j ∧ Swept box l m i j ∧ RowsK 2 rulC wx 54 g c m ∧ Below base w wx) (fun _ b _ => n - (intOf b).toNat)
    case atStart => exact ⟨j, j + 1, l, rfl, by go_num, by omega, by omega, HSW.out, HR.out, HB.out.mono hbw⟩
    case round =>
      clear HSW HR HB
      obtain ⟨i, q, m, rfl, rfl, hq, hiq, hsw, hrw, hb⟩ := hrel
      have HSW := Lib.hid hsw
      have HR := Lib.hid hrw
      have HB := Lib.hid hb
      clear hsw hrw hb
      by_cases hlt : q < n
      · obtain ⟨x, hx⟩ : ∃ x, l[q]? = some x := ⟨l[q]'(by rw [HL.out]; exact hlt), List.getElem?_eq_getElem _⟩
        have HX := Lib.hid hx
        have HRX := Lib.hid (HR.out.range (HSW.out.at_.trans hx))
        have hq0 : (0 : Int) ≤ (q : Int) := by omega
        have hqn : (q : Int) < (n : Int) := by omega
        clear hx
        obtain ⟨x1, x2⟩ := x
        have CS := Lib.hid (fun W h => (show Calls Try.prog 31 #[.agg #[.string x1, .int .i64 x2], .pointer (some ⟨bb, 0, none⟩)] W fun e w' => e = .returned (.bool (decide (x1 = box))) ∧ Below W.heap.size W w' from rlSet1_any (x1, x2) bb box W h))
        have hsz := Nat.le_trans hbw HB.out.size
        have HAC : Hid (wr.cell? ⟨bb, 0, none⟩ = some (.string box)) := Lib.hid ((HB.out.cell (p := ⟨bb, 0, none⟩) hbb).trans HA.out)
        go_wp2_with ((with_reducible show wpList _ _ _ (⟨some 25, _, _, _, _, _⟩ :: _) _ _); refine hold ?_)
        refine held (wpList_load_mid rfl 54 (.tmp 24) rfl g (q * 2) rfl (rulC (x1, x2)) _ HRX.out Try.underlying54 rfl (by kernel_rfl) ?_)
        unfold rulC
        go_wp2_with fail
        have hba : Below wr.heap.size wr (wr.alloc (.cells #[.string x1, .int .i64 x2] 54)) := (Below.refl _ _).alloc (Nat.le_refl _) _
        refine (CS.out _ ((hba.cell (p := ⟨bb, 0, none⟩) (show bb < wr.heap.size by omega)).trans HAC.out)).mono ?_
        rintro e w3 ⟨rfl, hb3⟩
        have hb4 := hba.trans (hb3.mono hba.size)
        have K3 := Lib.hid ((Bk.new wr 54 #[.string x1, .int .i64 x2]).below hb3 (by simp))
        have R3 := Lib.hid (HR.out.below hb4)
        have B3 := Lib.hid (HB.out.trans (hb4.mono hsz))
        clear hb3 hb4 hba HR HB HAC HRX CS
        by_cases hok : x1 = box
        · rw [decide_eq_true hok]
          have HS := Lib.hid (HSW.out.no HX.out hok)
          clear hok K3
          go_wp2_with fail
          go_roundw
          case rel => exact ⟨i, q + 1, m, rfl, by go_num, by omega, by omega, HS.out, R3.out, B3.out⟩
          case measure => simp [intOf]; omega
        · rw [decide_eq_false hok]
          have HS := Lib.hid (HSW.out.yes HX.out hok)
          have hi0 : (0 : Int) ≤ (i : Int) := by omega
          have hin : (i : Int) < (n : Int) := by omega
          have him : i < m.length := by have := HSW.out.1; have := HL.out; omega
          clear hok
          go_wp2_with ((with_reducible show wpList _ _ _ (⟨some 32, _, _, _, _, _⟩ :: _) _ _); refine hold ?_)
          refine held (wpList_load_mid rfl 54 (.tmp 7) rfl wr.heap.size 0 rfl _ _ K3.out.range Try.underlying54 rfl (by kernel_rfl) ?_)
          go_wp2_with ((with_reducible show wpList _ _ _ (⟨none, _, _, _, _, _⟩ :: _) _ _); refine hold ?_)
          refine held (wpList_store_row rfl 54 (.tmp 33) (.tmp 32) rfl R3.out i him (x1, x2) rfl rfl (by kernel_rfl) (rulC_one _) ?_)
          intro w5 hR5 hg5
          have R5 := Lib.hid hR5
          have B5 := Lib.hid (B3.out.grown hg5 (Nat.le_trans hbw B3.out.size) (fun k hk => by cases hk; exact HGB.out))
          clear hR5 hg5 R3 B3 K3
          go_wp2_with fail
          go_roundw
          case rel => exact ⟨i + 1, q + 1, _, by go_num, by go_num, by omega, by omega, HS.out, R5.out, B5.out⟩
          case measure => simp [intOf]; omega
      · have hqn : ¬ (q : Int) < (n : Int) := by omega
        obtain rfl : q = l.length := by have := HL.out; omega
        have HD := Lib.hid HSW.out.done
        have hin : i < n := by have := HD.out.2.1; have := HL.out; omega
        have him : i ≤ m.length := HD.out.2.2
        have hi0 : (0 : Int) ≤ (i : Int) := by omega
        have hil : (i : Int) ≤ (n : Int) := by omega
        have hic : ¬ (c = i) := by omega
        obtain ⟨cur, hB, hs, hP⟩ := HR.out.cut him
        have HP := Lib.hid hP
        have hzs : (Builtin.zeroCells (Value.agg #[.string ByteArray.empty, .int .i64 0]).cells (n - i)).size = (n - i) * 2 := by rw [size_zeroCells]; rfl
        have HCL := Lib.hid (fun ty cc => run_clear_k (P := Try.prog) wr 22 54 ty (.agg #[.string ByteArray.empty, .int .i64 0]) Try.underlying22 Try.zeroValue54 g (i * 2) (n - i) cc (by omega) cur 54 hB (zero_rul _) (by rw [hzs, hs, ← Nat.add_mul]; exact Nat.mul_le_mul_right _ (by omega)))
        have HP2 := Lib.hid (HP.out (Builtin.zeroCells (Value.agg #[.string ByteArray.empty, .int .i64 0]).cells (n - i)).toList (by rw [Array.length_toList, hzs, ← Nat.add_mul]; exact Nat.mul_le_mul_right _ (by omega)))
        clear hP hB hs hzs HP
        go_wp2_with ((with_reducible show wpList _ _ _ (⟨none, _, _, _, _, _⟩ :: _) _ _); refine hold ?_)
        refine held (wpList_plain rfl fun K hK => wp_clear_k (s := .tmp 38) rfl rfl (HCL.out _ _) (hK _ _ ?_))
        have R5 := Lib.hid HP2.out
        have B5 := Lib.hid (fun cs => Ytkalnaidccgbiaa.below_setRow HB.out HGB.out cs)
        go_wp2_with fail
        go_ret
        exact ⟨some ⟨g, 0, none⟩, i, rfl, by omega, by
          have := R5.out.own HGB.out
          rw [HD.out.1, show (neR box l).length = i by rw [← HD.out.1, List.length_take]; omega] at this
          exact this, B5.out _⟩
end Go.Proofs.Ytkalnaidccgbiaa
