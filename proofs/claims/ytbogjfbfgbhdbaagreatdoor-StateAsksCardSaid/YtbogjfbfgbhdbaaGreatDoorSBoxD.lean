/-
  A part of the proof: see the last text.
-/
import Derived.Test.YtbogjfbfgbhdbaaGreatDoorSBoxA
namespace Go.Proofs.YtbogjfbfgbhdbaaGreatDoor
set_option linter.unusedVariables false
set_option linter.unusedSimpArgs false
open Go.RowKit
set_option linter.unusedVariables false
set_option linter.unusedSimpArgs false
def LastIs (l : List Mg) (k : Nat) (la : Int) : Prop := (k = 0 ∧ la = 0) ∨ ∃ j p, k = j + 1 ∧ l[j]? = some p ∧ la = p.uid
theorem last_next {l : List Mg} {k : Nat} {a : Mg} (ha : l[k]? = some a) : LastIs l (k + 1) a.uid := .inr ⟨k, a, rfl, ha, rfl⟩
theorem okTo_step {nx la : Int} {l : List Mg} {k : Nat} {a : Mg} (h : OkTo nx (l.take k)) (hl : LastIs l k la) (ha : l[k]? = some a) (h1 : okMg a = true) (h2 : ¬ nx ≤ a.uid) (h3 : ¬ a.uid ≤ la) : OkTo nx (l.take (k + 1)) := by
  rcases hl with ⟨rfl, rfl⟩ | ⟨j, p, rfl, hp, rfl⟩
  · exact okTo_first ha h1 (by omega)
  · exact okTo_next h hp ha h1 (by omega) (by omega)
theorem okTo_low {nx la : Int} {l : List Mg} {k : Nat} {a : Mg} (hl : LastIs l k la) (ha : l[k]? = some a) (h3 : a.uid ≤ la) : ¬ OkTo nx l := by
  rcases hl with ⟨rfl, rfl⟩ | ⟨j, p, rfl, hp, rfl⟩
  · intro h
    have := (okMg_of (h.1 a (List.mem_of_getElem? ha)).1).1
    omega
  · exact okTo_not hp ha h3
theorem okTo_bad {nx : Int} {l : List Mg} {k : Nat} {a : Mg} (ha : l[k]? = some a) (h : okMg a = false) : ¬ OkTo nx l := fun H => by
  have := (H.1 a (List.mem_of_getElem? ha)).1
  rw [h] at this; cases this
theorem okTo_big {nx : Int} {l : List Mg} {k : Nat} {a : Mg} (ha : l[k]? = some a) (h : nx ≤ a.uid) : ¬ OkTo nx l := fun H => by
  have := (H.1 a (List.mem_of_getElem? ha)).2
  omega
theorem okBx_no5 {nm : ByteArray} {v nx : Int} {l : List Mg} (h : ¬ OkTo nx l) : okBx ⟨nm, v, nx, l⟩ = false := okBx_no (fun q => h q.2.2.2.2.2)
set_option maxRecDepth 20000 in
set_option maxHeartbeats 4000000 in
theorem right_any (nm : ByteArray) (v nx : Int) (A : Option Addr) (n c : Nat) (l : List Mg) (w : World) (hl : MsgsIn w w.heap.size A n l) (hn : n ≤ 140737488355328) :
    Calls Tryz.prog 119 #[.agg #[.string nm, .int .i64 v, .int .i64 nx, .slice A n c]] w fun e w' => e = .returned (.bool (okBx ⟨nm, v, nx, l⟩)) ∧ Below w.heap.size w w' := by
  have h1 : Bk (w.alloc (.cells #[.string nm, .int .i64 v, .int .i64 nx, .slice A n c] 44)) w.heap.size 44 #[.string nm, .int .i64 v, .int .i64 nx, .slice A n c] := Bk.new _ _ _
  have hB : Below w.heap.size w (w.alloc (.cells #[.string nm, .int .i64 v, .int .i64 nx, .slice A n c] 44)) := (Below.refl _ _).alloc (Nat.le_refl _) _
  have HL := Lib.hid hl
  have HN := Lib.hid hl.len
  have HB := Lib.hid hB
  have H1 := Lib.hid h1
  have HZ : Hid ((w.alloc (.cells #[.string nm, .int .i64 v, .int .i64 nx, .slice A n c] 44)).heap.size = w.heap.size + 1) := Lib.hid (by simp)
  have c1 := h1.cell 1
  have c2 := h1.cell 2
  have c3 := h1.cell 3
  clear h1 hB hl
  cases hv : okUID v
  · have HR : Hid (okBx ⟨nm, v, nx, l⟩ = false) := Lib.hid (okBx_no (fun q => by rw [show okUID v = true from decide_eq_true ⟨q.1, q.2.1⟩] at hv; cases hv))
    have HV := Lib.hid hv
    clear hv
    go_enter Tryz.func119, Tryz.ntmps119
    go_wp2_with fail
    refine (isUID_any v _).mono ?_
    rintro e w' ⟨rfl, rfl⟩
    rw [HV.out]
    go_wp2_with fail
    go_ret
    exact ⟨by rw [HR.out] <;> rfl, HB.out⟩
  have HVV : Hid (1 ≤ v ∧ v ≤ 4294967295) := Lib.hid (of_decide_eq_true hv)
  by_cases h1 : nx < 1
  · have HR : Hid (okBx ⟨nm, v, nx, l⟩ = false) := Lib.hid (okBx_no (fun q => by have := q.2.2.1; simp only at this; omega))
    have HV := Lib.hid hv
    clear hv
    go_enter Tryz.func119, Tryz.ntmps119
    go_wp2_with fail
    refine (isUID_any v _).mono ?_
    rintro e w' ⟨rfl, rfl⟩
    rw [HV.out]
    go_wp2_with fail
    go_ret
    exact ⟨by rw [HR.out] <;> rfl, HB.out⟩
  by_cases h2 : 4294967296 < nx
  · have HR : Hid (okBx ⟨nm, v, nx, l⟩ = false) := Lib.hid (okBx_no (fun q => by have := q.2.2.2.1; simp only at this; omega))
    have HV := Lib.hid hv
    clear hv
    go_enter Tryz.func119, Tryz.ntmps119
    go_wp2_with fail
    refine (isUID_any v _).mono ?_
    rintro e w' ⟨rfl, rfl⟩
    rw [HV.out]
    go_wp2_with fail
    go_ret
    exact ⟨by rw [HR.out] <;> rfl, HB.out⟩
  by_cases h3 : 40 < n
  · have HR : Hid (okBx ⟨nm, v, nx, l⟩ = false) := Lib.hid (okBx_no (fun q => by have := q.2.2.2.2.1; simp only at this; rw [HN.out] at this; omega))
    have h3' : (40 : Int) < (n : Int) := by omega
    have HV := Lib.hid hv
    clear hv
    go_enter Tryz.func119, Tryz.ntmps119
    go_wp2_with fail
    refine (isUID_any v _).mono ?_
    rintro e w' ⟨rfl, rfl⟩
    rw [HV.out]
    go_wp2_with fail
    go_ret
    exact ⟨by rw [HR.out] <;> rfl, HB.out⟩
  have h3' : ¬ (40 : Int) < (n : Int) := by omega
  have HYES : Hid (OkTo nx l → okBx ⟨nm, v, nx, l⟩ = true) := Lib.hid (fun h => okBx_yes ⟨HVV.out.1, HVV.out.2, by show 1 ≤ nx; omega, by show nx ≤ _; omega, by show l.length ≤ 40; rw [HN.out]; omega, h⟩)
  have HV := Lib.hid hv
  clear hv
  go_enter Tryz.func119, Tryz.ntmps119
  go_wp2_with fail
  refine (isUID_any v _).mono ?_
  rintro e w' ⟨rfl, rfl⟩
  rw [HV.out]
  go_wp2_with fail
  generalize w.alloc (.cells #[.string nm, .int .i64 v, .int .i64 nx, .slice A n c] 44) = w1 at *
  go_loopw [3, 29] (fun t i wx => ∃ (k : Nat) (la : Int), k ≤ n ∧ i = .int .i64 (k : Int) ∧ t = .int .i64 la ∧ LastIs l k la ∧ OkTo nx (l.take k) ∧ Below (w.heap.size + 1) w1 wx) (fun _ i _ => n - (intOf i).toNat)
  case atStart => exact ⟨0, 0, Nat.zero_le _, rfl, rfl, .inl ⟨rfl, rfl⟩, okTo_0 _ _, Below.refl _ _⟩
  case round =>
    obtain ⟨k, la, hk, rfl, rfl, hla, ho, hb⟩ := hrel
    have HLA := Lib.hid hla
    have HO := Lib.hid ho
    have HBR := Lib.hid hb
    have HB2 := Lib.hid (HB.out.trans (hb.mono (by omega)))
    have HS1 := Lib.hid (show w.heap.size + 1 ≤ wr.heap.size by have := hb.size; rw [HZ.out] at this; exact this)
    have HE := Lib.hid (H1.out.below hb (by omega))
    clear hla ho hb c1 c2 c3
    by_cases hlt : k < n
    · obtain ⟨b, o, x, rfl, hbb, hlk, htk, hrow, hin⟩ := (HL.out.below HB2.out (Nat.le_refl _)).at_ hlt
      have HLK := Lib.hid hlk
      have HROW := Lib.hid hrow
      have hk0 : (0 : Int) ≤ (k : Int) := by omega
      have hkn : (k : Int) < (n : Int) := by omega
      obtain ⟨⟨u, f, d, bl⟩, xA, xn, xc⟩ := x
      have CM := Lib.hid (mayBe_any u f d xA xn xc bl (wr.alloc (.cells #[.int .i64 u, .int .i64 f, .int .i64 d, .slice xA xn xc] 49)) hin.1.1 hin.2)
      have HBN := Lib.hid ((HBR.out.alloc HS1.out (.cells #[.int .i64 u, .int .i64 f, .int .i64 d, .slice xA xn xc] 49)).alloc (by have := HS1.out; simp; omega) (.cells #[.int .i64 u, .int .i64 f, .int .i64 d, .slice xA xn xc] 49))
      have HBW := Lib.hid ((HB2.out.alloc HB2.out.size (.cells #[.int .i64 u, .int .i64 f, .int .i64 d, .slice xA xn xc] 49)).alloc (by have := HB2.out.size; simp; omega) (.cells #[.int .i64 u, .int .i64 f, .int .i64 d, .slice xA xn xc] 49))
      have hm1 : Bk ((wr.alloc (.cells #[.int .i64 u, .int .i64 f, .int .i64 d, .slice xA xn xc] 49)).alloc (.cells #[.int .i64 u, .int .i64 f, .int .i64 d, .slice xA xn xc] 49)) wr.heap.size 49 #[.int .i64 u, .int .i64 f, .int .i64 d, .slice xA xn xc] := (Bk.new _ _ _).alloc _
      have hx2 : ((wr.alloc (.cells #[.int .i64 u, .int .i64 f, .int .i64 d, .slice xA xn xc] 49)).alloc (.cells #[.int .i64 u, .int .i64 f, .int .i64 d, .slice xA xn xc] 49)).cell? ⟨w.heap.size, 2, none⟩ = some (.int .i64 nx) := (((HE.out.alloc _).alloc _).cell 2).trans rfl
      have m0 := hm1.cell 0
      have HM0 := Lib.hid m0
      have HX2 := Lib.hid hx2
      clear hlk htk hrow hin hm1 m0 hx2
      cases hm : okMg ⟨u, f, d, bl⟩
      · have HR := Lib.hid (okBx_no5 (nm := nm) (v := v) (okTo_bad (nx := nx) HLK.out hm))
        have HM := Lib.hid hm
        clear hm
        go_wp2_with ((with_reducible show wpList _ _ _ (⟨some 32, _, _, _, _, _⟩ :: _) _ _); refine hold ?_)
        refine held (wpList_load_mid rfl 49 (.tmp 31) rfl b (o + k * 4) rfl _ _ HROW.out Tryz.underlying49 rfl (by kernel_rfl) ?_)
        unfold hdC
        go_wp2_with fail
        refine CM.out.mono ?_
        rintro e w' ⟨rfl, rfl⟩
        rw [HM.out]
        have m0 := HM0.out
        have hx2 := HX2.out
        go_wp2_with fail
        go_ret
        exact ⟨by rw [HR.out] <;> rfl, HBW.out⟩
      by_cases h4 : u ≤ la
      · have HR := Lib.hid (okBx_no5 (nm := nm) (v := v) (okTo_low (nx := nx) HLA.out HLK.out h4))
        have HM := Lib.hid hm
        clear hm
        go_wp2_with ((with_reducible show wpList _ _ _ (⟨some 32, _, _, _, _, _⟩ :: _) _ _); refine hold ?_)
        refine held (wpList_load_mid rfl 49 (.tmp 31) rfl b (o + k * 4) rfl _ _ HROW.out Tryz.underlying49 rfl (by kernel_rfl) ?_)
        unfold hdC
        go_wp2_with fail
        refine CM.out.mono ?_
        rintro e w' ⟨rfl, rfl⟩
        rw [HM.out]
        have m0 := HM0.out
        have hx2 := HX2.out
        go_wp2_with fail
        go_ret
        exact ⟨by rw [HR.out] <;> rfl, HBW.out⟩
      by_cases h5 : nx ≤ u
      · have HR := Lib.hid (okBx_no5 (nm := nm) (v := v) (okTo_big (nx := nx) HLK.out h5))
        have HM := Lib.hid hm
        clear hm
        go_wp2_with ((with_reducible show wpList _ _ _ (⟨some 32, _, _, _, _, _⟩ :: _) _ _); refine hold ?_)
        refine held (wpList_load_mid rfl 49 (.tmp 31) rfl b (o + k * 4) rfl _ _ HROW.out Tryz.underlying49 rfl (by kernel_rfl) ?_)
        unfold hdC
        go_wp2_with fail
        refine CM.out.mono ?_
        rintro e w' ⟨rfl, rfl⟩
        rw [HM.out]
        have m0 := HM0.out
        have hx2 := HX2.out
        go_wp2_with fail
        go_ret
        exact ⟨by rw [HR.out] <;> rfl, HBW.out⟩
      have HN2 := Lib.hid (okTo_step HO.out HLA.out HLK.out hm h5 h4)
      have HM := Lib.hid hm
      clear hm
      go_wp2_with ((with_reducible show wpList _ _ _ (⟨some 32, _, _, _, _, _⟩ :: _) _ _); refine hold ?_)
      refine held (wpList_load_mid rfl 49 (.tmp 31) rfl b (o + k * 4) rfl _ _ HROW.out Tryz.underlying49 rfl (by kernel_rfl) ?_)
      unfold hdC
      go_wp2_with fail
      refine CM.out.mono ?_
      rintro e w' ⟨rfl, rfl⟩
      rw [HM.out]
      have m0 := HM0.out
      have hx2 := HX2.out
      go_wp2_with fail
      go_roundw
      case rel => exact ⟨k + 1, u, by omega, by go_num, rfl, last_next HLK.out, HN2.out, HBN.out⟩
      case measure => simp [intOf]; omega
    · have hkn : ¬ (k : Int) < (n : Int) := by omega
      have HR : Hid (okBx ⟨nm, v, nx, l⟩ = true) := Lib.hid (HYES.out (okTo_all HO.out (by rw [HN.out]; omega)))
      go_wp2_with fail
      go_ret
      exact ⟨by rw [HR.out] <;> rfl, HB2.out⟩
end Go.Proofs.YtbogjfbfgbhdbaaGreatDoor
