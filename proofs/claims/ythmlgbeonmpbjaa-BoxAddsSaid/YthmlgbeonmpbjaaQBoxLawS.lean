/-
  The laws of package box, as walks: Stores.
-/
import Derived.Test.YthmlgbeonmpbjaaQBoxLawA
namespace Go.Proofs.Ythmlgbeonmpbjaa
set_option linter.unusedVariables false
set_option linter.unusedSimpArgs false
open Go.RowKit
set_option linter.unusedVariables false
set_option linter.unusedSimpArgs false

set_option maxRecDepth 20000 in
set_option maxHeartbeats 8000000 in
theorem boxStores_walk (nm : ByteArray) (v nx : Int) (A : Option Addr) (n c : Nat) (l : List Mg) (B : Option Addr) (m d0 : Nat) (ids : List Int) (mode flags : Int) (w : World) (hl : MsgsIn w w.heap.size A n l) (hn : n ≤ 140737488355328) (hi : Col ints w w.heap.size B m ids) (hm : m ≤ 140737488355328) :
    Calls Try.prog 4 #[.agg #[.string nm, .int .i64 v, .int .i64 nx, .slice A n c], .slice B m d0, .agg #[.int .i64 mode, .int .i64 flags]] w fun e w' => e = .returned (.bool true) ∧ Below w.heap.size w w' := by
  have hB : Below w.heap.size w ((w.alloc (.cells #[.string nm, .int .i64 v, .int .i64 nx, .slice A n c] 24)).alloc (.cells #[.int .i64 mode, .int .i64 flags] 37)) := ((Below.refl _ _).alloc (Nat.le_refl _) _).alloc (by simp) _
  have h1 : Bk ((w.alloc (.cells #[.string nm, .int .i64 v, .int .i64 nx, .slice A n c] 24)).alloc (.cells #[.int .i64 mode, .int .i64 flags] 37)) w.heap.size 24 #[.string nm, .int .i64 v, .int .i64 nx, .slice A n c] := (Bk.new _ _ _).alloc _
  have h2 : Bk ((w.alloc (.cells #[.string nm, .int .i64 v, .int .i64 nx, .slice A n c] 24)).alloc (.cells #[.int .i64 mode, .int .i64 flags] 37)) (w.heap.size + 1) 37 #[.int .i64 mode, .int .i64 flags] := Bk.new2 _ _ _ _
  have HL := Lib.hid hl
  have HI := Lib.hid hi
  have HB := Lib.hid hB
  have H1 := Lib.hid h1
  have H2 := Lib.hid h2
  clear hB h1 h2 hl hi
  cases hg : greatX ⟨nm, v, nx, l⟩
  · have HSM := Lib.hid (small_of hg)
    have HG := Lib.hid hg
    clear hg
    by_cases hx5 : 100 < m
    · have hx5' : (100 : Int) < (m : Int) := by omega
      go_enter Try.func4, Try.ntmps4
      go_wp2_with fail
      refine (alive11_any _).mono ?_
      rintro e w1 ⟨rfl, hb⟩
      have HB1 := Lib.hid (HB.out.trans (hb.mono HB.out.size))
      have H11 := Lib.hid (H1.out.below hb H1.out.lt)
      have H21 := Lib.hid (H2.out.below hb H2.out.lt)
      clear hb
      clear HB H1 H2
      obtain ⟨⟨b0, b1, b2, b3⟩, -, -, -, -⟩ := H11.out.four
      go_wp2_with fail
      refine (great11_any nm v nx A n c l w1 (HL.out.later HB1.out) hn).mono ?_
      rintro e w2 ⟨rfl, hb⟩
      rw [HG.out]
      have HB2 := Lib.hid (HB1.out.trans (hb.mono HB1.out.size))
      have H12 := Lib.hid (H11.out.below hb H11.out.lt)
      have H22 := Lib.hid (H21.out.below hb H21.out.lt)
      clear hb HB1 H11 H21 b0 b1 b2 b3
      go_wp2_with fail
      go_ret
      exact ⟨rfl, HB2.out⟩
    have hx5' : decide ((100 : Int) < (m : Int)) = false := decide_eq_false (by omega)
    have hn5 : n ≤ 5000 := by have := HSM.out.1; rw [HL.out.len] at this; exact this
    go_enter Try.func4, Try.ntmps4
    go_wp2_with fail
    refine (alive11_any _).mono ?_
    rintro e w1 ⟨rfl, hb⟩
    have HB1 := Lib.hid (HB.out.trans (hb.mono HB.out.size))
    have H11 := Lib.hid (H1.out.below hb H1.out.lt)
    have H21 := Lib.hid (H2.out.below hb H2.out.lt)
    clear hb
    clear HB H1 H2
    obtain ⟨⟨b0, b1, b2, b3⟩, -, -, -, -⟩ := H11.out.four
    go_wp2_with fail
    refine (great11_any nm v nx A n c l w1 (HL.out.later HB1.out) hn).mono ?_
    rintro e w2 ⟨rfl, hb⟩
    rw [HG.out]
    have HB2 := Lib.hid (HB1.out.trans (hb.mono HB1.out.size))
    have H12 := Lib.hid (H11.out.below hb H11.out.lt)
    have H22 := Lib.hid (H21.out.below hb H21.out.lt)
    clear hb HB1 H11 H21 b0 b1 b2 b3
    obtain ⟨⟨b0, b1, b2, b3⟩, -, -, -, -⟩ := H12.out.four
    go_wp2_with fail
    clear b0 b1 b2 b3
    refine (x11copy_any nm v nx A n c l w2 (HL.out.later HB2.out) (by omega) (small_6 HSM.out.2)).mono ?_
    rintro e w3 ⟨A', c', rfl, ho, hb⟩
    have hba : Below w3.heap.size w3 (w3.alloc (.cells #[.string nm, .int .i64 v, .int .i64 nx, .slice A' n c'] 24)) := (Below.refl _ _).alloc (Nat.le_refl _) _
    have hb' := hb.trans (hba.mono hb.size)
    have HB3 := Lib.hid (HB2.out.trans (hb'.mono HB2.out.size))
    have H13 := Lib.hid (H12.out.below hb' H12.out.lt)
    have H23 := Lib.hid (H22.out.below hb' H22.out.lt)
    have HO3 := Lib.hid ((ho.below hba).msgs (small_14 HSM.out.2))
    have K3 : Hid (Bk (w3.alloc (.cells #[.string nm, .int .i64 v, .int .i64 nx, .slice A' n c'] 24)) w3.heap.size 24 #[.string nm, .int .i64 v, .int .i64 nx, .slice A' n c']) := Lib.hid (Bk.new _ _ _)
    clear hb hba hb' ho HB2 H12 H22
    have t0 := H23.out.cell 0
    have t1 := H23.out.cell 1
    obtain ⟨⟨k0, k1, k2, k3⟩, -, -, -, -⟩ := K3.out.four
    go_wp2_with fail
    obtain ⟨bo, hbo⟩ : ∃ bo, w3.heap.size = bo := ⟨_, rfl⟩
    rw [hbo] at K3 ⊢
    clear hbo t0 t1 k0 k1 k2 k3
    generalize w3.alloc (.cells #[.string nm, .int .i64 v, .int .i64 nx, .slice A' n c'] 24) = W3 at *
    refine (store_any nm v nx A' n c' l B m d0 ids mode flags W3 HO3.out (by omega) (small_6 HSM.out.2) ((HI.out.below HB3.out (Nat.le_refl _)).more HB3.out.size) hm).mono ?_
    rintro e w4 ⟨A4, n4, c4, rfl, hm4, hb⟩
    have HLEN := Lib.hid (store_len ⟨nm, v, nx, l⟩ ids mode flags)
    have HSTO := Lib.hid (fun (A : Option Addr) (n c : Nat) (w : World) => @x11store_any nm v nx A n c l B m d0 ids mode flags w)
    unfold StoreIs at HSTO
    generalize storeB ⟨nm, v, nx, l⟩ ids mode flags = bb at *
    generalize storeE ⟨nm, v, nx, l⟩ ids mode flags = ee at *
    obtain ⟨nm2, v2, nx2, l2⟩ := bb
    simp only at hm4 HLEN HSTO ⊢
    have Ko_3 := K3
    have Lo_3 := HO3
    have HN4 : Hid (n4 ≤ 5000) := Lib.hid (by have h1 := hm4.len; have h2 := HLEN.out; have h3 := HL.out.len; (try simp only at h2); omega)
    clear K3 HO3 HLEN
    have hba : Below w4.heap.size w4 (w4.alloc (.cells #[.string nm2, .int .i64 v2, .int .i64 nx2, .slice A4 n4 c4] 24)) := (Below.refl _ _).alloc (Nat.le_refl _) _
    have hb' := hb.trans (hba.mono hb.size)
    have HB4 := Lib.hid (HB3.out.trans (hb'.mono HB3.out.size))
    have H14 := Lib.hid (H13.out.below hb' H13.out.lt)
    have H24 := Lib.hid (H23.out.below hb' H23.out.lt)
    have Ko_4 := Lib.hid (Ko_3.out.below hb' Ko_3.out.lt)
    have Ka_4 : Hid (Bk (w4.alloc (.cells #[.string nm2, .int .i64 v2, .int .i64 nx2, .slice A4 n4 c4] 24)) w4.heap.size 24 #[.string nm2, .int .i64 v2, .int .i64 nx2, .slice A4 n4 c4]) := Lib.hid (Bk.new _ _ _)
    have Lo_4 := Lib.hid (Lo_3.out.later hb')
    have La_4 := Lib.hid (hm4.later hba)
    clear hb hba hb' HB3 H13 H23 Ko_3 Lo_3
    clear hm4
    have t0 := H24.out.cell 0
    have t1 := H24.out.cell 1
    obtain ⟨⟨b0, b1, b2, b3⟩, -, -, -, -⟩ := H14.out.four
    go_wp2_with fail
    obtain ⟨ba, hbo⟩ : ∃ q, w4.heap.size = q := ⟨_, rfl⟩
    try rw [hbo] at Ka_4
    try rw [hbo]
    clear hbo
    clear t0 t1 b0 b1 b2 b3
    generalize w4.alloc (.cells #[.string nm2, .int .i64 v2, .int .i64 nx2, .slice A4 n4 c4] 24) = W4 at *
    refine (HSTO.out A n c W4 (HL.out.later HB4.out) (by omega) (small_6 HSM.out.2) ((HI.out.below HB4.out (Nat.le_refl _)).more HB4.out.size) hm).mono ?_
    rintro e w5 ⟨A5, n5, c5, rfl, hm5, hb⟩
    have HN5 : Hid (n5 = n4) := Lib.hid (by rw [← hm5.len, La_4.out.len])
    have hba : Below w5.heap.size w5 (w5.alloc (.cells #[.string nm2, .int .i64 v2, .int .i64 nx2, .slice A5 n5 c5] 24)) := (Below.refl _ _).alloc (Nat.le_refl _) _
    have hb' := hb.trans (hba.mono hb.size)
    have HB5 := Lib.hid (HB4.out.trans (hb'.mono HB4.out.size))
    have H15 := Lib.hid (H14.out.below hb' H14.out.lt)
    have H25 := Lib.hid (H24.out.below hb' H24.out.lt)
    have Ko_5 := Lib.hid (Ko_4.out.below hb' Ko_4.out.lt)
    have Ka_5 := Lib.hid (Ka_4.out.below hb' Ka_4.out.lt)
    have Kc_5 : Hid (Bk (w5.alloc (.cells #[.string nm2, .int .i64 v2, .int .i64 nx2, .slice A5 n5 c5] 24)) w5.heap.size 24 #[.string nm2, .int .i64 v2, .int .i64 nx2, .slice A5 n5 c5]) := Lib.hid (Bk.new _ _ _)
    have Lo_5 := Lib.hid (Lo_4.out.later hb')
    have La_5 := Lib.hid (La_4.out.later hb')
    have Lc_5 := Lib.hid (hm5.later hba)
    clear hb hba hb' HB4 H14 H24 Ko_4 Ka_4 Lo_4 La_4
    clear hm5 HSTO
    obtain ⟨⟨k0, k1, k2, k3⟩, -, -, -, -⟩ := Ko_5.out.four
    go_wp2_with fail
    obtain ⟨bc, hbo⟩ : ∃ q, w5.heap.size = q := ⟨_, rfl⟩
    try rw [hbo] at Kc_5
    try rw [hbo]
    clear hbo
    clear k0 k1 k2 k3
    generalize w5.alloc (.cells #[.string nm2, .int .i64 v2, .int .i64 nx2, .slice A5 n5 c5] 24) = W5 at *
    refine (take_any nm v nx A' n c' l B m d0 ids W5 Lo_5.out (by omega) (small_6 HSM.out.2) ((HI.out.below HB5.out (Nat.le_refl _)).more HB5.out.size) hm).mono ?_
    rintro e w6 ⟨A6, n6, c6, Ag, ng, cg, rfl, hm6, hg6, hb⟩
    have HLEN := Lib.hid (tk_len ⟨nm, v, nx, l⟩ ids)
    have HTK := Lib.hid (fun (A : Option Addr) (n c : Nat) (w : World) => @x11take_any nm v nx A n c l B m d0 ids w)
    unfold TakeIs at HTK
    generalize tkB ⟨nm, v, nx, l⟩ ids = tb at *
    generalize tkM ⟨nm, v, nx, l⟩ ids = tm at *
    generalize tkE ⟨nm, v, nx, l⟩ ids = te at *
    obtain ⟨nm3, v3, nx3, l3⟩ := tb
    simp only at hm6 HLEN HTK ⊢
    have HN6 : Hid (n6 ≤ 5000 ∧ ng ≤ 5000) := Lib.hid (by have h1 := hm6.len; have h4 := hg6.len; have h2 := HLEN.out; have h3 := HL.out.len; (try simp only at h2); omega)
    clear HLEN
    have hba : Below w6.heap.size w6 (w6.alloc (.cells #[.string nm3, .int .i64 v3, .int .i64 nx3, .slice A6 n6 c6] 24)) := (Below.refl _ _).alloc (Nat.le_refl _) _
    have hb' := hb.trans (hba.mono hb.size)
    have HB6 := Lib.hid (HB5.out.trans (hb'.mono HB5.out.size))
    have H16 := Lib.hid (H15.out.below hb' H15.out.lt)
    have H26 := Lib.hid (H25.out.below hb' H25.out.lt)
    have Ko_6 := Lib.hid (Ko_5.out.below hb' Ko_5.out.lt)
    have Ka_6 := Lib.hid (Ka_5.out.below hb' Ka_5.out.lt)
    have Kc_6 := Lib.hid (Kc_5.out.below hb' Kc_5.out.lt)
    have Kx_6 : Hid (Bk (w6.alloc (.cells #[.string nm3, .int .i64 v3, .int .i64 nx3, .slice A6 n6 c6] 24)) w6.heap.size 24 #[.string nm3, .int .i64 v3, .int .i64 nx3, .slice A6 n6 c6]) := Lib.hid (Bk.new _ _ _)
    have Lo_6 := Lib.hid (Lo_5.out.later hb')
    have La_6 := Lib.hid (La_5.out.later hb')
    have Lc_6 := Lib.hid (Lc_5.out.later hb')
    have Lx_6 := Lib.hid (hm6.later hba)
    have Lg_6 := Lib.hid (hg6.later hba)
    clear hb hba hb' HB5 H15 H25 Ko_5 Ka_5 Kc_5 Lo_5 La_5 Lc_5
    clear hm6 hg6
    obtain ⟨⟨b0, b1, b2, b3⟩, -, -, -, -⟩ := H16.out.four
    go_wp2_with fail
    obtain ⟨bx, hbo⟩ : ∃ q, w6.heap.size = q := ⟨_, rfl⟩
    try rw [hbo] at Kx_6
    try rw [hbo]
    clear hbo
    clear b0 b1 b2 b3
    generalize w6.alloc (.cells #[.string nm3, .int .i64 v3, .int .i64 nx3, .slice A6 n6 c6] 24) = W6 at *
    refine (HTK.out A n c W6 (HL.out.later HB6.out) (by omega) (small_6 HSM.out.2) ((HI.out.below HB6.out (Nat.le_refl _)).more HB6.out.size) hm).mono ?_
    rintro e w7 ⟨A7, n7, c7, Ah, nh, ch, rfl, hm7, hh7, hb⟩
    have HN7 : Hid (n7 = n6 ∧ nh = ng) := Lib.hid ⟨by rw [← hm7.len, Lx_6.out.len], by rw [← hh7.len, Lg_6.out.len]⟩
    have hba : Below w7.heap.size w7 (w7.alloc (.cells #[.string nm3, .int .i64 v3, .int .i64 nx3, .slice A7 n7 c7] 24)) := (Below.refl _ _).alloc (Nat.le_refl _) _
    have hb' := hb.trans (hba.mono hb.size)
    have HB7 := Lib.hid (HB6.out.trans (hb'.mono HB6.out.size))
    have H17 := Lib.hid (H16.out.below hb' H16.out.lt)
    have H27 := Lib.hid (H26.out.below hb' H26.out.lt)
    have Ko_7 := Lib.hid (Ko_6.out.below hb' Ko_6.out.lt)
    have Ka_7 := Lib.hid (Ka_6.out.below hb' Ka_6.out.lt)
    have Kc_7 := Lib.hid (Kc_6.out.below hb' Kc_6.out.lt)
    have Kx_7 := Lib.hid (Kx_6.out.below hb' Kx_6.out.lt)
    have Ky_7 : Hid (Bk (w7.alloc (.cells #[.string nm3, .int .i64 v3, .int .i64 nx3, .slice A7 n7 c7] 24)) w7.heap.size 24 #[.string nm3, .int .i64 v3, .int .i64 nx3, .slice A7 n7 c7]) := Lib.hid (Bk.new _ _ _)
    have Lo_7 := Lib.hid (Lo_6.out.later hb')
    have La_7 := Lib.hid (La_6.out.later hb')
    have Lc_7 := Lib.hid (Lc_6.out.later hb')
    have Lx_7 := Lib.hid (Lx_6.out.later hb')
    have Lg_7 := Lib.hid (Lg_6.out.later hb')
    have Ly_7 := Lib.hid (hm7.later hba)
    have Lh_7 := Lib.hid (hh7.later hba)
    clear hb hba hb' HB6 H16 H26 Ko_6 Ka_6 Kc_6 Kx_6 Lo_6 La_6 Lc_6 Lx_6 Lg_6
    clear hm7 hh7 HTK
    obtain ⟨⟨a0, a1, a2, a3⟩, -, -, -, -⟩ := Ka_7.out.four
    obtain ⟨⟨cc0, cc1, cc2, cc3⟩, -, -, -, -⟩ := Kc_7.out.four
    have hee : (ee == ee) = true := by simp
    have htt : (te == te) = true := by simp
    go_wp2_with fail
    obtain ⟨bz, hbo⟩ : ∃ q, w7.heap.size = q := ⟨_, rfl⟩
    try rw [hbo] at Ky_7
    try rw [hbo]
    clear hbo
    clear a0 a1 a2 a3 cc0 cc1 cc2 cc3
    generalize w7.alloc (.cells #[.string nm3, .int .i64 v3, .int .i64 nx3, .slice A7 n7 c7] 24) = W7 at *
    refine (x11same_any nm2 v2 nx2 A4 n4 c4 l2 nm2 v2 nx2 A5 n5 c5 l2 W7 La_7.out Lc_7.out (by have := HN4.out; omega) (by have := HN4.out; have := HN5.out; omega)).mono ?_
    rintro e w8 ⟨rfl, hb⟩
    rw [eq_self_bx]
    have HB8 := Lib.hid (HB7.out.trans (hb.mono HB7.out.size))
    have Ko_8 := Lib.hid (Ko_7.out.below hb Ko_7.out.lt)
    have Kx_8 := Lib.hid (Kx_7.out.below hb Kx_7.out.lt)
    have Ky_8 := Lib.hid (Ky_7.out.below hb Ky_7.out.lt)
    have Lo_8 := Lib.hid (Lo_7.out.later hb)
    have Lx_8 := Lib.hid (Lx_7.out.later hb)
    have Ly_8 := Lib.hid (Ly_7.out.later hb)
    have Lg_8 := Lib.hid (Lg_7.out.later hb)
    have Lh_8 := Lib.hid (Lh_7.out.later hb)
    have H18 := Lib.hid (H17.out.below hb H17.out.lt)
    clear hb
    obtain ⟨⟨x0, x1, x2, x3⟩, -, -, -, -⟩ := Kx_8.out.four
    obtain ⟨⟨y0, y1, y2, y3⟩, -, -, -, -⟩ := Ky_8.out.four
    go_wp2_with fail
    clear x0 x1 x2 x3 y0 y1 y2 y3
    refine (x11same_any nm3 v3 nx3 A6 n6 c6 l3 nm3 v3 nx3 A7 n7 c7 l3 w8 Lx_8.out Ly_8.out (by have := HN6.out; omega) (by have := HN6.out; have := HN7.out; omega)).mono ?_
    rintro e w9 ⟨rfl, hb⟩
    rw [eq_self_bx]
    have HB9 := Lib.hid (HB8.out.trans (hb.mono HB8.out.size))
    have Ko_9 := Lib.hid (Ko_8.out.below hb Ko_8.out.lt)
    have Lo_9 := Lib.hid (Lo_8.out.later hb)
    have Lg_9 := Lib.hid (Lg_8.out.later hb)
    have Lh_9 := Lib.hid (Lh_8.out.later hb)
    have H19 := Lib.hid (H18.out.below hb H18.out.lt)
    clear hb
    go_wp2_with fail
    refine (x11msgs_any Ag ng cg tm Ah nh ch tm w9 Lg_9.out Lh_9.out (by have := HN6.out; omega) (by have := HN6.out; have := HN7.out; omega)).mono ?_
    rintro e wa ⟨rfl, hb⟩
    rw [show decide (tm = tm) = true from decide_eq_true rfl]
    have HBa := Lib.hid (HB9.out.trans (hb.mono HB9.out.size))
    have Ko_a := Lib.hid (Ko_9.out.below hb Ko_9.out.lt)
    have Lo_a := Lib.hid (Lo_9.out.later hb)
    have H1a := Lib.hid (H19.out.below hb H19.out.lt)
    clear hb
    obtain ⟨⟨k0, k1, k2, k3⟩, -, -, -, -⟩ := Ko_a.out.four
    obtain ⟨⟨b0, b1, b2, b3⟩, -, -, -, -⟩ := H1a.out.four
    go_wp2_with fail
    clear k0 k1 k2 k3 b0 b1 b2 b3
    refine (x11same_any nm v nx A' n c' l nm v nx A n c l wa Lo_a.out (HL.out.later HBa.out) (by omega) (by omega)).mono ?_
    rintro e wb ⟨rfl, hb⟩
    rw [eq_self_bx]
    have HBE := Lib.hid (HBa.out.trans (hb.mono HBa.out.size))
    clear hb
    go_wp2_with fail
    go_ret
    exact ⟨rfl, HBE.out⟩
  · have HG := Lib.hid hg
    clear hg
    go_enter Try.func4, Try.ntmps4
    go_wp2_with fail
    refine (alive11_any _).mono ?_
    rintro e w1 ⟨rfl, hb⟩
    have HB1 := Lib.hid (HB.out.trans (hb.mono HB.out.size))
    have H11 := Lib.hid (H1.out.below hb H1.out.lt)
    have H21 := Lib.hid (H2.out.below hb H2.out.lt)
    clear hb
    clear HB H1 H2
    obtain ⟨⟨b0, b1, b2, b3⟩, -, -, -, -⟩ := H11.out.four
    go_wp2_with fail
    refine (great11_any nm v nx A n c l w1 (HL.out.later HB1.out) hn).mono ?_
    rintro e w2 ⟨rfl, hb⟩
    rw [HG.out]
    have HB2 := Lib.hid (HB1.out.trans (hb.mono HB1.out.size))
    have H12 := Lib.hid (H11.out.below hb H11.out.lt)
    have H22 := Lib.hid (H21.out.below hb H21.out.lt)
    clear hb HB1 H11 H21 b0 b1 b2 b3
    go_wp2_with fail
    go_ret
    exact ⟨rfl, HB2.out⟩
end Go.Proofs.Ythmlgbeonmpbjaa
