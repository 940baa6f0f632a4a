/-
  The walk of the law SectorPuts: any write, and any flush, does what the document says, or is refused, and what was handed in stays. It returns true, and leaves all older memory as it was.
-/
import Derived.Test.YtfejnfohbagnkaaSecStartsLaw
import Derived.Test.YtfejnfohbagnkaaRefPut2
import Derived.Test.YtfejnfohbagnkaaRefFlush
namespace Go.Proofs.Ytfejnfohbagnkaa
open Go.RowKit

set_option maxRecDepth 100000 in
set_option maxHeartbeats 4000000 in
theorem puts_walk (v : Value) (d : Dk) (x : Int × List Int) (hx : x.2.length = 64) (w : World) (hd : DkAt w w.heap.size v d) :
    Calls Try.prog 4 #[v, .agg (wrv x).toArray] w fun e w' => e = .returned (.bool true) ∧ Below w.heap.size w w' := by
  obtain ⟨A, n, c, A', n', c', rfl, hrest⟩ := id hd
  clear hrest
  have Hd := Lib.hid hd
  have HX := Lib.hid hx
  have hxl : (secv x.2).length = 64 := by rw [secv_length, hx]
  clear hd hx
  go_enter Try.func4, Try.ntmps4
  go_wp2_with fail
  refine calls_over (fun W => Dv W w.heap.size #[.slice A n c, .slice A' n' c', .int .i64 d.fuse, .bool d.down] d ∧ Bk W (w.heap.size + 1) 37 (wrv x).toArray ∧ Below w.heap.size w W) ⟨(Dv.new Hd.out).alloc _, Bk.new2 _ _ _ _, ((Below.refl _ _).alloc (Nat.le_refl _) _).alloc (by simp) _⟩ ?_
  rintro W1 ⟨B0, B1, hb1⟩
  refine (alive_any _).mono ?_
  rintro e w1 ⟨rfl, hb2⟩
  have HB0 := Lib.hid (B0.later hb2); have HB1 := Lib.hid (B1.below hb2 B1.lt); have HW := Lib.hid (hb1.trans (hb2.mono hb1.size))
  clear B0 B1 hb1 hb2 Hd
  obtain ⟨⟨p0, p1, p2, p3⟩, -⟩ := HB0.out.1.four
  go_wp2_with fail
  refine (great_any _ d _ HB0.out.2).mono ?_
  rintro e w2 ⟨rfl, hb2⟩
  have HB0' := Lib.hid (HB0.out.later hb2); have HB1' := Lib.hid (HB1.out.below hb2 HB1.out.lt); have HW' := Lib.hid (HW.out.trans (hb2.mono HW.out.size))
  clear hb2 HB0 HB1 HW p0 p1 p2 p3
  obtain ⟨⟨p0, p1, p2, p3⟩, -⟩ := HB0'.out.1.four
  by_cases hg : greatB d = true
  · go_wp2
    go_ret
    exact ⟨rfl, HW'.out⟩
  have hg' : greatB d = false := by simpa using hg
  obtain ⟨hle1, hle2⟩ := great_le hg'
  clear hg
  obtain ⟨dp, ep, hp⟩ : ∃ dp ep, putM d x.1 x.2 = (dp, ep) := ⟨_, _, rfl⟩
  obtain ⟨df, ef, hf⟩ : ∃ df ef, flushM d = (df, ef) := ⟨_, _, rfl⟩
  have HP := Lib.hid hp; have HF := Lib.hid hf
  clear hp hf
  go_wp2_with fail
  refine (rcopy_any _ d _ HB0'.out.2 (by omega) (by omega)).mono ?_
  rintro e w3 ⟨v3, rfl, ho, hb3⟩
  have h3 := ho.at_
  obtain ⟨A3, n3, c3, A3', n3', c3', rfl, hrest⟩ := id h3
  clear hrest ho hle1 hle2 p0 p1 p2 p3
  have D0 := HB0'.out.later hb3
  have D1 := HB1'.out.below hb3 HB1'.out.lt
  have H0 := Lib.hid D0; have H1 := Lib.hid D1; have HbW := Lib.hid (HW'.out.trans (hb3.mono HW'.out.size)); have H3 := Lib.hid h3
  have hl1 := D1.lt
  have hl0 := D0.1.lt
  have c1 : w3.cell? ⟨w.heap.size + 1, 0, none⟩ = some (.int .i64 x.1) := D1.cell 0
  clear D0 D1 hb3 h3 HB0' HB1' HW'
  go_wp2_with ((with_reducible show wpList _ _ _ (⟨some 25, _, _, _, _, _⟩ :: _) _ _); refine hold ?_)
  refine wpList_over (fun W => Dv W w.heap.size #[.slice A n c, .slice A' n' c', .int .i64 d.fuse, .bool d.down] d ∧ Dv W w3.heap.size #[.slice A3 n3 c3, .slice A3' n3' c3', .int .i64 d.fuse, .bool d.down] d ∧ Bk W (w.heap.size + 1) 37 (wrv x).toArray ∧ Below w.heap.size w W)
    ⟨H0.out.alloc _, Dv.new H3.out, H1.out.alloc _, HbW.out.alloc HbW.out.size _⟩ ?_
  clear H0 H3 H1 HbW c1 hl0 hl1
  rintro W4 ⟨C0, C3, C1, hbW⟩
  refine wpList_load_mid rfl 28 (.tmp 24) rfl (w.heap.size + 1) 1 rfl (secv x.2) (.array 64 5) (bk_range_wr C1) Try.underlying28 rfl (by rw [hxl]; exact size_sec) ?_
  have H0 := Lib.hid C0
  have H3 := Lib.hid C3
  have H1 := Lib.hid C1; have HbW := Lib.hid hbW
  clear C0 C3 C1 hbW
  go_wp2_with fail
  have C0 := H0.out
  have C3 := H3.out
  have C1 := H1.out; have hbW := HbW.out
  clear H0 H3 H1 HbW
  refine (put_any _ d x.1 x.2 W4 C3.2 HX.out).mono ?_
  rintro e w4 hres
  obtain ⟨A4, n4, c4, A4', n4', c4', rfl, hd4, hb4⟩ := hres.open HP.out
  clear hres
  replace C0 := C0.later hb4
  replace C3 := C3.later hb4
  replace C1 := C1.below hb4 C1.lt
  replace hbW := hbW.trans (hb4.mono hbW.size)
  have hl0 := C0.1.lt
  have hl3 := C3.1.lt
  have hl1 := C1.lt
  obtain ⟨⟨p0, p1, p2, p3⟩, -⟩ := C0.1.four
  have c1 : w4.cell? ⟨w.heap.size + 1, 0, none⟩ = some (.int .i64 x.1) := C1.cell 0
  have H0 := Lib.hid C0
  have H3 := Lib.hid C3
  have H4 := Lib.hid hd4
  have H1 := Lib.hid C1
  have HbW := Lib.hid hbW
  clear C0 C3 C1 hbW hb4 hd4
  go_wp2_with ((with_reducible show wpList _ _ _ (⟨some 34, _, _, _, _, _⟩ :: _) _ _); refine hold ?_)
  refine wpList_over (fun W => Dv W w.heap.size #[.slice A n c, .slice A' n' c', .int .i64 d.fuse, .bool d.down] d ∧ Dv W w3.heap.size #[.slice A3 n3 c3, .slice A3' n3' c3', .int .i64 d.fuse, .bool d.down] d ∧ Dv W w4.heap.size #[.slice A4 n4 c4, .slice A4' n4' c4', .int .i64 dp.fuse, .bool dp.down] dp ∧ Bk W (w.heap.size + 1) 37 (wrv x).toArray ∧ Below w.heap.size w W)
    ⟨H0.out.alloc _, H3.out.alloc _, Dv.new H4.out, H1.out.alloc _, HbW.out.alloc HbW.out.size _⟩ ?_
  clear H0 H3 H4 H1 HbW c1 hl0 hl1 hl3 p0 p1 p2 p3
  rintro W5 ⟨C0, C3, C4, C1, hbW⟩
  refine wpList_load_mid rfl 28 (.tmp 33) rfl (w.heap.size + 1) 1 rfl (secv x.2) (.array 64 5) (bk_range_wr C1) Try.underlying28 rfl (by rw [hxl]; exact size_sec) ?_
  have H0 := Lib.hid C0
  have H3 := Lib.hid C3
  have H4 := Lib.hid C4
  have H1 := Lib.hid C1; have HbW := Lib.hid hbW
  clear C0 C3 C4 C1 hbW
  go_wp2_with fail
  have C0 := H0.out
  have C3 := H3.out
  have C4 := H4.out
  have C1 := H1.out; have hbW := HbW.out
  clear H0 H3 H4 H1 HbW
  refine (rput_any _ d x.1 x.2 W5 C0.2 HX.out).mono ?_
  rintro e w5 hres
  obtain ⟨A5, n5, c5, A5', n5', c5', rfl, hd5, hb5⟩ := hres.open HP.out
  clear hres
  replace C0 := C0.later hb5
  replace C3 := C3.later hb5
  replace C4 := C4.later hb5
  replace C1 := C1.below hb5 C1.lt
  replace hbW := hbW.trans (hb5.mono hbW.size)
  have hl0 := C0.1.lt
  have hl3 := C3.1.lt
  have hl4 := C4.1.lt
  have hl1 := C1.lt
  obtain ⟨⟨p0, p1, p2, p3⟩, -⟩ := C3.1.four
  have c1 : w5.cell? ⟨w.heap.size + 1, 0, none⟩ = some (.int .i64 x.1) := C1.cell 0
  have H0 := Lib.hid C0
  have H3 := Lib.hid C3
  have H4 := Lib.hid C4
  have H5 := Lib.hid hd5
  have H1 := Lib.hid C1
  have HbW := Lib.hid hbW
  clear C0 C3 C4 C1 hbW hb5 hd5
  go_wp2_with fail
  refine calls_over (fun W => Dv W w.heap.size #[.slice A n c, .slice A' n' c', .int .i64 d.fuse, .bool d.down] d ∧ Dv W w3.heap.size #[.slice A3 n3 c3, .slice A3' n3' c3', .int .i64 d.fuse, .bool d.down] d ∧ Dv W w4.heap.size #[.slice A4 n4 c4, .slice A4' n4' c4', .int .i64 dp.fuse, .bool dp.down] dp ∧ Dv W w5.heap.size #[.slice A5 n5 c5, .slice A5' n5' c5', .int .i64 dp.fuse, .bool dp.down] dp ∧ Bk W (w.heap.size + 1) 37 (wrv x).toArray ∧ Below w.heap.size w W)
    ⟨H0.out.alloc _, H3.out.alloc _, H4.out.alloc _, Dv.new H5.out, H1.out.alloc _, HbW.out.alloc HbW.out.size _⟩ ?_
  clear H0 H3 H4 H5 H1 HbW c1 hl0 hl1 hl3 hl4 p0 p1 p2 p3
  rintro W6 ⟨C0, C3, C4, C5, C1, hbW⟩
  refine (flush_any _ d W6 C3.2).mono ?_
  rintro e w6 hres
  obtain ⟨A6, n6, c6, A6', n6', c6', rfl, hd6, hb6⟩ := hres.open HF.out
  clear hres
  replace C0 := C0.later hb6
  replace C3 := C3.later hb6
  replace C4 := C4.later hb6
  replace C5 := C5.later hb6
  replace C1 := C1.below hb6 C1.lt
  replace hbW := hbW.trans (hb6.mono hbW.size)
  have hl0 := C0.1.lt
  have hl3 := C3.1.lt
  have hl4 := C4.1.lt
  have hl5 := C5.1.lt
  have hl1 := C1.lt
  obtain ⟨⟨p0, p1, p2, p3⟩, -⟩ := C0.1.four
  have c1 : w6.cell? ⟨w.heap.size + 1, 0, none⟩ = some (.int .i64 x.1) := C1.cell 0
  have H0 := Lib.hid C0
  have H3 := Lib.hid C3
  have H4 := Lib.hid C4
  have H5 := Lib.hid C5
  have H6 := Lib.hid hd6
  have H1 := Lib.hid C1
  have HbW := Lib.hid hbW
  clear C0 C3 C4 C5 C1 hbW hb6 hd6
  go_wp2_with fail
  refine calls_over (fun W => Dv W w.heap.size #[.slice A n c, .slice A' n' c', .int .i64 d.fuse, .bool d.down] d ∧ Dv W w3.heap.size #[.slice A3 n3 c3, .slice A3' n3' c3', .int .i64 d.fuse, .bool d.down] d ∧ Dv W w4.heap.size #[.slice A4 n4 c4, .slice A4' n4' c4', .int .i64 dp.fuse, .bool dp.down] dp ∧ Dv W w5.heap.size #[.slice A5 n5 c5, .slice A5' n5' c5', .int .i64 dp.fuse, .bool dp.down] dp ∧ Dv W w6.heap.size #[.slice A6 n6 c6, .slice A6' n6' c6', .int .i64 df.fuse, .bool df.down] df ∧ Bk W (w.heap.size + 1) 37 (wrv x).toArray ∧ Below w.heap.size w W)
    ⟨H0.out.alloc _, H3.out.alloc _, H4.out.alloc _, H5.out.alloc _, Dv.new H6.out, H1.out.alloc _, HbW.out.alloc HbW.out.size _⟩ ?_
  clear H0 H3 H4 H5 H6 H1 HbW c1 hl0 hl1 hl3 hl4 hl5 p0 p1 p2 p3
  rintro W7 ⟨C0, C3, C4, C5, C6, C1, hbW⟩
  refine (rflush_any _ d W7 C0.2).mono ?_
  rintro e w7 hres
  obtain ⟨A7, n7, c7, A7', n7', c7', rfl, hd7, hb7⟩ := hres.open HF.out
  clear hres
  replace C0 := C0.later hb7
  replace C3 := C3.later hb7
  replace C4 := C4.later hb7
  replace C5 := C5.later hb7
  replace C6 := C6.later hb7
  replace C1 := C1.below hb7 C1.lt
  replace hbW := hbW.trans (hb7.mono hbW.size)
  have hl0 := C0.1.lt
  have hl3 := C3.1.lt
  have hl4 := C4.1.lt
  have hl5 := C5.1.lt
  have hl6 := C6.1.lt
  have hl1 := C1.lt
  obtain ⟨⟨p0, p1, p2, p3⟩, -⟩ := C4.1.four
  obtain ⟨⟨r0, r1, r2, r3⟩, -⟩ := C5.1.four
  have c1 : w7.cell? ⟨w.heap.size + 1, 0, none⟩ = some (.int .i64 x.1) := C1.cell 0
  have H0 := Lib.hid C0
  have H3 := Lib.hid C3
  have H4 := Lib.hid C4
  have H5 := Lib.hid C5
  have H6 := Lib.hid C6
  have H7 := Lib.hid hd7
  have H1 := Lib.hid C1
  have HbW := Lib.hid hbW
  clear C0 C3 C4 C5 C6 C1 hbW hb7 hd7
  go_wp2_with fail
  refine calls_over (fun W => Dv W w.heap.size #[.slice A n c, .slice A' n' c', .int .i64 d.fuse, .bool d.down] d ∧ Dv W w3.heap.size #[.slice A3 n3 c3, .slice A3' n3' c3', .int .i64 d.fuse, .bool d.down] d ∧ Dv W w4.heap.size #[.slice A4 n4 c4, .slice A4' n4' c4', .int .i64 dp.fuse, .bool dp.down] dp ∧ Dv W w5.heap.size #[.slice A5 n5 c5, .slice A5' n5' c5', .int .i64 dp.fuse, .bool dp.down] dp ∧ Dv W w6.heap.size #[.slice A6 n6 c6, .slice A6' n6' c6', .int .i64 df.fuse, .bool df.down] df ∧ Dv W w7.heap.size #[.slice A7 n7 c7, .slice A7' n7' c7', .int .i64 df.fuse, .bool df.down] df ∧ Bk W (w.heap.size + 1) 37 (wrv x).toArray ∧ Below w.heap.size w W)
    ⟨H0.out.alloc _, H3.out.alloc _, H4.out.alloc _, H5.out.alloc _, H6.out.alloc _, Dv.new H7.out, H1.out.alloc _, HbW.out.alloc HbW.out.size _⟩ ?_
  clear H0 H3 H4 H5 H6 H7 H1 HbW c1 hl0 hl1 hl3 hl4 hl5 hl6 p0 p1 p2 p3 r0 r1 r2 r3
  rintro W8 ⟨C0, C3, C4, C5, C6, C7, C1, hbW⟩
  refine (rsame_any _ _ dp dp W8 C4.2 C5.2).mono ?_
  rintro e w8 ⟨rfl, hbx⟩
  replace C0 := C0.later hbx
  replace C3 := C3.later hbx
  replace C4 := C4.later hbx
  replace C5 := C5.later hbx
  replace C6 := C6.later hbx
  replace C7 := C7.later hbx
  replace C1 := C1.below hbx C1.lt
  replace hbW := hbW.trans (hbx.mono hbW.size)
  have hl0 := C0.1.lt
  have hl3 := C3.1.lt
  have hl4 := C4.1.lt
  have hl5 := C5.1.lt
  have hl6 := C6.1.lt
  have hl7 := C7.1.lt
  have hl1 := C1.lt
  rw [sameB_self]
  obtain ⟨⟨p0, p1, p2, p3⟩, -⟩ := C6.1.four
  obtain ⟨⟨r0, r1, r2, r3⟩, -⟩ := C7.1.four
  have c1 : w8.cell? ⟨w.heap.size + 1, 0, none⟩ = some (.int .i64 x.1) := C1.cell 0
  have H0 := Lib.hid C0
  have H3 := Lib.hid C3
  have H4 := Lib.hid C4
  have H5 := Lib.hid C5
  have H6 := Lib.hid C6
  have H7 := Lib.hid C7
  have H1 := Lib.hid C1
  have HbW := Lib.hid hbW
  clear C0 C3 C4 C5 C6 C7 C1 hbW hbx
  go_wp2_with fail
  refine (rsame_any _ _ df df w8 H6.out.2 H7.out.2).mono ?_
  rintro e w9 ⟨rfl, hb9⟩
  rw [sameB_self]
  have C0 := H0.out.later hb9
  have C3 := H3.out.later hb9
  have hbW := HbW.out.trans (hb9.mono HbW.out.size)
  clear H0 H1 H3 H4 H5 H6 H7 HbW hb9 p0 p1 p2 p3 r0 r1 r2 r3 c1
  obtain ⟨⟨p0, p1, p2, p3⟩, -⟩ := C0.1.four
  obtain ⟨⟨r0, r1, r2, r3⟩, -⟩ := C3.1.four
  have H0 := Lib.hid C0; have H3 := Lib.hid C3; have HbW := Lib.hid hbW
  clear C0 C3 hbW
  go_wp2_with fail
  refine (rsame_any _ _ d d w9 H3.out.2 H0.out.2).mono ?_
  rintro e w10 ⟨rfl, hb10⟩
  rw [sameB_self]
  have HbW2 := Lib.hid (HbW.out.trans (hb10.mono HbW.out.size))
  clear H0 H3 HbW hb10 p0 p1 p2 p3 r0 r1 r2 r3
  go_wp2
  go_ret
  exact ⟨rfl, HbW2.out⟩
end Go.Proofs.Ytfejnfohbagnkaa
