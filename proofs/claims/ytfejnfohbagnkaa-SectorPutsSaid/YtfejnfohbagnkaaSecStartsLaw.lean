/-
  The walk of the law SectorStarts: any disk comes up again, whatever stays, and is armed, as the document says, or is refused. It returns true, and leaves all older memory as it was.
-/
import Derived.Test.YtfejnfohbagnkaaSecViewLaw
import Derived.Test.YtfejnfohbagnkaaRefArm
import Derived.Test.YtfejnfohbagnkaaRefStart
import Derived.Test.YtfejnfohbagnkaaRefSame
namespace Go.Proofs.Ytfejnfohbagnkaa
open Go.RowKit

/-- a variable of a disk, in a box of its own -/
def Dv (w : World) (b : Nat) (cs : Array Value) (d : Dk) : Prop := Bk w b 25 cs ∧ DkAt w w.heap.size (.agg cs) d
theorem Dv.later {w w' : World} {b : Nat} {cs : Array Value} {d : Dk} (h : Dv w b cs d) (hb : Below w.heap.size w w') : Dv w' b cs d := ⟨h.1.below hb h.1.lt, h.2.later hb⟩
theorem Dv.alloc {w : World} {b : Nat} {cs : Array Value} {d : Dk} (h : Dv w b cs d) (o : Obj) : Dv (w.alloc o) b cs d := h.later ((Below.refl _ _).alloc (Nat.le_refl _) _)
theorem Dv.new {w : World} {cs : Array Value} {d : Dk} (h : DkAt w w.heap.size (.agg cs) d) : Dv (w.alloc (.cells cs 25)) w.heap.size cs d := ⟨Bk.new _ _ _, h.later ((Below.refl _ _).alloc (Nat.le_refl _) _)⟩
theorem DkRes.open {w w' : World} {x : Dk × Int} {d : Dk} {er : Int} {e : Ending} (h : DkRes w x e w') (hx : x = (d, er)) : ∃ A n c A' n' c', e = .returned (.tuple #[.agg #[.slice A n c, .slice A' n' c', .int .i64 d.fuse, .bool d.down], .int .i64 er]) ∧
    DkAt w' w'.heap.size (.agg #[.slice A n c, .slice A' n' c', .int .i64 d.fuse, .bool d.down]) d ∧ Below w.heap.size w w' := by
  subst hx
  exact h.zero
theorem great_le {d : Dk} (h : greatB d = false) : d.secs.length ≤ 500 ∧ d.loose.length ≤ 500 := by
  unfold greatB at h
  simp at h
  exact h

set_option maxRecDepth 100000 in
set_option maxHeartbeats 4000000 in
theorem starts_walk (v : Value) (d : Dk) (m : Nat) (hm : m < 18446744073709551616) (f : Int) (w : World) (hd : DkAt w w.heap.size v d) :
    Calls Try.prog 5 #[v, .int .u64 (m : Int), .int .i64 f] w fun e w' => e = .returned (.bool true) ∧ Below w.heap.size w w' := by
  obtain ⟨A, n, c, A', n', c', rfl, hrest⟩ := id hd
  clear hrest
  have Hd := Lib.hid hd
  clear hd
  go_enter Try.func5, Try.ntmps5
  go_wp2_with fail
  refine calls_over (fun W => Dv W w.heap.size #[.slice A n c, .slice A' n' c', .int .i64 d.fuse, .bool d.down] d ∧ Below w.heap.size w W) ⟨Dv.new Hd.out, (Below.refl _ _).alloc (Nat.le_refl _) _⟩ ?_
  rintro W1 ⟨B0, hb1⟩
  refine (alive_any _).mono ?_
  rintro e w1 ⟨rfl, hb2⟩
  have HB0 := Lib.hid (B0.later hb2); have HW := Lib.hid (hb1.trans (hb2.mono hb1.size))
  clear B0 hb1 hb2 Hd
  obtain ⟨⟨p0, p1, p2, p3⟩, -⟩ := HB0.out.1.four
  go_wp2_with fail
  refine (great_any _ d _ HB0.out.2).mono ?_
  rintro e w2 ⟨rfl, hb2⟩
  have HB0' := Lib.hid (HB0.out.later hb2); have HW' := Lib.hid (HW.out.trans (hb2.mono HW.out.size))
  clear hb2 HB0 HW p0 p1 p2 p3
  obtain ⟨⟨p0, p1, p2, p3⟩, -⟩ := HB0'.out.1.four
  by_cases hg : greatB d = true
  · go_wp2
    go_ret
    exact ⟨rfl, HW'.out⟩
  have hg' : greatB d = false := by simpa using hg
  obtain ⟨hle1, hle2⟩ := great_le hg'
  clear hg
  obtain ⟨ds, es, hs⟩ : ∃ ds es, startM d m = (ds, es) := ⟨_, _, rfl⟩
  obtain ⟨da, ea, ha⟩ : ∃ da ea, armM d f = (da, ea) := ⟨_, _, rfl⟩
  have HS := Lib.hid hs; have HA := Lib.hid ha; have HM := Lib.hid hm
  clear hs ha hm
  go_wp2_with fail
  -- the copy
  refine (rcopy_any _ d _ HB0'.out.2 (by omega) (by omega)).mono ?_
  rintro e w3 ⟨v3, rfl, ho, hb3⟩
  have h3 := ho.at_
  obtain ⟨A3, n3, c3, A3', n3', c3', rfl, hrest⟩ := id h3
  clear hrest ho hle1 hle2 p0 p1 p2 p3
  have D0 := HB0'.out.later hb3
  have HD0 := Lib.hid D0; have HW3 := Lib.hid (HW'.out.trans (hb3.mono HW'.out.size)); have H3 := Lib.hid h3
  clear D0 hb3 h3 HB0' HW'
  go_wp2_with fail
  refine calls_over (fun W => Dv W w.heap.size #[.slice A n c, .slice A' n' c', .int .i64 d.fuse, .bool d.down] d ∧ Dv W w3.heap.size #[.slice A3 n3 c3, .slice A3' n3' c3', .int .i64 d.fuse, .bool d.down] d ∧ Below w.heap.size w W)
    ⟨HD0.out.alloc _, Dv.new H3.out, HW3.out.alloc HW3.out.size _⟩ ?_
  clear HD0 H3 HW3
  rintro W4 ⟨C0, C3, hbW⟩
  refine (start_any _ d m W4 HM.out C3.2).mono ?_
  rintro e w4 hres
  obtain ⟨A4, n4, c4, A4', n4', c4', rfl, hd4, hb4⟩ := hres.open HS.out
  have C0 := C0.later hb4
  have C3 := C3.later hb4
  have hbW := hbW.trans (hb4.mono hbW.size)
  have hl0 := C0.1.lt
  have hl3 := C3.1.lt
  obtain ⟨⟨p0, p1, p2, p3⟩, -⟩ := C0.1.four
  have H0 := Lib.hid C0; have H3 := Lib.hid C3; have H4 := Lib.hid hd4; have HbW := Lib.hid hbW
  clear C0 C3 hd4 hbW hb4 hres
  go_wp2_with fail
  refine calls_over (fun W => Dv W w.heap.size #[.slice A n c, .slice A' n' c', .int .i64 d.fuse, .bool d.down] d ∧ Dv W w3.heap.size #[.slice A3 n3 c3, .slice A3' n3' c3', .int .i64 d.fuse, .bool d.down] d ∧ Dv W w4.heap.size #[.slice A4 n4 c4, .slice A4' n4' c4', .int .i64 ds.fuse, .bool ds.down] ds ∧ Below w.heap.size w W)
    ⟨H0.out.alloc _, H3.out.alloc _, Dv.new H4.out, HbW.out.alloc HbW.out.size _⟩ ?_
  clear H0 H3 H4 HbW p0 p1 p2 p3 hl0 hl3
  rintro W5 ⟨C0, C3, C4, hbW⟩
  refine (rstart_any _ d m HM.out W5 C0.2).mono ?_
  rintro e w5 hres
  obtain ⟨A5, n5, c5, A5', n5', c5', rfl, hd5, hb5⟩ := hres.open HS.out
  clear hres
  have C0 := C0.later hb5
  have C3 := C3.later hb5
  have C4 := C4.later hb5
  have hbW := hbW.trans (hb5.mono hbW.size)
  have hl0 := C0.1.lt
  have hl3 := C3.1.lt
  have hl4 := C4.1.lt
  obtain ⟨⟨p0, p1, p2, p3⟩, -⟩ := C3.1.four
  have H0 := Lib.hid C0
  have H3 := Lib.hid C3
  have H4 := Lib.hid C4
  have H5 := Lib.hid hd5
  have HbW := Lib.hid hbW
  clear C0 C3 C4 hbW hb5 hd5
  go_wp2_with fail
  refine calls_over (fun W => Dv W w.heap.size #[.slice A n c, .slice A' n' c', .int .i64 d.fuse, .bool d.down] d ∧ Dv W w3.heap.size #[.slice A3 n3 c3, .slice A3' n3' c3', .int .i64 d.fuse, .bool d.down] d ∧ Dv W w4.heap.size #[.slice A4 n4 c4, .slice A4' n4' c4', .int .i64 ds.fuse, .bool ds.down] ds ∧ Dv W w5.heap.size #[.slice A5 n5 c5, .slice A5' n5' c5', .int .i64 ds.fuse, .bool ds.down] ds ∧ Below w.heap.size w W)
    ⟨H0.out.alloc _, H3.out.alloc _, H4.out.alloc _, Dv.new H5.out, HbW.out.alloc HbW.out.size _⟩ ?_
  clear H0 H3 H4 H5 HbW p0 p1 p2 p3 hl0 hl3 hl4
  rintro W6 ⟨C0, C3, C4, C5, hbW⟩
  refine (arm_any _ d f W6 C3.2).mono ?_
  rintro e w6 hres
  obtain ⟨A6, n6, c6, A6', n6', c6', rfl, hd6, hb6⟩ := hres.open HA.out
  clear hres
  have C0 := C0.later hb6
  have C3 := C3.later hb6
  have C4 := C4.later hb6
  have C5 := C5.later hb6
  have hbW := hbW.trans (hb6.mono hbW.size)
  have hl0 := C0.1.lt
  have hl3 := C3.1.lt
  have hl4 := C4.1.lt
  have hl5 := C5.1.lt
  obtain ⟨⟨p0, p1, p2, p3⟩, -⟩ := C0.1.four
  have H0 := Lib.hid C0
  have H3 := Lib.hid C3
  have H4 := Lib.hid C4
  have H5 := Lib.hid C5
  have H6 := Lib.hid hd6
  have HbW := Lib.hid hbW
  clear C0 C3 C4 C5 hbW hb6 hd6
  go_wp2_with fail
  refine calls_over (fun W => Dv W w.heap.size #[.slice A n c, .slice A' n' c', .int .i64 d.fuse, .bool d.down] d ∧ Dv W w3.heap.size #[.slice A3 n3 c3, .slice A3' n3' c3', .int .i64 d.fuse, .bool d.down] d ∧ Dv W w4.heap.size #[.slice A4 n4 c4, .slice A4' n4' c4', .int .i64 ds.fuse, .bool ds.down] ds ∧ Dv W w5.heap.size #[.slice A5 n5 c5, .slice A5' n5' c5', .int .i64 ds.fuse, .bool ds.down] ds ∧ Dv W w6.heap.size #[.slice A6 n6 c6, .slice A6' n6' c6', .int .i64 da.fuse, .bool da.down] da ∧ Below w.heap.size w W)
    ⟨H0.out.alloc _, H3.out.alloc _, H4.out.alloc _, H5.out.alloc _, Dv.new H6.out, HbW.out.alloc HbW.out.size _⟩ ?_
  clear H0 H3 H4 H5 H6 HbW p0 p1 p2 p3 hl0 hl3 hl4 hl5
  rintro W7 ⟨C0, C3, C4, C5, C6, hbW⟩
  refine (rarm_any _ d f W7 C0.2).mono ?_
  rintro e w7 hres
  obtain ⟨A7, n7, c7, A7', n7', c7', rfl, hd7, hb7⟩ := hres.open HA.out
  clear hres
  have C0 := C0.later hb7
  have C3 := C3.later hb7
  have C4 := C4.later hb7
  have C5 := C5.later hb7
  have C6 := C6.later hb7
  have hbW := hbW.trans (hb7.mono hbW.size)
  have hl0 := C0.1.lt
  have hl3 := C3.1.lt
  have hl4 := C4.1.lt
  have hl5 := C5.1.lt
  have hl6 := C6.1.lt
  obtain ⟨⟨p0, p1, p2, p3⟩, -⟩ := C4.1.four
  obtain ⟨⟨r0, r1, r2, r3⟩, -⟩ := C5.1.four
  have H0 := Lib.hid C0
  have H3 := Lib.hid C3
  have H4 := Lib.hid C4
  have H5 := Lib.hid C5
  have H6 := Lib.hid C6
  have H7 := Lib.hid hd7
  have HbW := Lib.hid hbW
  clear C0 C3 C4 C5 C6 hbW hb7 hd7
  go_wp2_with fail
  refine calls_over (fun W => Dv W w.heap.size #[.slice A n c, .slice A' n' c', .int .i64 d.fuse, .bool d.down] d ∧ Dv W w3.heap.size #[.slice A3 n3 c3, .slice A3' n3' c3', .int .i64 d.fuse, .bool d.down] d ∧ Dv W w4.heap.size #[.slice A4 n4 c4, .slice A4' n4' c4', .int .i64 ds.fuse, .bool ds.down] ds ∧ Dv W w5.heap.size #[.slice A5 n5 c5, .slice A5' n5' c5', .int .i64 ds.fuse, .bool ds.down] ds ∧ Dv W w6.heap.size #[.slice A6 n6 c6, .slice A6' n6' c6', .int .i64 da.fuse, .bool da.down] da ∧ Dv W w7.heap.size #[.slice A7 n7 c7, .slice A7' n7' c7', .int .i64 da.fuse, .bool da.down] da ∧ Below w.heap.size w W)
    ⟨H0.out.alloc _, H3.out.alloc _, H4.out.alloc _, H5.out.alloc _, H6.out.alloc _, Dv.new H7.out, HbW.out.alloc HbW.out.size _⟩ ?_
  clear H0 H3 H4 H5 H6 H7 HbW p0 p1 p2 p3 r0 r1 r2 r3 hl0 hl3 hl4 hl5 hl6
  rintro W8 ⟨C0, C3, C4, C5, C6, C7, hbW⟩
  refine (rsame_any _ _ ds ds W8 C4.2 C5.2).mono ?_
  rintro e w8 ⟨rfl, hbx⟩
  have C0 := C0.later hbx
  have C3 := C3.later hbx
  have C4 := C4.later hbx
  have C5 := C5.later hbx
  have C6 := C6.later hbx
  have C7 := C7.later hbx
  have hbW := hbW.trans (hbx.mono hbW.size)
  have hl0 := C0.1.lt
  have hl3 := C3.1.lt
  have hl4 := C4.1.lt
  have hl5 := C5.1.lt
  have hl6 := C6.1.lt
  have hl7 := C7.1.lt
  rw [sameB_self]
  obtain ⟨⟨p0, p1, p2, p3⟩, -⟩ := C6.1.four
  obtain ⟨⟨r0, r1, r2, r3⟩, -⟩ := C7.1.four
  have H0 := Lib.hid C0
  have H3 := Lib.hid C3
  have H4 := Lib.hid C4
  have H5 := Lib.hid C5
  have H6 := Lib.hid C6
  have H7 := Lib.hid C7
  have HbW := Lib.hid hbW
  clear C0 C3 C4 C5 C6 C7 hbW hbx
  go_wp2_with fail
  refine (rsame_any _ _ da da w8 H6.out.2 H7.out.2).mono ?_
  rintro e w9 ⟨rfl, hb9⟩
  rw [sameB_self]
  have C0 := H0.out.later hb9
  have C3 := H3.out.later hb9
  have hbW := HbW.out.trans (hb9.mono HbW.out.size)
  clear H0 H3 H4 H5 H6 H7 HbW hb9 p0 p1 p2 p3 r0 r1 r2 r3
  obtain ⟨⟨p0, p1, p2, p3⟩, -⟩ := C0.1.four
  obtain ⟨⟨r0, r1, r2, r3⟩, -⟩ := C3.1.four
  have H0 := Lib.hid C0; have H3 := Lib.hid C3; have HbW := Lib.hid hbW
  clear C0 C3 hbW
  go_wp2_with fail
  refine (rsame_any _ _ d d w9 H3.out.2 H0.out.2).mono ?_
  rintro e w10 ⟨rfl, hb10⟩
  rw [sameB_self]
  have HbW2 := Lib.hid (HbW.out.trans (hb10.mono HbW.out.size))
  clear H0 H3 HbW hb10 p0 p1 p2 p3 r0 r1 r2 r3
  go_wp2
  go_ret
  exact ⟨rfl, HbW2.out⟩
end Go.Proofs.Ytfejnfohbagnkaa
