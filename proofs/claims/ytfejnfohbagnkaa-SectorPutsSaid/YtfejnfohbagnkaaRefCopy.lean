/-
  A walk over the document's own functions on disks: Copy, of any disk that isn't too great. It leaves all older memory as it was.
-/
import Derived.Test.YtfejnfohbagnkaaSecAlive
import Derived.Test.YtfejnfohbagnkaaSecEq
namespace Go.Proofs.Ytfejnfohbagnkaa
open Go.RowKit

theorem RowsOut.low {w : World} {base base' k n : Nat} {e : TypeId} {v : Value} {xs : List (List Value)} (h : RowsOut w base e k v n xs) (hb : base' ≤ base) : RowsOut w base' e k v n xs := by
  obtain ⟨A, c, rfl, h1, h2, h3, h4, h5⟩ := h
  exact ⟨A, c, rfl, h1, h2, h3, h4, fun hn => by
    obtain ⟨g, cs, e1, e2, e3⟩ := h5 hn
    exact ⟨g, cs, e1, by omega, e3⟩⟩

/-- a disk that is answered in memory of its own, from base on -/
def DkOut (w : World) (base : Nat) (v : Value) (d : Dk) : Prop :=
  ∃ A n c A' n' c', v = .agg #[.slice A n c, .slice A' n' c', .int .i64 d.fuse, .bool d.down] ∧ RowsOut w base 28 64 (.slice A n c) n (d.secs.map secv) ∧ RowsOut w base 37 65 (.slice A' n' c') n' (d.loose.map wrv)
theorem DkOut.at_ {w : World} {base : Nat} {v : Value} {d : Dk} (h : DkOut w base v d) : DkAt w w.heap.size v d := by
  obtain ⟨A, n, c, A', n', c', rfl, h1, h2⟩ := h
  obtain ⟨_, _, e1, a1, a2, a3⟩ := h1.arr
  obtain ⟨_, _, e2, b1, b2, b3⟩ := h2.arr
  injection e1 with e11 _ e13
  injection e2 with e21 _ e23
  subst e11 e13 e21 e23
  exact ⟨A, n, c, A', n', c', rfl, a1, b1, a2, b2, a3, b3⟩

set_option maxHeartbeats 1000000 in
theorem rcopy_any (v : Value) (d : Dk) (w : World) (hd : DkAt w w.heap.size v d) (h1 : d.secs.length ≤ 1000000) (h2 : d.loose.length ≤ 1000000) :
    Calls Try.prog 19 #[v] w fun e w' => ∃ v', e = .returned v' ∧ DkOut w' w.heap.size v' d ∧ Below w.heap.size w w' := by
  obtain ⟨A, n, c, A', n', c', rfl, hnc, hnc', hc, hc', hS, hL⟩ := hd
  have hn : d.secs.length = n := by have := hS.1; simpa using this
  have hn' : d.loose.length = n' := by have := hL.1; simpa using this
  rw [hn] at h1
  rw [hn'] at h2
  have HS := Lib.hid hS; have HL := Lib.hid hL
  clear hS hL hn hn'
  go_enter Try.func19, Try.ntmps19
  go_wp2_with ((with_reducible show wpList _ _ _ (⟨some 6, _, _, _, _, _⟩ :: _) _ _); refine hold ?_)
  refine held (wpList_append_rows rfl (.tmp 3) (.tmp 5) 22 rfl 28 (.agg (Array.replicate 64 (.int .u8 0))) 64 64 Try.underlying22 info_sec (by simp [Value.cells]) (by omega) (by omega) (w.heap.size + 1 + 1) rfl (Bk.new3 _ _ _ _ _) w.heap.size A n c (d.secs.map secv) rfl
    (HS.out.below ((((Below.refl w.heap.size w).alloc (Nat.le_refl _) _).alloc (by simp) _).alloc (by simp only [World.size_alloc]; omega) _) (Nat.le_refl _)) (fun x hx => by obtain ⟨y, _, rfl⟩ := List.mem_map.1 hx; exact secv_one y) h1 ?_)
  intro v1 w1 hR1 hg1
  have hgb : Below (w.heap.size + 1 + 1) (((w.alloc (.cells #[.slice A n c, .slice A' n' c', .int .i64 d.fuse, .bool d.down] 25)).alloc (.cells #[.slice none 0 0, .slice none 0 0, .int .i64 0, .bool false] 25)).alloc (.cells #[] 28)) w1 :=
    (Below.refl _ _).grown hg1 (by simp only [World.size_alloc]; omega) (fun k e => by cases e; exact Nat.le_refl _)
  have B0 : Bk w1 w.heap.size 25 #[.slice A n c, .slice A' n' c', .int .i64 d.fuse, .bool d.down] := Bk.below (((Bk.new _ _ _).alloc _).alloc _) hgb (by omega)
  have B1 : Bk w1 (w.heap.size + 1) 25 #[.slice none 0 0, .slice none 0 0, .int .i64 0, .bool false] := Bk.below ((Bk.new2 _ _ _ _).alloc _) hgb (by omega)
  have hb1 : Below w.heap.size w w1 := (((((Below.refl w.heap.size w).alloc (Nat.le_refl _) _).alloc (by simp) _).alloc (by simp only [World.size_alloc]; omega) _)).trans (hgb.mono (by omega))
  have hlt : w.heap.size + 1 < w1.heap.size := B1.lt
  obtain ⟨A1, c1, hv1⟩ : ∃ A1 c1, v1 = .slice A1 n c1 := by obtain ⟨A1, c1, h, _⟩ := hR1; exact ⟨A1, c1, h⟩
  rw [hv1] at hR1 ⊢
  clear hv1 hgb hg1
  obtain ⟨⟨p0, p1, p2, p3⟩, q0, q1, q2, q3⟩ := B0.four
  have HB0 := Lib.hid B0; have HB1 := Lib.hid B1; have HR1 := Lib.hid hR1; have HW1 := Lib.hid hb1
  have hlt0 : w.heap.size < w1.heap.size := by omega
  clear B0 B1 hR1 hb1
  go_wp2_with ((with_reducible show wpList _ _ _ (⟨some 11, _, _, _, _, _⟩ :: _) _ _); refine hold ?_)
  have hBn : Bk ((w1.setCell ⟨w.heap.size, 0, none⟩ (.slice A1 n c1)).alloc (.cells #[] 37)) w1.heap.size 37 #[] := Bk.new' _ _ _ _ (by simp)
  have hbx : Below w1.heap.size (w1.setCell ⟨w.heap.size, 0, none⟩ (.slice A1 n c1)) ((w1.setCell ⟨w.heap.size, 0, none⟩ (.slice A1 n c1)).alloc (.cells #[] 37)) := (Below.refl _ _).alloc (by simp) _
  have hL1 : Arr ((w1.setCell ⟨w.heap.size, 0, none⟩ (.slice A1 n c1)).alloc (.cells #[] 37)) w.heap.size 65 A' n' (d.loose.map wrv) :=
    HL.out.below (((HW1.out.setCell (p := ⟨w.heap.size, 0, none⟩) (Nat.le_refl _) _)).alloc (by simp; omega) _) (Nat.le_refl _)
  refine held (wpList_append_rows rfl (.tmp 8) (.tmp 10) 23 rfl 37 (.agg (wrv (0, zsec)).toArray) 65 72 Try.underlying23 info_wr (by simp [Value.cells, wrv_length, zsec]) (by omega) (by omega) w1.heap.size rfl hBn w.heap.size A' n' c' (d.loose.map wrv) rfl hL1
    (fun x hx => by obtain ⟨y, _, rfl⟩ := List.mem_map.1 hx; exact wrv_one y) h2 ?_)
  intro v2 w2 hR2 hg2
  have hb2 : Below w1.heap.size (w1.setCell ⟨w.heap.size, 0, none⟩ (.slice A1 n c1)) w2 := hbx.grown hg2 (by simp) (fun k e => by cases e; exact Nat.le_refl _)
  have hR1 : RowsOut w2 (w.heap.size + 1 + 1) 28 64 (.slice A1 n c1) n (d.secs.map secv) := by
    refine RowsOut.below (HR1.out.box (p := ⟨w.heap.size, 0, none⟩) (by show w.heap.size < _; omega) (.slice A1 n c1)) ?_
    rw [World.size_setCell]
    exact hb2
  have B0 : Bk w2 w.heap.size 25 #[.slice A1 n c1, .slice A' n' c', .int .i64 d.fuse, .bool d.down] := by
    have := (HB0.out.put 0 (.slice A1 n c1)).below hb2 hlt0
    simpa using this
  have B1 : Bk w2 (w.heap.size + 1) 25 #[.slice none 0 0, .slice none 0 0, .int .i64 0, .bool false] := (HB1.out.far (by simp) _).below hb2 hlt
  have hW2 : Below w.heap.size w w2 := (HW1.out.setCell (p := ⟨w.heap.size, 0, none⟩) (Nat.le_refl _) _).trans (hb2.mono (by omega))
  obtain ⟨A2, c2, hv2⟩ : ∃ A2 c2, v2 = .slice A2 n' c2 := by obtain ⟨A2, c2, h, _⟩ := hR2; exact ⟨A2, c2, h⟩
  rw [hv2] at hR2 ⊢
  clear hv2 hb2 hbx hBn hL1 hg2 HB0 HB1 HR1 HW1 p0 p1 p2 p3 q0 q1 q2 q3
  obtain ⟨⟨p0, p1, p2, p3⟩, q0, q1, q2, q3⟩ := B0.four
  obtain ⟨⟨r0, r1, r2, r3⟩, s0, s1, s2, s3⟩ := B1.four
  have hlt2 : w.heap.size + 1 < w2.heap.size := B1.lt
  have HR1 := Lib.hid hR1; have HR2 := Lib.hid hR2; have HW2 := Lib.hid hW2
  clear B0 B1 hR1 hR2 hW2
  go_wp2
  refine bodyPost_ret (v := .agg #[.slice A1 n c1, .slice A2 n' c2, .int .i64 d.fuse, .bool d.down]) (by simp [results, Try.results19, go_sem, *]) rfl ?_
  refine ⟨_, rfl, ⟨A1, n, c1, A2, n', c2, rfl, ?_, ?_⟩, ?_⟩
  · refine RowsOut.low (base := w.heap.size + 1 + 1) ?_ (by omega)
    repeat (first | with_reducible exact HR1.out | (refine RowsOut.box ?_ (by first | omega | (simp; done) | (simp; omega)) _))
  · refine RowsOut.low (base := w.heap.size + 1 + 1) ?_ (by omega)
    repeat (first | with_reducible exact HR2.out.low (by omega) | (refine RowsOut.box ?_ (by first | omega | (simp; done) | (simp; omega)) _))
  · repeat (first | with_reducible exact HW2.out | (refine Below.setCell ?_ (by first | omega | (simp; done) | (simp; omega)) _))
end Go.Proofs.Ytfejnfohbagnkaa
