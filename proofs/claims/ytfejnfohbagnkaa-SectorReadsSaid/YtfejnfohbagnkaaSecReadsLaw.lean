/-
  The walk of the law SectorReads: any sector of any disk is read, any disk is new, and the same as another one, as the document says, or refused. It returns true, and leaves all older memory as it was.
-/
import Derived.Test.YtfejnfohbagnkaaSecStartsLaw
import Derived.Test.YtfejnfohbagnkaaRefRead
import Derived.Deep.RegionHeld3
namespace Go.Proofs.Ytfejnfohbagnkaa
open Go.RowKit

/-- what is known of the world while the answers are compared -/
def RS (w : World) (d dn : Dk) (V3 V11 V13 : Array Value) (b11 b13 b7 b9 : Nat) (r : List Int) (W : World) : Prop :=
  Dv W w.heap.size V3 d ∧ Dv W b11 V11 dn ∧ Dv W b13 V13 dn ∧ Bk W b7 28 (secv r).toArray ∧ Bk W b9 28 (secv r).toArray ∧ Below w.heap.size w W
section
variable {w : World} {d dn : Dk} {V3 V11 V13 : Array Value} {b11 b13 b7 b9 : Nat} {r : List Int} {W W' : World}
theorem RS.later (h : RS w d dn V3 V11 V13 b11 b13 b7 b9 r W) (hb : Below W.heap.size W W') : RS w d dn V3 V11 V13 b11 b13 b7 b9 r W' :=
  ⟨h.1.later hb, h.2.1.later hb, h.2.2.1.later hb, h.2.2.2.1.below hb h.2.2.2.1.lt, h.2.2.2.2.1.below hb h.2.2.2.2.1.lt, h.2.2.2.2.2.trans (hb.mono h.2.2.2.2.2.size)⟩
theorem RS.low (h : RS w d dn V3 V11 V13 b11 b13 b7 b9 r W) : Below w.heap.size w W := h.2.2.2.2.2
theorem RS.same_new (h : RS w d dn V3 V11 V13 b11 b13 b7 b9 r W) : Calls Try.prog 15 #[.agg V11, .agg V13] W fun e w' => e = .returned (.bool true) ∧ Below W.heap.size W w' := by
  have := rsame_any (.agg V11) (.agg V13) dn dn W h.2.1.2 h.2.2.1.2
  rwa [sameB_self] at this
theorem RS.same_new_d (h : RS w d dn V3 V11 V13 b11 b13 b7 b9 r W) : Calls Try.prog 15 #[.agg V11, .agg V3] W fun e w' => e = .returned (.bool (sameB dn d)) ∧ Below W.heap.size W w' :=
  rsame_any (.agg V11) (.agg V3) dn d W h.2.1.2 h.1.2
theorem RS.same_d_d (h : RS w d dn V3 V11 V13 b11 b13 b7 b9 r W) : Calls Try.prog 18 #[.agg V3, .agg V3] W fun e w' => e = .returned (.bool true) ∧ Below W.heap.size W w' := by
  have := same_any (.agg V3) (.agg V3) d d W h.1.2 h.1.2
  rwa [sameB_self] at this
theorem RS.same_n_d (h : RS w d dn V3 V11 V13 b11 b13 b7 b9 r W) : Calls Try.prog 18 #[.agg V11, .agg V3] W fun e w' => e = .returned (.bool (sameB dn d)) ∧ Below W.heap.size W w' :=
  same_any (.agg V11) (.agg V3) dn d W h.2.1.2 h.1.2
theorem RS.right_d (h : RS w d dn V3 V11 V13 b11 b13 b7 b9 r W) : Calls Try.prog 16 #[.agg V3] W fun e w' => e = .returned (.bool (rightB d)) ∧ Below W.heap.size W w' := right_any (.agg V3) d W h.1.2
theorem RS.rright_d (h : RS w d dn V3 V11 V13 b11 b13 b7 b9 r W) : Calls Try.prog 17 #[.agg V3] W fun e w' => e = .returned (.bool (rightB d)) ∧ Below W.heap.size W w' := rright_any (.agg V3) d W h.1.2
end
theorem RS.all {w : World} {d dn : Dk} {a0 a1 a2 a3 c0 c1 c2 c3 e0 e1 e2 e3 : Value} {b11 b13 b7 b9 : Nat} {r : List Int} {W : World} (h : RS w d dn #[a0, a1, a2, a3] #[c0, c1, c2, c3] #[e0, e1, e2, e3] b11 b13 b7 b9 r W) :
    W.cell? ⟨w.heap.size, 0, none⟩ = some a0 ∧ W.cell? ⟨w.heap.size, 1, none⟩ = some a1 ∧ W.cell? ⟨w.heap.size, 2, none⟩ = some a2 ∧ W.cell? ⟨w.heap.size, 3, none⟩ = some a3 ∧
    W.cell? ⟨b11, 0, none⟩ = some c0 ∧ W.cell? ⟨b11, 1, none⟩ = some c1 ∧ W.cell? ⟨b11, 2, none⟩ = some c2 ∧ W.cell? ⟨b11, 3, none⟩ = some c3 ∧
    W.cell? ⟨b13, 0, none⟩ = some e0 ∧ W.cell? ⟨b13, 1, none⟩ = some e1 ∧ W.cell? ⟨b13, 2, none⟩ = some e2 ∧ W.cell? ⟨b13, 3, none⟩ = some e3 ∧
    W.rangeAt b7 0 (secv r) ∧ W.rangeAt b9 0 (secv r) ∧ RS w d dn #[a0, a1, a2, a3] #[c0, c1, c2, c3] #[e0, e1, e2, e3] b11 b13 b7 b9 r W := by
  obtain ⟨⟨p0, p1, p2, p3⟩, -⟩ := h.1.1.four
  obtain ⟨⟨q0, q1, q2, q3⟩, -⟩ := h.2.1.1.four
  obtain ⟨⟨r0, r1, r2, r3⟩, -⟩ := h.2.2.1.1.four
  exact ⟨p0, p1, p2, p3, q0, q1, q2, q3, r0, r1, r2, r3, bk_range h.2.2.2.1, bk_range h.2.2.2.2.1, h⟩

set_option maxRecDepth 100000 in
set_option maxHeartbeats 8000000 in
theorem reads_walk (v : Value) (d : Dk) (at_ k : Int) (w : World) (hd : DkAt w w.heap.size v d) :
    Calls Try.prog 3 #[v, .int .i64 at_, .int .i64 k] w fun e w' => e = .returned (.bool true) ∧ Below w.heap.size w w' := by
  obtain ⟨A, n, c, A', n', c', rfl, hrest⟩ := id hd
  clear hrest
  have Hd := Lib.hid hd
  have hdl := hd.lens
  obtain ⟨r, er, hr⟩ : ∃ r er, readM d at_ = (r, er) := ⟨_, _, rfl⟩
  have rl : r.length = 64 := by have := readM_len (d := d) at_ hdl.1 hdl.2; rwa [hr] at this
  obtain ⟨dn, en, hn⟩ : ∃ dn en, newM k = (dn, en) := ⟨_, _, rfl⟩
  have HR := Lib.hid hr; have HN := Lib.hid hn
  clear hd hdl hr hn
  go_enter Try.func3, Try.ntmps3
  go_wp2_with fail
  refine calls_over (fun W => Dv W w.heap.size #[.slice A n c, .slice A' n' c', .int .i64 d.fuse, .bool d.down] d ∧ Below w.heap.size w W) ⟨Dv.new Hd.out, (Below.refl _ _).alloc (Nat.le_refl _) _⟩ ?_
  rintro W1 ⟨B0, hb1⟩
  refine (alive_any _).mono ?_
  rintro e w1 ⟨rfl, hb2⟩
  have HB0 := Lib.hid (B0.later hb2); have HW := Lib.hid (hb1.trans (hb2.mono hb1.size))
  clear B0 hb1 hb2 Hd
  obtain ⟨⟨p0, p1, p2, p3⟩, -⟩ := HB0.out.1.four
  go_wp2_with fail
  refine (great_any _ d _ HB0.out.2).mono ?_
  rintro e w2 ⟨rfl, hb2⟩
  have HB0' := Lib.hid (HB0.out.later hb2); have HW' := Lib.hid (HW.out.trans (hb2.mono HW.out.size))
  clear hb2 HB0 HW p0 p1 p2 p3
  obtain ⟨⟨p0, p1, p2, p3⟩, -⟩ := HB0'.out.1.four
  by_cases hg : greatB d = true
  · go_wp2
    go_ret
    exact ⟨rfl, HW'.out⟩
  have hg' : greatB d = false := by simpa using hg
  clear hg
  go_wp2_with fail
  have hp := read_any _ d at_ w2 HB0'.out.2
  rw [HR.out] at hp
  refine hp.mono ?_
  clear hp
  rintro e w3 ⟨rfl, hb4⟩
  have C0 := HB0'.out.later hb4
  have hbW := HW'.out.trans (hb4.mono HW'.out.size)
  clear HB0' HW' hb4 p0 p1 p2 p3 hg'
  dsimp only
  have H0 := Lib.hid C0; have HbW := Lib.hid hbW
  clear C0 hbW
  go_wp2_with ((with_reducible show wpList _ _ _ (⟨_, .alloc 28, _, _, _, _⟩ :: _) _ _); refine hold ?_)
  refine held (wpList_alloc_to rfl 28 rfl (secv zsec).toArray (by kernel_rfl) ?_)
  go_wp2_with ((with_reducible show wpList _ _ _ (⟨none, .store 28 _ _, _, _, _, _⟩ :: _) _ _); refine hold ?_)
  refine held (wpList_store_wide rfl 28 (.tmp 7) (.tmp 23) rfl w3.heap.size 0 (secv r).toArray rfl rfl 28 _ (Bk.new _ _ _) (by simp [secv_length, zsec, rl]) (by simp only [List.size_toArray, secv_length, rl]; kernel_rfl) (by simpa using secv_one r) ?_)
  intro w4 hw'
  obtain ⟨N7, hbi, hli⟩ := new_sec rl hw'.out
  clear hw'
  have C0 := H0.out.later hbi
  have hbW := HbW.out.trans (hbi.mono HbW.out.size)
  clear hbi hli H0 HbW
  obtain ⟨⟨p0, p1, p2, p3⟩, -⟩ := C0.1.four
  have H0 := Lib.hid C0; have HbW := Lib.hid hbW; have H7 := Lib.hid N7
  clear N7 C0 hbW
  go_wp2_with fail
  have hp := rread_any _ d at_ w4 H0.out.2
  rw [HR.out] at hp
  refine hp.mono ?_
  clear hp
  rintro e w5 ⟨rfl, hb4⟩
  have C0 := H0.out.later hb4
  have N7 := H7.out.below hb4 H7.out.lt
  have hbW := HbW.out.trans (hb4.mono HbW.out.size)
  clear H0 HbW H7 hb4 p0 p1 p2 p3
  dsimp only
  have H0 := Lib.hid C0; have HbW := Lib.hid hbW; have H7 := Lib.hid N7
  clear C0 hbW N7
  go_wp2_with ((with_reducible show wpList _ _ _ (⟨_, .alloc 28, _, _, _, _⟩ :: _) _ _); refine hold ?_)
  refine held (wpList_alloc_to rfl 28 rfl (secv zsec).toArray (by kernel_rfl) ?_)
  go_wp2_with ((with_reducible show wpList _ _ _ (⟨none, .store 28 _ _, _, _, _, _⟩ :: _) _ _); refine hold ?_)
  refine held (wpList_store_wide rfl 28 (.tmp 9) (.tmp 29) rfl w5.heap.size 0 (secv r).toArray rfl rfl 28 _ (Bk.new _ _ _) (by simp [secv_length, zsec, rl]) (by simp only [List.size_toArray, secv_length, rl]; kernel_rfl) (by simpa using secv_one r) ?_)
  intro w6 hw'
  obtain ⟨N9, hbi, hli⟩ := new_sec rl hw'.out
  clear hw'
  have C0 := H0.out.later hbi
  have N7 := H7.out.below hbi H7.out.lt
  have hbW := HbW.out.trans (hbi.mono HbW.out.size)
  clear hbi hli H0 HbW H7
  have H0 := Lib.hid C0; have HbW := Lib.hid hbW; have H7 := Lib.hid N7; have H9 := Lib.hid N9
  clear N7 N9 C0 hbW
  go_wp2_with fail
  refine (new_any k w6).mono ?_
  rintro e w7 hres
  obtain ⟨A4, n4, c4, A4', n4', c4', rfl, hd4, hb4⟩ := hres.open HN.out
  clear hres
  have C0 := H0.out.later hb4
  have N7 := H7.out.below hb4 H7.out.lt
  have N9 := H9.out.below hb4 H9.out.lt
  have hbW := HbW.out.trans (hb4.mono HbW.out.size)
  clear H0 HbW H7 H9 hb4
  have H0 := Lib.hid C0; have HbW := Lib.hid hbW; have H7 := Lib.hid N7; have H9 := Lib.hid N9; have H4 := Lib.hid hd4
  clear N7 N9 C0 hbW hd4
  go_wp2_with fail
  refine calls_over (fun W => Dv W w.heap.size #[.slice A n c, .slice A' n' c', .int .i64 d.fuse, .bool d.down] d ∧ Dv W w7.heap.size #[.slice A4 n4 c4, .slice A4' n4' c4', .int .i64 dn.fuse, .bool dn.down] dn ∧ Bk W w3.heap.size 28 (secv r).toArray ∧ Bk W w5.heap.size 28 (secv r).toArray ∧ Below w.heap.size w W)
    ⟨H0.out.alloc _, Dv.new H4.out, H7.out.alloc _, H9.out.alloc _, HbW.out.alloc HbW.out.size _⟩ ?_
  clear H0 H4 H7 H9 HbW
  rintro W ⟨C0, C4, N7, N9, hbW⟩
  refine (rnew_any k W).mono ?_
  rintro e w8 hres
  obtain ⟨A5, n5, c5, A5', n5', c5', rfl, hd5, hb5⟩ := hres.open HN.out
  clear hres
  replace C0 := C0.later hb5
  replace C4 := C4.later hb5
  replace N7 := N7.below hb5 N7.lt
  replace N9 := N9.below hb5 N9.lt
  replace hbW := hbW.trans (hb5.mono hbW.size)
  have hRS : RS w d dn #[.slice A n c, .slice A' n' c', .int .i64 d.fuse, .bool d.down] #[.slice A4 n4 c4, .slice A4' n4' c4', .int .i64 dn.fuse, .bool dn.down] #[.slice A5 n5 c5, .slice A5' n5' c5', .int .i64 dn.fuse, .bool dn.down] w7.heap.size w8.heap.size w3.heap.size w5.heap.size r
      (w8.alloc (.cells #[.slice A5 n5 c5, .slice A5' n5' c5', .int .i64 dn.fuse, .bool dn.down] 25)) :=
    ⟨C0.alloc _, C4.alloc _, Dv.new hd5, N7.alloc _, N9.alloc _, hbW.alloc hbW.size _⟩
  clear C0 C4 N7 N9 hbW hd5 hb5
  have HRS := Lib.hid hRS
  clear hRS
  go_wp2_with fail
  obtain ⟨i28, hi28⟩ : ∃ i, Try.prog.info? 5 = some i := Option.isSome_iff_exists.1 (by kernel_rfl)
  have heq1 : ∀ W, (binOp .eql 28 (.agg (secv r).toArray) (.agg (secv r).toArray)).run Try.prog W = .ok (.bool true) W := fun W => by
    rw [run_eql_sec W Try.underlying28 Try.underlying5 hi28 (by kernel_rfl) rl rl]
    simp
  have hu : Try.prog.underlying 28 = some (.array 64 5) := Try.underlying28
  have hi : (Try.prog.info? 28).map (·.size) = some (secv r).length := by rw [secv_length, rl]; exact size_sec
  clear hi28 i28
  refine wp_region_noPanic ?_
  refine wp_region_held_drew (S := RS w d dn #[.slice A n c, .slice A' n' c', .int .i64 d.fuse, .bool d.down] #[.slice A4 n4 c4, .slice A4' n4' c4', .int .i64 dn.fuse, .bool dn.down] #[.slice A5 n5 c5, .slice A5' n5' c5', .int .i64 dn.fuse, .bool dn.down] w7.heap.size w8.heap.size w3.heap.size w5.heap.size r) (by kernel_rfl) (RS.later HRS.out (Below.refl _ _).drew) (fun hHeld => ?_)
  clear HRS
  refine wpAnyH_take (i := 0) (oi := { dst := some 41, op := Op.load 28 (Operand.tmp 7), type := 28, pos := "law.go:33", after := #[], guard := none }) (v := .agg (secv r).toArray) rfl (by kernel_rfl) (by kernel_rfl) (by kernel_rfl) (fun _ _ _ h => h)
    (yieldsIf_load_mid (by rfl) 28 (.tmp 7) rfl w3.heap.size 0 rfl (secv r) (.array 64 5) (fun W h => bk_range h.2.2.2.1) hu rfl hi) hHeld ?_
  simp only [Act.put, List.setIfInBounds_toArray, List.set_cons_zero, List.set_cons_succ]
  refine wpAnyH_take (i := 1) (oi := { dst := some 42, op := Op.load 28 (Operand.tmp 9), type := 28, pos := "law.go:33", after := #[], guard := none }) (v := .agg (secv r).toArray) rfl (by kernel_rfl) (by kernel_rfl) (by kernel_rfl) (fun _ _ _ h => h)
    (yieldsIf_load_mid (by rfl) 28 (.tmp 9) rfl w5.heap.size 0 rfl (secv r) (.array 64 5) (fun W h => bk_range h.2.2.2.2.1) hu rfl hi) hHeld ?_
  simp only [Act.put, List.setIfInBounds_toArray, List.set_cons_zero, List.set_cons_succ]
  refine wpAnyH_take (i := 2) (oi := { dst := some 43, op := Op.binOp BinOp.eql 28 (Operand.tmp 41) (Operand.tmp 42) 28, type := 4, pos := "law.go:33", after := #[{ on := 0, ground := Ground.data }, { on := 1, ground := Ground.data }], guard := none }) (v := .bool true) rfl (by kernel_rfl) (by kernel_rfl) (by kernel_rfl) (fun _ _ _ h => h) (Or.inl ⟨by rfl, ?_⟩) hHeld ?_
  · intro W hW
    clear hHeld hW
    go_simp
  simp only [Act.put, List.setIfInBounds_toArray, List.set_cons_zero, List.set_cons_succ]
  refine wpAnyH_take (i := 3) (oi := { dst := some 44, op := Op.move (Operand.tmp 43), type := 4, pos := "law.go:33", after := #[{ on := 2, ground := Ground.data }], guard := none }) (v := .bool true) rfl (by kernel_rfl) (by kernel_rfl) (by kernel_rfl) (fun _ _ _ h => h) (Or.inl ⟨by rfl, ?_⟩) hHeld ?_
  · intro W hW
    clear hHeld hW
    go_simp
  simp only [Act.put, List.setIfInBounds_toArray, List.set_cons_zero, List.set_cons_succ]
  refine wpAnyH_take (i := 4) (oi := { dst := some 45, op := Op.move (Operand.tmp 8), type := 29, pos := "law.go:33", after := #[{ on := 3, ground := Ground.guard }], guard := some (3, true) }) (v := .int .i64 er) rfl (by kernel_rfl) (by kernel_rfl) (by kernel_rfl) (fun _ _ _ h => h) (Or.inl ⟨by rfl, ?_⟩) hHeld ?_
  · intro W hW
    clear hHeld hW
    go_simp
  simp only [Act.put, List.setIfInBounds_toArray, List.set_cons_zero, List.set_cons_succ]
  refine wpAnyH_take (i := 5) (oi := { dst := some 46, op := Op.move (Operand.tmp 10), type := 29, pos := "law.go:33", after := #[{ on := 3, ground := Ground.guard }], guard := some (3, true) }) (v := .int .i64 er) rfl (by kernel_rfl) (by kernel_rfl) (by kernel_rfl) (fun _ _ _ h => h) (Or.inl ⟨by rfl, ?_⟩) hHeld ?_
  · intro W hW
    clear hHeld hW
    go_simp
  simp only [Act.put, List.setIfInBounds_toArray, List.set_cons_zero, List.set_cons_succ]
  refine wpAnyH_take (i := 6) (oi := { dst := some 47, op := Op.binOp BinOp.eql 29 (Operand.tmp 45) (Operand.tmp 46) 29, type := 4, pos := "law.go:33", after := #[{ on := 4, ground := Ground.data }, { on := 5, ground := Ground.data }, { on := 3, ground := Ground.guard }], guard := some (3, true) }) (v := .bool true) rfl (by kernel_rfl) (by kernel_rfl) (by kernel_rfl) (fun _ _ _ h => h) (Or.inl ⟨by rfl, ?_⟩) hHeld ?_
  · intro W hW
    clear hHeld hW
    go_simp
  simp only [Act.put, List.setIfInBounds_toArray, List.set_cons_zero, List.set_cons_succ]
  refine wpAnyH_take (i := 7) (oi := { dst := some 48, op := Op.pick (Operand.tmp 44) (Operand.tmp 47) (Operand.const (Value.bool false)), type := 4, pos := "law.go:33", after := #[{ on := 3, ground := Ground.data }, { on := 6, ground := Ground.data }], guard := none }) (v := .bool true) rfl (by kernel_rfl) (by kernel_rfl) (by kernel_rfl) (fun _ _ _ h => h) (Or.inl ⟨by rfl, ?_⟩) hHeld ?_
  · intro W hW
    clear hHeld hW
    go_simp
  simp only [Act.put, List.setIfInBounds_toArray, List.set_cons_zero, List.set_cons_succ]
  refine wpAnyH_take (i := 8) (oi := { dst := some 49, op := Op.move (Operand.tmp 48), type := 4, pos := "law.go:33", after := #[{ on := 7, ground := Ground.data }, { on := 3, ground := Ground.chain }], guard := none }) (v := .bool true) rfl (by kernel_rfl) (by kernel_rfl) (by kernel_rfl) (fun _ _ _ h => h) (Or.inl ⟨by rfl, ?_⟩) hHeld ?_
  · intro W hW
    clear hHeld hW
    go_simp
  simp only [Act.put, List.setIfInBounds_toArray, List.set_cons_zero, List.set_cons_succ]
  refine wpAnyH_take (i := 9) (oi := { dst := some 50, op := Op.load 25 (Operand.tmp 11), type := 25, pos := "law.go:33", after := #[{ on := 8, ground := Ground.guard }], guard := some (8, true) }) (v := .agg #[.slice A4 n4 c4, .slice A4' n4' c4', .int .i64 dn.fuse, .bool dn.down]) rfl (by kernel_rfl) (by kernel_rfl) (by kernel_rfl) (fun _ _ _ h => h) (Or.inl ⟨by rfl, ?_⟩) hHeld ?_
  · intro W hW
    obtain ⟨p0, p1, p2, p3, q0, q1, q2, q3, r0, r1, r2, r3, -, -, -⟩ := RS.all hW
    go_simp
  simp only [Act.put, List.setIfInBounds_toArray, List.set_cons_zero, List.set_cons_succ]
  refine wpAnyH_take (i := 10) (oi := { dst := some 51, op := Op.load 25 (Operand.tmp 13), type := 25, pos := "law.go:33", after := #[{ on := 8, ground := Ground.guard }], guard := some (8, true) }) (v := .agg #[.slice A5 n5 c5, .slice A5' n5' c5', .int .i64 dn.fuse, .bool dn.down]) rfl (by kernel_rfl) (by kernel_rfl) (by kernel_rfl) (fun _ _ _ h => h) (Or.inl ⟨by rfl, ?_⟩) hHeld ?_
  · intro W hW
    obtain ⟨p0, p1, p2, p3, q0, q1, q2, q3, r0, r1, r2, r3, -, -, -⟩ := RS.all hW
    go_simp
  simp only [Act.put, List.setIfInBounds_toArray, List.set_cons_zero, List.set_cons_succ]
  refine wpAnyH_ready (rs := [11]) (by kernel_rfl) (by simp) ?_
  refine AllReadyH.cons (o := { dst := some 52, op := Op.call { callee := Callee.value (Operand.func 15), args := #[Operand.tmp 50, Operand.tmp 51], argTypes := #[25, 25] }, type := 4, pos := "law.go:33", after := #[{ on := 9, ground := Ground.data }, { on := 10, ground := Ground.data }, { on := 8, ground := Ground.chain }, { on := 8, ground := Ground.guard }], guard := some (8, true) }) rfl (fun K hK => ?_) AllReadyH.nil
  go_simp
  refine (RS.same_new hHeld).mono ?_
  rintro e w' ⟨rfl, hb⟩
  dsimp only
  refine hK.out _ _ (RS.later hHeld hb) (fun hNew => ?_)
  clear hHeld hK K hb
  have hHeld := hNew
  clear hNew
  refine wpAnyH_take (i := 12) (oi := { dst := some 53, op := Op.pick (Operand.tmp 49) (Operand.tmp 52) (Operand.const (Value.bool false)), type := 4, pos := "law.go:33", after := #[{ on := 8, ground := Ground.data }, { on := 11, ground := Ground.data }], guard := none }) (v := .bool true) rfl (by kernel_rfl) (by kernel_rfl) (by kernel_rfl) (fun _ _ _ h => h) (Or.inl ⟨by rfl, ?_⟩) hHeld ?_
  · intro W hW
    clear hHeld hW
    go_simp
  simp only [Act.put, List.setIfInBounds_toArray, List.set_cons_zero, List.set_cons_succ]
  refine wpAnyH_take (i := 13) (oi := { dst := some 54, op := Op.move (Operand.tmp 53), type := 4, pos := "law.go:33", after := #[{ on := 12, ground := Ground.data }, { on := 11, ground := Ground.chain }], guard := none }) (v := .bool true) rfl (by kernel_rfl) (by kernel_rfl) (by kernel_rfl) (fun _ _ _ h => h) (Or.inl ⟨by rfl, ?_⟩) hHeld ?_
  · intro W hW
    clear hHeld hW
    go_simp
  simp only [Act.put, List.setIfInBounds_toArray, List.set_cons_zero, List.set_cons_succ]
  refine wpAnyH_take (i := 14) (oi := { dst := some 55, op := Op.move (Operand.tmp 12), type := 29, pos := "law.go:33", after := #[{ on := 13, ground := Ground.guard }], guard := some (13, true) }) (v := .int .i64 en) rfl (by kernel_rfl) (by kernel_rfl) (by kernel_rfl) (fun _ _ _ h => h) (Or.inl ⟨by rfl, ?_⟩) hHeld ?_
  · intro W hW
    clear hHeld hW
    go_simp
  simp only [Act.put, List.setIfInBounds_toArray, List.set_cons_zero, List.set_cons_succ]
  refine wpAnyH_take (i := 15) (oi := { dst := some 56, op := Op.move (Operand.tmp 14), type := 29, pos := "law.go:33", after := #[{ on := 13, ground := Ground.guard }], guard := some (13, true) }) (v := .int .i64 en) rfl (by kernel_rfl) (by kernel_rfl) (by kernel_rfl) (fun _ _ _ h => h) (Or.inl ⟨by rfl, ?_⟩) hHeld ?_
  · intro W hW
    clear hHeld hW
    go_simp
  simp only [Act.put, List.setIfInBounds_toArray, List.set_cons_zero, List.set_cons_succ]
  refine wpAnyH_take (i := 16) (oi := { dst := some 57, op := Op.binOp BinOp.eql 29 (Operand.tmp 55) (Operand.tmp 56) 29, type := 4, pos := "law.go:33", after := #[{ on := 14, ground := Ground.data }, { on := 15, ground := Ground.data }, { on := 13, ground := Ground.guard }], guard := some (13, true) }) (v := .bool true) rfl (by kernel_rfl) (by kernel_rfl) (by kernel_rfl) (fun _ _ _ h => h) (Or.inl ⟨by rfl, ?_⟩) hHeld ?_
  · intro W hW
    clear hHeld hW
    go_simp
  simp only [Act.put, List.setIfInBounds_toArray, List.set_cons_zero, List.set_cons_succ]
  refine wpAnyH_take (i := 17) (oi := { dst := some 58, op := Op.pick (Operand.tmp 54) (Operand.tmp 57) (Operand.const (Value.bool false)), type := 4, pos := "law.go:33", after := #[{ on := 13, ground := Ground.data }, { on := 16, ground := Ground.data }], guard := none }) (v := .bool true) rfl (by kernel_rfl) (by kernel_rfl) (by kernel_rfl) (fun _ _ _ h => h) (Or.inl ⟨by rfl, ?_⟩) hHeld ?_
  · intro W hW
    clear hHeld hW
    go_simp
  simp only [Act.put, List.setIfInBounds_toArray, List.set_cons_zero, List.set_cons_succ]
  refine wpAnyH_take (i := 18) (oi := { dst := some 59, op := Op.move (Operand.tmp 58), type := 4, pos := "law.go:33", after := #[{ on := 17, ground := Ground.data }, { on := 13, ground := Ground.chain }], guard := none }) (v := .bool true) rfl (by kernel_rfl) (by kernel_rfl) (by kernel_rfl) (fun _ _ _ h => h) (Or.inl ⟨by rfl, ?_⟩) hHeld ?_
  · intro W hW
    clear hHeld hW
    go_simp
  simp only [Act.put, List.setIfInBounds_toArray, List.set_cons_zero, List.set_cons_succ]
  refine wpAnyH_take (i := 19) (oi := { dst := some 60, op := Op.load 25 (Operand.tmp 3), type := 25, pos := "law.go:33", after := #[{ on := 18, ground := Ground.guard }], guard := some (18, true) }) (v := .agg #[.slice A n c, .slice A' n' c', .int .i64 d.fuse, .bool d.down]) rfl (by kernel_rfl) (by kernel_rfl) (by kernel_rfl) (fun _ _ _ h => h) (Or.inl ⟨by rfl, ?_⟩) hHeld ?_
  · intro W hW
    obtain ⟨p0, p1, p2, p3, q0, q1, q2, q3, r0, r1, r2, r3, -, -, -⟩ := RS.all hW
    go_simp
  simp only [Act.put, List.setIfInBounds_toArray, List.set_cons_zero, List.set_cons_succ]
  refine wpAnyH_take (i := 21) (oi := { dst := some 62, op := Op.load 25 (Operand.tmp 3), type := 25, pos := "law.go:33", after := #[{ on := 18, ground := Ground.guard }], guard := some (18, true) }) (v := .agg #[.slice A n c, .slice A' n' c', .int .i64 d.fuse, .bool d.down]) rfl (by kernel_rfl) (by kernel_rfl) (by kernel_rfl) (fun _ _ _ h => h) (Or.inl ⟨by rfl, ?_⟩) hHeld ?_
  · intro W hW
    obtain ⟨p0, p1, p2, p3, q0, q1, q2, q3, r0, r1, r2, r3, -, -, -⟩ := RS.all hW
    go_simp
  simp only [Act.put, List.setIfInBounds_toArray, List.set_cons_zero, List.set_cons_succ]
  refine wpAnyH_ready (rs := [20]) (by kernel_rfl) (by simp) ?_
  refine AllReadyH.cons (o := { dst := some 61, op := Op.call { callee := Callee.value (Operand.func 16), args := #[Operand.tmp 60], argTypes := #[25] }, type := 4, pos := "law.go:33", after := #[{ on := 19, ground := Ground.data }, { on := 18, ground := Ground.chain }, { on := 18, ground := Ground.guard }], guard := some (18, true) }) rfl (fun K hK => ?_) AllReadyH.nil
  go_simp
  refine (RS.right_d hHeld).mono ?_
  rintro e w' ⟨rfl, hb⟩
  dsimp only
  refine hK.out _ _ (RS.later hHeld hb) (fun hNew => ?_)
  clear hHeld hK K hb
  have hHeld := hNew
  clear hNew
  refine wpAnyH_ready (rs := [22]) (by kernel_rfl) (by simp) ?_
  refine AllReadyH.cons (o := { dst := some 63, op := Op.call { callee := Callee.value (Operand.func 17), args := #[Operand.tmp 62], argTypes := #[25] }, type := 4, pos := "law.go:33", after := #[{ on := 21, ground := Ground.data }, { on := 20, ground := Ground.chain }, { on := 18, ground := Ground.guard }], guard := some (18, true) }) rfl (fun K hK => ?_) AllReadyH.nil
  go_simp
  refine (RS.rright_d hHeld).mono ?_
  rintro e w' ⟨rfl, hb⟩
  dsimp only
  refine hK.out _ _ (RS.later hHeld hb) (fun hNew => ?_)
  clear hHeld hK K hb
  have hHeld := hNew
  clear hNew
  refine wpAnyH_take (i := 23) (oi := { dst := some 64, op := Op.binOp BinOp.eql 4 (Operand.tmp 61) (Operand.tmp 63) 4, type := 4, pos := "law.go:33", after := #[{ on := 20, ground := Ground.data }, { on := 22, ground := Ground.data }, { on := 18, ground := Ground.guard }], guard := some (18, true) }) (v := .bool true) rfl (by kernel_rfl) (by kernel_rfl) (by kernel_rfl) (fun _ _ _ h => h) (Or.inl ⟨by rfl, ?_⟩) hHeld ?_
  · intro W hW
    clear hHeld hW
    go_simp
  simp only [Act.put, List.setIfInBounds_toArray, List.set_cons_zero, List.set_cons_succ]
  refine wpAnyH_take (i := 24) (oi := { dst := some 65, op := Op.pick (Operand.tmp 59) (Operand.tmp 64) (Operand.const (Value.bool false)), type := 4, pos := "law.go:33", after := #[{ on := 18, ground := Ground.data }, { on := 23, ground := Ground.data }], guard := none }) (v := .bool true) rfl (by kernel_rfl) (by kernel_rfl) (by kernel_rfl) (fun _ _ _ h => h) (Or.inl ⟨by rfl, ?_⟩) hHeld ?_
  · intro W hW
    clear hHeld hW
    go_simp
  simp only [Act.put, List.setIfInBounds_toArray, List.set_cons_zero, List.set_cons_succ]
  refine wpAnyH_take (i := 25) (oi := { dst := some 66, op := Op.move (Operand.tmp 65), type := 4, pos := "law.go:33", after := #[{ on := 24, ground := Ground.data }, { on := 22, ground := Ground.chain }], guard := none }) (v := .bool true) rfl (by kernel_rfl) (by kernel_rfl) (by kernel_rfl) (fun _ _ _ h => h) (Or.inl ⟨by rfl, ?_⟩) hHeld ?_
  · intro W hW
    clear hHeld hW
    go_simp
  simp only [Act.put, List.setIfInBounds_toArray, List.set_cons_zero, List.set_cons_succ]
  refine wpAnyH_take (i := 26) (oi := { dst := some 67, op := Op.load 25 (Operand.tmp 3), type := 25, pos := "law.go:33", after := #[{ on := 25, ground := Ground.guard }], guard := some (25, true) }) (v := .agg #[.slice A n c, .slice A' n' c', .int .i64 d.fuse, .bool d.down]) rfl (by kernel_rfl) (by kernel_rfl) (by kernel_rfl) (fun _ _ _ h => h) (Or.inl ⟨by rfl, ?_⟩) hHeld ?_
  · intro W hW
    obtain ⟨p0, p1, p2, p3, q0, q1, q2, q3, r0, r1, r2, r3, -, -, -⟩ := RS.all hW
    go_simp
  simp only [Act.put, List.setIfInBounds_toArray, List.set_cons_zero, List.set_cons_succ]
  refine wpAnyH_take (i := 27) (oi := { dst := some 68, op := Op.load 25 (Operand.tmp 3), type := 25, pos := "law.go:33", after := #[{ on := 25, ground := Ground.guard }], guard := some (25, true) }) (v := .agg #[.slice A n c, .slice A' n' c', .int .i64 d.fuse, .bool d.down]) rfl (by kernel_rfl) (by kernel_rfl) (by kernel_rfl) (fun _ _ _ h => h) (Or.inl ⟨by rfl, ?_⟩) hHeld ?_
  · intro W hW
    obtain ⟨p0, p1, p2, p3, q0, q1, q2, q3, r0, r1, r2, r3, -, -, -⟩ := RS.all hW
    go_simp
  simp only [Act.put, List.setIfInBounds_toArray, List.set_cons_zero, List.set_cons_succ]
  refine wpAnyH_ready (rs := [28]) (by kernel_rfl) (by simp) ?_
  refine AllReadyH.cons (o := { dst := some 69, op := Op.call { callee := Callee.value (Operand.func 18), args := #[Operand.tmp 67, Operand.tmp 68], argTypes := #[25, 25] }, type := 4, pos := "law.go:33", after := #[{ on := 26, ground := Ground.data }, { on := 27, ground := Ground.data }, { on := 25, ground := Ground.chain }, { on := 25, ground := Ground.guard }], guard := some (25, true) }) rfl (fun K hK => ?_) AllReadyH.nil
  go_simp
  refine (RS.same_d_d hHeld).mono ?_
  rintro e w' ⟨rfl, hb⟩
  dsimp only
  refine hK.out _ _ (RS.later hHeld hb) (fun hNew => ?_)
  clear hHeld hK K hb
  have hHeld := hNew
  clear hNew
  refine wpAnyH_take (i := 29) (oi := { dst := some 70, op := Op.pick (Operand.tmp 66) (Operand.tmp 69) (Operand.const (Value.bool false)), type := 4, pos := "law.go:33", after := #[{ on := 25, ground := Ground.data }, { on := 28, ground := Ground.data }], guard := none }) (v := .bool true) rfl (by kernel_rfl) (by kernel_rfl) (by kernel_rfl) (fun _ _ _ h => h) (Or.inl ⟨by rfl, ?_⟩) hHeld ?_
  · intro W hW
    clear hHeld hW
    go_simp
  simp only [Act.put, List.setIfInBounds_toArray, List.set_cons_zero, List.set_cons_succ]
  refine wpAnyH_take (i := 30) (oi := { dst := some 71, op := Op.move (Operand.tmp 70), type := 4, pos := "law.go:33", after := #[{ on := 29, ground := Ground.data }, { on := 28, ground := Ground.chain }], guard := none }) (v := .bool true) rfl (by kernel_rfl) (by kernel_rfl) (by kernel_rfl) (fun _ _ _ h => h) (Or.inl ⟨by rfl, ?_⟩) hHeld ?_
  · intro W hW
    clear hHeld hW
    go_simp
  simp only [Act.put, List.setIfInBounds_toArray, List.set_cons_zero, List.set_cons_succ]
  refine wpAnyH_take (i := 31) (oi := { dst := some 72, op := Op.load 25 (Operand.tmp 11), type := 25, pos := "law.go:33", after := #[{ on := 30, ground := Ground.guard }], guard := some (30, true) }) (v := .agg #[.slice A4 n4 c4, .slice A4' n4' c4', .int .i64 dn.fuse, .bool dn.down]) rfl (by kernel_rfl) (by kernel_rfl) (by kernel_rfl) (fun _ _ _ h => h) (Or.inl ⟨by rfl, ?_⟩) hHeld ?_
  · intro W hW
    obtain ⟨p0, p1, p2, p3, q0, q1, q2, q3, r0, r1, r2, r3, -, -, -⟩ := RS.all hW
    go_simp
  simp only [Act.put, List.setIfInBounds_toArray, List.set_cons_zero, List.set_cons_succ]
  refine wpAnyH_take (i := 32) (oi := { dst := some 73, op := Op.load 25 (Operand.tmp 3), type := 25, pos := "law.go:33", after := #[{ on := 30, ground := Ground.guard }], guard := some (30, true) }) (v := .agg #[.slice A n c, .slice A' n' c', .int .i64 d.fuse, .bool d.down]) rfl (by kernel_rfl) (by kernel_rfl) (by kernel_rfl) (fun _ _ _ h => h) (Or.inl ⟨by rfl, ?_⟩) hHeld ?_
  · intro W hW
    obtain ⟨p0, p1, p2, p3, q0, q1, q2, q3, r0, r1, r2, r3, -, -, -⟩ := RS.all hW
    go_simp
  simp only [Act.put, List.setIfInBounds_toArray, List.set_cons_zero, List.set_cons_succ]
  refine wpAnyH_take (i := 34) (oi := { dst := some 75, op := Op.load 25 (Operand.tmp 11), type := 25, pos := "law.go:33", after := #[{ on := 30, ground := Ground.guard }], guard := some (30, true) }) (v := .agg #[.slice A4 n4 c4, .slice A4' n4' c4', .int .i64 dn.fuse, .bool dn.down]) rfl (by kernel_rfl) (by kernel_rfl) (by kernel_rfl) (fun _ _ _ h => h) (Or.inl ⟨by rfl, ?_⟩) hHeld ?_
  · intro W hW
    obtain ⟨p0, p1, p2, p3, q0, q1, q2, q3, r0, r1, r2, r3, -, -, -⟩ := RS.all hW
    go_simp
  simp only [Act.put, List.setIfInBounds_toArray, List.set_cons_zero, List.set_cons_succ]
  refine wpAnyH_take (i := 35) (oi := { dst := some 76, op := Op.load 25 (Operand.tmp 3), type := 25, pos := "law.go:33", after := #[{ on := 30, ground := Ground.guard }], guard := some (30, true) }) (v := .agg #[.slice A n c, .slice A' n' c', .int .i64 d.fuse, .bool d.down]) rfl (by kernel_rfl) (by kernel_rfl) (by kernel_rfl) (fun _ _ _ h => h) (Or.inl ⟨by rfl, ?_⟩) hHeld ?_
  · intro W hW
    obtain ⟨p0, p1, p2, p3, q0, q1, q2, q3, r0, r1, r2, r3, -, -, -⟩ := RS.all hW
    go_simp
  simp only [Act.put, List.setIfInBounds_toArray, List.set_cons_zero, List.set_cons_succ]
  refine wpAnyH_ready (rs := [33]) (by kernel_rfl) (by simp) ?_
  refine AllReadyH.cons (o := { dst := some 74, op := Op.call { callee := Callee.value (Operand.func 18), args := #[Operand.tmp 72, Operand.tmp 73], argTypes := #[25, 25] }, type := 4, pos := "law.go:33", after := #[{ on := 31, ground := Ground.data }, { on := 32, ground := Ground.data }, { on := 30, ground := Ground.chain }, { on := 30, ground := Ground.guard }], guard := some (30, true) }) rfl (fun K hK => ?_) AllReadyH.nil
  go_simp
  refine (RS.same_n_d hHeld).mono ?_
  rintro e w' ⟨rfl, hb⟩
  dsimp only
  refine hK.out _ _ (RS.later hHeld hb) (fun hNew => ?_)
  clear hHeld hK K hb
  have hHeld := hNew
  clear hNew
  refine wpAnyH_ready (rs := [36]) (by kernel_rfl) (by simp) ?_
  refine AllReadyH.cons (o := { dst := some 77, op := Op.call { callee := Callee.value (Operand.func 15), args := #[Operand.tmp 75, Operand.tmp 76], argTypes := #[25, 25] }, type := 4, pos := "law.go:33", after := #[{ on := 34, ground := Ground.data }, { on := 35, ground := Ground.data }, { on := 33, ground := Ground.chain }, { on := 30, ground := Ground.guard }], guard := some (30, true) }) rfl (fun K hK => ?_) AllReadyH.nil
  go_simp
  refine (RS.same_new_d hHeld).mono ?_
  rintro e w' ⟨rfl, hb⟩
  dsimp only
  refine hK.out _ _ (RS.later hHeld hb) (fun hNew => ?_)
  clear hHeld hK K hb
  have hHeld := hNew
  clear hNew
  refine wpAnyH_take (i := 37) (oi := { dst := some 78, op := Op.binOp BinOp.eql 4 (Operand.tmp 74) (Operand.tmp 77) 4, type := 4, pos := "law.go:33", after := #[{ on := 33, ground := Ground.data }, { on := 36, ground := Ground.data }, { on := 30, ground := Ground.guard }], guard := some (30, true) }) (v := .bool true) rfl (by kernel_rfl) (by kernel_rfl) (by kernel_rfl) (fun _ _ _ h => h) (Or.inl ⟨by rfl, ?_⟩) hHeld ?_
  · intro W hW
    clear hHeld hW
    go_simp
  simp only [Act.put, List.setIfInBounds_toArray, List.set_cons_zero, List.set_cons_succ]
  refine wpAnyH_take (i := 38) (oi := { dst := some 79, op := Op.pick (Operand.tmp 71) (Operand.tmp 78) (Operand.const (Value.bool false)), type := 4, pos := "law.go:33", after := #[{ on := 30, ground := Ground.data }, { on := 37, ground := Ground.data }], guard := none }) (v := .bool true) rfl (by kernel_rfl) (by kernel_rfl) (by kernel_rfl) (fun _ _ _ h => h) (Or.inl ⟨by rfl, ?_⟩) hHeld ?_
  · intro W hW
    clear hHeld hW
    go_simp
  simp only [Act.put, List.setIfInBounds_toArray, List.set_cons_zero, List.set_cons_succ]
  refine wpAnyH_take (i := 39) (oi := { dst := some 6, op := Op.assign (Operand.tmp 79), type := 4, pos := "law.go:33", after := #[{ on := 38, ground := Ground.data }, { on := 36, ground := Ground.chain }, { on := 0, ground := Ground.phase }, { on := 1, ground := Ground.phase }, { on := 2, ground := Ground.phase }, { on := 3, ground := Ground.phase }, { on := 4, ground := Ground.phase }, { on := 5, ground := Ground.phase }, { on := 6, ground := Ground.phase }, { on := 7, ground := Ground.phase }, { on := 8, ground := Ground.phase }, { on := 9, ground := Ground.phase }, { on := 10, ground := Ground.phase }, { on := 11, ground := Ground.phase }, { on := 12, ground := Ground.phase }, { on := 13, ground := Ground.phase }, { on := 14, ground := Ground.phase }, { on := 15, ground := Ground.phase }, { on := 16, ground := Ground.phase }, { on := 17, ground := Ground.phase }, { on := 18, ground := Ground.phase }, { on := 19, ground := Ground.phase }, { on := 20, ground := Ground.phase }, { on := 21, ground := Ground.phase }, { on := 22, ground := Ground.phase }, { on := 23, ground := Ground.phase }, { on := 24, ground := Ground.phase }, { on := 25, ground := Ground.phase }, { on := 26, ground := Ground.phase }, { on := 27, ground := Ground.phase }, { on := 28, ground := Ground.phase }, { on := 29, ground := Ground.phase }, { on := 30, ground := Ground.phase }, { on := 31, ground := Ground.phase }, { on := 32, ground := Ground.phase }, { on := 33, ground := Ground.phase }, { on := 34, ground := Ground.phase }, { on := 35, ground := Ground.phase }, { on := 36, ground := Ground.phase }, { on := 37, ground := Ground.phase }, { on := 38, ground := Ground.phase }], guard := none }) (v := .bool true) rfl (by kernel_rfl) (by kernel_rfl) (by kernel_rfl) (fun _ _ _ h => h) (Or.inl ⟨by rfl, ?_⟩) hHeld ?_
  · intro W hW
    clear hHeld hW
    go_simp
  simp only [Act.put, List.setIfInBounds_toArray, List.set_cons_zero, List.set_cons_succ]
  refine wpAnyH_done (by kernel_rfl) ?_ _
  refine NoPanic.normal ?_
  have HH := Lib.hid hHeld.low
  clear hHeld
  go_wp2
  go_ret
  exact ⟨rfl, HH.out⟩
end Go.Proofs.Ytfejnfohbagnkaa
