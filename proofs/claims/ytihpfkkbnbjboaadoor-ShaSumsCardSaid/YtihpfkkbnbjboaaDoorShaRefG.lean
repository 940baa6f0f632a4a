/-
  Contracts over the document's own answer for layer 4: a block's step on its own.
-/
import Derived.Test.YtihpfkkbnbjboaaDoorShaRefF
import Derived.Test.YtihpfkkbnbjboaaDoorShaText
namespace Go.Proofs.YtihpfkkbnbjboaaDoor
set_option linter.unusedVariables false
set_option linter.unusedSimpArgs false
open Go.RowKit

theorem Bk.bytes {w : World} {g : Nat} {t : TypeId} {l : List Nat} (h : Bk w g t (cb l)) (hb : ∀ x ∈ l, x < 256) {n : Nat} (hn : l.length = n) {B : Nat} (hB : g < B) : Bytes w B (some ⟨g, 0, none⟩) n l :=
  ⟨hn, hb, fun _ => ⟨g, 0, rfl, hB, fun i hi => by rw [Nat.zero_add]; exact h.byte (by omega)⟩⟩
theorem bel_call {W w5 : World} (h : Below W.drew.heap.size W.drew w5) : Below W.heap.size W w5 := ((Below.refl _ _).drew).trans h

theorem store_all {P : Program} {W : World} {g : Nat} {t : TypeId} {cur ds : Array Value} (h : Bk W g t cur) (hs : ds.size = cur.size) (h1 : ∀ v ∈ ds.toList, v.oneCell' = true) : (storeCells ⟨g, 0, none⟩ ds.toList).run P W = .ok () (W.setRow g ds) := by
  have := run_storeCells_at P g 0 t ds.toList 0 cur W h (by simp [hs]) h1
  rw [this]
  congr 2
  have e : cur.toList.take (0 + 0) ++ ds.toList ++ cur.toList.drop (0 + 0 + ds.toList.length) = ds.toList := by
    rw [Nat.add_zero, List.take_zero, List.nil_append, Nat.zero_add, List.drop_eq_nil_of_le (by simp [hs]), List.append_nil]
  rw [e, Array.toArray_toList]

set_option maxRecDepth 20000 in
set_option maxHeartbeats 4000000 in
theorem rstep1_any (s : Wd) (l : List Nat) (w : World) (hs : s.Ok) (hl : l.length = 64) (hby : ∀ x ∈ l, x < 256) :
    Calls Tryd.prog 17 #[.agg (cw s.list), .agg (cb l)] w fun e w' => e = .returned (.agg (cw (stepN kL s l).list)) ∧ Below w.heap.size w w' := by
  rw [wd_cells, wd_cells]
  have HL := hide hl
  clear hl
  go_enter Tryd.func17, Tryd.ntmps17
  go_wp2_with fail
  have hb0 : Below w.heap.size w (((w.alloc (.cells (cw s.list) 31)).alloc (.cells (cb l) 32)).alloc (.cells (cw (List.replicate 8 0)) 31)) := (((Below.refl _ _).alloc (Nat.le_refl _) _).alloc (by simp) _).alloc (by simp; omega) _
  refine code_over (fun W => Bk W w.heap.size 31 (cw s.list) ∧ Bk W (w.heap.size + 1) 32 (cb l) ∧ Bk W (w.heap.size + 1 + 1) 31 (cw (List.replicate 8 0)) ∧ Below w.heap.size w W) ⟨((Bk.new w _ _).alloc _).alloc _, (Bk.new2 w _ _ _).alloc _, Bk.new3 w _ _ _ _, hb0⟩ ?_
  clear hb0
  rintro W ⟨b0, b1, b2, hb⟩
  have B0 := hide b0; have B1 := hide b1; have B2 := hide b2; have HB := hide hb
  obtain ⟨c0, c1, c2, c3, c4, c5, c6, c7⟩ := wd_at b0
  have hl2 : w.heap.size + 1 + 1 < W.heap.size := b2.lt
  have hl0 : w.heap.size < W.heap.size := by omega
  have hl1 : w.heap.size + 1 < W.heap.size := by omega
  clear b0 b1 b2 hb
  go_region_held3 (fun W' => W'.cell? ⟨w.heap.size, 0, none⟩ = some (.int .u32 (s.a : Int)) ∧ W'.cell? ⟨w.heap.size, 1, none⟩ = some (.int .u32 (s.b : Int)) ∧ W'.cell? ⟨w.heap.size, 2, none⟩ = some (.int .u32 (s.c : Int)) ∧ W'.cell? ⟨w.heap.size, 3, none⟩ = some (.int .u32 (s.d : Int)) ∧ W'.cell? ⟨w.heap.size, 4, none⟩ = some (.int .u32 (s.e : Int)) ∧ W'.cell? ⟨w.heap.size, 5, none⟩ = some (.int .u32 (s.f : Int)) ∧ W'.cell? ⟨w.heap.size, 6, none⟩ = some (.int .u32 (s.g : Int)) ∧ W'.cell? ⟨w.heap.size, 7, none⟩ = some (.int .u32 (s.h : Int)))
    (first | exact wd_at B0.out | exact wd_at ((B0.out.below hbX hl0).setRow_other (by omega) _) | exact wd_at (B0.out.below hbX hl0) | exact wd_at (B0.out.below hbW hl0))
    (first
      | (go_at_call 22; refine (rconst_any _).mono ?_; rintro e w5 ⟨rfl, hb5⟩; have hbW : Below W.heap.size W w5 := (by first | exact bel_call hb5 | exact hb5); clear hb5)
      | (go_at_call 23; rw [← wd_cells]; refine (rstep_any s _ _ l _ hs ((B1.out.below hbW hl1).bytes hby HL.out (by have := hbW.size; simp; omega))).mono ?_; rintro e w6 ⟨rfl, hb6⟩; have hbX : Below W.heap.size W w6 := hbW.trans (hb6.mono hbW.size); have hst := store_all (P := Tryd.prog) (ds := cw (stepN kL s l).list) (B2.out.below hbX hl2) (by simp [cw_size, Wd.list]) (cw_one _); clear hb6))
  have B3 := hide ((B2.out.below hbX hl2).setRow_same (cw (stepN kL s l).list))
  have hb3 := below_setRow (HB.out.trans (hbX.mono HB.out.size)) (g := w.heap.size + 1 + 1) (by omega) (cw (stepN kL s l).list)
  clear hst hbX hbW c0 c1 c2 c3 c4 c5 c6 c7
  go_wp2
  refine bodyPost_ret (v := .agg (cw (stepN kL s l).list)) ?_ rfl ⟨rfl, hb3⟩
  exact results_cell (a := ⟨w.heap.size + 1 + 1, 0, none⟩) rfl rfl (B3.out.load Tryd.underlying31 rfl (by rw [cw_size]; exact size8))
end Go.Proofs.YtihpfkkbnbjboaaDoor
