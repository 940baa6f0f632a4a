/-
  A part of the proof: see the last text.
-/
import Derived.Test.YthflljlilcmcnaaGreatDoorSSecStart
namespace Go.Proofs.YthflljlilcmcnaaGreatDoor
set_option linter.unusedVariables false
set_option linter.unusedSimpArgs false
open Go.RowKit
set_option maxRecDepth 20000 in
set_option maxHeartbeats 1000000 in
theorem rnew_any (n : Int) (w : World) : Calls Tryz.prog 19 #[.int .i64 n] w (DkRes w (newM n)) := by
  by_cases h0 : 0 ≤ n
  · by_cases h1 : n ≤ 4096
    · have hM : newM n = (⟨List.replicate n.toNat zsec, [], -1, false⟩, 0) := by unfold newM; rw [if_pos ⟨h0, h1⟩]; rfl
      rw [hM]
      clear hM
      have hmk := fun W => run_make_secs (P := Tryz.prog) (t := 42) Tryz.underlying42 info_sec n h0 (by omega) W
      go_enter Tryz.func19, Tryz.ntmps19
      go_wp2
      refine bodyPost_ret (v := .tuple #[.agg #[.slice (some ⟨w.heap.size + 1, 0, none⟩) n.toNat n.toNat, .slice none 0 0, .int .i64 (-1), .bool false], .int .i64 0]) (by simp [results, Tryz.results19, go_sem]) rfl ?_
      refine ⟨_, rfl, ⟨_, _, _, _, _, _, rfl, Nat.le_refl _, Nat.le_refl _, by unfold maxLen; omega, by simp, Arr.zeros _ _ _ _ (by exact Bk.new2 _ _ _ _) _ (by simp), Arr.nil⟩, ?_⟩
      exact ((Below.refl _ _).alloc (Nat.le_refl _) _).alloc (by simp) _
    · have hM : newM n = (⟨[], [], 0, false⟩, 1) := by unfold newM; rw [if_neg (fun h => h1 h.2)]
      rw [hM]
      clear hM
      have h2 : decide (4096 < n) = true := by simp; omega
      have h3 : decide (n < 0) = false := by simp; omega
      go_enter Tryz.func19, Tryz.ntmps19
      go_wp2
      refine bodyPost_ret (v := .tuple #[.agg #[.slice none 0 0, .slice none 0 0, .int .i64 0, .bool false], .int .i64 1]) (by simp [results, Tryz.results19, go_sem]) rfl ?_
      refine ⟨_, rfl, ⟨_, _, _, _, _, _, rfl, Nat.le_refl _, Nat.le_refl _, by simp, by simp, Arr.nil, Arr.nil⟩, ?_⟩
      exact (Below.refl _ _).alloc (Nat.le_refl _) _
  · have hM : newM n = (⟨[], [], 0, false⟩, 1) := by unfold newM; rw [if_neg (fun h => h0 h.1)]
    rw [hM]
    clear hM
    have h3 : decide (n < 0) = true := by simp; omega
    go_enter Tryz.func19, Tryz.ntmps19
    go_wp2
    refine bodyPost_ret (v := .tuple #[.agg #[.slice none 0 0, .slice none 0 0, .int .i64 0, .bool false], .int .i64 1]) (by simp [results, Tryz.results19, go_sem]) rfl ?_
    refine ⟨_, rfl, ⟨_, _, _, _, _, _, rfl, Nat.le_refl _, Nat.le_refl _, by simp, by simp, Arr.nil, Arr.nil⟩, ?_⟩
    exact (Below.refl _ _).alloc (Nat.le_refl _) _
end Go.Proofs.YthflljlilcmcnaaGreatDoor
