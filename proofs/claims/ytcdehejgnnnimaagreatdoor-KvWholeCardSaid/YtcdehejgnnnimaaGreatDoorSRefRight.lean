/-
 A part of the proof: see the last text.
-/
import Derived.Test.YtcdehejgnnnimaaGreatDoorSSecStart
namespace Go.Proofs.YtcdehejgnnnimaaGreatDoor
set_option linter.unusedVariables false
set_option linter.unusedSimpArgs false
open Go.RowKit
set_option maxRecDepth 20000 in
set_option maxHeartbeats 1000000 in
theorem rright_any (v : Value) (d : Dk) (w : World) (hd : DkAt w w.heap.size v d) :
 Calls Tryz.prog 18 #[v] w fun e w' => e = .returned (.bool (rightB d)) ∧ Below w.heap.size w w' := by
 obtain ⟨A, n, c, A', n', c', rfl, hnc, hnc', hc, hc', hS, hL⟩ := hd
 unfold maxLen at hc hc'
 have hn : n = d.secs.length := by have := hS.1; simpa using this.symm
 have hn' : n' = d.loose.length := by have := hL.1; simpa using this.symm
 have HN := Lib.hid hn; clear hn
 have HN' := Lib.hid hn'; clear hn'
 have hbw : Below w.heap.size w (w.alloc (Obj.cells #[Value.slice A n c, Value.slice A' n' c', Value.int IntKind.i64 d.fuse, Value.bool d.down] 27)) := (Below.refl _ _).alloc (Nat.le_refl _) _
 by_cases h1 : n ≤ 4096
 ·have hd7 : decide (4096 < (n : Int)) = false := by simp; omega
  by_cases h2 : n' ≤ 100000
  ·have hd12 : decide (100000 < (n' : Int)) = false := by simp; omega
   by_cases h3 : -1 ≤ d.fuse
   ·have hd17 : decide (d.fuse < -1) = false := by simp; omega
    by_cases h4 : d.fuse ≤ 1099511627776
    ·have hd22 : decide (1099511627776 < d.fuse) = false := by simp; omega
     have hfb : fuseB d.fuse = true := by unfold fuseB; simp [h3, h4]
     have Hfb := Lib.hid hfb
     clear hfb h3 h4
     go_enter Tryz.func18, Tryz.ntmps18
     go_wp2_with fail
     go_loopw [3] (fun k wr => ∃ j : Nat, j ≤ n' ∧ k = .int .i64 j ∧ looseB n d.loose = looseB n (d.loose.drop j) ∧ Below (w.heap.size + 1) (w.alloc (Obj.cells #[Value.slice A n c, Value.slice A' n' c', Value.int IntKind.i64 d.fuse, Value.bool d.down] 27)) wr) (fun k _ => n' - (intOf k).toNat)
     case atStart => exact ⟨0, Nat.zero_le _, rfl, rfl, Below.refl _ _⟩
     case round =>
      obtain ⟨j, hj, rfl, hlo, hb⟩ := hrel
      have B0 : Bk wr w.heap.size 27 _ := (Bk.new w _ _).below hb (by omega)
      obtain ⟨⟨p0, p1, p2, p3⟩, -⟩ := B0.four
      clear B0
      by_cases hlt : j < n'
      ·obtain ⟨bL, oL, hA', hbL, hrL⟩ := hL.at_ hlt
       obtain ⟨x, hx⟩ : ∃ x, d.loose[j]? = some x := ⟨d.loose[j]'(by rw [← HN'.out]; exact hlt), List.getElem?_eq_getElem _⟩
       subst hA'
       have hcell : wr.cell? ⟨bL, oL + j * 65, none⟩ = some (.int .i64 x.1) := by
        rw [hb.cell (p := ⟨bL, oL + j * 65, none⟩) (by show bL < _; omega), World.cell?_alloc_lt _ _ _ hbL]
        have := hrL 0 (.int .i64 x.1) (by simp [hx, wrv])
        simpa using this
       have hi1 : (j : Int) < (n' : Int) := by omega
       have hlo2 : looseB n d.loose = (thereB n x.1 && looseB n (d.loose.drop (j + 1))) := by
        rw [hlo, looseB_cons n d.loose j (by rw [← HN'.out]; exact hlt)]
        rw [List.getElem?_eq_getElem (by rw [← HN'.out]; exact hlt)] at hx
        injection hx with hx
        rw [hx]
       have Hlo := Lib.hid hlo2
       clear hlo hlo2
       have Hb := Lib.hid hb
       clear hb
       by_cases g1 : 0 ≤ x.1
       ·have hg1 : decide (x.1 < 0) = false := by simp; omega
        by_cases g2 : x.1 < n
        ·have hg2 : decide ((n : Int) ≤ x.1) = false := by simp; omega
         have ht : thereB n x.1 = true := by unfold thereB; simp [g1, g2]
         have Ht := Lib.hid ht
         clear ht
         go_wp2
         go_quiet (fail)
         go_wp2
         go_roundw
         case rel => exact ⟨j + 1, by omega, by go_num, by rw [Hlo.out, Ht.out]; rfl, by first | exact Hb.out | exact Hb.out.drew | (have := Hb.out; exact ⟨this.os, this.tape, this.output, this.size, this.block⟩)⟩
         case measure => simp [intOf]; omega
        ·have hg2 : decide ((n : Int) ≤ x.1) = true := by simp; omega
         have ht : thereB n x.1 = false := by unfold thereB; simp; omega
         have Ht := Lib.hid ht
         clear ht
         go_wp2
         go_quiet (fail)
         go_wp2
         go_ret
         exact ⟨ret_b (show rightB d = false by unfold rightB; rw [← HN.out, Hlo.out, Ht.out]; simp) rfl, hbw.trans (by have := Hb.out; exact ⟨this.os, this.tape, this.output, this.size, fun k hk => this.block k (by omega)⟩)⟩
       ·have hg1 : decide (x.1 < 0) = true := by simp; omega
        have ht : thereB n x.1 = false := by unfold thereB; simp; omega
        have Ht := Lib.hid ht
        clear ht
        go_wp2
        go_quiet (fail)
        go_wp2
        go_ret
        exact ⟨ret_b (show rightB d = false by unfold rightB; rw [← HN.out, Hlo.out, Ht.out]; simp) rfl, hbw.trans (by have := Hb.out; exact ⟨this.os, this.tape, this.output, this.size, fun k hk => this.block k (by omega)⟩)⟩
      ·have hjn : j = n' := by omega
       have Hjn := Lib.hid hjn; clear hjn
       have Hlo := Lib.hid hlo; clear hlo
       go_wp2
       go_ret
       exact ⟨ret_b (show rightB d = true by unfold rightB; rw [← HN.out, ← HN'.out, Hlo.out, Hjn.out, HN'.out, Hfb.out]; simp [looseB, h1, HN'.out ▸ h2]) rfl, hbw.trans (hb.mono (by simp))⟩
    ·have hd22 : decide (1099511627776 < d.fuse) = true := by simp; omega
     go_enter Tryz.func18, Tryz.ntmps18
     go_wp2
     go_ret
     exact ⟨ret_b (show rightB d = false by have hfb : fuseB d.fuse = false := (by unfold fuseB; simp; omega); unfold rightB; rw [hfb]; simp) rfl, hbw⟩
   ·have hd17 : decide (d.fuse < -1) = true := by simp; omega
    go_enter Tryz.func18, Tryz.ntmps18
    go_wp2
    go_ret
    exact ⟨ret_b (show rightB d = false by have hfb : fuseB d.fuse = false := (by unfold fuseB; simp; omega); unfold rightB; rw [hfb]; simp) rfl, hbw⟩
  ·have hd12 : decide (100000 < (n' : Int)) = true := by simp; omega
   go_enter Tryz.func18, Tryz.ntmps18
   go_wp2
   go_ret
   exact ⟨ret_b (show rightB d = false by unfold rightB; rw [← HN'.out]; simp [h2]) rfl, hbw⟩
 ·have hd7 : decide (4096 < (n : Int)) = true := by simp; omega
  go_enter Tryz.func18, Tryz.ntmps18
  go_wp2
  go_ret
  exact ⟨ret_b (show rightB d = false by unfold rightB; rw [← HN.out]; simp [h1]) rfl, hbw⟩
set_option maxRecDepth 20000 in
set_option maxHeartbeats 1000000 in
theorem rnew_any (n : Int) (w : World) : Calls Tryz.prog 5 #[.int .i64 n] w (DkRes w (newM n)) := by
 by_cases h0 : 0 ≤ n
 ·by_cases h1 : n ≤ 4096
  ·have hM : newM n = (⟨List.replicate n.toNat zsec, [], -1, false⟩, 0) := by unfold newM; rw [if_pos ⟨h0, h1⟩]; rfl
   rw [hM]
   clear hM
   have hmk := fun W => run_make_secs (P := Tryz.prog) (t := 24) Tryz.underlying24 info_sec n h0 (by omega) W
   go_enter Tryz.func5, Tryz.ntmps5
   go_wp2
   refine bodyPost_ret (v := .tuple #[.agg #[.slice (some ⟨w.heap.size + 1, 0, none⟩) n.toNat n.toNat, .slice none 0 0, .int .i64 (-1), .bool false], .int .i64 0]) (by simp [results, Tryz.results5, go_sem]) rfl ?_
   refine ⟨_, rfl, ⟨_, _, _, _, _, _, rfl, Nat.le_refl _, Nat.le_refl _, by unfold maxLen; omega, by simp, Arr.zeros _ _ _ _ (by exact Bk.new2 _ _ _ _) _ (by simp), Arr.nil⟩, ?_⟩
   exact ((Below.refl _ _).alloc (Nat.le_refl _) _).alloc (by simp) _
  ·have hM : newM n = (⟨[], [], 0, false⟩, 1) := by unfold newM; rw [if_neg (fun h => h1 h.2)]
   rw [hM]
   clear hM
   have h2 : decide (4096 < n) = true := by simp; omega
   have h3 : decide (n < 0) = false := by simp; omega
   go_enter Tryz.func5, Tryz.ntmps5
   go_wp2
   refine bodyPost_ret (v := .tuple #[.agg #[.slice none 0 0, .slice none 0 0, .int .i64 0, .bool false], .int .i64 1]) (by simp [results, Tryz.results5, go_sem]) rfl ?_
   refine ⟨_, rfl, ⟨_, _, _, _, _, _, rfl, Nat.le_refl _, Nat.le_refl _, by simp, by simp, Arr.nil, Arr.nil⟩, ?_⟩
   exact (Below.refl _ _).alloc (Nat.le_refl _) _
 ·have hM : newM n = (⟨[], [], 0, false⟩, 1) := by unfold newM; rw [if_neg (fun h => h0 h.1)]
  rw [hM]
  clear hM
  have h3 : decide (n < 0) = true := by simp; omega
  go_enter Tryz.func5, Tryz.ntmps5
  go_wp2
  refine bodyPost_ret (v := .tuple #[.agg #[.slice none 0 0, .slice none 0 0, .int .i64 0, .bool false], .int .i64 1]) (by simp [results, Tryz.results5, go_sem]) rfl ?_
  refine ⟨_, rfl, ⟨_, _, _, _, _, _, rfl, Nat.le_refl _, Nat.le_refl _, by simp, by simp, Arr.nil, Arr.nil⟩, ?_⟩
  exact (Below.refl _ _).alloc (Nat.le_refl _) _
end Go.Proofs.YtcdehejgnnnimaaGreatDoor
