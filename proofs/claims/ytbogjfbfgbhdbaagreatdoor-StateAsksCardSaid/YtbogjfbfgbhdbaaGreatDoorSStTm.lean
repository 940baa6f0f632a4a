/-
  A part of the proof: see the last text.
-/
import Derived.Test.YtbogjfbfgbhdbaaGreatDoorSStP
import Derived.Test.YtbogjfbfgbhdbaaGreatDoorSStKSt
namespace Go.Proofs.YtbogjfbfgbhdbaaGreatDoor
open List renaming setIfInBounds_toArray → jA, set_cons_zero → jB, set_cons_succ → jC, getElem_toArray → jD, getElem_cons_zero → jE, getElem_cons_succ → jF
set_option linter.unusedVariables false
set_option linter.unusedSimpArgs false
open Go.RowKit
set_option linter.unusedVariables false
set_option linter.unusedSimpArgs false
theorem mg_dec {id a : Int} {nm : ByteArray} {m m' : Mg} : decide (m = m') = decide ((⟨id, nm, a, m⟩ : Tmb) = ⟨id, nm, a, m'⟩) := by
  by_cases h : m = m'
  · subst h; simp
  · rw [decide_eq_false h, decide_eq_false (fun e => h (congrArg Tmb.msg e))]
set_option maxRecDepth 20000 in
set_option maxHeartbeats 8000000 in
theorem xsTombs_any (A A' : Option Addr) (n n' c c' : Nat) (l l' : List Tmb) (w : World) (hl : TombsIn w w.heap.size A n l) (hl' : TombsIn w w.heap.size A' n' l') (hn : n ≤ 140737488355328) (hn' : n' ≤ 140737488355328) :
    Calls Tryz.prog 42 #[.slice A n c, .slice A' n' c'] w (SaysB (decide (l = l')) w) := by
  have hmx : Tryz.prog.follows .mixedOrders = true := by kernel_rfl
  have HL := Lib.hid hl
  have HL' := Lib.hid hl'
  clear hl hl'
  by_cases hnn : n ≠ n'
  · have HR := Lib.hid (eqLen14 HL.out.len HL'.out.len hnn)
    have hb : ((n : Int) != (n' : Int)) = true := by simp; omega
    clear hnn
    go_enter Tryz.func42, Tryz.ntmps42
    go_wp2_with fail
    go_ret
    exact ⟨by rw [HR.out] <;> rfl, Below.refl _ _⟩
  have HNN : Hid (n = n') := Lib.hid (by omega)
  have hb : ((n : Int) != (n' : Int)) = false := by simp; omega
  clear hnn
  go_enter Tryz.func42, Tryz.ntmps42
  go_wp2_with fail
  go_loopw [5] (fun i wx => ∃ k : Nat, k ≤ n ∧ i = .int .i64 (k : Int) ∧ l.take k = l'.take k ∧ Below w.heap.size w wx) (fun i _ => n - (intOf i).toNat)
  case atStart => exact ⟨0, Nat.zero_le _, rfl, rfl, Below.refl _ _⟩
  case round =>
    obtain ⟨k, hk, rfl, ha, hbw⟩ := hrel
    have HA := Lib.hid ha
    have HB := Lib.hid hbw
    clear ha hbw
    by_cases hlt : k < n
    · obtain ⟨b, o, x, rfl, hbb0, hla, htk, hrow, hin⟩ := (HL.out.below thStays HB.out (Nat.le_refl _)).at_ hlt
      have hlt' : k < n' := by have := HNN.out; omega
      obtain ⟨b', o', y, rfl, hbb0', hla', htk', hrow', hin'⟩ := (HL'.out.below thStays HB.out (Nat.le_refl _)).at_ hlt'
      have hbb : b < wr.heap.size := Nat.lt_of_lt_of_le hbb0 HB.out.size
      have hbb' : b' < wr.heap.size := Nat.lt_of_lt_of_le hbb0' HB.out.size
      have HLA := Lib.hid hla
      have HLA' := Lib.hid hla'
      have HTK := Lib.hid htk
      have HTK' := Lib.hid htk'
      have HX := Lib.hid (thStays.more hin HB.out.size)
      have HY := Lib.hid (thStays.more hin' HB.out.size)
      obtain ⟨⟨id, nm, a, ⟨u, f, d, bl⟩⟩, xA, xn, xc⟩ := x
      obtain ⟨⟨id', nm', a', ⟨u', f', d', bl'⟩⟩, yA, yn, yc⟩ := y
      have r0 := hrow 0 _ rfl
      have r1 := hrow 1 _ rfl
      have r2 := hrow 2 _ rfl
      have r3 := hrow 3 _ rfl
      have r4 := hrow 4 _ rfl
      have r5 := hrow 5 _ rfl
      have r6 := hrow 6 _ rfl
      have s0 := hrow' 0 _ rfl
      have s1 := hrow' 1 _ rfl
      have s2 := hrow' 2 _ rfl
      have s3 := hrow' 3 _ rfl
      have s4 := hrow' 4 _ rfl
      have s5 := hrow' 5 _ rfl
      have s6 := hrow' 6 _ rfl
      rw [Nat.add_zero] at r0 s0
      simp only at r0 r1 r2 r3 r4 r5 r6 s0 s1 s2 s3 s4 s5 s6
      have k0 : (0 : Int) ≤ (k : Int) := by omega
      have k1 : (k : Int) < (n : Int) := by omega
      have k1' : (k : Int) < (n' : Int) := by omega
      clear hla hla' htk htk' hrow hrow' hin hin' hbb0 hbb0'
      by_cases hi : id = id'
      case neg =>
        have hne : (⟨id, nm, a, ⟨u, f, d, bl⟩⟩ : Tmb) ≠ ⟨id', nm', a', ⟨u', f', d', bl'⟩⟩ := fun e => hi (congrArg Tmb.id e)
        have HS := Lib.hid (eqStop14 HLA.out HLA'.out (decide_eq_false hne))
        have hq : (id != id') = true := by simp [hi]
        clear hne
        go_wp2_with fail
        go_quiet (fail)
        go_wp2_with fail
        go_ret
        exact ⟨by rw [HS.out] <;> rfl, below_drewN HB.out _⟩
      subst hi
      by_cases hnm : nm = nm'
      case neg =>
        have hne : (⟨id, nm, a, ⟨u, f, d, bl⟩⟩ : Tmb) ≠ ⟨id, nm', a', ⟨u', f', d', bl'⟩⟩ := fun e => hnm (congrArg Tmb.box e)
        have HS := Lib.hid (eqStop14 HLA.out HLA'.out (decide_eq_false hne))
        have hq2 : (nm.toList == nm'.toList) = false := text_beq14 hnm
        have hq3 : (nm.toList != nm'.toList) = true := by simp [bne, hq2]
        clear hne
        go_wp2_with fail
        go_quiet (fail)
        go_wp2_with fail
        go_ret
        exact ⟨by rw [HS.out] <;> rfl, below_drewN HB.out _⟩
      subst hnm
      by_cases ha : a = a'
      case neg =>
        have hne : (⟨id, nm, a, ⟨u, f, d, bl⟩⟩ : Tmb) ≠ ⟨id, nm, a', ⟨u', f', d', bl'⟩⟩ := fun e => ha (congrArg Tmb.at_ e)
        have HS := Lib.hid (eqStop14 HLA.out HLA'.out (decide_eq_false hne))
        have hq2 : (nm.toList != nm.toList) = false := by simp
        have hq3 : (a != a') = true := by simp [ha]
        clear hne
        go_wp2_with fail
        go_quiet (fail)
        go_wp2_with fail
        go_ret
        exact ⟨by rw [HS.out] <;> rfl, below_drewN HB.out _⟩
      subst ha
      have hq2 : (nm.toList != nm.toList) = false := by simp
      go_wp2_with fail
      refine wp_region_held_drew (S := fun W' => Below wr.heap.size wr W') hmx (Below.refl wr.heap.size wr).drew (fun hHeld => ?_)
      generalize hW0 : wr.drew = W at *
      clear hW0
      simp only [List.size_toArray, List.length_cons, List.length_nil, Nat.reduceAdd]
      refine wpAnyH_take (i := 0) (v := .slice (some ⟨b, o, none⟩) n c) rfl (by kernel_rfl) (by kernel_rfl) (by kernel_rfl) (fun _ _ _ h => h) (Or.inl ⟨by rfl, fun w0 hC => by simp [execOp, Act.eval, Act.put, go_sem]⟩) hHeld ?_
      try simp only [Act.put, jA, jB, jC, jD, jE, jF]
      refine wpAnyH_take (i := 1) (v := .int .i64 (k : Int)) rfl (by kernel_rfl) (by kernel_rfl) (by kernel_rfl) (fun _ _ _ h => h) (Or.inl ⟨by rfl, fun w0 hC => by simp [execOp, Act.eval, Act.put, go_sem]⟩) hHeld ?_
      try simp only [Act.put, jA, jB, jC, jD, jE, jF]
      refine wpAnyH_take (i := 2) (v := .pointer (some ⟨b, o + k * 7, none⟩)) rfl (by kernel_rfl) (by kernel_rfl) (by kernel_rfl) (fun _ _ _ h => h) (Or.inl ⟨by rfl, fun w0 hC => by simp [execOp, Act.eval, Act.put, go_sem, k0, k1, hlt]⟩) hHeld ?_
      try simp only [Act.put, jA, jB, jC, jD, jE, jF]
      refine wpAnyH_take (i := 3) (v := .pointer (some ⟨b, o + k * 7, none⟩)) rfl (by kernel_rfl) (by kernel_rfl) (by kernel_rfl) (fun _ _ _ h => h) (Or.inl ⟨by rfl, fun w0 hC => by simp [execOp, Act.eval, Act.put, go_sem]⟩) hHeld ?_
      try simp only [Act.put, jA, jB, jC, jD, jE, jF]
      refine wpAnyH_take (i := 4) (v := .int .i64 id) rfl (by kernel_rfl) (by kernel_rfl) (by kernel_rfl) (fun _ _ _ h => h) (Or.inl ⟨by rfl, fun w0 hC => by simp [execOp, Act.eval, Act.put, go_sem, (hC.cell (p := ⟨b, o + k * 7, none⟩) hbb).trans r0]⟩) hHeld ?_
      try simp only [Act.put, jA, jB, jC, jD, jE, jF]
      refine wpAnyH_take (i := 5) (v := .slice (some ⟨b', o', none⟩) n' c') rfl (by kernel_rfl) (by kernel_rfl) (by kernel_rfl) (fun _ _ _ h => h) (Or.inl ⟨by rfl, fun w0 hC => by simp [execOp, Act.eval, Act.put, go_sem]⟩) hHeld ?_
      try simp only [Act.put, jA, jB, jC, jD, jE, jF]
      refine wpAnyH_take (i := 6) (v := .int .i64 (k : Int)) rfl (by kernel_rfl) (by kernel_rfl) (by kernel_rfl) (fun _ _ _ h => h) (Or.inl ⟨by rfl, fun w0 hC => by simp [execOp, Act.eval, Act.put, go_sem]⟩) hHeld ?_
      try simp only [Act.put, jA, jB, jC, jD, jE, jF]
      refine wpAnyH_take (i := 7) (v := .pointer (some ⟨b', o' + k * 7, none⟩)) rfl (by kernel_rfl) (by kernel_rfl) (by kernel_rfl) (fun _ _ _ h => h) (Or.inl ⟨by rfl, fun w0 hC => by simp [execOp, Act.eval, Act.put, go_sem, k0, k1', hlt']⟩) hHeld ?_
      try simp only [Act.put, jA, jB, jC, jD, jE, jF]
      refine wpAnyH_take (i := 8) (v := .pointer (some ⟨b', o' + k * 7, none⟩)) rfl (by kernel_rfl) (by kernel_rfl) (by kernel_rfl) (fun _ _ _ h => h) (Or.inl ⟨by rfl, fun w0 hC => by simp [execOp, Act.eval, Act.put, go_sem]⟩) hHeld ?_
      try simp only [Act.put, jA, jB, jC, jD, jE, jF]
      refine wpAnyH_take (i := 9) (v := .int .i64 id) rfl (by kernel_rfl) (by kernel_rfl) (by kernel_rfl) (fun _ _ _ h => h) (Or.inl ⟨by rfl, fun w0 hC => by simp [execOp, Act.eval, Act.put, go_sem, (hC.cell (p := ⟨b', o' + k * 7, none⟩) hbb').trans s0]⟩) hHeld ?_
      try simp only [Act.put, jA, jB, jC, jD, jE, jF]
      refine wpAnyH_take (i := 10) (v := .bool false) rfl (by kernel_rfl) (by kernel_rfl) (by kernel_rfl) (fun _ _ _ h => h) (Or.inl ⟨by rfl, fun w0 hC => by simp [execOp, Act.eval, Act.put, go_sem]⟩) hHeld ?_
      try simp only [Act.put, jA, jB, jC, jD, jE, jF]
      refine wpAnyH_take (i := 11) (v := .bool false) rfl (by kernel_rfl) (by kernel_rfl) (by kernel_rfl) (fun _ _ _ h => h) (Or.inl ⟨by rfl, fun w0 hC => by simp [execOp, Act.eval, Act.put, go_sem]⟩) hHeld ?_
      try simp only [Act.put, jA, jB, jC, jD, jE, jF]
      refine wpAnyH_take (i := 12) (v := .slice (some ⟨b, o, none⟩) n c) rfl (by kernel_rfl) (by kernel_rfl) (by kernel_rfl) (fun _ _ _ h => h) (Or.inl ⟨by rfl, fun w0 hC => by simp [execOp, Act.eval, Act.put, go_sem]⟩) hHeld ?_
      try simp only [Act.put, jA, jB, jC, jD, jE, jF]
      refine wpAnyH_take (i := 13) (v := .int .i64 (k : Int)) rfl (by kernel_rfl) (by kernel_rfl) (by kernel_rfl) (fun _ _ _ h => h) (Or.inl ⟨by rfl, fun w0 hC => by simp [execOp, Act.eval, Act.put, go_sem]⟩) hHeld ?_
      try simp only [Act.put, jA, jB, jC, jD, jE, jF]
      refine wpAnyH_take (i := 14) (v := .pointer (some ⟨b, o + k * 7, none⟩)) rfl (by kernel_rfl) (by kernel_rfl) (by kernel_rfl) (fun _ _ _ h => h) (Or.inl ⟨by rfl, fun w0 hC => by simp [execOp, Act.eval, Act.put, go_sem, k0, k1, hlt]⟩) hHeld ?_
      try simp only [Act.put, jA, jB, jC, jD, jE, jF]
      refine wpAnyH_take (i := 15) (v := .pointer (some ⟨b, o + k * 7 + 1, none⟩)) rfl (by kernel_rfl) (by kernel_rfl) (by kernel_rfl) (fun _ _ _ h => h) (Or.inl ⟨by rfl, fun w0 hC => by simp [execOp, Act.eval, Act.put, go_sem]⟩) hHeld ?_
      try simp only [Act.put, jA, jB, jC, jD, jE, jF]
      refine wpAnyH_take (i := 16) (v := .string nm) rfl (by kernel_rfl) (by kernel_rfl) (by kernel_rfl) (fun _ _ _ h => h) (Or.inl ⟨by rfl, fun w0 hC => by simp [execOp, Act.eval, Act.put, go_sem, (hC.cell (p := ⟨b, o + k * 7 + 1, none⟩) hbb).trans r1]⟩) hHeld ?_
      try simp only [Act.put, jA, jB, jC, jD, jE, jF]
      refine wpAnyH_take (i := 17) (v := .slice (some ⟨b', o', none⟩) n' c') rfl (by kernel_rfl) (by kernel_rfl) (by kernel_rfl) (fun _ _ _ h => h) (Or.inl ⟨by rfl, fun w0 hC => by simp [execOp, Act.eval, Act.put, go_sem]⟩) hHeld ?_
      try simp only [Act.put, jA, jB, jC, jD, jE, jF]
      refine wpAnyH_take (i := 18) (v := .int .i64 (k : Int)) rfl (by kernel_rfl) (by kernel_rfl) (by kernel_rfl) (fun _ _ _ h => h) (Or.inl ⟨by rfl, fun w0 hC => by simp [execOp, Act.eval, Act.put, go_sem]⟩) hHeld ?_
      try simp only [Act.put, jA, jB, jC, jD, jE, jF]
      refine wpAnyH_take (i := 19) (v := .pointer (some ⟨b', o' + k * 7, none⟩)) rfl (by kernel_rfl) (by kernel_rfl) (by kernel_rfl) (fun _ _ _ h => h) (Or.inl ⟨by rfl, fun w0 hC => by simp [execOp, Act.eval, Act.put, go_sem, k0, k1', hlt']⟩) hHeld ?_
      try simp only [Act.put, jA, jB, jC, jD, jE, jF]
      refine wpAnyH_take (i := 20) (v := .pointer (some ⟨b', o' + k * 7 + 1, none⟩)) rfl (by kernel_rfl) (by kernel_rfl) (by kernel_rfl) (fun _ _ _ h => h) (Or.inl ⟨by rfl, fun w0 hC => by simp [execOp, Act.eval, Act.put, go_sem]⟩) hHeld ?_
      try simp only [Act.put, jA, jB, jC, jD, jE, jF]
      refine wpAnyH_take (i := 21) (v := .string nm) rfl (by kernel_rfl) (by kernel_rfl) (by kernel_rfl) (fun _ _ _ h => h) (Or.inl ⟨by rfl, fun w0 hC => by simp [execOp, Act.eval, Act.put, go_sem, (hC.cell (p := ⟨b', o' + k * 7 + 1, none⟩) hbb').trans s1]⟩) hHeld ?_
      try simp only [Act.put, jA, jB, jC, jD, jE, jF]
      refine wpAnyH_take (i := 22) (v := .bool false) rfl (by kernel_rfl) (by kernel_rfl) (by kernel_rfl) (fun _ _ _ h => h) (Or.inl ⟨by rfl, fun w0 hC => by simp [execOp, Act.eval, Act.put, go_sem]⟩) hHeld ?_
      try simp only [Act.put, jA, jB, jC, jD, jE, jF]
      refine wpAnyH_take (i := 23) (v := .bool false) rfl (by kernel_rfl) (by kernel_rfl) (by kernel_rfl) (fun _ _ _ h => h) (Or.inl ⟨by rfl, fun w0 hC => by simp [execOp, Act.eval, Act.put, go_sem]⟩) hHeld ?_
      try simp only [Act.put, jA, jB, jC, jD, jE, jF]
      refine wpAnyH_take (i := 24) (v := .bool false) rfl (by kernel_rfl) (by kernel_rfl) (by kernel_rfl) (fun _ _ _ h => h) (Or.inl ⟨by rfl, fun w0 hC => by simp [execOp, Act.eval, Act.put, go_sem]⟩) hHeld ?_
      try simp only [Act.put, jA, jB, jC, jD, jE, jF]
      refine wpAnyH_take (i := 25) (v := .slice (some ⟨b, o, none⟩) n c) rfl (by kernel_rfl) (by kernel_rfl) (by kernel_rfl) (fun _ _ _ h => h) (Or.inl ⟨by rfl, fun w0 hC => by simp [execOp, Act.eval, Act.put, go_sem]⟩) hHeld ?_
      try simp only [Act.put, jA, jB, jC, jD, jE, jF]
      refine wpAnyH_take (i := 26) (v := .int .i64 (k : Int)) rfl (by kernel_rfl) (by kernel_rfl) (by kernel_rfl) (fun _ _ _ h => h) (Or.inl ⟨by rfl, fun w0 hC => by simp [execOp, Act.eval, Act.put, go_sem]⟩) hHeld ?_
      try simp only [Act.put, jA, jB, jC, jD, jE, jF]
      refine wpAnyH_take (i := 27) (v := .pointer (some ⟨b, o + k * 7, none⟩)) rfl (by kernel_rfl) (by kernel_rfl) (by kernel_rfl) (fun _ _ _ h => h) (Or.inl ⟨by rfl, fun w0 hC => by simp [execOp, Act.eval, Act.put, go_sem, k0, k1, hlt]⟩) hHeld ?_
      try simp only [Act.put, jA, jB, jC, jD, jE, jF]
      refine wpAnyH_take (i := 28) (v := .pointer (some ⟨b, o + k * 7 + 2, none⟩)) rfl (by kernel_rfl) (by kernel_rfl) (by kernel_rfl) (fun _ _ _ h => h) (Or.inl ⟨by rfl, fun w0 hC => by simp [execOp, Act.eval, Act.put, go_sem]⟩) hHeld ?_
      try simp only [Act.put, jA, jB, jC, jD, jE, jF]
      refine wpAnyH_take (i := 29) (v := .int .i64 a) rfl (by kernel_rfl) (by kernel_rfl) (by kernel_rfl) (fun _ _ _ h => h) (Or.inl ⟨by rfl, fun w0 hC => by simp [execOp, Act.eval, Act.put, go_sem, (hC.cell (p := ⟨b, o + k * 7 + 2, none⟩) hbb).trans r2]⟩) hHeld ?_
      try simp only [Act.put, jA, jB, jC, jD, jE, jF]
      refine wpAnyH_take (i := 30) (v := .slice (some ⟨b', o', none⟩) n' c') rfl (by kernel_rfl) (by kernel_rfl) (by kernel_rfl) (fun _ _ _ h => h) (Or.inl ⟨by rfl, fun w0 hC => by simp [execOp, Act.eval, Act.put, go_sem]⟩) hHeld ?_
      try simp only [Act.put, jA, jB, jC, jD, jE, jF]
      refine wpAnyH_take (i := 31) (v := .int .i64 (k : Int)) rfl (by kernel_rfl) (by kernel_rfl) (by kernel_rfl) (fun _ _ _ h => h) (Or.inl ⟨by rfl, fun w0 hC => by simp [execOp, Act.eval, Act.put, go_sem]⟩) hHeld ?_
      try simp only [Act.put, jA, jB, jC, jD, jE, jF]
      refine wpAnyH_take (i := 32) (v := .pointer (some ⟨b', o' + k * 7, none⟩)) rfl (by kernel_rfl) (by kernel_rfl) (by kernel_rfl) (fun _ _ _ h => h) (Or.inl ⟨by rfl, fun w0 hC => by simp [execOp, Act.eval, Act.put, go_sem, k0, k1', hlt']⟩) hHeld ?_
      try simp only [Act.put, jA, jB, jC, jD, jE, jF]
      refine wpAnyH_take (i := 33) (v := .pointer (some ⟨b', o' + k * 7 + 2, none⟩)) rfl (by kernel_rfl) (by kernel_rfl) (by kernel_rfl) (fun _ _ _ h => h) (Or.inl ⟨by rfl, fun w0 hC => by simp [execOp, Act.eval, Act.put, go_sem]⟩) hHeld ?_
      try simp only [Act.put, jA, jB, jC, jD, jE, jF]
      refine wpAnyH_take (i := 34) (v := .int .i64 a) rfl (by kernel_rfl) (by kernel_rfl) (by kernel_rfl) (fun _ _ _ h => h) (Or.inl ⟨by rfl, fun w0 hC => by simp [execOp, Act.eval, Act.put, go_sem, (hC.cell (p := ⟨b', o' + k * 7 + 2, none⟩) hbb').trans s2]⟩) hHeld ?_
      try simp only [Act.put, jA, jB, jC, jD, jE, jF]
      refine wpAnyH_take (i := 35) (v := .bool false) rfl (by kernel_rfl) (by kernel_rfl) (by kernel_rfl) (fun _ _ _ h => h) (Or.inl ⟨by rfl, fun w0 hC => by simp [execOp, Act.eval, Act.put, go_sem]⟩) hHeld ?_
      try simp only [Act.put, jA, jB, jC, jD, jE, jF]
      refine wpAnyH_take (i := 36) (v := .bool false) rfl (by kernel_rfl) (by kernel_rfl) (by kernel_rfl) (fun _ _ _ h => h) (Or.inl ⟨by rfl, fun w0 hC => by simp [execOp, Act.eval, Act.put, go_sem]⟩) hHeld ?_
      try simp only [Act.put, jA, jB, jC, jD, jE, jF]
      refine wpAnyH_take (i := 37) (v := .bool false) rfl (by kernel_rfl) (by kernel_rfl) (by kernel_rfl) (fun _ _ _ h => h) (Or.inl ⟨by rfl, fun w0 hC => by simp [execOp, Act.eval, Act.put, go_sem]⟩) hHeld ?_
      try simp only [Act.put, jA, jB, jC, jD, jE, jF]
      refine wpAnyH_take (i := 38) (v := .slice (some ⟨b, o, none⟩) n c) rfl (by kernel_rfl) (by kernel_rfl) (by kernel_rfl) (fun _ _ _ h => h) (Or.inl ⟨by rfl, fun w0 hC => by simp [execOp, Act.eval, Act.put, go_sem]⟩) hHeld ?_
      try simp only [Act.put, jA, jB, jC, jD, jE, jF]
      refine wpAnyH_take (i := 39) (v := .int .i64 (k : Int)) rfl (by kernel_rfl) (by kernel_rfl) (by kernel_rfl) (fun _ _ _ h => h) (Or.inl ⟨by rfl, fun w0 hC => by simp [execOp, Act.eval, Act.put, go_sem]⟩) hHeld ?_
      try simp only [Act.put, jA, jB, jC, jD, jE, jF]
      refine wpAnyH_take (i := 40) (v := .pointer (some ⟨b, o + k * 7, none⟩)) rfl (by kernel_rfl) (by kernel_rfl) (by kernel_rfl) (fun _ _ _ h => h) (Or.inl ⟨by rfl, fun w0 hC => by simp [execOp, Act.eval, Act.put, go_sem, k0, k1, hlt]⟩) hHeld ?_
      try simp only [Act.put, jA, jB, jC, jD, jE, jF]
      refine wpAnyH_take (i := 41) (v := .pointer (some ⟨b, o + k * 7 + 3, none⟩)) rfl (by kernel_rfl) (by kernel_rfl) (by kernel_rfl) (fun _ _ _ h => h) (Or.inl ⟨by rfl, fun w0 hC => by simp [execOp, Act.eval, Act.put, go_sem]⟩) hHeld ?_
      try simp only [Act.put, jA, jB, jC, jD, jE, jF]
      refine wpAnyH_take (i := 42) (v := .agg #[.int .i64 u, .int .i64 f, .int .i64 d, .slice xA xn xc]) rfl (by kernel_rfl) (by kernel_rfl) (by kernel_rfl) (fun _ _ _ h => h) (Or.inl ⟨by rfl, fun w0 hC => by simp [execOp, Act.eval, Act.put, go_sem, (hC.cell (p := ⟨b, o + k * 7 + 3, none⟩) hbb).trans r3, (hC.cell (p := ⟨b, o + k * 7 + 4, none⟩) hbb).trans r4, (hC.cell (p := ⟨b, o + k * 7 + 5, none⟩) hbb).trans r5, (hC.cell (p := ⟨b, o + k * 7 + 6, none⟩) hbb).trans r6]⟩) hHeld ?_
      try simp only [Act.put, jA, jB, jC, jD, jE, jF]
      refine wpAnyH_take (i := 43) (v := .slice (some ⟨b', o', none⟩) n' c') rfl (by kernel_rfl) (by kernel_rfl) (by kernel_rfl) (fun _ _ _ h => h) (Or.inl ⟨by rfl, fun w0 hC => by simp [execOp, Act.eval, Act.put, go_sem]⟩) hHeld ?_
      try simp only [Act.put, jA, jB, jC, jD, jE, jF]
      refine wpAnyH_take (i := 44) (v := .int .i64 (k : Int)) rfl (by kernel_rfl) (by kernel_rfl) (by kernel_rfl) (fun _ _ _ h => h) (Or.inl ⟨by rfl, fun w0 hC => by simp [execOp, Act.eval, Act.put, go_sem]⟩) hHeld ?_
      try simp only [Act.put, jA, jB, jC, jD, jE, jF]
      refine wpAnyH_take (i := 45) (v := .pointer (some ⟨b', o' + k * 7, none⟩)) rfl (by kernel_rfl) (by kernel_rfl) (by kernel_rfl) (fun _ _ _ h => h) (Or.inl ⟨by rfl, fun w0 hC => by simp [execOp, Act.eval, Act.put, go_sem, k0, k1', hlt']⟩) hHeld ?_
      try simp only [Act.put, jA, jB, jC, jD, jE, jF]
      refine wpAnyH_take (i := 46) (v := .pointer (some ⟨b', o' + k * 7 + 3, none⟩)) rfl (by kernel_rfl) (by kernel_rfl) (by kernel_rfl) (fun _ _ _ h => h) (Or.inl ⟨by rfl, fun w0 hC => by simp [execOp, Act.eval, Act.put, go_sem]⟩) hHeld ?_
      try simp only [Act.put, jA, jB, jC, jD, jE, jF]
      refine wpAnyH_take (i := 47) (v := .agg #[.int .i64 u', .int .i64 f', .int .i64 d', .slice yA yn yc]) rfl (by kernel_rfl) (by kernel_rfl) (by kernel_rfl) (fun _ _ _ h => h) (Or.inl ⟨by rfl, fun w0 hC => by simp [execOp, Act.eval, Act.put, go_sem, (hC.cell (p := ⟨b', o' + k * 7 + 3, none⟩) hbb').trans s3, (hC.cell (p := ⟨b', o' + k * 7 + 4, none⟩) hbb').trans s4, (hC.cell (p := ⟨b', o' + k * 7 + 5, none⟩) hbb').trans s5, (hC.cell (p := ⟨b', o' + k * 7 + 6, none⟩) hbb').trans s6]⟩) hHeld ?_
      try simp only [Act.put, jA, jB, jC, jD, jE, jF]
      refine wpAnyH_ready (rs := [48]) (by kernel_rfl) (by simp) (AllReadyH.cons rfl (fun K hK => ?_) AllReadyH.nil)
      rw [if_pos (by rfl)]
      go_wp2_with fail
      refine (x11sameMsg_any u f d xA xn xc bl u' f' d' yA yn yc bl' W (HX.out.1.later hHeld) (HY.out.1.later hHeld)).mono ?_
      rintro e W2 ⟨rfl, rfl⟩
      have hS := (hHeld.alloc hHeld.size (.cells #[.int .i64 u, .int .i64 f, .int .i64 d, .slice xA xn xc] 49)).alloc (by have := hHeld.size; simp; omega) (.cells #[.int .i64 u', .int .i64 f', .int .i64 d', .slice yA yn yc] 49)
      clear hHeld
      cases hm : decide ((⟨u, f, d, bl⟩ : Mg) = ⟨u', f', d', bl'⟩)
      · have HS := Lib.hid (eqStop14 HLA.out HLA'.out (by rw [← mg_dec]; exact hm))
        refine hK.out _ _ hS (fun hHeld => ?_)
        clear hK K
        try simp only [Act.put, jA, jB, jC, jD, jE, jF]
        clear hS hm
        refine wpAnyH_take (i := 49) (v := .bool true) rfl (by kernel_rfl) (by kernel_rfl) (by kernel_rfl) (fun _ _ _ h => h) (Or.inl ⟨by rfl, fun w0 hC => by simp [execOp, Act.eval, Act.put, go_sem]⟩) hHeld ?_
        try simp only [Act.put, jA, jB, jC, jD, jE, jF]
        refine wpAnyH_take (i := 50) (v := .bool true) rfl (by kernel_rfl) (by kernel_rfl) (by kernel_rfl) (fun _ _ _ h => h) (Or.inl ⟨by rfl, fun w0 hC => by simp [execOp, Act.eval, Act.put, go_sem]⟩) hHeld ?_
        try simp only [Act.put, jA, jB, jC, jD, jE, jF]
        refine wpAnyH_done (by kernel_rfl) ?_ _
        have HB2 := Lib.hid (HB.out.trans (hHeld.mono HB.out.size))
        clear hHeld
        go_wp2_with fail
        go_ret
        exact ⟨by rw [HS.out] <;> rfl, HB2.out⟩
      · have HS := Lib.hid (eqNext14 HA.out HTK.out HTK'.out (by rw [← mg_dec]; exact hm))
        refine hK.out _ _ hS (fun hHeld => ?_)
        clear hK K
        try simp only [Act.put, jA, jB, jC, jD, jE, jF]
        clear hS hm
        refine wpAnyH_take (i := 49) (v := .bool false) rfl (by kernel_rfl) (by kernel_rfl) (by kernel_rfl) (fun _ _ _ h => h) (Or.inl ⟨by rfl, fun w0 hC => by simp [execOp, Act.eval, Act.put, go_sem]⟩) hHeld ?_
        try simp only [Act.put, jA, jB, jC, jD, jE, jF]
        refine wpAnyH_take (i := 50) (v := .bool false) rfl (by kernel_rfl) (by kernel_rfl) (by kernel_rfl) (fun _ _ _ h => h) (Or.inl ⟨by rfl, fun w0 hC => by simp [execOp, Act.eval, Act.put, go_sem]⟩) hHeld ?_
        try simp only [Act.put, jA, jB, jC, jD, jE, jF]
        refine wpAnyH_done (by kernel_rfl) ?_ _
        have HB2 := Lib.hid (HB.out.trans (hHeld.mono HB.out.size))
        clear hHeld
        go_wp2_with fail
        go_roundw
        case rel => exact ⟨k + 1, by omega, by go_num, HS.out, HB2.out⟩
        case measure => simp [intOf]; omega
    · have hkn : ¬ (k : Int) < (n : Int) := by omega
      have HR := Lib.hid (eqAll14 HA.out HL.out.len (by rw [HNN.out]; exact HL'.out.len) hlt)
      go_wp2_with fail
      go_ret
      exact ⟨by rw [HR.out] <;> rfl, HB.out⟩
end Go.Proofs.YtbogjfbfgbhdbaaGreatDoor
namespace Go.Proofs.YtbogjfbfgbhdbaaGreatDoor
open List renaming setIfInBounds_toArray → jA, set_cons_zero → jB, set_cons_succ → jC, getElem_toArray → jD, getElem_cons_zero → jE, getElem_cons_succ → jF
set_option linter.unusedVariables false
set_option linter.unusedSimpArgs false
open Go.RowKit
set_option linter.unusedVariables false
set_option linter.unusedSimpArgs false
theorem bxSame_own (l l' : List Bx) (hs : ∀ b ∈ l, b.msgs.length ≤ 100000) : CallE Tryz.prog 63 (fun x => .agg (bhA x)) BhIn Bh.b l l' := by
  intro W x y hx hy hxi hyi
  obtain ⟨⟨nm, v, nx, ms⟩, xA, xn, xc⟩ := x
  obtain ⟨⟨nm', v', nx', ms'⟩, yA, yn, yc⟩ := y
  have h1 := hs _ hx
  have hl : ms.length = xn := hxi.1.len
  exact same_any11 nm v nx xA xn xc ms nm' v' nx' yA yn yc ms' W hxi.1 hyi.1 (by simp only at h1; omega) hyi.2
theorem sameTomb_own (l l' : List Tmb) : CallE Tryz.prog 67 (fun x => .agg (thA x)) ThIn Th.t l l' := fun W x y _ _ hx hy => stsameTomb_any x y W hx hy
theorem sameHold_own (l l' : List Hol) : CallE Tryz.prog 69 (fun x => .agg (hhA x)) HhIn Hh.hol l l' := fun W x y _ _ hx hy => stsameHold_any x y W hx hy
set_option maxRecDepth 20000 in
set_option maxHeartbeats 8000000 in
theorem stSame_any (s s' : Sta) (p p' : StaAt) (w : World) (h : StaIn w w.heap.size s p) (h' : StaIn w w.heap.size s' p') (hs : ∀ b ∈ s.boxes, b.msgs.length ≤ 100000) : Calls Tryz.prog 25 #[staV s p, staV s' p'] w (SaysB (decide (s = s')) w) := by
  obtain ⟨cl, boxes, subs, rules, tombs, holds, nv, nt, nh⟩ := s
  obtain ⟨⟨bA, bn, bc⟩, ⟨sA, sn, sc⟩, ⟨rA, rn, rc⟩, ⟨tA, tn, tc⟩, ⟨gA, gn, gc⟩⟩ := p
  obtain ⟨cl', boxes', subs', rules', tombs', holds', nv', nt', nh'⟩ := s'
  obtain ⟨⟨bA', bn', bc'⟩, ⟨sA', sn', sc'⟩, ⟨rA', rn', rc'⟩, ⟨tA', tn', tc'⟩, ⟨gA', gn', gc'⟩⟩ := p'
  show Calls Tryz.prog 25 #[.agg #[.int .i64 cl, .slice bA bn bc, .slice sA sn sc, .slice rA rn rc, .slice tA tn tc, .slice gA gn gc, .int .i64 nv, .int .i64 nt, .int .i64 nh], .agg #[.int .i64 cl', .slice bA' bn' bc', .slice sA' sn' sc', .slice rA' rn' rc', .slice tA' tn' tc', .slice gA' gn' gc', .int .i64 nv', .int .i64 nt', .int .i64 nh']] w _
  have HB : Hid (Below w.heap.size w ((w.alloc (.cells #[.int .i64 cl, .slice bA bn bc, .slice sA sn sc, .slice rA rn rc, .slice tA tn tc, .slice gA gn gc, .int .i64 nv, .int .i64 nt, .int .i64 nh] 28)).alloc (.cells #[.int .i64 cl', .slice bA' bn' bc', .slice sA' sn' sc', .slice rA' rn' rc', .slice tA' tn' tc', .slice gA' gn' gc', .int .i64 nv', .int .i64 nt', .int .i64 nh'] 28))) := Lib.hid (((Below.refl _ _).alloc (Nat.le_refl _) _).alloc (by simp) _)
  have HK0 : Hid (Bk ((w.alloc (.cells #[.int .i64 cl, .slice bA bn bc, .slice sA sn sc, .slice rA rn rc, .slice tA tn tc, .slice gA gn gc, .int .i64 nv, .int .i64 nt, .int .i64 nh] 28)).alloc (.cells #[.int .i64 cl', .slice bA' bn' bc', .slice sA' sn' sc', .slice rA' rn' rc', .slice tA' tn' tc', .slice gA' gn' gc', .int .i64 nv', .int .i64 nt', .int .i64 nh'] 28)) w.heap.size 28 #[.int .i64 cl, .slice bA bn bc, .slice sA sn sc, .slice rA rn rc, .slice tA tn tc, .slice gA gn gc, .int .i64 nv, .int .i64 nt, .int .i64 nh]) := Lib.hid ((Bk.new _ _ _).alloc _)
  have HK1 : Hid (Bk ((w.alloc (.cells #[.int .i64 cl, .slice bA bn bc, .slice sA sn sc, .slice rA rn rc, .slice tA tn tc, .slice gA gn gc, .int .i64 nv, .int .i64 nt, .int .i64 nh] 28)).alloc (.cells #[.int .i64 cl', .slice bA' bn' bc', .slice sA' sn' sc', .slice rA' rn' rc', .slice tA' tn' tc', .slice gA' gn' gc', .int .i64 nv', .int .i64 nt', .int .i64 nh'] 28)) (w.heap.size + 1) 28 #[.int .i64 cl', .slice bA' bn' bc', .slice sA' sn' sc', .slice rA' rn' rc', .slice tA' tn' tc', .slice gA' gn' gc', .int .i64 nv', .int .i64 nt', .int .i64 nh']) := Lib.hid (Bk.new2 _ _ _ _)
  have HH := Lib.hid h
  have HH' := Lib.hid h'
  have HS := Lib.hid hs
  clear h h' hs
  obtain ⟨k0, k1, k2, k3, k4, k5, k6, k7, k8⟩ := HK0.out.nine
  obtain ⟨j0, j1, j2, j3, j4, j5, j6, j7, j8⟩ := HK1.out.nine
  by_cases hcl : cl = cl'
  case neg =>
    have HR : Hid (decide ((⟨cl, boxes, subs, rules, tombs, holds, nv, nt, nh⟩ : Sta) = ⟨cl', boxes', subs', rules', tombs', holds', nv', nt', nh'⟩) = false) := Lib.hid (decide_eq_false (fun e => hcl (congrArg Sta.clock e)))
    have hq : (cl == cl') = false := beq_eq_false_iff_ne.2 hcl
    go_enter Tryz.func25, Tryz.ntmps25
    go_wp2_with fail
    go_ret
    exact ⟨by first | rfl | (rw [HR.out] <;> rfl), HB.out⟩
  subst hcl
  by_cases hnv : nv = nv'
  case neg =>
    have HR : Hid (decide ((⟨cl, boxes, subs, rules, tombs, holds, nv, nt, nh⟩ : Sta) = ⟨cl, boxes', subs', rules', tombs', holds', nv', nt', nh'⟩) = false) := Lib.hid (decide_eq_false (fun e => hnv (congrArg Sta.nv e)))
    have hq : (nv == nv') = false := beq_eq_false_iff_ne.2 hnv
    go_enter Tryz.func25, Tryz.ntmps25
    go_wp2_with fail
    go_ret
    exact ⟨by first | rfl | (rw [HR.out] <;> rfl), HB.out⟩
  subst hnv
  by_cases hnt : nt = nt'
  case neg =>
    have HR : Hid (decide ((⟨cl, boxes, subs, rules, tombs, holds, nv, nt, nh⟩ : Sta) = ⟨cl, boxes', subs', rules', tombs', holds', nv, nt', nh'⟩) = false) := Lib.hid (decide_eq_false (fun e => hnt (congrArg Sta.nt e)))
    have hq : (nt == nt') = false := beq_eq_false_iff_ne.2 hnt
    go_enter Tryz.func25, Tryz.ntmps25
    go_wp2_with fail
    go_ret
    exact ⟨by first | rfl | (rw [HR.out] <;> rfl), HB.out⟩
  subst hnt
  by_cases hnh : nh = nh'
  case neg =>
    have HR : Hid (decide ((⟨cl, boxes, subs, rules, tombs, holds, nv, nt, nh⟩ : Sta) = ⟨cl, boxes', subs', rules', tombs', holds', nv, nt, nh'⟩) = false) := Lib.hid (decide_eq_false (fun e => hnh (congrArg Sta.nh e)))
    have hq : (nh == nh') = false := beq_eq_false_iff_ne.2 hnh
    go_enter Tryz.func25, Tryz.ntmps25
    go_wp2_with fail
    go_ret
    exact ⟨by first | rfl | (rw [HR.out] <;> rfl), HB.out⟩
  subst hnh
  go_enter Tryz.func25, Tryz.ntmps25
  go_wp2_with fail
  generalize (w.alloc (.cells #[.int .i64 cl, .slice bA bn bc, .slice sA sn sc, .slice rA rn rc, .slice tA tn tc, .slice gA gn gc, .int .i64 nv, .int .i64 nt, .int .i64 nh] 28)).alloc (.cells #[.int .i64 cl, .slice bA' bn' bc', .slice sA' sn' sc', .slice rA' rn' rc', .slice tA' tn' tc', .slice gA' gn' gc', .int .i64 nv, .int .i64 nt, .int .i64 nh] 28) = W0 at *
  refine (zEqualFBx_any 63 bA bA' bn bn' bc bc' boxes boxes' _ (HH.out.bx.later_ bhStays HB.out) (HH'.out.bx.later_ bhStays HB.out) HH.out.sz.1 HH'.out.sz.1 (enters_of Tryz.func63 (by decide) (by kernel_rfl)) (bxSame_own boxes boxes' HS.out)).mono ?_
  rintro e w2 ⟨rfl, hb2⟩
  have HBN := Lib.hid (HB.out.trans (hb2.mono HB.out.size))
  have HKN := Lib.hid (HK0.out.below hb2 HK0.out.lt)
  have HKM := Lib.hid (HK1.out.below hb2 HK1.out.lt)
  clear hb2 k0 k1 k2 k3 k4 k5 k6 k7 k8 HB HK0 j0 j1 j2 j3 j4 j5 j6 j7 j8 HK1
  have HB := HBN
  have HK0 := HKN
  have HK1 := HKM
  clear HBN HKN HKM
  obtain ⟨k0, k1, k2, k3, k4, k5, k6, k7, k8⟩ := HK0.out.nine
  obtain ⟨j0, j1, j2, j3, j4, j5, j6, j7, j8⟩ := HK1.out.nine
  by_cases eboxes : boxes = boxes'
  case neg =>
    have HR : Hid (decide ((⟨cl, boxes, subs, rules, tombs, holds, nv, nt, nh⟩ : Sta) = ⟨cl, boxes', subs', rules', tombs', holds', nv, nt, nh⟩) = false) := Lib.hid (decide_eq_false (fun e => eboxes (congrArg Sta.boxes e)))
    rw [decide_eq_false eboxes]
    clear eboxes
    go_wp2_with fail
    go_ret
    exact ⟨by first | rfl | (rw [HR.out] <;> rfl), HB.out⟩
  have Eboxes := Lib.hid eboxes
  rw [decide_eq_true eboxes]
  clear eboxes
  go_wp2_with fail
  refine (zEqualSt_any sA sA' sn sc sn' sc' subs subs' _ ((HH.out.sb.later HB.out).nest) ((HH'.out.sb.later HB.out).nest) HH.out.sz.2.1 HH'.out.sz.2.1).mono ?_
  rintro e w2 ⟨rfl, hb2⟩
  have HBN := Lib.hid (HB.out.trans (hb2.mono HB.out.size))
  have HKN := Lib.hid (HK0.out.below hb2 HK0.out.lt)
  have HKM := Lib.hid (HK1.out.below hb2 HK1.out.lt)
  clear hb2 k0 k1 k2 k3 k4 k5 k6 k7 k8 HB HK0 j0 j1 j2 j3 j4 j5 j6 j7 j8 HK1
  have HB := HBN
  have HK0 := HKN
  have HK1 := HKM
  clear HBN HKN HKM
  obtain ⟨k0, k1, k2, k3, k4, k5, k6, k7, k8⟩ := HK0.out.nine
  obtain ⟨j0, j1, j2, j3, j4, j5, j6, j7, j8⟩ := HK1.out.nine
  by_cases esubs : subs = subs'
  case neg =>
    have HR : Hid (decide ((⟨cl, boxes, subs, rules, tombs, holds, nv, nt, nh⟩ : Sta) = ⟨cl, boxes', subs', rules', tombs', holds', nv, nt, nh⟩) = false) := Lib.hid (decide_eq_false (fun e => esubs (congrArg Sta.subs e)))
    rw [decide_eq_false esubs]
    clear esubs
    go_wp2_with fail
    go_ret
    exact ⟨by first | rfl | (rw [HR.out] <;> rfl), HB.out⟩
  have Esubs := Lib.hid esubs
  rw [decide_eq_true esubs]
  clear esubs
  go_wp2_with fail
  refine (zEqualRu_any rA rA' rn rc rn' rc' rules rules' _ ((HH.out.ru.later HB.out).nest) ((HH'.out.ru.later HB.out).nest) HH.out.sz.2.2.1 HH'.out.sz.2.2.1).mono ?_
  rintro e w2 ⟨rfl, hb2⟩
  have HBN := Lib.hid (HB.out.trans (hb2.mono HB.out.size))
  have HKN := Lib.hid (HK0.out.below hb2 HK0.out.lt)
  have HKM := Lib.hid (HK1.out.below hb2 HK1.out.lt)
  clear hb2 k0 k1 k2 k3 k4 k5 k6 k7 k8 HB HK0 j0 j1 j2 j3 j4 j5 j6 j7 j8 HK1
  have HB := HBN
  have HK0 := HKN
  have HK1 := HKM
  clear HBN HKN HKM
  obtain ⟨k0, k1, k2, k3, k4, k5, k6, k7, k8⟩ := HK0.out.nine
  obtain ⟨j0, j1, j2, j3, j4, j5, j6, j7, j8⟩ := HK1.out.nine
  by_cases erules : rules = rules'
  case neg =>
    have HR : Hid (decide ((⟨cl, boxes, subs, rules, tombs, holds, nv, nt, nh⟩ : Sta) = ⟨cl, boxes', subs', rules', tombs', holds', nv, nt, nh⟩) = false) := Lib.hid (decide_eq_false (fun e => erules (congrArg Sta.rules e)))
    rw [decide_eq_false erules]
    clear erules
    go_wp2_with fail
    go_ret
    exact ⟨by first | rfl | (rw [HR.out] <;> rfl), HB.out⟩
  have Erules := Lib.hid erules
  rw [decide_eq_true erules]
  clear erules
  go_wp2_with fail
  refine (zEqualFTb_any 67 tA tA' tn tn' tc tc' tombs tombs' _ (HH.out.tb.later_ thStays HB.out) (HH'.out.tb.later_ thStays HB.out) HH.out.sz.2.2.2.1 HH'.out.sz.2.2.2.1 (enters_of Tryz.func67 (by decide) (by kernel_rfl)) (sameTomb_own tombs tombs')).mono ?_
  rintro e w2 ⟨rfl, hb2⟩
  have HBN := Lib.hid (HB.out.trans (hb2.mono HB.out.size))
  have HKN := Lib.hid (HK0.out.below hb2 HK0.out.lt)
  have HKM := Lib.hid (HK1.out.below hb2 HK1.out.lt)
  clear hb2 k0 k1 k2 k3 k4 k5 k6 k7 k8 HB HK0 j0 j1 j2 j3 j4 j5 j6 j7 j8 HK1
  have HB := HBN
  have HK0 := HKN
  have HK1 := HKM
  clear HBN HKN HKM
  obtain ⟨k0, k1, k2, k3, k4, k5, k6, k7, k8⟩ := HK0.out.nine
  obtain ⟨j0, j1, j2, j3, j4, j5, j6, j7, j8⟩ := HK1.out.nine
  by_cases etombs : tombs = tombs'
  case neg =>
    have HR : Hid (decide ((⟨cl, boxes, subs, rules, tombs, holds, nv, nt, nh⟩ : Sta) = ⟨cl, boxes', subs', rules', tombs', holds', nv, nt, nh⟩) = false) := Lib.hid (decide_eq_false (fun e => etombs (congrArg Sta.tombs e)))
    rw [decide_eq_false etombs]
    clear etombs
    go_wp2_with fail
    go_ret
    exact ⟨by first | rfl | (rw [HR.out] <;> rfl), HB.out⟩
  have Etombs := Lib.hid etombs
  rw [decide_eq_true etombs]
  clear etombs
  go_wp2_with fail
  refine (zEqualFHo_any 69 gA gA' gn gn' gc gc' holds holds' _ (HH.out.ho.later_ hhStays HB.out) (HH'.out.ho.later_ hhStays HB.out) HH.out.sz.2.2.2.2 HH'.out.sz.2.2.2.2 (enters_of Tryz.func69 (by decide) (by kernel_rfl)) (sameHold_own holds holds')).mono ?_
  rintro e w2 ⟨rfl, hb2⟩
  have HBN := Lib.hid (HB.out.trans (hb2.mono HB.out.size))
  have HKN := Lib.hid (HK0.out.below hb2 HK0.out.lt)
  have HKM := Lib.hid (HK1.out.below hb2 HK1.out.lt)
  clear hb2 k0 k1 k2 k3 k4 k5 k6 k7 k8 HB HK0 j0 j1 j2 j3 j4 j5 j6 j7 j8 HK1
  have HB := HBN
  have HK0 := HKN
  have HK1 := HKM
  clear HBN HKN HKM
  obtain ⟨k0, k1, k2, k3, k4, k5, k6, k7, k8⟩ := HK0.out.nine
  obtain ⟨j0, j1, j2, j3, j4, j5, j6, j7, j8⟩ := HK1.out.nine
  by_cases eholds : holds = holds'
  case neg =>
    have HR : Hid (decide ((⟨cl, boxes, subs, rules, tombs, holds, nv, nt, nh⟩ : Sta) = ⟨cl, boxes', subs', rules', tombs', holds', nv, nt, nh⟩) = false) := Lib.hid (decide_eq_false (fun e => eholds (congrArg Sta.holds e)))
    rw [decide_eq_false eholds]
    clear eholds
    go_wp2_with fail
    go_ret
    exact ⟨by first | rfl | (rw [HR.out] <;> rfl), HB.out⟩
  have Eholds := Lib.hid eholds
  rw [decide_eq_true eholds]
  clear eholds
  go_wp2_with fail
  go_ret
  have HR : decide ((⟨cl, boxes, subs, rules, tombs, holds, nv, nt, nh⟩ : Sta) = ⟨cl, boxes', subs', rules', tombs', holds', nv, nt, nh⟩) = true := decide_eq_true (by rw [Eboxes.out, Esubs.out, Erules.out, Etombs.out, Eholds.out])
  exact ⟨by first | rfl | (rw [HR] <;> rfl), HB.out⟩
end Go.Proofs.YtbogjfbfgbhdbaaGreatDoor
