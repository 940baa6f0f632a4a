/-
  Contracts over package box and the document's own: the same messages, the same lists of them, the same mailboxes.
-/
import Derived.Test.YthmlgbeonmpbjaaQBoxA
namespace Go.Proofs.Ythmlgbeonmpbjaa
set_option linter.unusedVariables false
set_option linter.unusedSimpArgs false
open Go.RowKit
set_option linter.unusedVariables false
set_option linter.unusedSimpArgs false

theorem mg_ne1 {u f d u' f' d' : Int} {l l' : List Nat} (h : (u == u') = false) : decide ((⟨u, f, d, l⟩ : Mg) = ⟨u', f', d', l'⟩) = false := decide_eq_false (fun e => by
  have := congrArg Mg.uid e
  simp only at this
  rw [this] at h; simp at h)
theorem mg_ne2 {u f d u' f' d' : Int} {l l' : List Nat} (h : (f == f') = false) : decide ((⟨u, f, d, l⟩ : Mg) = ⟨u', f', d', l'⟩) = false := decide_eq_false (fun e => by
  have := congrArg Mg.flags e
  simp only at this
  rw [this] at h; simp at h)
theorem mg_ne3 {u f d u' f' d' : Int} {l l' : List Nat} (h : (d == d') = false) : decide ((⟨u, f, d, l⟩ : Mg) = ⟨u', f', d', l'⟩) = false := decide_eq_false (fun e => by
  have := congrArg Mg.date e
  simp only at this
  rw [this] at h; simp at h)
theorem mg_eq {u f d u' f' d' : Int} {l l' : List Nat} (h1 : (u == u') = true) (h2 : (f == f') = true) (h3 : (d == d') = true) : decide ((⟨u, f, d, l⟩ : Mg) = ⟨u', f', d', l'⟩) = decide (l = l') := by
  rw [beq_iff_eq.1 h1, beq_iff_eq.1 h2, beq_iff_eq.1 h3]
  by_cases h : l = l'
  · rw [h]; simp
  · rw [decide_eq_false h, decide_eq_false (fun e => h (by have := congrArg Mg.body e; simpa using this))]
set_option maxRecDepth 20000 in
set_option maxHeartbeats 2000000 in
theorem sameMsg_any (u f d : Int) (A : Option Addr) (n c : Nat) (l : List Nat) (u' f' d' : Int) (A' : Option Addr) (n' c' : Nat) (l' : List Nat) (w : World) (hl : Bytes w w.heap.size A n l) (hl' : Bytes w w.heap.size A' n' l') :
    Calls Try.prog 48 #[.agg #[.int .i64 u, .int .i64 f, .int .i64 d, .slice A n c], .agg #[.int .i64 u', .int .i64 f', .int .i64 d', .slice A' n' c']] w fun e w' => e = .returned (.bool (decide ((⟨u, f, d, l⟩ : Mg) = ⟨u', f', d', l'⟩))) ∧ w' = (w.alloc (.cells #[.int .i64 u, .int .i64 f, .int .i64 d, .slice A n c] 27)).alloc (.cells #[.int .i64 u', .int .i64 f', .int .i64 d', .slice A' n' c'] 27) := by
  have h1 : Bk ((w.alloc (.cells #[.int .i64 u, .int .i64 f, .int .i64 d, .slice A n c] 27)).alloc (.cells #[.int .i64 u', .int .i64 f', .int .i64 d', .slice A' n' c'] 27)) w.heap.size 27 #[.int .i64 u, .int .i64 f, .int .i64 d, .slice A n c] := (Bk.new _ _ _).alloc _
  have h2 : Bk ((w.alloc (.cells #[.int .i64 u, .int .i64 f, .int .i64 d, .slice A n c] 27)).alloc (.cells #[.int .i64 u', .int .i64 f', .int .i64 d', .slice A' n' c'] 27)) (w.heap.size + 1) 27 #[.int .i64 u', .int .i64 f', .int .i64 d', .slice A' n' c'] := Bk.new2 _ _ _ _
  have hB : Below w.heap.size w ((w.alloc (.cells #[.int .i64 u, .int .i64 f, .int .i64 d, .slice A n c] 27)).alloc (.cells #[.int .i64 u', .int .i64 f', .int .i64 d', .slice A' n' c'] 27)) := ((Below.refl _ _).alloc (Nat.le_refl _) _).alloc (by simp) _
  have HC := Lib.hid (byEqual_any A n c w.heap.size l A' n' c' w.heap.size l' ((w.alloc (.cells #[.int .i64 u, .int .i64 f, .int .i64 d, .slice A n c] 27)).alloc (.cells #[.int .i64 u', .int .i64 f', .int .i64 d', .slice A' n' c'] 27)) (hl.below hB (Nat.le_refl _)) (hl'.below hB (Nat.le_refl _)))
  obtain ⟨⟨c0, c1, c2, c3⟩, -, -, -, -⟩ := h1.four
  obtain ⟨⟨d0, d1, d2, d3⟩, -, -, -, -⟩ := h2.four
  clear h1 h2 hl hl' hB
  cases hu : (u == u')
  · have HR := Lib.hid (mg_ne1 (f := f) (d := d) (f' := f') (d' := d') (l := l) (l' := l') hu)
    go_enter Try.func48, Try.ntmps48
    go_wp2_with fail
    go_ret
    exact ⟨by rw [HR.out] <;> rfl, rfl⟩
  cases hf : (f == f')
  · have HR := Lib.hid (mg_ne2 (u := u) (d := d) (u' := u') (d' := d') (l := l) (l' := l') hf)
    go_enter Try.func48, Try.ntmps48
    go_wp2_with fail
    go_ret
    exact ⟨by rw [HR.out] <;> rfl, rfl⟩
  cases hd : (d == d')
  · have HR := Lib.hid (mg_ne3 (u := u) (f := f) (u' := u') (f' := f') (l := l) (l' := l') hd)
    go_enter Try.func48, Try.ntmps48
    go_wp2_with fail
    go_ret
    exact ⟨by rw [HR.out] <;> rfl, rfl⟩
  rw [mg_eq (l := l) (l' := l') hu hf hd]
  generalize decide (l = l') = q at *
  go_enter Try.func48, Try.ntmps48
  go_wp2_with fail
  refine HC.out.mono ?_
  rintro e w' ⟨rfl, rfl⟩
  go_wp2_with fail
  go_ret
  exact ⟨rfl, rfl⟩
set_option maxRecDepth 20000 in
set_option maxHeartbeats 2000000 in
theorem x11sameMsg_any (u f d : Int) (A : Option Addr) (n c : Nat) (l : List Nat) (u' f' d' : Int) (A' : Option Addr) (n' c' : Nat) (l' : List Nat) (w : World) (hl : Bytes w w.heap.size A n l) (hl' : Bytes w w.heap.size A' n' l') :
    Calls Try.prog 25 #[.agg #[.int .i64 u, .int .i64 f, .int .i64 d, .slice A n c], .agg #[.int .i64 u', .int .i64 f', .int .i64 d', .slice A' n' c']] w fun e w' => e = .returned (.bool (decide ((⟨u, f, d, l⟩ : Mg) = ⟨u', f', d', l'⟩))) ∧ w' = (w.alloc (.cells #[.int .i64 u, .int .i64 f, .int .i64 d, .slice A n c] 27)).alloc (.cells #[.int .i64 u', .int .i64 f', .int .i64 d', .slice A' n' c'] 27) := by
  have h1 : Bk ((w.alloc (.cells #[.int .i64 u, .int .i64 f, .int .i64 d, .slice A n c] 27)).alloc (.cells #[.int .i64 u', .int .i64 f', .int .i64 d', .slice A' n' c'] 27)) w.heap.size 27 #[.int .i64 u, .int .i64 f, .int .i64 d, .slice A n c] := (Bk.new _ _ _).alloc _
  have h2 : Bk ((w.alloc (.cells #[.int .i64 u, .int .i64 f, .int .i64 d, .slice A n c] 27)).alloc (.cells #[.int .i64 u', .int .i64 f', .int .i64 d', .slice A' n' c'] 27)) (w.heap.size + 1) 27 #[.int .i64 u', .int .i64 f', .int .i64 d', .slice A' n' c'] := Bk.new2 _ _ _ _
  have hB : Below w.heap.size w ((w.alloc (.cells #[.int .i64 u, .int .i64 f, .int .i64 d, .slice A n c] 27)).alloc (.cells #[.int .i64 u', .int .i64 f', .int .i64 d', .slice A' n' c'] 27)) := ((Below.refl _ _).alloc (Nat.le_refl _) _).alloc (by simp) _
  have HC := Lib.hid (x3same11_any A n c w.heap.size l A' n' c' w.heap.size l' ((w.alloc (.cells #[.int .i64 u, .int .i64 f, .int .i64 d, .slice A n c] 27)).alloc (.cells #[.int .i64 u', .int .i64 f', .int .i64 d', .slice A' n' c'] 27)) (hl.below hB (Nat.le_refl _)) (hl'.below hB (Nat.le_refl _)))
  obtain ⟨⟨c0, c1, c2, c3⟩, -, -, -, -⟩ := h1.four
  obtain ⟨⟨d0, d1, d2, d3⟩, -, -, -, -⟩ := h2.four
  clear h1 h2 hl hl' hB
  cases hu : (u == u')
  · have HR := Lib.hid (mg_ne1 (f := f) (d := d) (f' := f') (d' := d') (l := l) (l' := l') hu)
    go_enter Try.func25, Try.ntmps25
    go_wp2_with fail
    go_ret
    exact ⟨by rw [HR.out] <;> rfl, rfl⟩
  cases hf : (f == f')
  · have HR := Lib.hid (mg_ne2 (u := u) (d := d) (u' := u') (d' := d') (l := l) (l' := l') hf)
    go_enter Try.func25, Try.ntmps25
    go_wp2_with fail
    go_ret
    exact ⟨by rw [HR.out] <;> rfl, rfl⟩
  cases hd : (d == d')
  · have HR := Lib.hid (mg_ne3 (u := u) (f := f) (u' := u') (f' := f') (l := l) (l' := l') hd)
    go_enter Try.func25, Try.ntmps25
    go_wp2_with fail
    go_ret
    exact ⟨by rw [HR.out] <;> rfl, rfl⟩
  rw [mg_eq (l := l) (l' := l') hu hf hd]
  generalize decide (l = l') = q at *
  go_enter Try.func25, Try.ntmps25
  go_wp2_with fail
  refine HC.out.mono ?_
  rintro e w' ⟨rfl, rfl⟩
  go_wp2_with fail
  go_ret
  exact ⟨rfl, rfl⟩
end Go.Proofs.Ythmlgbeonmpbjaa
