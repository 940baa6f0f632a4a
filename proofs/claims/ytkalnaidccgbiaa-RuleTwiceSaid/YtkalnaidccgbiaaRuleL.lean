/-
  The laws of layer 13: a fixed fact.
-/
import Derived.Test.YtkalnaidccgbiaaRuleK
namespace Go.Proofs.Ytkalnaidccgbiaa
open Go.RowKit
set_option linter.unusedVariables false
set_option linter.unusedSimpArgs false

def ba13 : ByteArray := ⟨#[97]⟩
def t13 : Tm := ⟨3, ba13, 5, 7, 0, 0, none, 0, 0⟩
def h13 (b : Nat) : Hh := ⟨0, ba13, some ⟨b, 0, none⟩, 1, 1, [(7, 9)]⟩
theorem al_set : setR [] ba13 60 = [(ba13, 60)] := by simp [setR, newR]
theorem al_keep : keepR [(ba13, 60)] ba13 = 60 := by simp [keepR]
theorem al_r65 : ripeB 5 60 65 = true := by unfold ripeB; exact decide_eq_true (by omega)
theorem al_r64 : ripeB 5 60 64 = false := by unfold ripeB; exact decide_eq_false (by omega)
theorem al_r99 : ripeB 5 60 99 = true := by unfold ripeB; exact decide_eq_true (by omega)
theorem al_g (now : Int) : goesB [(ba13, 60)] [] now t13 = ripeB 5 60 now := by
  unfold goesB
  rw [show t13.box = ba13 from rfl, al_keep, show heldR [] ba13 t13.uid = false from rfl]
  show (ripeB 5 60 now && !false) = _
  rw [Bool.not_false, Bool.and_true]
theorem al_g65 : goesB [(ba13, 60)] [] 65 t13 = true := (al_g 65).trans al_r65
theorem al_g64 : goesB [(ba13, 60)] [] 64 t13 = false := (al_g 64).trans al_r64
theorem al_held (b : Nat) : heldR [h13 b] ba13 8 = true := by simp [heldR, h13, oneB, hasZ]; decide
theorem al_gh (b : Nat) : goesB [(ba13, 60)] [h13 b] 65 t13 = false := by
  have : heldR [h13 b] t13.box t13.uid = true := by simp [heldR, h13, oneB, hasZ, t13]; decide
  unfold goesB
  rw [this]
  simp
theorem al_due : dueL [(ba13, 60)] [] 99 [t13] = [3] := by
  unfold dueL
  rw [List.filter_cons_of_pos ((al_g 99).trans al_r99)]
  rfl
theorem al_lt : ∀ r ∈ [(ba13, (60 : Int))], r.2 < 9223372036854775808 := by simp
theorem calls_over13 {P : Program} {f : Nat} {args : Array Value} {W : World} {Q : Ending → World → Prop} (G : World → Prop) (hG : G W) (h : ∀ W', G W' → Calls P f args W' Q) : Calls P f args W Q := h W hG
def AlIn (w W : World) (A1 : Option Addr) (bt br bh : Nat) : Prop := Below w.heap.size w W ∧ ColK 2 rulC W W.heap.size A1 1 [(ba13, 60)] ∧ Bk W bt 33 (tmA t13) ∧ HoldsIn W W.heap.size (some ⟨bh, 0, none⟩) 1 [h13 br]
theorem AlIn.next {w W W' : World} {A1 : Option Addr} {bt br bh : Nat} (h : AlIn w W A1 bt br bh) (hb : Below W.heap.size W W') : AlIn w W' A1 bt br bh :=
  ⟨h.1.trans (hb.mono h.1.size), h.2.1.later hb, h.2.2.1.below hb h.2.2.1.lt, h.2.2.2.later hb⟩
theorem col_one {α : Type} {k : Nat} {f : α → List Value} {w : World} {b : Nat} {t : TypeId} {a : α} (h : Bk w b t (f a).toArray) (B : Nat) (hB : b < B) : ColK k f w B (some ⟨b, 0, none⟩) 1 [a] :=
  ⟨rfl, fun _ => ⟨b, 0, rfl, hB, fun i x hx => by
    cases i with
    | zero => cases hx; rw [Nat.zero_mul, Nat.add_zero]; exact h.range
    | succ i => cases hx⟩⟩
theorem col_one13 {w : World} {b : Nat} {t : TypeId} {z : Int} (h : Bk w b t #[.int .i64 z]) (B : Nat) (hB : b < B) : Col ints w B (some ⟨b, 0, none⟩) 1 [z] :=
  ⟨rfl, fun _ => ⟨b, 0, rfl, hB, fun i x hx => by
    cases i with
    | zero => cases hx; exact h.cell 0
    | succ i => cases hx⟩⟩
set_option maxRecDepth 20000 in
set_option maxHeartbeats 8000000 in
theorem alive13_any (w : World) : Calls Try.prog 7 #[] w fun e w' => e = .returned (.bool true) ∧ Below w.heap.size w w' := by
  go_enter Try.func7, Try.ntmps7
  go_wp2_with fail
  refine (rlSet_any none 0 0 [] ba13 60 w ColK.nil (Nat.zero_le _) List.Pairwise.nil).mono ?_
  rintro e w1 ⟨A1, n1, c1, rfl, ho, hb⟩
  rw [al_set] at ho
  obtain rfl : n1 = 1 := ho.len.symm
  have O1 := Lib.hid ho
  have B1 := Lib.hid hb
  clear ho hb
  go_wp2_with fail
  obtain ⟨bt, hbt⟩ : ∃ b, b = w1.heap.size := ⟨_, rfl⟩
  obtain ⟨br, hbr⟩ : ∃ b, b = w1.heap.size + 1 := ⟨_, rfl⟩
  obtain ⟨bh, hbh⟩ : ∃ b, b = w1.heap.size + 1 + 1 := ⟨_, rfl⟩
  have hbel : ∀ o1 o2 o3, Below w1.heap.size w1 (((w1.alloc o1).alloc o2).alloc o3) := fun _ _ _ => (((Below.refl _ _).alloc (Nat.le_refl _) _).alloc (by simp) _).alloc (by simp; omega) _
  refine calls_over13 (fun W => AlIn w W A1 bt br bh) ⟨B1.out.trans ((hbel _ _ _).mono B1.out.size), O1.out.col.later (hbel _ _ _), ?_, ?_, ?_⟩ ?_
  · rw [hbt]; exact ((Bk.new _ _ _).alloc _).alloc _
  · rw [hbh, hbr]
    refine col_one (k := 3) (f := hhC) (Bk.new3 _ _ _ _ _) _ ?_
    simp
  · intro h hh
    rw [List.mem_singleton.1 hh]
    refine ⟨?_, by show (1 : Nat) ≤ _; omega⟩
    show ColK 2 rgC _ _ (some ⟨br, 0, none⟩) 1 [(7, 9)]
    rw [hbr]
    refine col_one (k := 2) (f := rgC) ((Bk.new2 _ _ _ _).alloc _) _ ?_
    simp
  clear hbel O1 B1
  rw [← hbh, ← hbt]
  clear hbt hbr hbh
  intro W2 hw2
  have H2 := Lib.hid hw2
  have C2 := Lib.hid (rlKeep_any A1 1 c1 [(ba13, 60)] ba13 W2 hw2.2.1 (by omega))
  clear hw2
  rw [al_keep] at C2
  refine C2.out.mono ?_
  rintro e W3 ⟨rfl, hb⟩
  have H3 := Lib.hid (H2.out.next hb)
  clear hb H2 C2
  go_wp2_with ((with_reducible show wpList _ _ _ (⟨some 15, _, _, _, _, _⟩ :: _) _ _); refine hold ?_)
  refine held (wpList_load_wanted (by rfl) 33 (.tmp 2) rfl bt 0 rfl _ _ H3.out.2.2.1.range Try.underlying33 rfl (by kernel_rfl) ?_)
  go_wp2_with fail
  have C3 := Lib.hid (rlGoes_any A1 none 1 c1 0 0 [(ba13, 60)] [] t13 65 W3 H3.out.2.1 (by omega) HoldsIn.nil (by omega) (fun h hh => by cases hh) (by show (5 : Int) < _; omega) al_lt)
  rw [al_g65] at C3
  refine C3.out.mono ?_
  rintro e W4 ⟨rfl, hb⟩
  have H4 := Lib.hid (H3.out.next hb)
  clear hb H3 C3
  go_wp2_with ((with_reducible show wpList _ _ _ (⟨some 20, _, _, _, _, _⟩ :: _) _ _); refine hold ?_)
  refine held (wpList_load_wanted (by rfl) 33 (.tmp 2) rfl bt 0 rfl _ _ H4.out.2.2.1.range Try.underlying33 rfl (by kernel_rfl) ?_)
  go_wp2_with fail
  have C4 := Lib.hid (rlGoes_any A1 none 1 c1 0 0 [(ba13, 60)] [] t13 64 W4 H4.out.2.1 (by omega) HoldsIn.nil (by omega) (fun h hh => by cases hh) (by show (5 : Int) < _; omega) al_lt)
  rw [al_g64] at C4
  refine C4.out.mono ?_
  rintro e W5 ⟨rfl, hb⟩
  have H5 := Lib.hid (H4.out.next hb)
  clear hb H4 C4
  go_wp2_with fail
  have hsm : ∀ h ∈ [h13 br], h.n ≤ 1000000 := fun h hh => by rw [List.mem_singleton.1 hh]; show (1 : Nat) ≤ _; omega
  have HSM := Lib.hid hsm
  clear hsm
  have C5 := Lib.hid (rlHeld_any (some ⟨bh, 0, none⟩) 1 1 ba13 8 [h13 br] W5 H5.out.2.2.2 (by omega) HSM.out)
  rw [al_held] at C5
  refine C5.out.mono ?_
  rintro e W6 ⟨rfl, hb⟩
  have H6 := Lib.hid (H5.out.next hb)
  clear hb H5 C5
  go_wp2_with ((with_reducible show wpList _ _ _ (⟨some 30, _, _, _, _, _⟩ :: _) _ _); refine hold ?_)
  refine held (wpList_load_wanted (by rfl) 33 (.tmp 2) rfl bt 0 rfl _ _ H6.out.2.2.1.range Try.underlying33 rfl (by kernel_rfl) ?_)
  go_wp2_with fail
  have C6 := Lib.hid (rlGoes_any A1 (some ⟨bh, 0, none⟩) 1 c1 1 1 [(ba13, 60)] [h13 br] t13 65 W6 H6.out.2.1 (by omega) H6.out.2.2.2 (by omega) HSM.out (by show (5 : Int) < _; omega) al_lt)
  rw [al_gh] at C6
  refine C6.out.mono ?_
  rintro e W7 ⟨rfl, hb⟩
  have H7 := Lib.hid (H6.out.next hb)
  clear hb H6 C6
  go_wp2_with ((with_reducible show wpList _ _ _ (⟨some 37, _, _, _, _, _⟩ :: _) _ _); refine hold ?_)
  refine held (wpList_load_wanted (by rfl) 33 (.tmp 2) rfl bt 0 rfl _ _ H7.out.2.2.1.range Try.underlying33 rfl (by kernel_rfl) ?_)
  unfold tmA t13
  go_wp2_with fail
  have hba : Below W7.heap.size W7 (W7.alloc (.cells (tmA t13) 33)) := (Below.refl _ _).alloc (Nat.le_refl _) _
  have C7 := Lib.hid (rlDue_any A1 none (some ⟨W7.heap.size, 0, none⟩) 1 c1 0 0 1 1 [(ba13, 60)] [] [t13] 99 (W7.alloc (.cells (tmA t13) 33)) (H7.out.next hba).2.1 (by omega) HoldsIn.nil (by omega) (fun h hh => by cases hh)
    (col_one (k := 7) (f := tmC) (Bk.new W7 33 _) _ (by simp)) (by omega) (fun t ht => by rw [List.mem_singleton.1 ht]; show (5 : Int) < _; omega) al_lt)
  rw [al_due] at C7
  refine C7.out.mono ?_
  rintro e W8 ⟨A8, n8, c8, rfl, hc8, hb8⟩
  have H8 := Lib.hid (H7.out.1.trans ((hba.trans (hb8.mono hba.size)).mono H7.out.1.size))
  obtain rfl : n8 = 1 := hc8.1.symm
  have HC8 := Lib.hid hc8
  clear hc8 hb8 hba H7 C7
  go_wp2_with fail
  have hbb : Below W8.heap.size W8 (W8.alloc (.cells #[.int .i64 3] 3)) := (Below.refl _ _).alloc (Nat.le_refl _) _
  refine (x9Ints_any A8 (some ⟨W8.heap.size, 0, none⟩) 1 c8 1 1 [3] [3] _ (HC8.out.below hbb (Nat.le_refl _) |>.more hbb.size) (col_one13 (Bk.new W8 3 _) _ (by simp)) (by omega) (by omega)).mono ?_
  rintro e W9 ⟨rfl, q, rfl⟩
  have H9 := Lib.hid (below_drewN (H8.out.trans (hbb.mono H8.out.size)) q)
  clear hbb
  rw [decide_eq_true rfl]
  go_wp2_with fail
  go_ret
  exact ⟨rfl, H9.out⟩
end Go.Proofs.Ytkalnaidccgbiaa
