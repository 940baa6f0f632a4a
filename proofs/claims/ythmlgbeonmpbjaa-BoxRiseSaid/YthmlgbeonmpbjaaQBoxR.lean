/-
  For the law Rise of package box: turns as they come in; numbers cut from a slice; what taking the last messages leaves.
-/
import Derived.Test.YthmlgbeonmpbjaaQBoxLawA
namespace Go.Proofs.Ythmlgbeonmpbjaa
set_option linter.unusedVariables false
set_option linter.unusedSimpArgs false
open Go.RowKit
set_option linter.unusedVariables false
set_option linter.unusedSimpArgs false

/-- a turn -/
structure Tn where
  h : Hd
  take : Bool
  pick : Nat
def tnC (t : Tn) : List Value := [.int .i64 t.h.m.uid, .int .i64 t.h.m.flags, .int .i64 t.h.m.date, .slice t.h.A t.h.n t.h.c, .bool t.take, .int .u8 (t.pick : Int)]
def TurnsIn (w : World) (B : Nat) (A : Option Addr) (n : Nat) (l : List Tn) : Prop := ColK 6 tnC w B A n l ∧ ∀ t ∈ l, HdIn w B t.h ∧ t.pick < 256
theorem TurnsIn.below {w w' : World} {B B' n : Nat} {A : Option Addr} {l : List Tn} (h : TurnsIn w B A n l) (hb : Below B' w w') (hB : B ≤ B') : TurnsIn w' B A n l :=
  ⟨h.1.below hb hB, fun t ht => ⟨(h.2 t ht).1.below hb hB, (h.2 t ht).2⟩⟩
def fromI (A : Option Addr) (j c : Nat) : Option Addr := if c = j then A else A.map (·.add (j * 1))
theorem size_intI (w : World) : (sizeOf (Try.prog.elem 36)).run Try.prog w = .ok 1 w := by
  have hel : Try.prog.elem 36 = 3 := by simp [Program.elem, Try.underlying36]
  obtain ⟨i, hi, _, hs, _⟩ := info_parts info_int
  rw [hel]
  simp [sizeOf, hs, go_sem, run_typeInfo _ hi]
theorem und_ints : Try.prog.underlying 36 = some (.slice (Try.prog.elem 36)) := by
  have hel : Try.prog.elem 36 = 3 := by simp [Program.elem, Try.underlying36]
  rw [hel]; exact Try.underlying36
theorem exec_fromI {o : Oper} {ρ : Operand → Value} {x lo : Operand} {A : Option Addr} {n c j : Nat} {w : World} (ho : o.op = .slice 36 x (some lo) none none) (hx : ρ x = .slice A n c) (hl : ρ lo = .int .i64 (j : Int)) (hj : j ≤ n) (hc : n ≤ c) :
    (execOp ρ o).run Try.prog w = .ok (.value (.slice (fromI A j c) (n - j) (c - j))) w := by
  have hrun : (Instr.sliceAt 36 (.slice A n c) (some (.int .i64 (j : Int))) none none).run Try.prog w = .ok (.slice (fromI A j c) (n - j) (c - j)) w := by
    rw [run_sliceAt_slice w 36 _ _ _ _ und_ints, run_slice_l w 36 _ n c und_ints .i64 (j : Int) (by omega) (by omega), size_intI]
    simp [Result.andThen_ok, sliced, fromI]
  unfold execOp
  simp [ho, hx, hl, hrun]
theorem Col.fromI {w : World} {B n c j : Nat} {A : Option Addr} {l : List Int} (h : Col ints w B A n l) (hj : j < n) (hnc : n ≤ c) : Col ints w B (Ythmlgbeonmpbjaa.fromI A j c) (n - j) (l.drop j) := by
  obtain ⟨b, o, rfl, hb, hc⟩ := h.2 (by omega)
  refine ⟨by rw [List.length_drop, h.1], fun _ => ⟨b, o + j, ?_, hb, fun i a ha => ?_⟩⟩
  · unfold Ythmlgbeonmpbjaa.fromI
    rw [if_neg (by omega)]
    simp [Addr.add_mid]
  · rw [List.getElem?_drop] at ha
    rw [Nat.add_assoc]
    exact hc _ a ha

/-! ### Taking the last messages -/
theorem okTo_take {nx : Int} {l : List Mg} (h : OkTo nx l) (k : Nat) : OkTo nx (l.take k) :=
  ⟨fun m hm => h.1 m (List.mem_of_mem_take hm), h.2.sublist (List.take_sublist k l)⟩
theorem uids_drop (l : List Mg) (k : Nat) : (l.map Mg.uid).drop k = (l.drop k).map Mg.uid := by rw [List.map_drop]
theorem cut_apart {nx : Int} {l : List Mg} (h : OkTo nx l) (k : Nat) {m : Mg} (hm : m ∈ l.take k) : m.uid ∉ (l.drop k).map Mg.uid := fun hu => by
  obtain ⟨y, hy, he⟩ := List.mem_map.1 hu
  have hpw := h.2
  rw [← List.take_append_drop k l] at hpw
  have := (List.pairwise_append.1 hpw).2.2 m hm y hy
  omega
theorem last_gone {nx : Int} {l : List Mg} (h : OkTo nx l) (k : Nat) : goneL l ((l.map Mg.uid).drop k) = l.drop k ∧ leftL l ((l.map Mg.uid).drop k) = l.take k := by
  rw [uids_drop]
  have h1 : ∀ m ∈ l.take k, m.uid ∉ (l.drop k).map Mg.uid := fun m hm => cut_apart h k hm
  have h2 : ∀ m ∈ l.drop k, m.uid ∈ (l.drop k).map Mg.uid := fun m hm => List.mem_map.2 ⟨m, hm, rfl⟩
  unfold goneL leftL
  constructor
  · conv => lhs; arg 2; rw [← List.take_append_drop k l]
    rw [List.filter_append, List.filter_eq_nil_iff.2 (fun m hm => by simpa using h1 m hm), List.nil_append]
    exact List.filter_eq_self.2 (fun m hm => by simpa using h2 m hm)
  · conv => lhs; arg 2; rw [← List.take_append_drop k l]
    rw [List.filter_append, List.filter_eq_self.2 (fun m hm => by simpa using h1 m hm)]
    rw [List.filter_eq_nil_iff.2 (fun m hm => by simpa using h2 m hm), List.append_nil]
theorem last_there (l : List Mg) (k : Nat) : thereU l ((l.map Mg.uid).drop k) = true := by
  rw [uids_drop]
  unfold thereU
  rw [List.all_eq_true]
  intro u hu
  obtain ⟨m, hm, rfl⟩ := List.mem_map.1 hu
  have : placeN l m.uid ≠ 0 := fun e => placeN_zero.1 e m (List.mem_of_mem_drop hm) rfl
  simpa using this
theorem rise_take {nm : ByteArray} {v nx : Int} {l : List Mg} (h : OkBx ⟨nm, v, nx, l⟩) (k : Nat) :
    tkE ⟨nm, v, nx, l⟩ ((l.map Mg.uid).drop k) = 0 ∧ tkB ⟨nm, v, nx, l⟩ ((l.map Mg.uid).drop k) = ⟨nm, v, nx, l.take k⟩ ∧ tkM ⟨nm, v, nx, l⟩ ((l.map Mg.uid).drop k) = l.drop k ∧ OkBx ⟨nm, v, nx, l.take k⟩ := by
  have he : tkE ⟨nm, v, nx, l⟩ ((l.map Mg.uid).drop k) = 0 := tkE_ok h (last_there l k)
  have hg := last_gone h.2.2.2.2.2 k
  refine ⟨he, ?_, ?_, h.1, h.2.1, h.2.2.1, h.2.2.2.1, ?_, okTo_take h.2.2.2.2.2 k⟩
  · rw [(tkB_ok he).1]; show (⟨nm, v, nx, leftL l _⟩ : Bx) = _; rw [hg.2]
  · rw [(tkB_ok he).2]; exact hg.1
  · have := h.2.2.2.2.1
    simp only at this ⊢
    rw [List.length_take]; omega
theorem ok_small {nm : ByteArray} {v nx : Int} {l : List Mg} (h : OkBx ⟨nm, v, nx, l⟩) : ∀ m ∈ l, m.body.length ≤ 1000000 := fun m hm => by
  have := (okMg_of (h.2.2.2.2.2.1 m hm).1).2.2.2.2.2
  omega
end Go.Proofs.Ythmlgbeonmpbjaa
