/-
  Events as they lie: eleven cells, and what their slices hold; whole events loaded and stored.
-/
import Derived.Test.YtcajmigkpcjbcaaDoorQEventMathB
import Derived.Test.YtcajmigkpcjbcaaDoorQUidsA
import Derived.Test.YtcajmigkpcjbcaaDoorQBoxFlag
import Derived.Test.YtcajmigkpcjbcaaDoorQNameB
import Derived.Test.YtcajmigkpcjbcaaDoorQNameRefB
import Derived.Test.YtcajmigkpcjbcaaDoorQWide
import Derived.BigQuiet
import Derived.Deep.QuietTactic
namespace Go.Proofs.YtcajmigkpcjbcaaDoor
set_option linter.unusedVariables false
set_option linter.unusedSimpArgs false
open Go.RowKit
set_option linter.unusedVariables false
set_option linter.unusedSimpArgs false

structure Eh where
  e : Ev
  A1 : Option Addr
  n1 : Nat
  c1 : Nat
  A2 : Option Addr
  n2 : Nat
  c2 : Nat
  A3 : Option Addr
  n3 : Nat
  c3 : Nat
def evC (h : Eh) : Array Value := #[.int .i64 h.e.kind, .int .i64 h.e.at_, .string h.e.box, .string h.e.to_, .slice h.A1 h.n1 h.c1, .slice h.A2 h.n2 h.c2, .int .i64 h.e.mode, .int .i64 h.e.flags, .int .i64 h.e.date, .int .i64 h.e.n, .slice h.A3 h.n3 h.c3]
theorem evC_size (h : Eh) : (evC h).size = 11 := rfl
theorem evC_one (h : Eh) : ∀ v ∈ (evC h).toList, v.oneCell' = true := by
  intro v hv
  simp only [evC, List.mem_cons, List.not_mem_nil, or_false] at hv
  rcases hv with rfl | rfl | rfl | rfl | rfl | rfl | rfl | rfl | rfl | rfl | rfl <;> rfl
def bareH (k t : Int) : Eh := ⟨bare k t, none, 0, 0, none, 0, 0, none, 0, 0⟩
def EvIn (w : World) (B : Nat) (h : Eh) : Prop :=
  Col ints w B h.A1 h.n1 h.e.ids ∧ ColK 2 rgC w B h.A2 h.n2 h.e.set ∧ Bytes w B h.A3 h.n3 h.e.body ∧ h.n1 ≤ 140737488355328 ∧ h.n2 ≤ 140737488355328 ∧ h.n3 ≤ 140737488355328 ∧ h.e.box.size ≤ 140737488355328 ∧ h.e.to_.size ≤ 140737488355328
theorem EvIn.below {w w' : World} {B B' : Nat} {h : Eh} (H : EvIn w B h) (hb : Below B' w w') (hB : B ≤ B') : EvIn w' B h := ⟨H.1.below hb hB, H.2.1.below hb hB, H.2.2.1.below hb hB, H.2.2.2⟩
theorem EvIn.more {w : World} {B B' : Nat} {h : Eh} (H : EvIn w B h) (hB : B ≤ B') : EvIn w B' h := ⟨H.1.more hB, H.2.1.more hB, H.2.2.1.more hB, H.2.2.2⟩
theorem EvIn.later {w w' : World} {h : Eh} (H : EvIn w w.heap.size h) (hb : Below w.heap.size w w') : EvIn w' w'.heap.size h := (H.below hb (Nat.le_refl _)).more hb.size
theorem EvIn.bare (w : World) (B : Nat) (k t : Int) : EvIn w B (bareH k t) := ⟨Col.nil, ColK.nil, Bytes.nil, Nat.zero_le _, Nat.zero_le _, Nat.zero_le _, Nat.zero_le _, Nat.zero_le _⟩
theorem EvIn.drewN {w : World} {B : Nat} {h : Eh} (H : EvIn w B h) (q : Nat) : EvIn (w.drewN q) B h := H
/-- a part is zero: as it lies -/
def outH (h : Eh) (c : Nat) : Eh :=
  if c = 98 then { h with e := outP h.e c } else if c = 116 then { h with e := outP h.e c } else if c = 105 then { h with e := outP h.e c, A1 := none, n1 := 0, c1 := 0 } else if c = 115 then { h with e := outP h.e c, A2 := none, n2 := 0, c2 := 0 } else
  if c = 121 then { h with e := outP h.e c, A3 := none, n3 := 0, c3 := 0 } else { h with e := outP h.e c }
theorem outH_e (h : Eh) (c : Nat) : (outH h c).e = outP h.e c := by
  unfold outH
  repeat (first | rfl | split)
theorem EvIn.out {w : World} {B : Nat} {h : Eh} (H : EvIn w B h) {c : Nat} (hc : c ∈ nineL) : EvIn w B (outH h c) := by
  obtain ⟨h1, h2, h3, h4, h5, h6, h7, h8⟩ := H
  rcases nine_cases hc with rfl | rfl | rfl | rfl | rfl | rfl | rfl | rfl | rfl
  · exact ⟨h1, h2, h3, h4, h5, h6, Nat.zero_le _, h8⟩
  · exact ⟨h1, h2, h3, h4, h5, h6, h7, Nat.zero_le _⟩
  · exact ⟨Col.nil, h2, h3, Nat.zero_le _, h5, h6, h7, h8⟩
  · exact ⟨h1, ColK.nil, h3, h4, Nat.zero_le _, h6, h7, h8⟩
  · exact ⟨h1, h2, h3, h4, h5, h6, h7, h8⟩
  · exact ⟨h1, h2, h3, h4, h5, h6, h7, h8⟩
  · exact ⟨h1, h2, h3, h4, h5, h6, h7, h8⟩
  · exact ⟨h1, h2, h3, h4, h5, h6, h7, h8⟩
  · exact ⟨h1, h2, Bytes.nil, h4, h5, Nat.zero_le _, h7, h8⟩
theorem info_ev : (Tryd.prog.info? 26).map (·.size) = some 11 := by kernel_rfl
theorem Bk.ev {w : World} {b : Nat} {h : Eh} (H : Bk w b 26 (evC h)) : (loadVar 26 ⟨b, 0, none⟩).run Tryd.prog w = .ok (.agg (evC h)) w := H.load Tryd.underlying26 rfl (by kernel_rfl)
/-- the cells of an event that lies in a block of its own -/
theorem Bk.evs {w : World} {b : Nat} {v0 v1 v2 v3 v4 v5 v6 v7 v8 v9 v10 : Value} {t : TypeId} (h : Bk w b t #[v0, v1, v2, v3, v4, v5, v6, v7, v8, v9, v10]) :
    (w.cell? ⟨b, 0, none⟩ = some v0 ∧ w.cell? ⟨b, 1, none⟩ = some v1 ∧ w.cell? ⟨b, 2, none⟩ = some v2 ∧ w.cell? ⟨b, 3, none⟩ = some v3 ∧ w.cell? ⟨b, 4, none⟩ = some v4 ∧ w.cell? ⟨b, 5, none⟩ = some v5) ∧
    (w.cell? ⟨b, 6, none⟩ = some v6 ∧ w.cell? ⟨b, 7, none⟩ = some v7 ∧ w.cell? ⟨b, 8, none⟩ = some v8 ∧ w.cell? ⟨b, 9, none⟩ = some v9 ∧ w.cell? ⟨b, 10, none⟩ = some v10) :=
  ⟨⟨h.cell 0, h.cell 1, h.cell 2, h.cell 3, h.cell 4, h.cell 5⟩, h.cell 6, h.cell 7, h.cell 8, h.cell 9, h.cell 10⟩
theorem list_overE {P : Program} {ops : Array Oper} {l : List Oper} {a : Act} {W : World} {Q : Exit → Act → World → Prop} (G : World → Prop) (hG : G W) (h : ∀ W', G W' → wpList P ops Q l a W') : wpList P ops Q l a W := h W hG
theorem w_setRow_all {w w' : World} {g : Nat} {cur cells : Array Value} (h : Hid (w' = w.setRow g (splice cur.toList 0 cells.toList).toArray)) (hs : cells.size = cur.size) : w' = w.setRow g cells := by
  rw [h.out, splice_all (by simpa using hs), Array.toArray_toList]
end Go.Proofs.YtcajmigkpcjbcaaDoor
