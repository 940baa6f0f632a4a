/-
  Contracts over package date: a time is parsed; a short date's day; a mail date's day.
-/
import Derived.Test.YtnhafpgeinghnaaDoorDatePrint
namespace Go.Proofs.YtnhafpgeinghnaaDoor
open Go.RowKit
set_option linter.unusedVariables false
set_option linter.unusedSimpArgs false

set_option maxHeartbeats 400000 in
theorem print_no (t : Int) (h : t < 0 ∨ 253402300799 < t) (w : World) :
    Calls Tryd.prog 14 #[.int .i64 t] w fun e w' => e = .returned (.tuple #[.string ⟨#[]⟩, .int .i64 15]) ∧ w = w' := by
  rcases h with h | h
  · go_enter Tryd.func14, Tryd.ntmps14
    go_wp2
    go_ret2
    exact ⟨rfl, rfl⟩
  · have h' : ¬ t < 0 := by omega
    go_enter Tryd.func14, Tryd.ntmps14
    go_wp2
    go_ret2
    exact ⟨rfl, rfl⟩

/-- a result of a number and an error -/
def resP (p : Int × Int) : Value := .tuple #[.int .i64 p.1, .int .i64 p.2]
def rangeR (t : Int) : Int × Int := if t < 0 ∨ 253402300799 < t then (0, 15) else (t, 0)
def posB (l : List Nat) : Bool := decide (l.getD 2 0 = 45) && (decide (l.getD 6 0 = 45) && (decide (l.getD 11 0 = 32) && decide (l.getD 20 0 = 32)))
def dtsOk (l : List Nat) : Bool := ymdOk (trimB (l.take 2)) ((l.take 6).drop 3) ((l.take 11).drop 7)
def dtsV (l : List Nat) : Int := ymdV (trimB (l.take 2)) ((l.take 6).drop 3) ((l.take 11).drop 7)
def clsL (l : List Nat) : List (List Nat) := splitL 58 ((l.take 20).drop 12)
def parseOk (l : List Nat) : Bool := posB l && (dtsOk l && (clkOk true (clsL l) && zoneOk (l.drop 21)))
def parseV (l : List Nat) : Int := dtsV l * 86400 + clkV (clsL l) - zoneV (l.drop 21)
def parseR (l : List Nat) : Int × Int := if l.length = 26 then (if parseOk l = true then rangeR (parseV l) else (0, 3)) else (0, 3)

theorem not_f {b p : Bool} (h : b = !p) (hb : b = false) : p = true := by subst hb; cases p; cases h; rfl
theorem not_t {b p : Bool} (h : b = !p) (hb : b = true) : p = false := by subst hb; cases p; rfl; cases h
theorem or_f {a p b : Bool} (h : (a || !p) = b) (hb : b = false) : a = false := by subst hb; cases a; rfl; cases h
theorem or4 (p q r s : Bool) : ((((false || !p) || !q) || !r) || !s) = !(p && (q && (r && s))) := by cases p <;> cases q <;> cases r <;> cases s <;> rfl
theorem pos_cases (a b c d : Nat) : ((¬ (a : Int) = 45) ∧ (decide (a = 45) && (decide (b = 45) && (decide (c = 32) && decide (d = 32)))) = false) ∨
    (((a : Int) = 45) ∧ (¬ (b : Int) = 45) ∧ (decide (a = 45) && (decide (b = 45) && (decide (c = 32) && decide (d = 32)))) = false) ∨
    (((a : Int) = 45) ∧ ((b : Int) = 45) ∧ (¬ (c : Int) = 32) ∧ (decide (a = 45) && (decide (b = 45) && (decide (c = 32) && decide (d = 32)))) = false) ∨
    (((a : Int) = 45) ∧ ((b : Int) = 45) ∧ ((c : Int) = 32) ∧ (¬ (d : Int) = 32) ∧ (decide (a = 45) && (decide (b = 45) && (decide (c = 32) && decide (d = 32)))) = false) ∨
    (((a : Int) = 45) ∧ ((b : Int) = 45) ∧ ((c : Int) = 32) ∧ ((d : Int) = 32) ∧ (decide (a = 45) && (decide (b = 45) && (decide (c = 32) && decide (d = 32)))) = true) := by
  by_cases h1 : a = 45 <;> by_cases h2 : b = 45 <;> by_cases h3 : c = 32 <;> by_cases h4 : d = 32 <;> simp [h1, h2, h3, h4] <;> omega

theorem below_of_new {w w1 : World} {o : Obj} (h : (w.alloc o).grownBy w1 (some w.heap.size)) : Below w.heap.size w w1 :=
  ⟨h.os, h.tape, h.output, by have := h.size; simp at this; omega, fun k hk => by
    have h1 := h.block k (by simp; omega) (fun e => by injection e with e; omega)
    rw [h1]
    exact ((Below.refl w.heap.size w).alloc (Nat.le_refl _) o).block k hk⟩
theorem below_grown_new {w w1 w2 : World} (h : Below w.heap.size w w1) (hg : w1.grownBy w2 (some w.heap.size)) : Below w.heap.size w w2 :=
  ⟨hg.os.trans h.os, hg.tape.trans h.tape, hg.output.trans h.output, Nat.le_trans h.size hg.size, fun k hk =>
    (hg.block k (Nat.lt_of_lt_of_le hk h.size) (fun e => by injection e with e; omega)).trans (h.block k hk)⟩
end Go.Proofs.YtnhafpgeinghnaaDoor
