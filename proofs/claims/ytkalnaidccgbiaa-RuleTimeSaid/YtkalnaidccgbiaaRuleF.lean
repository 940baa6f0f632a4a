/-
  Contracts over package rule and what it calls of the library: rules cloned, found, deleted.
-/
import Derived.Test.YtkalnaidccgbiaaRuleRefD
import Derived.Test.YtkalnaidccgbiaaRowsK
import Derived.Lib.SliceRun
namespace Go.Proofs.Ytkalnaidccgbiaa
open Go.RowKit
set_option linter.unusedVariables false
set_option linter.unusedSimpArgs false

theorem ruls_one (l : List Rul) : ∀ u ∈ l, ∀ v ∈ rulC u, v.oneCell' = true := fun u _ => rulC_one u
theorem rlClone_any (A : Option Addr) (n c : Nat) (l : List Rul) (w : World) (hl : ColK 2 rulC w w.heap.size A n l) (hn : n ≤ 1000000) :
    Calls Try.prog 30 #[.slice A n c] w fun e w' => ∃ A' c', e = .returned (.slice A' n c') ∧ OwnK 2 rulC w' w.heap.size 54 A' n c' l ∧ Below w.heap.size w w' := by
  cases A with
  | none =>
    have h0 : n = 0 := by
      rcases Nat.eq_zero_or_pos n with h | h
      · exact h
      · obtain ⟨b, o, h', _⟩ := hl.2 h; cases h'
    subst h0
    have hl' : l = [] := List.eq_nil_of_length_eq_zero hl.1
    subst hl'
    have heq := fun W => Lib.run_eql_slice_nil (P := Try.prog) W 22 54 none 0 c 0 0 Try.underlying22
    go_enter Try.func30, Try.ntmps30
    go_wp2
    go_ret
    exact ⟨_, _, rfl, OwnK.nil rulC_len, Below.refl _ _⟩
  | some a =>
    have heq := fun W => Lib.run_eql_slice_nil (P := Try.prog) W 22 54 (some a) n c 0 0 Try.underlying22
    obtain ⟨A3, c3, w3, hrun, ho3, hb3, hg3⟩ := run_append_ks (P := Try.prog) (f := rulC) (OwnK.empty rulC_len w 54) 22 22 Try.underlying22 info_rul rfl (by omega) (by omega) (A' := some a) (m := n) (c' := c) (hl.below ((Below.refl _ _).alloc (Nat.le_refl _) (.cells #[] 54)) (Nat.le_refl _)) (ruls_one l) (by omega) (by simp)
    rw [Nat.zero_add, List.nil_append] at ho3
    rw [Nat.zero_add] at hrun
    have hb3' : Below w.heap.size w w3 := ((Below.refl _ _).alloc (Nat.le_refl _) _).trans hb3
    have HRUN := Lib.hid hrun
    clear hrun hl hg3 hb3
    go_enter Try.func30, Try.ntmps30
    go_wp2_with ((with_reducible show wpList _ _ _ (⟨some 7, _, _, _, _, _⟩ :: _) _ _); refine hold ?_)
    refine held (wpList_plain rfl fun K hK => wp_append_ks (s := .tmp 5) (x := .tmp 6) rfl rfl rfl HRUN.out (hK _ _ ?_))
    go_wp2
    go_ret
    exact ⟨_, _, rfl, ho3, hb3'⟩

def rulA (r : Rul) : Array Value := (rulC r).toArray
set_option maxHeartbeats 1000000 in
theorem rlSet1_any (x : Rul) (bb : Nat) (box : ByteArray) (w : World) (hA : w.cell? ⟨bb, 0, none⟩ = some (.string box)) :
    Calls Try.prog 31 #[.agg (rulA x), .pointer (some ⟨bb, 0, none⟩)] w fun e w' => e = .returned (.bool (decide (x.1 = box))) ∧ Below w.heap.size w w' := by
  have hb : Below w.heap.size w (w.alloc (.cells (rulA x) 54)) := (Below.refl _ _).alloc (Nat.le_refl _) _
  have a1 := (hb.cell (p := ⟨bb, 0, none⟩) (World.block_lt_of_cell? _ _ hA)).trans hA
  have x0 : (rulA x)[0]? = some (.string x.1) := rfl
  have heq := str_eq13 x.1 box
  have HB := Lib.hid hb
  clear hb hA
  by_cases he : x.1 = box
  all_goals
    first | rw [decide_eq_true he] at heq ⊢ | rw [decide_eq_false he] at heq ⊢
    clear he
    go_enter Try.func31, Try.ntmps31
    go_wp2_with fail
    go_ret
    exact ⟨rfl, HB.out⟩

/-- what is found: none, or the first one of the name -/
def FoundR (l : List Rul) (box : ByteArray) (n : Nat) (z : Int) : Prop := (z = -1 ∧ ∀ r ∈ l, r.1 ≠ box) ∨ ∃ j : Nat, z = (j : Int) ∧ j < n ∧ ∀ x ∈ l.take j, x.1 ≠ box
def AndAt (l : List Rul) (box : ByteArray) (z : Int) : Prop := ∀ j : Nat, z = (j : Int) → ∃ r, l[j]? = some r ∧ r.1 = box
set_option maxRecDepth 20000 in
set_option maxHeartbeats 2000000 in
theorem rlindexR_any (A : Option Addr) (m c bb : Nat) (box : ByteArray) (l : List Rul) (w : World) (hl : ColK 2 rulC w w.heap.size A m l) (hm : m ≤ 140737488355328) (hA : w.cell? ⟨bb, 0, none⟩ = some (.string box)) :
    Calls Try.prog 38 #[.slice A m c, .func (.func 31) #[] #[.pointer (some ⟨bb, 0, none⟩)]] w fun e w' => ∃ z : Int, e = .returned (.int .i64 z) ∧ FoundR l box m z ∧ AndAt l box z ∧ Below w.heap.size w w' := by
  have HL := Lib.hid hl
  have HA := Lib.hid hA
  have HLB := Lib.hid (World.block_lt_of_cell? _ _ hA)
  clear hl hA
  go_enter Try.func38, Try.ntmps38
  go_wp2_with fail
  go_loopw [8] (fun i wx => ∃ k : Nat, k ≤ m ∧ i = .int .i64 (k : Int) ∧ (∀ q ∈ l.take k, q.1 ≠ box) ∧ Below w.heap.size w wx) (fun i _ => m - (intOf i).toNat)
  case atStart => exact ⟨0, Nat.zero_le _, rfl, fun q hq => (by cases hq), Below.refl _ _⟩
  case round =>
    obtain ⟨k, hk, rfl, ha, hb⟩ := hrel
    have HB := Lib.hid hb
    have HU := Lib.hid ha
    clear ha hb
    by_cases hlt : k < m
    · obtain ⟨b, o, x, rfl, hbb, hla, htk, hrow⟩ := (HL.out.below HB.out (Nat.le_refl _)).at_ hlt
      have HLA := Lib.hid hla
      have HTK := Lib.hid htk
      have HROW := Lib.hid hrow
      have hk0 : (0 : Int) ≤ (k : Int) := by omega
      have hkn : (k : Int) < (m : Int) := by omega
      have CI := Lib.hid (rlSet1_any x bb box wr ((HB.out.cell (p := ⟨bb, 0, none⟩) HLB.out).trans HA.out))
      clear hla htk hrow
      go_wp2_with ((with_reducible show wpList _ _ _ (⟨some 15, _, _, _, _, _⟩ :: _) _ _); refine hold ?_)
      refine held (wpList_load_mid rfl 54 (.tmp 14) rfl b (o + k * 2) rfl (rulC x) _ HROW.out Try.underlying54 rfl (by kernel_rfl) ?_)
      rw [show (rulC x).toArray = rulA x from rfl]
      go_wp2_with fail
      refine CI.out.mono ?_
      rintro e w' ⟨rfl, hb2⟩
      have HB2 := Lib.hid (HB.out.trans (hb2.mono HB.out.size))
      clear hb2 CI
      by_cases hok : x.1 = box
      · rw [decide_eq_true hok]
        have HS : Hid (AndAt l box (k : Int)) := Lib.hid (fun j hj => by
          have : k = j := by omega
          subst this
          exact ⟨x, HLA.out, hok⟩)
        clear hok
        go_wp2_with fail
        go_ret
        exact ⟨(k : Int), rfl, .inr ⟨k, rfl, hlt, HU.out⟩, HS.out, HB2.out⟩
      · rw [decide_eq_false hok]
        have HU2 : Hid (∀ q ∈ l.take (k + 1), q.1 ≠ box) := Lib.hid (fun q hq => by
          rw [HTK.out] at hq
          rcases List.mem_append.1 hq with h1 | h1
          · exact HU.out q h1
          · rw [List.mem_singleton.1 h1]; exact hok)
        clear hok
        go_wp2_with fail
        go_roundw
        case rel => exact ⟨k + 1, by omega, by go_num, HU2.out, HB2.out⟩
        case measure => simp [intOf]; omega
    · have hkn : ¬ (k : Int) < (m : Int) := by omega
      have HS : Hid (∀ q ∈ l, q.1 ≠ box) := Lib.hid (by have := HU.out; rwa [List.take_of_length_le (by rw [HL.out.1]; omega)] at this)
      go_wp2_with fail
      go_ret
      exact ⟨-1, rfl, .inl ⟨rfl, HS.out⟩, fun j hj => absurd hj (by omega), HB.out⟩
end Go.Proofs.Ytkalnaidccgbiaa
