/-
  A walk over package sector: the closure of Start, that asks a bit of the mask.
-/
import Derived.Test.YtfejnfohbagnkaaSecIter
namespace Go.Proofs.Ytfejnfohbagnkaa
open Go.RowKit Go.Shelf

attribute [local go_sem] Oper.semAt_some

set_option maxHeartbeats 1000000 in
theorem start1_in (F : Fence) (n : Nat) (hF : F.fn 38) (hro : F.round = none) (i m Bm : Nat) (w : World) (hi : i < 1000000) (hm : m < 18446744073709551616) (hc : w.cell? ⟨Bm, 0, none⟩ = some (.int .u64 (m : Int))) :
    CallsIn F n Try.prog 38 #[.int .i64 (i : Int), .pointer (some ⟨Bm, 0, none⟩)] w fun e w' => e = .returned (.bool (bitM m i)) ∧ w = w' := by
  have hi0 : (0 : Int) ≤ (i : Int) := by omega
  have hi1 : (i : Int) < 1000000 := by omega
  refine callsIn_of_wp Try.func38 rfl hF ?_ hro
  simp only [Try.ntmps38, List.size_toArray, List.length_cons, List.length_nil, Nat.reduceAdd, Nat.reduceSub, Array.replicate_succ, Array.replicate_zero, List.push_toArray, List.append_toArray, List.nil_append, List.cons_append]
  gi_wp2
  go_ret
  refine ⟨?_, rfl⟩
  obtain ⟨q, hq⟩ : ∃ q, m / 2 ^ (i % 64) = q := ⟨_, rfl⟩
  have hlt : q < 18446744073709551616 := by rw [← hq]; exact Nat.lt_of_le_of_lt (Nat.div_le_self _ _) hm
  have e2 : ((m : Int) / 2 ^ (i % 64)) = (q : Int) := by rw [← hq]; simp
  have e1 : bits BinOp.and IntKind.u64 ((m : Int) / 2 ^ (i % 64)) 1 = ((q % 2 : Nat) : Int) := by
    rw [e2, and_one_u64 _ (by omega) (by omega)]
    omega
  refine ret_b ?_ rfl
  rw [e1]
  unfold bitM
  rw [Nat.testBit_eq_decide_div_mod_eq, hq, Bool.eq_iff_iff]
  simp only [decide_eq_true_eq, beq_iff_eq]
  omega

theorem start1_stays (n : Nat) (S : Nat → Prop) (m Bm : Nat) (w : World) (hS : S Bm) (hm : m < 18446744073709551616) (hc : w.cell? ⟨Bm, 0, none⟩ = some (.int .u64 (m : Int))) :
    Stays Fence.wide n S 38 #[.pointer (some ⟨Bm, 0, none⟩)] w (bitM m) :=
  ⟨trivial, enters_of Try.func38 (by kernel_rfl) rfl, fun i W hi hW => start1_in _ _ trivial rfl i m Bm W hi hm ((hW.cell (p := ⟨Bm, 0, none⟩) hS).trans hc)⟩
end Go.Proofs.Ytfejnfohbagnkaa
