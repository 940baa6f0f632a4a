/-
  The laws ShaPieces and ShaSums as walks: whatever the input, true, and all older memory is as it was.
-/
import Derived.Test.YtihpfkkbnbjboaaDoorShaJoin
import Derived.Test.YtihpfkkbnbjboaaDoorShaText
import Derived.ChangeKeysEq
import Derived.Laws.StructEq
namespace Go.Proofs.YtihpfkkbnbjboaaDoor
set_option linter.unusedVariables false
set_option linter.unusedSimpArgs false
open Go.RowKit

section
variable {P : Program}
theorem run_part_int (w : World) {e : TypeId} {k : IntKind} (he : P.underlying e = some (.int k)) (cs : Array Value) (off : Nat) (v : Value) (hv : cs[off]? = some v) : (part e cs off).run P w = .ok v w := by
  have hagg : (isAgg e).run P w = .ok false w := by
    unfold isAgg
    rw [Sem.run_bind, run_underlying he w]
    simp
  simp [part, hagg, hv]
theorem run_same_items (d : Nat) {e : TypeId} {k : IntKind} (he : P.underlying e = some (.int k)) (cs : Array Value) : ∀ (is : List Nat) (w : World), (∀ i ∈ is, ∃ z, cs[i]? = some (.int k z)) →
    (Op.eqItems (d + 1) e 1 cs cs is).run P w = .ok true w
  | [], w, _ => by simp [Op.eqItems]
  | i :: r, w, h => by
    obtain ⟨z, hz⟩ := h i (by simp)
    have h1 : cs[i * 1]? = some (.int k z) := by rw [Nat.mul_one]; exact hz
    have ih := run_same_items d he cs r w (fun j hj => h j (by simp [hj]))
    simp only [Op.eqItems, Sem.run_bind, run_part_int w he _ _ _ h1, Result.andThen_ok, run_equalIn_int w d e k k _ _ he]
    simp [ih]
/-- an array is itself -/
theorem run_eql_same (w : World) {t e : TypeId} {n : Nat} {i : TypeInfo} {k : IntKind} (ht : P.underlying t = some (.array n e)) (he : P.underlying e = some (.int k)) (hi : P.info? e = some i) (hc : P.cellsOf e = 1) {cs : Array Value} (hcs : ∀ j, j < n → ∃ z, cs[j]? = some (.int k z)) :
    (binOp .eql t (.agg cs) (.agg cs)).run P w = .ok (.bool true) w := by
  have h : (Op.equalIn (9998 + 2) t (.agg cs) (.agg cs)).run P w = .ok true w := by
    rw [run_equalIn_array w (9998 + 1) _ _ ht hi, hc]
    exact run_same_items 9998 he cs _ w (fun j hj => hcs j (by simpa using hj))
  simp only [binOp]
  simp [Op.equal, Op.maxDepth, h]
end
theorem run_equalIn_same {P : Program} (w : World) {t e : TypeId} {n : Nat} {i : TypeInfo} {k : IntKind} (ht : P.underlying t = some (.array n e)) (he : P.underlying e = some (.int k)) (hi : P.info? e = some i) (hc : P.cellsOf e = 1) {cs : Array Value} (hcs : ∀ j, j < n → ∃ z, cs[j]? = some (.int k z)) :
    (Op.equalIn 10000 t (.agg cs) (.agg cs)).run P w = .ok true w := by
  show (Op.equalIn (9998 + 2) t (.agg cs) (.agg cs)).run P w = .ok true w
  rw [run_equalIn_array w (9998 + 1) _ _ ht hi, hc]
  exact run_same_items 9998 he cs _ w (fun j hj => hcs j (by simpa using hj))
theorem same_32 (w : World) (l : List Nat) (hl : l.length = 32) : (Op.equalIn 10000 24 (.agg (cb l)) (.agg (cb l))).run Tryd.prog w = .ok true w := by
  obtain ⟨i, hi⟩ : ∃ i, Tryd.prog.info? 5 = some i := Option.isSome_iff_exists.1 (by kernel_rfl)
  exact run_equalIn_same w Tryd.underlying24 Tryd.underlying5 hi (by kernel_rfl) (fun j hj => ⟨_, cb_at (by omega)⟩)
theorem same_8 (w : World) (l : List Nat) (hl : l.length = 8) : (Op.equalIn 10000 31 (.agg (cw l)) (.agg (cw l))).run Tryd.prog w = .ok true w := by
  obtain ⟨i, hi⟩ : ∃ i, Tryd.prog.info? 30 = some i := Option.isSome_iff_exists.1 (by kernel_rfl)
  exact run_equalIn_same w Tryd.underlying31 Tryd.underlying30 hi (by kernel_rfl) (fun j hj => ⟨_, cw_at (by omega)⟩)
theorem eql_32 (w : World) (l : List Nat) (hl : l.length = 32) : (binOp .eql 24 (.agg (cb l)) (.agg (cb l))).run Tryd.prog w = .ok (.bool true) w := by
  obtain ⟨i, hi⟩ : ∃ i, Tryd.prog.info? 5 = some i := Option.isSome_iff_exists.1 (by kernel_rfl)
  exact run_eql_same w Tryd.underlying24 Tryd.underlying5 hi (by kernel_rfl) (fun j hj => ⟨_, cb_at (by omega)⟩)
theorem eql_8 (w : World) (l : List Nat) (hl : l.length = 8) : (binOp .eql 31 (.agg (cw l)) (.agg (cw l))).run Tryd.prog w = .ok (.bool true) w := by
  obtain ⟨i, hi⟩ : ∃ i, Tryd.prog.info? 30 = some i := Option.isSome_iff_exists.1 (by kernel_rfl)
  exact run_eql_same w Tryd.underlying31 Tryd.underlying30 hi (by kernel_rfl) (fun j hj => ⟨_, cw_at (by omega)⟩)

theorem Bss.of_rel {w : World} {B : Nat} {A : Option Addr} {n c : Nat} {ls : List (List Nat)} (h : RowRel.bytes.slice.R w B [.slice A n c] ls) : Bss w B A n ls ∧ n ≤ c ∧ c ≤ maxLen ∧ n ≤ 140737488355328 := by
  obtain ⟨A1, n1, c1, e, h1, h2, h3, h4, h5⟩ := h
  injection e with e _
  injection e with e1 e2 e3
  subst e1; subst e2; subst e3
  refine ⟨⟨h4, fun hn => ?_⟩, h1, h2, h3⟩
  obtain ⟨b, o, e, hb, hr⟩ := h5 hn
  refine ⟨b, o, e, hb, fun i hi => ?_⟩
  obtain ⟨cs, hc, A', n', c', rfl, g1, g2, g3, g4⟩ := hr i _ (List.getElem?_eq_getElem (by omega))
  refine ⟨A', n', c', ?_, g3, by unfold textAt; simpa [List.getElem?_eq_getElem (show i < ls.length by omega)] using g4⟩
  have := hc 0 _ rfl
  rwa [Nat.add_zero, show i * RowRel.bytes.k = i from Nat.mul_one i] at this

set_option maxRecDepth 20000 in
set_option maxHeartbeats 1000000 in
theorem shaPieces_walk (A : Option Addr) (n c : Nat) (ls : List (List Nat)) (w : World) (hl : Bss w w.heap.size A n ls) (hn : n ≤ 140737488355328) (ht : Tabs w) :
    Calls Tryd.prog 6 #[.slice A n c] w fun e w' => e = .returned (.bool true) ∧ Below w.heap.size w w' := by
  go_enter Tryd.func6, Tryd.ntmps6
  go_wp2_with fail
  refine (alive04_any w ht).mono ?_
  rintro e w1 ⟨rfl, hb1⟩
  have hl1 := hl.later hb1
  have HT1 := hide (ht.later hb1)
  have HLn := hide hl.1
  clear hl ht
  go_wp2
  go_loopw [3, 4] (fun a i wr => ∃ (k : Nat) (A2 : Option Addr) (m c2 : Nat), k ≤ n ∧ i = .int .i64 (k : Int) ∧ a = .slice A2 m c2 ∧ m ≤ 2000 ∧ m = (ls.take k).flatten.length ∧ OwnB wr w1.heap.size 5 A2 m c2 (ls.take k).flatten ∧ Below w1.heap.size w1 wr) (fun _ i _ => n - (intOf i).toNat)
  case atStart => exact ⟨0, none, 0, 0, Nat.zero_le _, rfl, rfl, by omega, rfl, OwnB.nil, Below.refl _ _⟩
  case round =>
    obtain ⟨k, A2, m, c2, hk, rfl, rfl, hm2, hm, ho, hb⟩ := hrel
    have HM := hide hm
    clear hm
    by_cases hlt : k < n
    · obtain ⟨b, o, A', n', c', rfl, hbl, hc, hn', hy⟩ := (hl1.below hb (Nat.le_refl _)).at_ hlt
      have HF := hide (flatten_take_snoc ls k (by rw [HLn.out]; exact hlt))
      have HL1 := hide hl1
      have HN := hide hy.1
      clear hl1
      by_cases h5 : 2000 < m + n'
      · have h5i : (2000 : Int) < (m : Int) + (n' : Int) := by omega
        go_wp2
        go_ret
        exact ⟨rfl, hb1.trans (hb.mono hb1.size)⟩
      · have h5i : ¬ (2000 : Int) < (m : Int) + (n' : Int) := by omega
        go_wp2_with ((with_reducible show wpList _ _ _ (⟨some 27, _, _, _, _, _⟩ :: _) _ _); refine hold ?_)
        refine held (wpList_append_bytes rfl (.tmp 22) (.tmp 26) 22 rfl Tryd.underlying22 info_u8 w1.heap.size A2 m c2 _ rfl ho _ A' n' c' _ rfl hy (by omega) hb.size ?_)
        intro A3 c3 w3 ho3 hb3 hg3
        clear hg3
        have hb3' := hb.trans hb3
        clear hc hy ho hb hb3
        go_wp2
        go_roundw
        case rel => exact ⟨k + 1, A3, m + n', c3, by omega, by go_num, rfl, by omega, by rw [HF.out, List.length_append, HM.out, HN.out], by rw [HF.out]; exact ho3, hb3'⟩
        case measure => simp [intOf]; omega
    · have HK := hide (show ls.take k = ls from List.take_of_length_le (by rw [HLn.out]; omega))
      have hkn : k = n := by omega
      have hlk : ¬ (k : Int) < (n : Int) := by omega
      rw [HK.out] at ho
      have HM2 := hide (show ls.flatten.length = m by rw [HM.out, HK.out])
      have hlr := (hl1.below hb (Nat.le_refl _)).more hb.size
      have HTr := hide (HT1.out.below hb HT1.out.pos)
      have HO := hide ho
      have heq := fun W => eql_32 W (sumB ls.flatten) (sumB_length _)
      have HB := hide (hb1.trans (hb.mono hb1.size))
      have HEQ := hide heq
      clear hlt hk hkn ho heq hl1 hb hb1
      go_wp2_with fail
      refine (join_any A n c ls wr hlr hn (by rw [HM2.out]; exact hm2) HTr.out).mono ?_
      rintro e w2 ⟨rfl, hb2⟩
      have hob := (HO.out.below hb2).bytes
      have HT2 := hide (HTr.out.later hb2)
      have HB2 := hide (HB.out.trans (hb2.mono HB.out.size))
      clear hb2 hlr HO HTr HB
      go_wp2_with fail
      refine (sum_any A2 m c2 _ _ w2 hob (Nat.le_refl _) (by omega) HT2.out).mono ?_
      rintro e w3 ⟨rfl, hb3⟩
      have HB3 := hide (HB2.out.trans (hb3.mono HB2.out.size))
      clear hb3 hob HT2 HB2
      have heq := HEQ.out
      go_wp2
      go_ret
      exact ⟨rfl, HB3.out⟩
end Go.Proofs.YtihpfkkbnbjboaaDoor
