/-
  The law WalGens of package wal holds of the program: for every input the call returns true, and each argument reads behind it as it read before: each opening and compaction is of a greater generation, in the other half, with just the records that it is given.
  Conditions: none beside the rows' own; the package variable sum.halves is tied to the program's text by the given tie.
-/
import Derived.Test.YthcdmlbefkfelaaDoorQWalGens
import Derived.Test.YthcdmlbefkfelaaDoorQLaid
import Derived.Test.YthcdmlbefkfelaaDoorTie
import Derived.Test.YthcdmlbefkfelaaDoorCards
import Derived.SevenTiedAt
namespace Go.Proofs.YthcdmlbefkfelaaDoor.walGensProof
set_option linter.unusedVariables false
set_option linter.unusedSimpArgs false
open Go.ChangeShapes Go.WideShapes Go.ChangeAt Go.RowKit Go.Deep
set_option linter.unusedVariables false

theorem own : ownKnob Tryd.prog.godebug = none := by kernel_rfl
theorem laidOut : laidOutB Tryd.prog = true := by kernel_rfl
def laidL : List (String × DataW Unit) := Rows.walGensRow.laid
theorem gHalves : Tryd.prog.globalNamed (Rows.walGensRow.named.getD 0 default) = some 0 := by kernel_rfl
theorem tHalves : (Tryd.prog.globals[0]?).map (·.type) = some 122 := by kernel_rfl
def halvesL : List Int := (List.range 16).map fun r => ((tabC r : Nat) : Int)
theorem halves_datum {H : Type} : (Rows.laid_escheat_sum_halves : DataW H) = .agg (halvesL.map fun z => .lit (.int .u32 z)) := by
  have e : halvesL = [0, 498536548, 997073096, 651767980, 1994146192, 1802195444, 1303535960, 1342533948, 3988292384, 4027552580, 3604390888, 3412177804, 2607071920, 2262029012, 2685067896, 3183342108] := by decide +kernel
  rw [e]
  rfl
theorem of_laid {W : World} (h : laidMetH Tryd.prog laidL W) : Tab W := by
  rw [MakeChecks.laidMetH_plain _ _ _ (by kernel_rfl)] at h
  obtain ⟨ps, ⟨g0, t0, cs0, f0, p0, q0, hg0, ht0, hv0, hd0, _, _⟩, _, _⟩ := h
  obtain rfl := Option.some.inj (gHalves.symm.trans hg0)
  obtain rfl := Option.some.inj (tHalves.symm.trans ht0)
  rw [halves_datum] at hd0
  have hcs := trod_ints Tryd.underlying122 Tryd.underlying90 (by kernel_rfl) (by kernel_rfl) hd0
  intro r hr
  have := World.var?_cell hg0 hv0 r
  rw [this, ← Array.getElem?_toList, hcs, List.getElem?_map]
  unfold halvesL
  simp [hr]

theorem door_met (os : Os) (args : Array Value) : laidMetH Tryd.prog laidL ((World.doorLaid Tryd.prog 400 os).forCall (fun _ _ => 0) ⟨#[], args, []⟩).memory :=
  laidMetH_of_parts3 (fuel := 8) (laidMet_of_run' 8 (by kernel_rfl) (by kernel_rfl)) (by kernel_rfl) (by kernel_rfl)

theorem opensB : Opens Tryd.prog 32 RowRel.bytes := opens_bytes Tryd.underlying32 Tryd.underlying5 (by kernel_rfl) (by kernel_rfl) (by rw [show Tryd.prog.bytesOf 5 = 1 from by kernel_rfl]; omega)
theorem opensBs : Opens Tryd.prog 33 RowRel.bytes.slice := opens_slice Tryd.underlying33 (by kernel_rfl) (by decide) (by rw [show Tryd.prog.bytesOf 32 = 24 from by kernel_rfl]; omega) opensB
theorem rss_of_rel {w : World} {B : Nat} {A : Option Addr} {n c : Nat} {ls : List (List Nat)} (h : RowRel.bytes.slice.R w B [.slice A n c] ls) : Rss w B A n ls ∧ n ≤ c ∧ c ≤ maxLen ∧ n ≤ 140737488355328 := by
  obtain ⟨A1, n1, c1, e, h1, h2, h3, h4, h5⟩ := h
  injection e with e _
  injection e with e1 e2 e3
  subst e1; subst e2; subst e3
  refine ⟨⟨h4, fun hn => ?_⟩, h1, h2, h3⟩
  obtain ⟨b, o, e, hb, hr⟩ := h5 hn
  refine ⟨b, o, e, hb, fun i hi => ?_⟩
  obtain ⟨cs, hc, A', n', c', rfl, g1, g2, g3, g4⟩ := hr i _ (List.getElem?_eq_getElem (by omega))
  refine ⟨A', n', c', ?_, g1, g2, g3, by unfold textAt; simpa [List.getElem?_eq_getElem (show i < ls.length by omega)] using g4⟩
  have := hc 0 _ rfl
  rwa [Nat.add_zero, show i * RowRel.bytes.k = i from Nat.mul_one i] at this
theorem opensBss : Opens Tryd.prog 59 RowRel.bytes.slice.slice := opens_slice Tryd.underlying59 (by kernel_rfl) (by decide) (by rw [show Tryd.prog.bytesOf 33 = 24 from by kernel_rfl]; omega) opensBs
theorem rlls_of_rel {w : World} {B : Nat} {A : Option Addr} {n c : Nat} {ls : List (List (List Nat))} (h : RowRel.bytes.slice.slice.R w B [.slice A n c] ls) : Rlls w B A n ls ∧ n ≤ c ∧ c ≤ maxLen ∧ n ≤ 140737488355328 := by
  obtain ⟨A1, n1, c1, e, h1, h2, h3, h4, h5⟩ := h
  injection e with e _
  injection e with e1 e2 e3
  subst e1; subst e2; subst e3
  refine ⟨⟨h4, fun hn => ?_⟩, h1, h2, h3⟩
  obtain ⟨b, o, e, hb, hr⟩ := h5 hn
  refine ⟨b, o, e, hb, fun i hi => ?_⟩
  obtain ⟨cs, hc, hR⟩ := hr i _ (List.getElem?_eq_getElem (by omega))
  obtain ⟨A', n', c', rfl, g⟩ := id hR
  obtain ⟨q1, q2, q3, q4⟩ := rss_of_rel hR
  refine ⟨A', n', c', ?_, q2, q3, q4, by rw [List.getD_eq_getElem?_getD, List.getElem?_eq_getElem (show i < ls.length by omega)]; exact q1⟩
  have := hc 0 _ rfl
  rwa [Nat.add_zero, show i * RowRel.bytes.slice.k = i from Nat.mul_one i] at this
theorem sized_at {H : Type} {P : Program} {ts : List TypeId} {ds : List (DataW H)} (h : (DataW.weightsEach P ts ds).all (· ≤ reachBytes) = true) {j : Nat} {t : TypeId} {d : DataW H} (ht : ts[j]? = some t) (hd : ds[j]? = some d) : (d.weights P t).all (· ≤ reachBytes) = true := by
  rw [List.all_eq_true]
  intro n hn
  exact List.all_eq_true.1 h n (DataW.weights_mem_each ht hd n hn)


set_option maxRecDepth 100000 in
theorem walGens_lifted (os : Os) (started : os.Started) (H : Type) (enc : TypeId × Value → H) :
    ReturnsInHanded {} Tryd.checked os 6 .any (fun w args => (Rows.walGensSpec.pre enc Tryd.prog Tryd.f6 [] false w args ∧ laidMetH Tryd.prog laidL w) ∧ sizedMet enc Tryd.prog Tryd.f6 (OpenSpec.ofChange Rows.walGensSpec) false w args)
      (Rows.walGensSpec.post enc Tryd.prog Tryd.f6 false true false false) := by
  refine returnsInHanded_of_change_and (C := Tryd.checked) (X := fun w _ => laidMetH Tryd.prog laidL w) (fun _ _ _ hh h => h.of_heap hh) own started (by kernel_rfl) Tryd.func6
    (ChangeSpec.witness_shaped (enc := enc) (C := Tryd.checked) (os := os) (X := fun w _ => laidMetH Tryd.prog laidL w) false (World.doorLaid Tryd.prog 400 os) #[.slice none 0 0] 8 rfl (World.shaped_of_RefB (by kernel_rfl) (by kernel_rfl)) (by kernel_rfl) (by kernel_rfl) (by kernel_rfl) (door_met os _)) ?_
  intro W base args ds gs before hval0 hW _ hsz0 hL _
  have hval : ∀ (j : Nat) t v, Tryd.f6.params[j]? = some t → args[j]? = some v → Value.okWide Tryd.prog W .any base t v := hval0
  have hsz : (DataW.weightsEach Tryd.prog (Tryd.f6.params.toList ++ Rows.walGensSpec.plain.varTypes Tryd.prog) (ds ++ gs)).all (· ≤ reachBytes) = true := hsz0
  have hW' := hW
  obtain ⟨p, q, hA0, hV, rfl, hfz, hnd⟩ := hW
  have hA : DataW.TrodAll enc Tryd.prog W 0 (fun _ => true) true Tryd.f6.params.toList args.toList ds p := hA0
  rw [Tryd.params6] at hA hval hsz
  obtain ⟨v0, vs0, d0, ds0, p0, q0, hargs, rfl, rfl, h0, r0⟩ := trodAll_cons hA
  obtain ⟨rfl, rfl, rfl⟩ := trodAll_nil r0
  obtain rfl : args = #[v0] := by cases args; simp_all
  obtain ⟨rfl, rfl⟩ := trodVars_none hV
  obtain ⟨A0, n0, c0, rfl⟩ := okWide_slice Tryd.underlying59 (hval 0 59 v0 rfl rfl)
  have lt0 : ∀ x ∈ p0, x.block < W.heap.size := by obtain ⟨m, hm⟩ := h0; exact DataW.trod_lt m _ _ _ hm
  obtain ⟨a0, ha0⟩ := opensBss.arg h0 (sized_at hsz (j := 0) rfl rfl)
  clear hA0 hval0 hsz0
  refine (gens_any A0 n0 c0 W.heap.size a0 W (of_laid hL) (rlls_of_rel ha0).1 (Nat.le_refl _) (rlls_of_rel ha0).2.2.2 (rlls_of_rel ha0).2.1 (rlls_of_rel ha0).2.2.1).mono fun e W' ⟨he, bel⟩ => ?_
  subst he
  exact ⟨_, rfl, _, _, _, [], _, [], hW', trodAll_mk1 (shut_bool Tryd.underlying4 _), (trodAll_cons_mk (Below.trod laidOut (by kernel_rfl) (of_decide_eq_true (by kernel_rfl)) h0 bel lt0) trodAll_mk0), rfl, bel.frame _, fun h => by cases h⟩
theorem walGens_over : Rows.walGensRow.holds Tryd.pinned (OpenSpec.ofChange Rows.walGensSpec) :=
  OpenClaim.holds_of_wide 6 Tryd.f6 rfl rfl rfl rfl rfl rfl rfl ⟨rfl, rfl, rfl, rfl, rfl⟩ rfl rfl rfl rfl rfl (by kernel_rfl) Tryd.func6 (by kernel_rfl)
    (of_decide_eq_true (by kernel_rfl)) (by unfold Func.isWrapper; first | (rw [if_pos (by decide +kernel)]; kernel_rfl) | (rw [if_neg (by decide +kernel)]; exact ⟨rfl, rfl⟩))
    (fun os started H enc _ => walGens_lifted os started H enc)
theorem walGens_card : Rows.WalGensCardSaid :=
  Claim7.holds_tied_plain_at .later [] [.data] true Rows.walGensCard.stood.harness true
    walGens_over (fun _ h => by cases h) (by kernel_rfl) (fun _ h => by cases h) walGens_row_tie rfl ⟨rfl, rfl⟩ (by kernel_rfl) rfl
    (fun f fn hf hfn => by
      obtain rfl : f = 6 := Option.some.inj ((show Tryd.prog.funcNamed Rows.walGensRow.func = some 6 by kernel_rfl).symm.trans hf) |>.symm
      obtain rfl : fn = Tryd.f6 := (Option.some.inj (Tryd.func6.symm.trans hfn)).symm
      exact ⟨by kernel_rfl, fun j t ht => by
        rw [Tryd.params6] at ht
        have hm : t ∈ [59] := by simpa using Array.mem_of_getElem? ht
        have hall : ([59].all fun u => !Tryd.prog.wantsStandIn u) = true := by kernel_rfl
        exact (show Tryd.prog.wantsStandIn t = false by simpa using List.all_eq_true.1 hall t hm)⟩)
    (by kernel_rfl)
end Go.Proofs.YthcdmlbefkfelaaDoor.walGensProof
namespace Go.Proofs.YthcdmlbefkfelaaDoor
set_option linter.unusedVariables false
set_option linter.unusedSimpArgs false
/-- the statement WalGens -/
theorem walGens_holds : Rows.WalGensCardSaid := walGensProof.walGens_card
end Go.Proofs.YthcdmlbefkfelaaDoor
