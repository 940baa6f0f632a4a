/-
  The law WalWhole of package wal holds of the program: for every input the call returns true, and each argument reads behind it as it read before: whenever a fall comes, and again while the log is opened, whatever stays: what was answered is there, whole, and what was under way, or not.
  Conditions: none beside the rows' own; the package variable sum.halves is tied to the program's text by the given tie.
-/
import Derived.Test.YtofbpkaebngnlaaDoorQWalWhole
import Derived.Test.YtofbpkaebngnlaaDoorQStepOpen
import Derived.Test.YtofbpkaebngnlaaDoorQBytes
import Derived.Test.YtofbpkaebngnlaaDoorTie
import Derived.Test.YtofbpkaebngnlaaDoorCards
import Derived.SevenTiedAt
namespace Go.Proofs.YtofbpkaebngnlaaDoor.walWholeProof
set_option linter.unusedVariables false
set_option linter.unusedSimpArgs false
open Go.ChangeShapes Go.WideShapes Go.ChangeAt Go.RowKit Go.Deep
set_option linter.unusedVariables false

theorem own : ownKnob Tryd.prog.godebug = none := by kernel_rfl
theorem laidOut : laidOutB Tryd.prog = true := by kernel_rfl
def laidL : List (String × DataW Unit) := Rows.walWholeRow.laid
theorem gHalves : Tryd.prog.globalNamed (Rows.walWholeRow.named.getD 0 default) = some 0 := by kernel_rfl
theorem tHalves : (Tryd.prog.globals[0]?).map (·.type) = some 115 := by kernel_rfl
def halvesL : List Int := (List.range 16).map fun r => ((tabC r : Nat) : Int)
theorem halves_datum {H : Type} : (Rows.laid_escheat_sum_halves : DataW H) = .agg (halvesL.map fun z => .lit (.int .u32 z)) := by
  have e : halvesL = [0, 498536548, 997073096, 651767980, 1994146192, 1802195444, 1303535960, 1342533948, 3988292384, 4027552580, 3604390888, 3412177804, 2607071920, 2262029012, 2685067896, 3183342108] := by decide +kernel
  rw [e]
  rfl
theorem of_laid {W : World} (h : laidMetH Tryd.prog laidL W) : Tab W := by
  rw [MakeChecks.laidMetH_plain _ _ _ (by kernel_rfl)] at h
  obtain ⟨ps, ⟨g0, t0, cs0, f0, p0, q0, hg0, ht0, hv0, hd0, _, _⟩, _, _⟩ := h
  obtain rfl := Option.some.inj (gHalves.symm.trans hg0)
  obtain rfl := Option.some.inj (tHalves.symm.trans ht0)
  rw [halves_datum] at hd0
  have hcs := trod_ints Tryd.underlying115 Tryd.underlying83 (by kernel_rfl) (by kernel_rfl) hd0
  intro r hr
  have := World.var?_cell hg0 hv0 r
  rw [this, ← Array.getElem?_toList, hcs, List.getElem?_map]
  unfold halvesL
  simp [hr]

theorem door_met (os : Os) (args : Array Value) : laidMetH Tryd.prog laidL ((World.doorLaid Tryd.prog 400 os).forCall (fun _ _ => 0) ⟨#[], args, []⟩).memory :=
  laidMetH_of_parts3 (fuel := 8) (laidMet_of_run' 8 (by kernel_rfl) (by kernel_rfl)) (by kernel_rfl) (by kernel_rfl)

theorem opensB : Opens Tryd.prog 32 RowRel.bytes := opens_bytes Tryd.underlying32 Tryd.underlying5 (by kernel_rfl) (by kernel_rfl) (by rw [show Tryd.prog.bytesOf 5 = 1 from by kernel_rfl]; omega)
theorem opensBs : Opens Tryd.prog 33 RowRel.bytes.slice := opens_slice Tryd.underlying33 (by kernel_rfl) (by decide) (by rw [show Tryd.prog.bytesOf 32 = 24 from by kernel_rfl]; omega) opensB
theorem rss_of_rel {w : World} {B : Nat} {A : Option Addr} {n c : Nat} {ls : List (List Nat)} (h : RowRel.bytes.slice.R w B [.slice A n c] ls) : Rss w B A n ls ∧ n ≤ c ∧ c ≤ maxLen ∧ n ≤ 140737488355328 := by
  obtain ⟨A1, n1, c1, e, h1, h2, h3, h4, h5⟩ := h
  injection e with e _
  injection e with e1 e2 e3
  subst e1; subst e2; subst e3
  refine ⟨⟨h4, fun hn => ?_⟩, h1, h2, h3⟩
  obtain ⟨b, o, e, hb, hr⟩ := h5 hn
  refine ⟨b, o, e, hb, fun i hi => ?_⟩
  obtain ⟨cs, hc, A', n', c', rfl, g1, g2, g3, g4⟩ := hr i _ (List.getElem?_eq_getElem (by omega))
  refine ⟨A', n', c', ?_, g1, g2, g3, by unfold textAt; simpa [List.getElem?_eq_getElem (show i < ls.length by omega)] using g4⟩
  have := hc 0 _ rfl
  rwa [Nat.add_zero, show i * RowRel.bytes.k = i from Nat.mul_one i] at this
theorem opensSteps : Opens Tryd.prog 22 stepRel.slice := opens_slice Tryd.underlying22 (by kernel_rfl) (by decide) (by rw [show Tryd.prog.bytesOf 40 = 32 from by kernel_rfl]; omega) opensStep
theorem opensU64s : Opens Tryd.prog 23 (RowRel.int .u64).slice := opens_slice Tryd.underlying23 (by kernel_rfl) (by decide) (by rw [show Tryd.prog.bytesOf 44 = 8 from by kernel_rfl]; omega) (opens_int Tryd.underlying44 (by kernel_rfl))
def u64sOf (l : List Int) : List Nat := l.map Int.toNat
theorem u64s_of_rel {w : World} {A : Option Addr} {n c : Nat} {l : List Int} (h : (RowRel.int .u64).slice.R w w.heap.size [.slice A n c] l) :
    (u64sOf l).length = n ∧ (∀ x ∈ u64sOf l, x < 18446744073709551616) ∧ (0 < n → ∃ b o, A = some ⟨b, o, none⟩ ∧ b < w.heap.size ∧ ∀ (i : Nat) (x : Nat), (u64sOf l)[i]? = some x → w.cell? ⟨b, o + i, none⟩ = some (.int .u64 (x : Int))) ∧ n ≤ 140737488355328 := by
  obtain ⟨A1, n1, c1, e, h1, h2, h3, h4, h5⟩ := h
  injection e with e _
  injection e with e1 e2 e3
  subst e1; subst e2; subst e3
  have hb : ∀ z ∈ l, 0 ≤ z ∧ z < 18446744073709551616 := fun z hz => by
    obtain ⟨i, hi, rfl⟩ := List.mem_iff_getElem.1 hz
    obtain ⟨b, o, e, hb, hr⟩ := h5 (by omega)
    obtain ⟨cs, hc, rfl, hw⟩ := hr i _ (List.getElem?_eq_getElem hi)
    have e1 : IntKind.u64.min = 0 := by decide
    have e2 : IntKind.u64.max = 18446744073709551615 := by decide
    simp [Lit.wf] at hw
    omega
  refine ⟨by unfold u64sOf; rw [List.length_map, h4], fun x hx => ?_, fun hn => ?_, h3⟩
  · unfold u64sOf at hx
    obtain ⟨z, hz, rfl⟩ := List.mem_map.1 hx
    have := hb z hz
    omega
  · obtain ⟨b, o, e, hbb, hr⟩ := h5 hn
    refine ⟨b, o, e, hbb, fun i x hx => ?_⟩
    unfold u64sOf at hx
    rw [List.getElem?_map] at hx
    obtain ⟨z, hz, rfl⟩ := Option.map_eq_some_iff.1 hx
    obtain ⟨cs, hc, rfl, hw⟩ := hr i z hz
    have hz0 := hb z (List.mem_of_getElem? hz)
    have := hc 0 _ rfl
    rw [Nat.add_zero, show i * (RowRel.int .u64).k = i from Nat.mul_one i] at this
    rw [this, Int.toNat_of_nonneg hz0.1]
theorem sized_at {H : Type} {P : Program} {ts : List TypeId} {ds : List (DataW H)} (h : (DataW.weightsEach P ts ds).all (· ≤ reachBytes) = true) {j : Nat} {t : TypeId} {d : DataW H} (ht : ts[j]? = some t) (hd : ds[j]? = some d) : (d.weights P t).all (· ≤ reachBytes) = true := by
  rw [List.all_eq_true]
  intro n hn
  exact List.all_eq_true.1 h n (DataW.weights_mem_each ht hd n hn)


set_option maxRecDepth 100000 in
theorem walWhole_lifted (os : Os) (started : os.Started) (H : Type) (enc : TypeId × Value → H) :
    ReturnsInHanded {} Tryd.checked os 3 .any (fun w args => (Rows.walWholeSpec.pre enc Tryd.prog Tryd.f3 [] false w args ∧ laidMetH Tryd.prog laidL w) ∧ sizedMet enc Tryd.prog Tryd.f3 (OpenSpec.ofChange Rows.walWholeSpec) false w args)
      (Rows.walWholeSpec.post enc Tryd.prog Tryd.f3 false true false false) := by
  refine returnsInHanded_of_change_and (C := Tryd.checked) (X := fun w _ => laidMetH Tryd.prog laidL w) (fun _ _ _ hh h => h.of_heap hh) own started (by kernel_rfl) Tryd.func3
    (ChangeSpec.witness_shaped (enc := enc) (C := Tryd.checked) (os := os) (X := fun w _ => laidMetH Tryd.prog laidL w) false (World.doorLaid Tryd.prog 400 os) #[.slice none 0 0, .slice none 0 0] 8 rfl (World.shaped_of_RefB (by kernel_rfl) (by kernel_rfl)) (by kernel_rfl) (by kernel_rfl) (by kernel_rfl) (door_met os _)) ?_
  intro W base args ds gs before hval0 hW _ hsz0 hL _
  have hval : ∀ (j : Nat) t v, Tryd.f3.params[j]? = some t → args[j]? = some v → Value.okWide Tryd.prog W .any base t v := hval0
  have hsz : (DataW.weightsEach Tryd.prog (Tryd.f3.params.toList ++ Rows.walWholeSpec.plain.varTypes Tryd.prog) (ds ++ gs)).all (· ≤ reachBytes) = true := hsz0
  have hW' := hW
  obtain ⟨p, q, hA0, hV, rfl, hfz, hnd⟩ := hW
  have hA : DataW.TrodAll enc Tryd.prog W 0 (fun _ => true) true Tryd.f3.params.toList args.toList ds p := hA0
  rw [Tryd.params3] at hA hval hsz
  obtain ⟨v0, vs0, d0, ds0, p0, q0, hargs, rfl, rfl, h0, r0⟩ := trodAll_cons hA
  obtain ⟨v1, vs1, d1, ds1, p1, q1, rfl, rfl, rfl, h1, r1⟩ := trodAll_cons r0
  obtain ⟨rfl, rfl, rfl⟩ := trodAll_nil r1
  obtain rfl : args = #[v0, v1] := by cases args; simp_all
  obtain ⟨rfl, rfl⟩ := trodVars_none hV
  obtain ⟨A0, n0, c0, rfl⟩ := okWide_slice Tryd.underlying22 (hval 0 22 v0 rfl rfl)
  have lt0 : ∀ x ∈ p0, x.block < W.heap.size := by obtain ⟨m, hm⟩ := h0; exact DataW.trod_lt m _ _ _ hm
  obtain ⟨a0, ha0⟩ := opensSteps.arg h0 (sized_at hsz (j := 0) rfl rfl)
  obtain ⟨A1, n1, c1, rfl⟩ := okWide_slice Tryd.underlying23 (hval 1 23 v1 rfl rfl)
  have lt1 : ∀ x ∈ p1, x.block < W.heap.size := by obtain ⟨m, hm⟩ := h1; exact DataW.trod_lt m _ _ _ hm
  obtain ⟨a1, ha1⟩ := opensU64s.arg h1 (sized_at hsz (j := 1) rfl rfl)
  clear hA0 hval0 hsz0
  refine (whole_any A0 n0 c0 a0 A1 n1 c1 (u64sOf a1) W (of_laid hL) (steps_of_rel ha0).1 (steps_of_rel ha0).2.2.2 (steps_of_rel ha0).2.1 (steps_of_rel ha0).2.2.1 (u64s_of_rel ha1).1 (u64s_of_rel ha1).2.1 (u64s_of_rel ha1).2.2.1 (u64s_of_rel ha1).2.2.2).mono fun e W' ⟨he, bel⟩ => ?_
  subst he
  exact ⟨_, rfl, _, _, _, [], _, [], hW', trodAll_mk1 (shut_bool Tryd.underlying4 _), (trodAll_cons_mk (Below.trod laidOut (by kernel_rfl) (of_decide_eq_true (by kernel_rfl)) h0 bel lt0) (trodAll_cons_mk (Below.trod laidOut (by kernel_rfl) (of_decide_eq_true (by kernel_rfl)) h1 bel lt1) trodAll_mk0)), rfl, bel.frame _, fun h => by cases h⟩
theorem walWhole_over : Rows.walWholeRow.holds Tryd.pinned (OpenSpec.ofChange Rows.walWholeSpec) :=
  OpenClaim.holds_of_wide 3 Tryd.f3 rfl rfl rfl rfl rfl rfl rfl ⟨rfl, rfl, rfl, rfl, rfl⟩ rfl rfl rfl rfl rfl (by kernel_rfl) Tryd.func3 (by kernel_rfl)
    (of_decide_eq_true (by kernel_rfl)) (by unfold Func.isWrapper; first | (rw [if_pos (by decide +kernel)]; kernel_rfl) | (rw [if_neg (by decide +kernel)]; exact ⟨rfl, rfl⟩))
    (fun os started H enc _ => walWhole_lifted os started H enc)
theorem walWhole_card : Rows.WalWholeCardSaid :=
  Claim7.holds_tied_plain_at .later [] [.data] true Rows.walWholeCard.stood.harness true
    walWhole_over (fun _ h => by cases h) (by kernel_rfl) (fun _ h => by cases h) walWhole_row_tie rfl ⟨rfl, rfl⟩ (by kernel_rfl) rfl
    (fun f fn hf hfn => by
      obtain rfl : f = 3 := Option.some.inj ((show Tryd.prog.funcNamed Rows.walWholeRow.func = some 3 by kernel_rfl).symm.trans hf) |>.symm
      obtain rfl : fn = Tryd.f3 := (Option.some.inj (Tryd.func3.symm.trans hfn)).symm
      exact ⟨by kernel_rfl, fun j t ht => by
        rw [Tryd.params3] at ht
        have hm : t ∈ [22, 23] := by simpa using Array.mem_of_getElem? ht
        have hall : ([22, 23].all fun u => !Tryd.prog.wantsStandIn u) = true := by kernel_rfl
        exact (show Tryd.prog.wantsStandIn t = false by simpa using List.all_eq_true.1 hall t hm)⟩)
    (by kernel_rfl)
end Go.Proofs.YtofbpkaebngnlaaDoor.walWholeProof
namespace Go.Proofs.YtofbpkaebngnlaaDoor
set_option linter.unusedVariables false
set_option linter.unusedSimpArgs false
/-- the statement WalWhole -/
theorem walWhole_holds : Rows.WalWholeCardSaid := walWholeProof.walWhole_card
end Go.Proofs.YtofbpkaebngnlaaDoor
