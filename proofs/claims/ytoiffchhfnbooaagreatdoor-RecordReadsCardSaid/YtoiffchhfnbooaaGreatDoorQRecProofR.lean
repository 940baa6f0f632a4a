/-
  The law RecordReads of package record holds of the program: for every input the call returns true, and each argument reads behind it as it read before: any bytes are the document's record, and link behind any chain as it says, or are refused for its reason.
  Conditions: none beside the rows' own; the package variables event.all, sha.firstWords, sha.constants and the library's two tables that the rows list are tied to the program's text by the given tie.
-/
import Derived.Test.YtoiffchhfnbooaaGreatDoorQRecLawR
import Derived.Test.YtoiffchhfnbooaaGreatDoorQLaid
import Derived.Test.YtoiffchhfnbooaaGreatDoorTie
import Derived.Test.YtoiffchhfnbooaaGreatDoorCards
import Derived.SevenTiedAt
import Derived.Lay
namespace Go.Proofs.YtoiffchhfnbooaaGreatDoor.recProofR
set_option linter.unusedVariables false
set_option linter.unusedSimpArgs false
open Go.ChangeShapes Go.WideShapes Go.ChangeAt Go.RowKit Go.Deep
set_option linter.unusedVariables false
set_option linter.unusedSimpArgs false

theorem own : ownKnob Tryz.prog.godebug = none := by kernel_rfl
theorem laidOut : laidOutB Tryz.prog = true := by kernel_rfl
def laidL : List (String × DataW Unit) := Rows.recordReadsRow.laid
theorem gAll : Tryz.prog.globalNamed (Rows.recordReadsRow.named.getD 0 default) = some 0 := by kernel_rfl
theorem gFirst : Tryz.prog.globalNamed (Rows.recordReadsRow.named.getD 4 default) = some 1 := by kernel_rfl
theorem gCons : Tryz.prog.globalNamed (Rows.recordReadsRow.named.getD 5 default) = some 2 := by kernel_rfl
theorem tAll : (Tryz.prog.globals[0]?).map (·.type) = some 96 := by kernel_rfl
theorem tFirst : (Tryz.prog.globals[1]?).map (·.type) = some 73 := by kernel_rfl
theorem tCons : (Tryz.prog.globals[2]?).map (·.type) = some 75 := by kernel_rfl
theorem all_datum {H : Type} : (Rows.laid_escheat_event_all : DataW H) = .agg (kindD.map fun x => .agg [.lit (.int .i64 x.1), .lit (.string x.2)]) := rfl
def firstD : List Int := [1779033703, 3144134277, 1013904242, 2773480762, 1359893119, 2600822924, 528734635, 1541459225]
def consD : List Int := [1116352408, 1899447441, 3049323471, 3921009573, 961987163, 1508970993, 2453635748, 2870763221, 3624381080, 310598401, 607225278, 1426881987, 1925078388, 2162078206, 2614888103, 3248222580, 3835390401, 4022224774, 264347078, 604807628, 770255983, 1249150122, 1555081692, 1996064986, 2554220882, 2821834349, 2952996808, 3210313671, 3336571891, 3584528711, 113926993, 338241895, 666307205, 773529912, 1294757372, 1396182291, 1695183700, 1986661051, 2177026350, 2456956037, 2730485921, 2820302411, 3259730800, 3345764771, 3516065817, 3600352804, 4094571909, 275423344, 430227734, 506948616, 659060556, 883997877, 958139571, 1322822218, 1537002063, 1747873779, 1955562222, 2024104815, 2227730452, 2361852424, 2428436474, 2756734187, 3204031479, 3329325298]
theorem first_datum {H : Type} : (Rows.laid_escheat_sha_firstWords : DataW H) = .agg (firstD.map fun z => .lit (.int .u32 z)) := rfl
theorem cons_datum {H : Type} : (Rows.laid_escheat_sha_constants : DataW H) = .agg (consD.map fun z => .lit (.int .u32 z)) := rfl
theorem first_at : ∀ r, r < 8 → firstD[r]? = some ((byteAt firstL r : Nat) : Int) := by decide +kernel
theorem cons_at : ∀ r, r < 64 → consD[r]? = some ((byteAt kL r : Nat) : Int) := by decide +kernel
theorem of_laid {W : World} (h : laidMetH Tryz.prog laidL W) : Kinds W ∧ Tabs W := by
  rw [MakeChecks.laidMetH_plain _ _ _ (by kernel_rfl)] at h
  obtain ⟨ps, ⟨_, _, _, _, _, _, _, _, _, _, ⟨g0, t0, cs0, f0, p0, q0, hg0, ht0, hv0, hd0, ⟨g1, t1, cs1, f1, p1, q1, hg1, ht1, hv1, hd1, ⟨g2, t2, cs2, f2, p2, q2, hg2, ht2, hv2, hd2, _, _⟩, _⟩, _⟩, _⟩, _, _⟩ := h
  obtain rfl := Option.some.inj (gFirst.symm.trans hg0)
  obtain rfl := Option.some.inj (tFirst.symm.trans ht0)
  obtain rfl := Option.some.inj (gCons.symm.trans hg1)
  obtain rfl := Option.some.inj (tCons.symm.trans ht1)
  obtain rfl := Option.some.inj (gAll.symm.trans hg2)
  obtain rfl := Option.some.inj (tAll.symm.trans ht2)
  rw [first_datum] at hd0
  rw [cons_datum] at hd1
  rw [all_datum] at hd2
  have hcs := trod_ints Tryz.underlying73 Tryz.underlying72 (by kernel_rfl) (by kernel_rfl) hd0
  have hcs1 := trod_ints Tryz.underlying75 Tryz.underlying72 (by kernel_rfl) (by kernel_rfl) hd1
  have hm := trod_pairs Tryz.underlying96 Tryz.underlying95 (by kernel_rfl) rfl rfl rfl rfl rfl rfl Tryz.underlying9 Tryz.underlying3 (by kernel_rfl) (by kernel_rfl) hd2
  refine ⟨kinds_of_cells (fun r => by rw [World.var?_cell hg2 hv2 r, ← Array.getElem?_toList]) hm, fun r hr => ?_, fun r hr => ?_⟩
  · rw [World.var?_cell hg0 hv0 r, ← Array.getElem?_toList, hcs, List.getElem?_map, first_at r hr]
    rfl
  · rw [World.var?_cell hg1 hv1 r, ← Array.getElem?_toList, hcs1, List.getElem?_map, cons_at r hr]
    rfl

theorem door_met (os : Os) (args : Array Value) : laidMetH Tryz.prog laidL ((World.laidAll Tryz.prog os laidL).forCall (fun _ _ => 0) ⟨#[], args, []⟩).memory := by
  rw [MakeChecks.laidMetH_plain _ _ _ (by kernel_rfl)]
  exact laidMet_laidAll _ (by kernel_rfl) (by kernel_rfl)

theorem sized_at {H : Type} {P : Program} {ts : List TypeId} {ds : List (DataW H)} (h : (DataW.weightsEach P ts ds).all (· ≤ reachBytes) = true) {j : Nat} {t : TypeId} {d : DataW H} (ht : ts[j]? = some t) (hd : ds[j]? = some d) : (d.weights P t).all (· ≤ reachBytes) = true := by
  rw [List.all_eq_true]
  intro n hn
  exact List.all_eq_true.1 h n (DataW.weights_mem_each ht hd n hn)

set_option maxRecDepth 100000 in
theorem recordReads_lifted (os : Os) (started : os.Started) (H : Type) (enc : TypeId × Value → H) :
    ReturnsInHanded {} Tryz.checked os 4 .any (fun w args => (Rows.recordReadsSpec.pre enc Tryz.prog Tryz.f4 [] false w args ∧ laidMetH Tryz.prog laidL w) ∧ sizedMet enc Tryz.prog Tryz.f4 (OpenSpec.ofChange Rows.recordReadsSpec) false w args)
      (Rows.recordReadsSpec.post enc Tryz.prog Tryz.f4 false true false false) := by
  refine returnsInHanded_of_change_and (C := Tryz.checked) (X := fun w _ => laidMetH Tryz.prog laidL w) (fun _ _ _ hh h => h.of_heap hh) own started (by kernel_rfl) Tryz.func4
    (ChangeSpec.witness_shaped (enc := enc) (C := Tryz.checked) (os := os) (X := fun w _ => laidMetH Tryz.prog laidL w) false (World.laidAll Tryz.prog os laidL) #[.slice none 0 0, .agg (chC ch0)] 8 (World.laidAll_os _ _ _) (World.shaped_of_ZipB (by kernel_rfl) (by kernel_rfl)) (by kernel_rfl) (by kernel_rfl) (by kernel_rfl) (door_met os _)) ?_
  intro W base args ds gs before hval0 hW _ hsz0 hL _
  have hval : ∀ (j : Nat) t v, Tryz.f4.params[j]? = some t → args[j]? = some v → Value.okWide Tryz.prog W .any base t v := hval0
  have hsz : (DataW.weightsEach Tryz.prog (Tryz.f4.params.toList ++ Rows.recordReadsSpec.plain.varTypes Tryz.prog) (ds ++ gs)).all (· ≤ reachBytes) = true := hsz0
  have hW' := hW
  obtain ⟨p, q, hA0, hV, rfl, hfz, hnd⟩ := hW
  have hA : DataW.TrodAll enc Tryz.prog W 0 (fun _ => true) true Tryz.f4.params.toList args.toList ds p := hA0
  rw [Tryz.params4] at hA hval hsz
  obtain ⟨v0, vs0, d0, ds0, p0, q0, hargs, rfl, rfl, h0, r0⟩ := trodAll_cons hA
  obtain ⟨v1, vs1, d1, ds1, p1, q1, rfl, rfl, rfl, h1, r1⟩ := trodAll_cons r0
  obtain ⟨rfl, rfl, rfl⟩ := trodAll_nil r1
  obtain rfl : args = #[v0, v1] := by cases args; simp_all
  obtain ⟨rfl, rfl⟩ := trodVars_none hV
  obtain ⟨A0, n0, c0, rfl⟩ := okWide_slice Tryz.underlying27 (hval 0 27 v0 rfl rfl)
  have lt0 : ∀ x ∈ p0, x.block < W.heap.size := by obtain ⟨m, hm⟩ := h0; exact DataW.trod_lt m _ _ _ hm
  obtain ⟨a0, ha0⟩ := opensBB.arg h0 (sized_at hsz (j := 0) rfl rfl)
  obtain ⟨cs1, rfl, _⟩ := okWide_struct Tryz.underlying24 (hval 1 24 v1 rfl rfl)
  have lt1 : ∀ x ∈ p1, x.block < W.heap.size := by obtain ⟨m, hm⟩ := h1; exact DataW.trod_lt m _ _ _ hm
  obtain ⟨a1, ha1⟩ := opensCh.arg h1 (sized_at hsz (j := 1) rfl rfl)
  obtain ⟨hcs1, hok1⟩ := ch_of ha1
  subst hcs1
  clear hA0 hval0 hsz0
  refine (recordReads_walk A0 n0 c0 a0 a1 W (bytes_of3 ha0).1 (bytes_of3 ha0).2.1 (bytes_of3 ha0).2.2.1 (bytes_of3 ha0).2.2.2 hok1 (of_laid hL).1 (of_laid hL).2).mono fun e W' ⟨he, bel⟩ => ?_
  subst he
  exact ⟨_, rfl, _, _, _, [], _, [], hW', trodAll_mk1 (shut_bool Tryz.underlying4 _), (trodAll_cons_mk (Below.trod laidOut (by kernel_rfl) (of_decide_eq_true (by kernel_rfl)) h0 bel lt0) (trodAll_cons_mk (Below.trod laidOut (by kernel_rfl) (of_decide_eq_true (by kernel_rfl)) h1 bel lt1) trodAll_mk0)), rfl, bel.frame _, fun h => by cases h⟩
theorem recordReads_over : Rows.recordReadsRow.holds Tryz.pinned (OpenSpec.ofChange Rows.recordReadsSpec) :=
  OpenClaim.holds_of_wide 4 Tryz.f4 rfl rfl rfl rfl rfl rfl rfl ⟨rfl, rfl, rfl, rfl, rfl⟩ rfl rfl rfl rfl rfl (by kernel_rfl) Tryz.func4 (by kernel_rfl)
    (of_decide_eq_true (by kernel_rfl)) (by unfold Func.isWrapper; first | (rw [if_pos (by decide +kernel)]; kernel_rfl) | (rw [if_neg (by decide +kernel)]; exact ⟨rfl, rfl⟩))
    (fun os started H enc _ => recordReads_lifted os started H enc)
theorem recordReads_card : Rows.RecordReadsCardSaid :=
  Claim7.holds_tied_plain_at .later [] [.data, .data, .data, .data, .pinned] true Rows.recordReadsCard.stood.harness false
    recordReads_over (fun _ h => by cases h) (by kernel_rfl) (fun _ h => by cases h) recordReads_row_tie rfl ⟨rfl, rfl⟩ (by kernel_rfl) rfl
    (fun f fn hf hfn => by
      obtain rfl : f = 4 := Option.some.inj ((show Tryz.prog.funcNamed Rows.recordReadsRow.func = some 4 by kernel_rfl).symm.trans hf) |>.symm
      obtain rfl : fn = Tryz.f4 := (Option.some.inj (Tryz.func4.symm.trans hfn)).symm
      exact ⟨by kernel_rfl, fun j t ht => by
        rw [Tryz.params4] at ht
        have hm : t ∈ [27, 24] := by simpa using Array.mem_of_getElem? ht
        have hall : ([27, 24].all fun u => !Tryz.prog.wantsStandIn u) = true := by kernel_rfl
        exact (show Tryz.prog.wantsStandIn t = false by simpa using List.all_eq_true.1 hall t hm)⟩)
    (by kernel_rfl)
end Go.Proofs.YtoiffchhfnbooaaGreatDoor.recProofR
namespace Go.Proofs.YtoiffchhfnbooaaGreatDoor
set_option linter.unusedVariables false
set_option linter.unusedSimpArgs false
/-- the statement RecordReads -/
theorem recordReads_holds : Rows.RecordReadsCardSaid := recProofR.recordReads_card
end Go.Proofs.YtoiffchhfnbooaaGreatDoor
