/-
  Contracts over package sha: the sum of bytes.
-/
import Derived.Test.YtoiffchhfnbooaaDoorQWideIn
import Derived.Shelf.RegionOpen
namespace Go.Proofs.YtoiffchhfnbooaaDoor
set_option linter.unusedVariables false
set_option linter.unusedSimpArgs false
set_option linter.unusedVariables false
set_option linter.unusedSimpArgs false
open Go.RowKit Go.Shelf

attribute [local go_sem] Oper.semAt_some

/-- a block's place, of nb -/
abbrev Pl (nb : Nat) := { x : Nat // x < nb }
def places (nb : Nat) : List (Pl nb) := (List.range nb).attach.map fun x => ⟨x.1, List.mem_range.1 x.2⟩
theorem places_length (nb : Nat) : (places nb).length = nb := by simp [places]
theorem places_at {nb : Nat} : ∀ k (_ : k < nb), ∃ h' : k < (places nb).length, ((places nb)[k]).1 = k := fun k h => ⟨by rw [places_length]; exact h, by simp [places]⟩
/-- the words behind the blocks at these places -/
def foldN (p : List Nat) {nb : Nat} (pre : List (Pl nb)) : Wd := pre.foldl (fun s x => stepN kL s (blockN p x.1)) first0
theorem foldN_snoc (p : List Nat) {nb : Nat} (pre : List (Pl nb)) (x : Pl nb) : foldN p (pre ++ [x]) = stepN kL (foldN p pre) (blockN p x.1) := by simp [foldN]
theorem foldN_ok (p : List Nat) {nb : Nat} (pre : List (Pl nb)) : (foldN p pre).Ok := by
  rcases List.eq_nil_or_concat pre with rfl | ⟨l, x, rfl⟩
  · exact first0_ok
  · rw [List.concat_eq_append, foldN_snoc]; exact stepN_ok _ _ _
theorem foldN_take (p : List Nat) (nb : Nat) : ∀ k, k ≤ nb → foldN p ((places nb).take k) = blocksN p k
  | 0, _ => by rw [blocksN_zero]; rfl
  | k + 1, h => by
    obtain ⟨h1, h2⟩ := places_at (nb := nb) k (by omega)
    rw [List.take_succ_eq_append_getElem h1, foldN_snoc, foldN_take p nb k (by omega), blocksN_succ, h2]
theorem foldN_all (p : List Nat) (nb : Nat) : foldN p (places nb) = blocksN p nb := by
  have := foldN_take p nb nb (Nat.le_refl _)
  rwa [List.take_of_length_le (by rw [places_length]; exact Nat.le_refl _)] at this
theorem keepsOthers_below {W w' : World} (h : Below W.heap.size W w') : KeepsOthers W w' := ⟨h.size, fun k o hk _ => (h.block k (Array.getElem?_eq_some_iff.1 hk).1).trans hk⟩
theorem Tabs.range {w : World} (h : Tabs w) : w.rangeAt 1 0 (cw firstL).toList := fun i v hv => by
  rw [Nat.zero_add]
  have hi : i < 8 := by
    have := (List.getElem?_eq_some_iff.1 hv).1
    simpa [cw_size, firstL_length] using this
  rw [h.1 i hi]
  rw [Array.getElem?_toList, cw_at (by rw [firstL_length]; exact hi)] at hv
  exact hv

theorem Bytes.range {w : World} {B g o n : Nat} {l : List Nat} (h : Bytes w B (some ⟨g, o, none⟩) n l) {w' : World} (hk : ∀ p : Addr, p.block = g → w'.cell? p = w.cell? p) : w'.rangeAt g o (cb l).toList := fun i v hv => by
  have hi : i < l.length := by
    have := (List.getElem?_eq_some_iff.1 hv).1
    simpa [cb_size] using this
  rw [Array.getElem?_toList, cb_at hi] at hv
  obtain ⟨b, o2, e, _, hc⟩ := h.2.2 (by rw [← h.1]; omega)
  injection e with e
  injection e with e1 e2
  subst e1; subst e2
  rw [hk _ rfl, hc i (by rw [← h.1]; exact hi)]
  exact hv

section
variable {P : Program} {F : Fence} {n : Nat} {ops : Array Oper} {Q : Exit → Act → World → Prop}
theorem stepIn_value {o : Oper} {a : Act} {w w' : World} {K : Act → World → Prop} {v : Value} (hw : Region.wanted o (yielded ops a.tmps) = true)
    (hab : o.about P w a.eval = none) (hd : ∀ c, o.op ≠ .defer c) (h : (execOp a.eval o).run P w = .ok (.value v) w') (hK : K (a.put o.dst v) w') :
    if Region.wanted o (yielded ops a.tmps) = true then Oper.wpIn F n P o a w K Q else (∀ f, o.about P w a.eval = some f → F.fn f) ∧ K (a.put o.dst undef) w := by
  rw [if_pos hw]; exact wpIn_value hab hd h hK
theorem stepIn_skip {o : Oper} {a : Act} {w w' : World} {K : Act → World → Prop} (hw : Region.wanted o (yielded ops a.tmps) = true)
    (hab : o.about P w a.eval = none) (hd : ∀ c, o.op ≠ .defer c) (h : (execOp a.eval o).run P w = .ok .skip w') (hK : K (a.put o.dst undef) w') :
    if Region.wanted o (yielded ops a.tmps) = true then Oper.wpIn F n P o a w K Q else (∀ f, o.about P w a.eval = some f → F.fn f) ∧ K (a.put o.dst undef) w := by
  rw [if_pos hw]; exact wpIn_skip hab hd h hK
/-- the load of a whole value -/
theorem exec_load {o : Oper} {ρ : Operand → Value} {w : World} {ty : TypeId} {x : Operand} (ho : o.op = .load ty x) {b off : Nat} (hx : ρ x = .pointer (some ⟨b, off, none⟩)) {cs : Array Value} {d : TypeDesc} (hc : w.rangeAt b off cs.toList)
    (hu : P.underlying ty = some d) (hd : d.isRow = true) (hi : (P.info? ty).map (·.size) = some cs.size) : (execOp ρ o).run P w = .ok (.value (.agg cs)) w := by
  unfold execOp
  simp only [ho, hx, Instr.loadAt, Instr.sureAddr, Sem.run_bind, Sem.run_pure, Result.andThen_ok, run_loadVar_mid w b off ty cs.toList d hc hu hd (by rw [Array.length_toList]; exact hi), Array.toArray_toList]
/-- the store of a whole value into a block that is known whole -/
theorem exec_store {o : Oper} {ρ : Operand → Value} {w : World} {ty : TypeId} {x y : Operand} (ho : o.op = .store ty x y) {g : Nat} (hx : ρ x = .pointer (some ⟨g, 0, none⟩)) {ds cur : Array Value} (hy : ρ y = .agg ds) {t : TypeId} (hg : Bk w g t cur) (hs : ds.size = cur.size)
    (hi : (P.info? ty).map (·.size) = some ds.size) (h1 : ∀ v ∈ ds.toList, v.oneCell' = true) : (execOp ρ o).run P w = .ok .skip (w.setRow g ds) := by
  cases hq : P.info? ty with
  | none => simp [hq] at hi
  | some i =>
    have hs' : ds.size = i.size := by simp [hq] at hi; omega
    unfold execOp
    simp only [ho, hx, hy, Instr.storeAt, Instr.sureAddr, Sem.run_bind, Sem.run_pure, Result.andThen_ok]
    simp [storeVar, sizeOf, typeInfo, hq, Value.cells, hs', store_all hg hs h1]
/-- a slice as a pointer to an array -/
theorem exec_arr {o : Oper} {ρ : Operand → Value} {w : World} {ty e : TypeId} {x : Operand} (ho : o.op = .sliceToArrayPointer ty x) {a : Option Addr} {k c : Nat} (hx : ρ x = .slice a k c) (hu : P.underlying ty = some (.array k e)) : (execOp ρ o).run P w = .ok (.value (.pointer a)) w := by
  unfold execOp
  simp [ho, hx, Instr.arrayAt, run_underlying hu]
end

set_option maxRecDepth 100000 in
set_option maxHeartbeats 4000000 in
theorem sum_any (A : Option Addr) (n c B : Nat) (l : List Nat) (w : World) (hl : Bytes w B A n l) (hB : B ≤ w.heap.size) (hn : n ≤ 1000000) (ht : Tabs w) :
    Calls Tryd.prog 22 #[.slice A n c] w fun e w' => e = .returned (.agg (cb (sumB l))) ∧ Below w.heap.size w w' := by
  have hp := ht.pos
  have HT := hide ht
  clear ht
  refine (callsIn_wide (n := 3)).1 ?_
  refine callsIn_of_wp_marks Tryd.func22 rfl trivial ?_ rfl
  simp only [Tryd.ntmps22, List.size_toArray, List.length_cons, List.length_nil, Nat.reduceAdd, Nat.reduceSub, Array.replicate_succ, Array.replicate_zero, List.push_toArray, List.append_toArray, List.nil_append, List.cons_append]
  gi_wp2_with ((with_reducible show wpListIn _ _ _ _ _ (⟨some 2, _, _, _, _, _⟩ :: _) _ _); refine holdB ?_)
  refine heldB (wpListIn_alloc_to (by simp [Region.wanted]) 24 rfl _ zero32 ?_)
  gi_wp2_with ((with_reducible show wpListIn _ _ _ _ _ (⟨some 5, _, _, _, _, _⟩ :: _) _ _); refine holdB ?_)
  have ht2 : Tabs (w.alloc (.cells (cb (List.replicate 32 0)) 24)) := HT.out.below ((Below.refl w.heap.size w).alloc (Nat.le_refl _) _) hp
  refine heldB (wpListIn_load_mid (by simp [Region.wanted]) 75 (.global 1) rfl 1 0 rfl _ _ ht2.range Tryd.underlying75 rfl (by rw [Array.length_toList, cw_size]; exact size8) ?_)
  rw [Array.toArray_toList]
  refine wpListIn_alloc_to (by simp [Region.wanted]) 75 rfl _ zero8 ?_
  refine wpListIn_store_wide (by simp [Region.wanted]) 75 (.tmp 3) (.tmp 5) rfl (w.heap.size + 1) 0 (cw firstL) (by simp [Act.eval, Act.put]) rfl 75 _ (Bk.new2 w _ _ _) (by simp [cw_size, firstL_length]) (by rw [cw_size]; exact size8) (cw_one _) ?_
  intro W h4
  rw [setRow_all (by simp [cw_size, firstL_length])] at h4
  have r1 := hide (h4.out ▸ (Bk.new2 w _ _ _).setRow_same (cw firstL) : Bk W (w.heap.size + 1) 75 (cw firstL))
  have r3 := hide (h4.out ▸ ((Bk.new w _ _).alloc _).setRow_other (by omega) (cw firstL) : Bk W w.heap.size 24 (cb (List.replicate 32 0)))
  have r4 := hide (h4.out ▸ below_setRow (((Below.refl _ _).alloc (Nat.le_refl _) _).alloc (by simp) _) (by omega) (cw firstL) : Below w.heap.size w W)
  clear h4 ht2
  have hbs := r4.out.size
  gi_wp2_with fail
  refine ⟨trivial, (callsIn_wide.2 (pad_any A n c B l W (hl.below r4.out hB) (by omega) hn)).mono ?_⟩
  rintro e W1 ⟨Ap, cp, rfl, ho, hb1⟩
  have t1 := hide (r1.out.below hb1 r1.out.lt); have t3 := hide (r3.out.below hb1 r3.out.lt)
  have t4 := hide (r4.out.trans (hb1.mono hbs))
  have hlen := padN_length l
  rw [hl.1] at hlen
  have hmod := padN_64 l
  have hsum : Hid (sumB l = flN (blocksN (padN l) ((padN l).length / 64)).list 32) := hide rfl
  have hp256 := padN_lt hl.2.1
  obtain ⟨p, hpd⟩ : ∃ p, p = padN l := ⟨_, rfl⟩
  rw [← hpd] at ho hlen hmod hsum hp256
  obtain ⟨np, hnp⟩ : ∃ np, np = n + 9 + zerosN n := ⟨_, rfl⟩
  rw [← hnp] at ho hlen ⊢
  have hz := zerosN_lt n
  have hnl : np ≤ 2000000 := by omega
  have hn0 : 0 < np := by omega
  rw [hlen] at hmod hsum
  obtain ⟨nb, hnb⟩ : ∃ nb, nb = np / 64 := ⟨_, rfl⟩
  rw [← hnb] at hsum
  have HNB := hide (show np = 64 * nb by omega)
  clear hnb
  have hcp : np ≤ cp ∧ cp ≤ maxLen := ho.cap
  have hcpn := hcp.1
  obtain ⟨g, rfl, hg, hgl, _, _⟩ := ho.cells hn0
  have hgW : w.heap.size + 1 < W.heap.size := r1.out.lt
  have HO := hide ho; have HLEN := hide hlen; have HPD := hide hpd
  have hW1 := t4.out.size
  have hgW1 : w.heap.size + 1 < W1.heap.size := t1.out.lt
  clear r1 r3 r4 hb1 ho hlen hpd hnp hmod hcp hbs
  gi_wp2_with fail
  refine ⟨trivial, (chunk_in 2 (some ⟨g, 0, none⟩) np cp W1).mono ?_⟩
  rintro e W2 ⟨rfl, rfl⟩
  gi_wp2_with fail
  refine wpIn_over (fun W0 => (Bk W0 (w.heap.size + 1) 75 (cw firstL) ∧ Bk W0 w.heap.size 24 (cb (List.replicate 32 0)) ∧ Bk W0 W1.heap.size 32 #[.slice (some ⟨g, 0, none⟩) np cp] ∧ Bk W0 (W1.heap.size + 1) 3 #[.int .i64 64]) ∧
      OwnB W0 W.heap.size 5 (some ⟨g, 0, none⟩) np cp p ∧ W0.heap.size = W1.heap.size + 2 ∧ Below w.heap.size w W0) ?hF ?hw
  case hF =>
    refine ⟨⟨(t1.out.alloc _).alloc _, (t3.out.alloc _).alloc _, (Bk.new _ _ _).alloc _, Bk.new2 _ _ _ _⟩, (HO.out.alloc _).alloc _, by simp, (t4.out.alloc t4.out.size _).alloc (by have := t4.out.size; simp; omega) _⟩
  case hw =>
    clear t1 t3 t4 HO
    rintro W0 ⟨⟨K1, K3, K4, K5⟩, hown, hsz, hb0⟩
    have hS0 : (fun b => b < W1.heap.size + 2 ∧ b ≠ w.heap.size + 1) W1.heap.size := ⟨by omega, by omega⟩
    have hS1 : (fun b => b < W1.heap.size + 2 ∧ b ≠ w.heap.size + 1) (W1.heap.size + 1) := ⟨by omega, by omega⟩
    have hSr : (fun b => b < W1.heap.size + 2 ∧ b ≠ w.heap.size + 1) w.heap.size := ⟨by omega, by omega⟩
    have hSg : (fun b => b < W1.heap.size + 2 ∧ b ≠ w.heap.size + 1) g := ⟨by omega, by omega⟩
    have hSn : ∀ b, b < w.heap.size → (fun b => b < W1.heap.size + 2 ∧ b ≠ w.heap.size + 1) b := fun b hb => ⟨by omega, by omega⟩
    have hSw : ∀ b, (fun b => b < W1.heap.size + 2 ∧ b ≠ w.heap.size + 1) b → b < W0.heap.size := fun b hb => by rw [hsz]; exact hb.1
    obtain ⟨S, hSd⟩ : ∃ S : Nat → Prop, S = fun b => b < W1.heap.size + 2 ∧ b ≠ w.heap.size + 1 := ⟨_, rfl⟩
    rw [← hSd] at hS0 hS1 hSr hSg hSn hSw
    have hng : ¬ S (w.heap.size + 1) := by rw [hSd]; exact fun h => h.2 rfl
    clear hSd
    refine wpIn_rangeFunc_ownH (α := Pl nb) rfl (by omega) (gf := 49) (lb := #[.pointer (some ⟨W1.heap.size, 0, none⟩), .pointer (some ⟨W1.heap.size + 1, 0, none⟩)]) rfl trivial
      (enters_of Tryd.func49 (by kernel_rfl) rfl)
      (chunk_stops Subtype.val (places nb) W1.heap.size (W1.heap.size + 1) g np cp nb places_at (places_length nb) S HNB.out hnl hcpn W0 (K4.cell 0) (K5.cell 0) hS0 hS1 hSw)
      Keeps.trans (keeps_putObj hSw) (Below.refl _ _) (fun _ => rfl)
      (fun pre W => Bk W (w.heap.size + 1) 75 (cw (foldN p pre).list) ∧ Keeps S W0 W)
      (fun _ _ _ => False) ?hI (fun c s A B row h _ _ => h) ?h0
      (fun x a' _ => a' = { tmps := #[.slice A n c, undef, .pointer (some ⟨w.heap.size, 0, none⟩), .pointer (some ⟨w.heap.size + 1, 0, none⟩), .slice (some ⟨g, 64 * x.1, none⟩) 64 64, .agg (cw firstL), .slice A n c, .slice (some ⟨g, 0, none⟩) np cp, .func (.func 49) #[] #[.pointer (some ⟨W1.heap.size, 0, none⟩), .pointer (some ⟨W1.heap.size + 1, 0, none⟩)], .slice (some ⟨g, 64 * x.1, none⟩) 64 64, undef, undef, undef, undef, undef, undef, undef], defers := [] })
      (fun x a' _ A B row h hg hr => h) ?assign ?body ?done ?stop
    case hI =>
      intro s A B row ⟨h2, h3⟩ hg hr
      exact ⟨h2.keptW hg (fun r e => (hr r e).2), keeps_from hSw (Nat.le_refl _) s A B row h3 hg hr⟩
    case h0 => exact ⟨K1, Keeps.refl _ _⟩
    case assign =>
      intro l pre x W K hI hK
      gi_wp2
      exact hK _ _ (KeepsFrom.refl _ _) (Keeps.refl _ _) hI rfl
    case body =>
      rintro l9 pre x a' W9 hl9 ⟨r, hr⟩ ⟨hI1, hI2⟩ rfl hlt
      have hx1 : 64 * (x.1 + 1) ≤ np := by have := HNB.out; have := x.2; omega
      obtain ⟨g', hA, _, hbk⟩ := hown.block (i := x.1) hx1
      injection hA with hA
      injection hA with hA
      subst hA
      have hrg := hbk.range (w' := W9.drew) (fun p hp => by show W9.cell? p = _; exact hI2.cell (by rw [hp]; exact hSg))
      have hbl := hbk.1
      have hbb := hbk.2.1
      have hok := foldN_ok p pre
      have HFS := hide (foldN_snoc p pre x)
      have ht9 : Tabs W9.drew := (HT.out.below hb0 hp).below (hI2.below hSn).drew hp
      obtain ⟨x, hxl⟩ := x
      simp only at hrg hbl hbb HFS ⊢
      have HRG := hide hrg; have HBL := hide hbl
      have HC := hide (step_any (foldN p pre) (blockN p x) W9.drew hok hbl hbb ht9)
      have HI1 := hide hI1; have HI2 := hide hI2; have HBK := hide hbk
      have hI1l := hI1.lt
      clear hI1 hI2 hbk hrg hbb hok ht9 hr hown K1 K3 K4 K5
      gi_wp2_with fail
      have hmix : Tryd.prog.follows .mixedOrders = true := by kernel_rfl
      refine wpIn_region_any hmix ?_
      change wpAnyIn _ _ _ _ _ _ _ _ _ W9.drew
      refine wpAnyIn_ready (rs := [0, 1]) (by kernel_rfl) (by simp) (AllReadyIn.cons rfl (fun K hK => ?sa1) (AllReadyIn.cons rfl (fun K hK => ?sb1) AllReadyIn.nil))
      case' sa1 =>
        refine stepIn_value (by simp [Region.wanted]) (by simp [Oper.about]) (by intro c hc; cases hc) (exec_load rfl rfl HI1.out.drew.range Tryd.underlying75 rfl (by rw [cw_size]; exact size8)) (hK _ _ ?_)
        clear hK K
        refine wpAnyIn_ready (rs := [1]) (by kernel_rfl) (by simp) (AllReadyIn.cons rfl (fun K hK => ?_) AllReadyIn.nil)
        refine stepIn_value (v := .slice (some ⟨g, 64 * x, none⟩) 64 64) (w' := W9.drew) (by simp [Region.wanted]) (by simp [Oper.about]) (by intro c hc; cases hc) (by rfl) (hK _ _ ?_)
        clear hK K
        refine wpAnyIn_ready (rs := [2]) (by kernel_rfl) (by simp) (AllReadyIn.cons rfl (fun K hK => ?_) AllReadyIn.nil)
        refine stepIn_value (by simp [Region.wanted]) (by simp [Oper.about]) (by intro c hc; cases hc) (exec_arr (k := 64) (c := 64) (a := some ⟨g, 64 * x, none⟩) rfl rfl Tryd.underlying80) (hK _ _ ?_)
        clear hK K
        refine wpAnyIn_ready (rs := [3]) (by kernel_rfl) (by simp) (AllReadyIn.cons rfl (fun K hK => ?_) AllReadyIn.nil)
        refine stepIn_value (by simp [Region.wanted]) (by simp [Oper.about]) (by intro c hc; cases hc) (exec_load rfl rfl HRG.out Tryd.underlying80 rfl (by rw [cb_size, HBL.out]; exact sizeSec)) (hK _ _ ?_)
        clear hK K
      case' sb1 =>
        refine stepIn_value (v := .slice (some ⟨g, 64 * x, none⟩) 64 64) (w' := W9.drew) (by simp [Region.wanted]) (by simp [Oper.about]) (by intro c hc; cases hc) (by rfl) (hK _ _ ?_)
        clear hK K
        refine wpAnyIn_ready (rs := [0, 2]) (by kernel_rfl) (by simp) (AllReadyIn.cons rfl (fun K hK => ?sa2) (AllReadyIn.cons rfl (fun K hK => ?sb2) AllReadyIn.nil))
        case' sa2 =>
          refine stepIn_value (by simp [Region.wanted]) (by simp [Oper.about]) (by intro c hc; cases hc) (exec_load rfl rfl HI1.out.drew.range Tryd.underlying75 rfl (by rw [cw_size]; exact size8)) (hK _ _ ?_)
          clear hK K
          refine wpAnyIn_ready (rs := [2]) (by kernel_rfl) (by simp) (AllReadyIn.cons rfl (fun K hK => ?_) AllReadyIn.nil)
          refine stepIn_value (by simp [Region.wanted]) (by simp [Oper.about]) (by intro c hc; cases hc) (exec_arr (k := 64) (c := 64) (a := some ⟨g, 64 * x, none⟩) rfl rfl Tryd.underlying80) (hK _ _ ?_)
          clear hK K
          refine wpAnyIn_ready (rs := [3]) (by kernel_rfl) (by simp) (AllReadyIn.cons rfl (fun K hK => ?_) AllReadyIn.nil)
          refine stepIn_value (by simp [Region.wanted]) (by simp [Oper.about]) (by intro c hc; cases hc) (exec_load rfl rfl HRG.out Tryd.underlying80 rfl (by rw [cb_size, HBL.out]; exact sizeSec)) (hK _ _ ?_)
          clear hK K
        case' sb2 =>
          refine stepIn_value (by simp [Region.wanted]) (by simp [Oper.about]) (by intro c hc; cases hc) (exec_arr (k := 64) (c := 64) (a := some ⟨g, 64 * x, none⟩) rfl rfl Tryd.underlying80) (hK _ _ ?_)
          clear hK K
          refine wpAnyIn_ready (rs := [0, 3]) (by kernel_rfl) (by simp) (AllReadyIn.cons rfl (fun K hK => ?sa3) (AllReadyIn.cons rfl (fun K hK => ?sb3) AllReadyIn.nil))
          case' sa3 =>
            refine stepIn_value (by simp [Region.wanted]) (by simp [Oper.about]) (by intro c hc; cases hc) (exec_load rfl rfl HI1.out.drew.range Tryd.underlying75 rfl (by rw [cw_size]; exact size8)) (hK _ _ ?_)
            clear hK K
            refine wpAnyIn_ready (rs := [3]) (by kernel_rfl) (by simp) (AllReadyIn.cons rfl (fun K hK => ?_) AllReadyIn.nil)
            refine stepIn_value (by simp [Region.wanted]) (by simp [Oper.about]) (by intro c hc; cases hc) (exec_load rfl rfl HRG.out Tryd.underlying80 rfl (by rw [cb_size, HBL.out]; exact sizeSec)) (hK _ _ ?_)
            clear hK K
          case' sb3 =>
            refine stepIn_value (by simp [Region.wanted]) (by simp [Oper.about]) (by intro c hc; cases hc) (exec_load rfl rfl HRG.out Tryd.underlying80 rfl (by rw [cb_size, HBL.out]; exact sizeSec)) (hK _ _ ?_)
            clear hK K
            refine wpAnyIn_ready (rs := [0]) (by kernel_rfl) (by simp) (AllReadyIn.cons rfl (fun K hK => ?_) AllReadyIn.nil)
            refine stepIn_value (by simp [Region.wanted]) (by simp [Oper.about]) (by intro c hc; cases hc) (exec_load rfl rfl HI1.out.drew.range Tryd.underlying75 rfl (by rw [cw_size]; exact size8)) (hK _ _ ?_)
            clear hK K
      all_goals
        refine wpAnyIn_ready (rs := [4]) (by kernel_rfl) (by simp) (AllReadyIn.cons rfl (fun K hK => ?_) AllReadyIn.nil)
        rw [if_pos (by simp [Region.wanted])]
        gi_wp2_with fail
      all_goals
        refine ⟨trivial, (CallsIn.inRound l9 (callsIn_wide.2 HC.out)).mono ?_⟩
        rintro e w6 ⟨rfl, hb6⟩
        have hb6' := bel_call hb6
        have hbk6 : Bk w6 (w.heap.size + 1) 75 (cw (foldN p pre).list) := HI1.out.below hb6' hI1l
        refine hK _ _ ?_
        clear hK K
        refine wpAnyIn_ready (rs := [5]) (by kernel_rfl) (by simp) (AllReadyIn.cons rfl (fun K hK => ?_) AllReadyIn.nil)
        refine stepIn_skip (by simp [Region.wanted]) (by simp [Oper.about]) (by intro c hc; cases hc) (exec_store (ds := cw (stepN kL (foldN p pre) (blockN p x)).list) rfl rfl rfl hbk6 (by simp [cw_size, Wd.list]) (by rw [cw_size]; exact size8) (cw_one _)) (hK _ _ ?_)
        refine wpAnyIn_done (by kernel_rfl) ?_ _
        have hk9 : Keeps S W9 (w6.setRow (w.heap.size + 1) (cw (stepN kL (foldN p pre) (blockN p x)).list)) := (Keeps.of_below hb6' (fun b hb => Nat.lt_of_lt_of_le (hSw b hb) HI2.out.size)).setRow hng _
        show KeepsFrom _ _ _ ∧ Keeps S _ _ ∧ _ ∧ _
        exact ⟨((keepsOthers_below hb6').trans (keepsOthers_setRow w6 _ _ _ _ hbk6)).from _, hk9, by rw [HFS.out]; exact hbk6.setRow_same _, HI2.out.trans hk9⟩
    case done =>
      rintro D ys W9 hD rfl ⟨h1, h2⟩ hK
      rw [foldN_all] at h1
      have hok := blocksN_ok p nb
      have HR := hide ((h2.block _ hSr).trans K3 : Bk W9 w.heap.size 24 (cb (List.replicate 32 0)))
      have HB := hide (hb0.trans (h2.below hSn))
      have HKD := hide hK
      have H1 := hide h1
      have hwr : w.heap.size < W9.heap.size := by have := HB.out.size; have := h1.lt; omega
      clear h1 h2 hK
      generalize blocksN p nb = s at *
      gi_wp2_with ((with_reducible show wpListIn _ _ _ _ _ (⟨some 15, _, _, _, _, _⟩ :: _) _ _); refine holdB ?_)
      refine heldB (wpListIn_load_mid (by simp [Region.wanted]) 75 (.tmp 3) rfl (w.heap.size + 1) 0 rfl _ _ H1.out.range Tryd.underlying75 rfl (by rw [Array.length_toList, cw_size]; exact size8) ?_)
      rw [Array.toArray_toList]
      gi_wp2_with fail
      refine ⟨trivial, (callsIn_wide.2 (flat_any s.list W9 rfl (wd_w32 hok))).mono ?_⟩
      rintro e W8 ⟨rfl, hb8⟩
      have hDl : D < W9.heap.size := (Array.getElem?_eq_some_iff.1 HKD.out).1
      have HKD8 := hide ((hb8.block D hDl).trans HKD.out)
      have HR8 := hide (Bk.below HR.out hb8 hwr)
      have HB8 := hide (HB.out.trans (hb8.mono HB.out.size))
      have hDw : D ≠ w.heap.size := by have := hb0.size; omega
      have hD0 : w.heap.size ≤ D := by have := hb0.size; omega
      clear HKD HR HB H1 hb8 K1 K3 K4 K5 hown
      rw [← hsum.out]
      have hsz8 := sumB_length l
      obtain ⟨fs, hfs⟩ : ∃ fs, fs = sumB l := ⟨_, rfl⟩
      rw [← hfs] at hsz8 ⊢
      have HFS := hide hfs; have HLN := hide hsz8
      clear hfs hsz8
      gi_wp2_with ((with_reducible show wpListIn _ _ _ _ _ (⟨none, .store _ _ _, _, _, _, _⟩ :: _) _ _); refine holdB ?_)
      refine heldB (wpListIn_store_wide (by simp [Region.wanted]) 24 (.tmp 2) (.tmp 16) rfl w.heap.size 0 (cb fs) rfl rfl 24 _ HR8.out (by rw [cb_size, cb_size, HLN.out]; simp) (by rw [cb_size, HLN.out]; exact size32) (cb_one _) ?_)
      intro W7 h7
      rw [setRow_all (by rw [cb_size, cb_size, HLN.out]; simp)] at h7
      have HR7 := hide (h7.out ▸ HR8.out.setRow_same (cb fs) : Bk W7 w.heap.size 24 (cb fs))
      have hK7 : W7.heap[D]? = some (.deferred (some [])) := by rw [h7.out]; exact (YtoiffchhfnbooaaDoor.setRow_other' W8 w.heap.size D (cb fs) hDw).trans HKD8.out
      have HB7 := hide (h7.out ▸ below_setRow HB8.out (Nat.le_refl _) (cb fs) : Below w.heap.size w W7)
      clear h7 HR8 HKD8 HB8
      have HK7 := hide hK7
      clear hK7
      gi_wp2
      have hK7 := HK7.out
      refine ⟨by simp, .inl ⟨_, _, rfl, run_takeDeferred hK7, ?_⟩⟩
      have hkp : ∀ r, some D = some r → ∃ o : Obj, W7.heap[r]? = some o ∧ o.isCells = false := fun r e => by cases e; exact ⟨_, hK7, rfl⟩
      have hgb := grownBy_putObj' W7 D (.deferred none)
      have HRf := HR7.out.keptW hgb hkp
      refine ⟨.agg (cb fs), results_cell (a := ⟨w.heap.size, 0, none⟩) rfl rfl (HRf.load Tryd.underlying24 rfl (by rw [cb_size, HLN.out]; exact size32)), ⟨by rw [HFS.out], ?_⟩⟩
      exact HB7.out.grown hgb HB7.out.size (fun k e => by cases e; exact hD0)
    case stop =>
      intro D c' pre W _ _ h _
      exact h.elim
end Go.Proofs.YtoiffchhfnbooaaDoor
