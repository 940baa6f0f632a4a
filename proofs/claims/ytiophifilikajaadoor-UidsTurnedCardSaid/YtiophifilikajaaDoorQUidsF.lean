/-
  strings.SplitSeq at a separator of one byte: the iterator over a text's parts, which shortens the text that it has captured.
-/
import Derived.Test.YtiophifilikajaaDoorQUidsLib
import Derived.Test.YtiophifilikajaaDoorQIterBox
import Derived.Laws.EntriesVeiled
import Derived.RangeFuncBox
import Derived.Test.YtiophifilikajaaDoorQUidsE
import Derived.Test.YtiophifilikajaaDoorQUidsC
namespace Go.Proofs.YtiophifilikajaaDoor
set_option linter.unusedVariables false
set_option linter.unusedSimpArgs false
open Go.RowKit Go.Shelf
set_option linter.unusedVariables false
set_option linter.unusedSimpArgs false
attribute [local go_sem] Oper.semAt_some

/-- a part: a list of bytes, not too long -/
abbrev Pt := { p : List Nat // p.length ≤ 1000000 ∧ ∀ x ∈ p, x < 256 }
def encP (x : Pt) : Array Value := #[.string (strOf x.1)]
/-- how long the text is that lies in box b -/
def boxLen (w : World) (b : Nat) : Nat := match w.cell? ⟨b, 0, none⟩ with | some (.string t) => t.size | _ => 0
theorem boxLen_of {w : World} {b : Nat} {t : ByteArray} (h : w.cell? ⟨b, 0, none⟩ = some (.string t)) : boxLen w b = t.size := by unfold boxLen; rw [h]

set_option maxHeartbeats 1000000 in
theorem splitSeq_any (s : ByteArray) (w : World) : CallsIn Fence.wide 3 Tryd.prog 24 #[.string s, .string ⟨#[44]⟩] w fun e w' =>
    e = .returned (.func (.func 45) #[] #[.pointer (some ⟨w.heap.size + 1, 0, none⟩), .pointer (some ⟨w.heap.size, 0, none⟩), .pointer (some ⟨w.heap.size + 2, 0, none⟩)]) ∧
      w' = ((w.alloc (.cells #[.string s] 9)).alloc (.cells #[.string ⟨#[44]⟩] 9)).alloc (.cells #[.int .i64 0] 3) := by
  have h1 : CallsIn Fence.wide 2 Tryd.prog 33 #[.string s, .string ⟨#[44]⟩, .int .i64 0] w fun e w' =>
      e = .returned (.func (.func 45) #[] #[.pointer (some ⟨w.heap.size + 1, 0, none⟩), .pointer (some ⟨w.heap.size, 0, none⟩), .pointer (some ⟨w.heap.size + 2, 0, none⟩)]) ∧
      w' = ((w.alloc (.cells #[.string s] 9)).alloc (.cells #[.string ⟨#[44]⟩] 9)).alloc (.cells #[.int .i64 0] 3) := by
    refine callsIn_of_wp Tryd.func33 rfl trivial ?_ rfl
    simp only [Tryd.ntmps33, List.size_toArray, List.length_cons, List.length_nil, Nat.reduceAdd, Nat.reduceSub, Array.replicate_succ, Array.replicate_zero, List.push_toArray, List.append_toArray, List.nil_append, List.cons_append]
    gi_wp2
    go_ret
    exact ⟨rfl, rfl⟩
  have H1 := hide h1
  clear h1
  refine callsIn_of_wp Tryd.func24 rfl trivial ?_ rfl
  simp only [Tryd.ntmps24, List.size_toArray, List.length_cons, List.length_nil, Nat.reduceAdd, Nat.reduceSub, Array.replicate_succ, Array.replicate_zero, List.push_toArray, List.append_toArray, List.nil_append, List.cons_append]
  gi_wp2_with fail
  refine ⟨trivial, H1.out.mono ?_⟩
  rintro e w' ⟨rfl, rfl⟩
  gi_wp2
  go_ret
  exact ⟨rfl, rfl⟩

set_option maxRecDepth 100000 in
set_option maxHeartbeats 4000000 in
/-- the closure hands the parts, in order -/
theorem splitSeq1_box (S : Nat → Prop) (s : ByteArray) (hs : s.size ≤ 1000000) (xs : List Pt) (hxs : xs.map (·.1) = splitL 44 (nats s)) (bp bs bv : Nat) (w : World)
    (cp : w.cell? ⟨bp, 0, none⟩ = some (.string ⟨#[44]⟩)) (cs : w.cell? ⟨bs, 0, none⟩ = some (.string s)) (cv : w.cell? ⟨bv, 0, none⟩ = some (.int .i64 0)) (fs : w.frozen? ⟨bs, 0, none⟩ = false)
    (hSp : S bp) (hSs : S bs) (hSv : S bv) (hps : bp ≠ bs) (hvs : bv ≠ bs) :
    SeqBox Fence.wide 2 Tryd.prog 45 #[.pointer (some ⟨bp, 0, none⟩), .pointer (some ⟨bs, 0, none⟩), .pointer (some ⟨bv, 0, none⟩)] encP (Keeps S) bs xs w := by
  intro l J Jx hJb hY W hK h0
  have HP := hide ((hK.cell (p := ⟨bp, 0, none⟩) hSp).trans cp)
  have HV := hide ((hK.cell (p := ⟨bv, 0, none⟩) hSv).trans cv)
  have HCS := hide ((hK.cell (p := ⟨bs, 0, none⟩) hSs).trans cs)
  have HFS := hide ((hK.frozen (p := ⟨bs, 0, none⟩) hSs).trans fs)
  have HXS := hide hxs
  have HSP := hide hSp; have HSS := hide hSs; have HSV := hide hSv; have HPS := hide hps; have HVS := hide hvs
  have HJB := hide hJb
  have HY := hide hY
  have H0 := hide h0
  have cp0 := HP.out
  clear cp cs cv fs hK hxs hSp hSs hSv hps hvs hJb hY h0
  refine callsIn_of_wp Tryd.func45 rfl trivial ?_ rfl
  simp only [Tryd.ntmps45, List.size_toArray, List.length_cons, List.length_nil, Nat.reduceAdd, Nat.reduceSub, Array.replicate_succ, Array.replicate_zero, List.push_toArray, List.append_toArray, List.nil_append, List.cons_append]
  gi_wp2
  clear cp0
  gi_loopw [7, 8] (fun _ _ wr => ∃ (k : Nat) (t : ByteArray), wr.cell? ⟨bs, 0, none⟩ = some (.string t) ∧ wr.frozen? ⟨bs, 0, none⟩ = false ∧ wr.cell? ⟨bp, 0, none⟩ = some (.string ⟨#[44]⟩) ∧ wr.cell? ⟨bv, 0, none⟩ = some (.int .i64 0) ∧
      t.size ≤ s.size ∧ (xs.drop k).map (·.1) = splitL 44 (nats t) ∧ J (xs.take k) wr) (fun _ _ wr => boxLen wr bs)
  case atStart => exact ⟨0, s, HCS.out, HFS.out, HP.out, HV.out, Nat.le_refl _, by rw [List.drop_zero]; exact HXS.out, H0.out⟩
  case round =>
    obtain ⟨k, t, hcs, hfs, hcp, hcv, hts, hrest, hJ⟩ := hrel
    have HJ := hide hJ
    have HR := hide hrest
    have CI := hide (fun (W : World) => index1_any t 44 W)
    clear hJ hrest
    rcases indexB_cut t 44 with ⟨h1, h2⟩ | ⟨i, h1, h2, h3, h4⟩
    · replace h1 : ∀ x ∈ nats t, x ≠ 44 := h1
      have H2 := hide h2
      have hone := HR.out
      rw [splitL_none h1] at hone
      obtain ⟨x, hx⟩ : ∃ x, xs.drop k = [x] := by
        cases hd : xs.drop k with
        | nil => rw [hd] at hone; cases hone
        | cons x r =>
          cases r with
          | nil => exact ⟨x, rfl⟩
          | cons y r => rw [hd] at hone; simp at hone
      have hx1 : x.1 = nats t := by rw [hx] at hone; exact List.head_eq_of_cons_eq hone
      have hall : xs.take k ++ [x] = xs := by rw [← hx, List.take_append_drop]
      have HALL := hide hall
      have henc : encP x = #[.string t] := by unfold encP; rw [hx1, strOf_nats]
      have HYX := HY.out (xs.take k) x wr HJ.out (by rw [hall]; exact List.prefix_refl _)
      rw [henc, hall] at HYX
      have HYX := hide HYX
      clear h1 h2 hone hx hx1 hall henc HY
      gi_wp2_with fail
      refine ⟨trivial, (callsIn_wide.2 (CI.out wr)).mono ?_⟩
      rintro e w' ⟨rfl, rfl⟩
      rw [H2.out]
      obtain ⟨fn, tmps, assign, body, hy, hR⟩ := HYX.out
      have HRR := hide hR
      clear hR HYX H2
      gi_wp2
      refine HRR.out.mono ?_
      rintro e W3 (⟨rfl, hJ3, hk3⟩ | ⟨rfl, hJx3⟩)
      · gi_wp2
        go_end0
        exact ⟨⟨_, rfl⟩, .inl hJ3⟩
      · gi_wp2
        go_end0
        exact ⟨⟨_, rfl⟩, .inr ⟨xs, List.prefix_refl _, hJx3⟩⟩
    · replace h3 : ∀ x ∈ (nats t).take i, x ≠ 44 := h3
      replace h4 : nats t = (nats t).take i ++ 44 :: (nats t).drop (i + 1) := h4
      have H1 := hide h1
      have hsplit := HR.out
      rw [h4, splitL_hit _ h3] at hsplit
      obtain ⟨x, r, hx⟩ : ∃ x r, xs.drop k = x :: r := by
        cases hd : xs.drop k with
        | nil => rw [hd] at hsplit; cases hsplit
        | cons x r => exact ⟨x, r, rfl⟩
      rw [hx, List.map_cons] at hsplit
      injection hsplit with hx1 hr1
      have hkx : xs[k]? = some x := by
        have := congrArg List.head? hx
        rw [List.head?_drop] at this
        exact this
      have htk : xs.take (k + 1) = xs.take k ++ [x] := by rw [List.take_add_one, hkx]; rfl
      have hdr : xs.drop (k + 1) = r := by rw [← List.drop_drop, hx]; rfl
      have henc : encP x = #[.string (t.extract 0 i)] := by
        unfold encP
        have : nats (t.extract 0 i) = (nats t).take i := by rw [nats_extract]; simp
        rw [hx1, ← this, strOf_nats]
      have HDR : Hid ((xs.drop (k + 1)).map (·.1) = splitL 44 (nats (t.extract (i + 1) t.size))) := hide (by
        rw [hdr, hr1, nats_extract, List.take_of_length_le]
        rw [List.length_drop, nats_length]; exact Nat.le_refl _)
      have HYX := HY.out (xs.take k) x wr HJ.out (by rw [← htk]; exact List.take_prefix _ _)
      rw [henc, ← htk] at HYX
      have HYX := hide HYX
      have c1 : (0 : Int) ≤ (i : Int) := by omega
      have c2 : (i : Int) ≤ (t.size : Int) := by omega
      have c3 : (0 : Int) ≤ (i : Int) + 1 := by omega
      have c4 : (i : Int) + 1 ≤ (t.size : Int) := by omega
      have c5 : IntKind.i64.wrap ((i : Int) + 1) = (i : Int) + 1 := IntWalk.i64_in _ (by omega)
      have c6 : ((i : Int) + 1).toNat = i + 1 := by omega
      have c7 : IntKind.i64.wrap (i : Int) = (i : Int) := IntWalk.i64_in _ (by omega)
      clear h1 h3 h4 hx hx1 hr1 hkx htk hdr henc HY
      gi_wp2_with fail
      refine ⟨trivial, (callsIn_wide.2 (CI.out wr)).mono ?_⟩
      rintro e w' ⟨rfl, rfl⟩
      rw [H1.out]
      obtain ⟨fn, tmps, assign, body, hy, hR⟩ := HYX.out
      have HRR := hide hR
      clear hR HYX H1
      gi_wp2
      refine HRR.out.mono ?_
      rintro e W3 (⟨rfl, hJ3, hk3⟩ | ⟨rfl, hJx3⟩)
      · have d1 := (hk3.cell (p := ⟨bs, 0, none⟩) HSS.out).trans hcs
        have d2 := (hk3.frozen (p := ⟨bs, 0, none⟩) HSS.out).trans hfs
        have d3 := (hk3.cell (p := ⟨bp, 0, none⟩) HSP.out).trans hcp
        have d4 := (hk3.cell (p := ⟨bv, 0, none⟩) HSV.out).trans hcv
        have HB4 := hide (boxLen_of hcs)
        have HJ3 := hide (HJB.out _ _ (.string (t.extract (i + 1) t.size)) hJ3)
        have e1 : Hid ((W3.setCell ⟨bs, 0, none⟩ (.string (t.extract (i + 1) t.size))).cell? ⟨bs, 0, none⟩ = some (.string (t.extract (i + 1) t.size))) := hide (World.cell?_setCell_same' _ _ _ (by rw [d1]; rfl))
        have e2 : Hid ((W3.setCell ⟨bs, 0, none⟩ (.string (t.extract (i + 1) t.size))).frozen? ⟨bs, 0, none⟩ = false) := hide (by rw [World.frozen?_setCell]; exact d2)
        have e3 : Hid ((W3.setCell ⟨bs, 0, none⟩ (.string (t.extract (i + 1) t.size))).cell? ⟨bp, 0, none⟩ = some (.string ⟨#[44]⟩)) := hide ((World.cell?_of_block (Below.heap_setCell _ _ _ bp HPS.out)).trans d3)
        have e4 : Hid ((W3.setCell ⟨bs, 0, none⟩ (.string (t.extract (i + 1) t.size))).cell? ⟨bv, 0, none⟩ = some (.int .i64 0)) := hide ((World.cell?_of_block (Below.heap_setCell _ _ _ bv HVS.out)).trans d4)
        have hsz : (t.extract (i + 1) t.size).size = t.size - (i + 1) := by rw [ByteArray.size_extract]; omega
        have HSZ := hide hsz
        clear hk3 hJ3 hcs hfs hcp hcv hy hsz
        gi_wp2
        go_roundw
        case rel => exact ⟨k + 1, t.extract (i + 1) t.size, e1.out, e2.out, e3.out, e4.out, by rw [HSZ.out]; omega, HDR.out, HJ3.out⟩
        case measure => rw [boxLen_of e1.out, HB4.out, HSZ.out]; omega
      · gi_wp2
        refine bodyPost_ret (results_none rfl _ _ _) rfl ?_
        exact ⟨⟨_, rfl⟩, .inr ⟨_, List.take_prefix _ _, hJx3⟩⟩
end Go.Proofs.YtiophifilikajaaDoor

/-
  Contracts over package uids: a text's set.
-/
namespace Go.Proofs.YtiophifilikajaaDoor
set_option linter.unusedVariables false
set_option linter.unusedSimpArgs false
open Go.RowKit Go.Shelf
set_option linter.unusedVariables false
set_option linter.unusedSimpArgs false
attribute [local go_sem] Oper.semAt_some

/-- the two results of a parse -/
def ParseIs (w : World) (l : List Nat) (e : Ending) (w' : World) : Prop := ∃ A n c, e = .returned (.tuple #[.slice A n c, .int .i64 (parsE l)]) ∧ ColK 2 rgC w' w'.heap.size A n (parsV l) ∧ Below w.heap.size w w'
theorem parsE_long {l : List Nat} (h : 2000 < l.length) : parsE l = 4 ∧ parsV l = [] := by
  have e : parsE l = 4 := by unfold parsE; rw [if_pos h]
  refine ⟨e, ?_⟩
  unfold parsV; rw [e, if_neg (by omega)]
theorem parsE_bad {l : List Nat} (h : ¬ 2000 < l.length) (hb : rgsB (splitL 44 l) = false) : parsE l = 3 ∧ parsV l = [] := by
  have e : parsE l = 3 := by unfold parsE; rw [if_neg h, hb, if_neg Bool.false_ne_true]
  refine ⟨e, ?_⟩
  unfold parsV; rw [e, if_neg (by omega)]
theorem parsE_many {l : List Nat} (h : ¬ 2000 < l.length) (hb : rgsB (splitL 44 l) = true) (hn : 60 < (splitL 44 l).length) : parsE l = 4 ∧ parsV l = [] := by
  have e : parsE l = 4 := by unfold parsE; rw [if_neg h, hb, if_pos rfl, if_pos hn]
  refine ⟨e, ?_⟩
  unfold parsV; rw [e, if_neg (by omega)]
theorem parsE_good {l : List Nat} (h : ¬ 2000 < l.length) (hb : rgsB (splitL 44 l) = true) (hn : ¬ 60 < (splitL 44 l).length) : parsE l = 0 ∧ parsV l = rgsV (splitL 44 l) := by
  have e : parsE l = 0 := by unfold parsE; rw [if_neg h, hb, if_pos rfl, if_neg hn]
  refine ⟨e, ?_⟩
  unfold parsV; rw [if_pos e]

set_option maxHeartbeats 1000000 in
theorem uParse_long (s : ByteArray) (hs : s.size ≤ 140737488355328) (h : 2000 < s.size) (w : World) : Calls Tryd.prog 9 #[.string s] w (ParseIs w (nats s)) := by
  have h1 : (2000 : Int) < (s.size : Int) := by omega
  obtain ⟨he, hv⟩ := parsE_long (l := nats s) (by rw [nats_length]; exact h)
  have HE := Lib.hid he
  have HV := Lib.hid hv
  clear he hv
  go_enter Tryd.func9, Tryd.ntmps9
  go_wp2_with fail
  refine bodyPost_ret (v := .tuple #[.slice none 0 0, .int .i64 4]) (by simp [results, Tryd.results9, go_sem]) rfl ⟨none, 0, 0, by rw [HE.out], by rw [HV.out]; exact ColK.nil, ?_⟩
  exact ((Below.refl _ _).alloc (Nat.le_refl _) _).alloc (by simp) _

/-- what holds between two parts; B: the first block of the call's own -/
def PI (w : World) (B : Nat) (pre : List Pt) (W : World) : Prop :=
  (Boxed W B 22 (.slice none 0 0) ∧ Boxed W (B + 1) 24 (.int .i64 0) ∧ (∃ v, Boxed W (B + 4) 9 v) ∧ Boxed W (B + 5) 9 (.string ⟨#[44]⟩) ∧ Boxed W (B + 6) 3 (.int .i64 0)) ∧
  (∃ A n c, Boxed W (B + 3) 22 (.slice A n c) ∧ OwnK 2 rgC W (B + 2) 43 A n c (rgsV (pre.map (·.1)))) ∧ rgsB (pre.map (·.1)) = true ∧ Below B w W
/-- what holds where a part is no range -/
def PX (w : World) (B : Nat) (c : Code) (pre : List Pt) (W : World) : Prop :=
  c = .ret ∧ Boxed W B 22 (.slice none 0 0) ∧ Boxed W (B + 1) 24 (.int .i64 3) ∧ rgsB (pre.map (·.1)) = false ∧ Below B w W
theorem boxed_turn {W W' : World} {B : Nat} {t : TypeId} {v : Value} {row : Option Nat} (h : Boxed W B t v) (hg : W.grownBy W' row) (hr : ∀ r, row = some r → ∃ o : Obj, W.heap[r]? = some o ∧ o.isCells = false) : Boxed W' B t v :=
  h.kept hg fun e => by
    obtain ⟨o, ho, hc⟩ := hr B e.symm
    rw [show W.heap[B]? = _ from h] at ho
    cases ho; cases hc
theorem ownK_turn {α : Type} {k : Nat} {f : α → List Value} {W W' : World} {base n c : Nat} {e : TypeId} {A : Option Addr} {l : List α} {row : Option Nat} (h : OwnK k f W base e A n c l) (hg : W.grownBy W' row) (hr : ∀ r, row = some r → ∃ o : Obj, W.heap[r]? = some o ∧ o.isCells = false) : OwnK k f W' base e A n c l := by
  refine ⟨h.1.kept hg ?_, h.2⟩
  rcases h.1.2 with ⟨h0, _⟩ | ⟨g, cap, cur, hv, _, hgb, _⟩
  · left; rw [h0]; rfl
  · refine .inr fun e' => ?_
    rw [hv] at e'
    obtain ⟨o, ho, hc⟩ := hr g (by simpa [Value.ownBlock] using e'.symm)
    rw [hgb] at ho; cases ho; cases hc
theorem ownK_box {α : Type} {k : Nat} {f : α → List Value} {W : World} {base n c b : Nat} {e t : TypeId} {A : Option Addr} {l : List α} {u : Value} (h : OwnK k f W base e A n c l) (hb : Boxed W b t u) (hte : t ≠ e) (v : Value) : OwnK k f (W.setCell ⟨b, 0, none⟩ v) base e A n c l :=
  ⟨h.1.kept (grownBy_setCell' W b v) (.inr (hb.not_row hte h.1).symm), h.2⟩
theorem PI.own (w : World) (B B' : Nat) (hw : B ≤ w.heap.size) (hB : B ≤ B') : OwnFrom B' (PI w B) := by
  rintro pre W W' row ⟨⟨b0, b1, ⟨v, b4⟩, b5, b6⟩, ⟨A, n, c, b3, ho⟩, hr, hb⟩ hg hrow
  have hrow' : ∀ r, row = some r → ∃ o : Obj, W.heap[r]? = some o ∧ o.isCells = false := fun r e => (hrow r e).2
  exact ⟨⟨boxed_turn b0 hg hrow', boxed_turn b1 hg hrow', ⟨v, boxed_turn b4 hg hrow'⟩, boxed_turn b5 hg hrow', boxed_turn b6 hg hrow'⟩, ⟨A, n, c, boxed_turn b3 hg hrow', ownK_turn ho hg hrow'⟩, hr, hb.grown hg (Nat.le_trans hw hb.size) (fun k e => Nat.le_trans hB (hrow k e).1)⟩
theorem PX.own (w : World) (B B' : Nat) (hw : B ≤ w.heap.size) (hB : B ≤ B') (c : Code) : OwnFrom B' (PX w B c) := by
  rintro pre W W' row ⟨h0, b0, b1, hr, hb⟩ hg hrow
  have hrow' : ∀ r, row = some r → ∃ o : Obj, W.heap[r]? = some o ∧ o.isCells = false := fun r e => (hrow r e).2
  exact ⟨h0, boxed_turn b0 hg hrow', boxed_turn b1 hg hrow', hr, hb.grown hg (Nat.le_trans hw hb.size) (fun k e => Nat.le_trans hB (hrow k e).1)⟩
theorem PI.set (w : World) (B : Nat) (pre : List Pt) (W : World) (v : Value) (h : PI w B pre W) : PI w B pre (W.setCell ⟨B + 4, 0, none⟩ v) := by
  obtain ⟨⟨b0, b1, ⟨v0, b4⟩, b5, b6⟩, ⟨A, n, c, b3, ho⟩, hr, hb⟩ := h
  exact ⟨⟨b0.other (by omega) v, b1.other (by omega) v, ⟨v, b4.set v⟩, b5.other (by omega) v, b6.other (by omega) v⟩, ⟨A, n, c, b3.other (by omega) v, ownK_box ho b4 (by decide) v⟩, hr, hb.setCell (p := ⟨B + 4, 0, none⟩) (by show B ≤ B + 4; omega) v⟩
theorem boxed_below {W W' : World} {B : Nat} {t : TypeId} {v : Value} (h : Boxed W B t v) (hb : Below W.heap.size W W') : Boxed W' B t v := (hb.block B h.lt).trans h
theorem PI.below {w W W' : World} {B : Nat} {pre : List Pt} (hw : B ≤ w.heap.size) (h : PI w B pre W) (h2 : Below W.heap.size W W') : PI w B pre W' := by
  obtain ⟨⟨b0, b1, ⟨v0, b4⟩, b5, b6⟩, ⟨A, n, c, b3, ho⟩, hr, hb⟩ := h
  exact ⟨⟨boxed_below b0 h2, boxed_below b1 h2, ⟨v0, boxed_below b4 h2⟩, boxed_below b5 h2, boxed_below b6 h2⟩, ⟨A, n, c, boxed_below b3 h2, ho.below h2⟩, hr, hb.trans (h2.mono (Nat.le_trans hw hb.size))⟩
theorem rgs_next {pre : List Pt} {x : Pt} {r : Rg} (h : rgsB (pre.map (·.1)) = true) (hr : rangeO x.1 = some r) : rgsB ((pre ++ [x]).map (·.1)) = true ∧ rgsV ((pre ++ [x]).map (·.1)) = rgsV (pre.map (·.1)) ++ [r] := by
  rw [List.map_append, List.map_singleton, rgsB_snoc, h, rgsV_snoc _ hr]
  exact ⟨by unfold rgB; rw [hr]; rfl, rfl⟩
theorem rgs_stop {pre : List Pt} {x : Pt} (hr : rangeO x.1 = none) : rgsB ((pre ++ [x]).map (·.1)) = false := by
  rw [List.map_append, List.map_singleton, rgsB_snoc]
  unfold rgB; rw [hr]; simp
theorem below_keepsOthers {W W' : World} (h : Below W.heap.size W W') : KeepsOthers W W' := ⟨h.size, fun k o hk _ => (h.block k (Array.getElem?_eq_some_iff.1 hk).1).trans hk⟩
theorem load_ranges {w : World} {b : Nat} {A : Option Addr} {n c : Nat} (h : Boxed w b 22 (.slice A n c)) : (loadVar 22 ⟨b, 0, none⟩).run Tryd.prog w = .ok (.slice A n c) w := by
  have := h.cell
  simp [go_sem, this]
theorem load_errno {w : World} {b : Nat} {z : Int} (h : Boxed w b 24 (.int .i64 z)) : (loadVar 24 ⟨b, 0, none⟩).run Tryd.prog w = .ok (.int .i64 z) w := by
  have := h.cell
  simp [go_sem, this]
theorem results_two {P : Program} {fn : Func} {p q : Tmp} {t1 t2 : TypeId} (h : fn.results = #[.cell p t1, .cell q t2]) (tmps : Array Value) (w : World) (a1 a2 : Addr) (v1 v2 : Value)
    (hp : tmps.getD p undef = .pointer (some a1)) (hq : tmps.getD q undef = .pointer (some a2)) (h1 : (loadVar t1 a1).run P w = .ok v1 w) (h2 : (loadVar t2 a2).run P w = .ok v2 w) :
    (results fn tmps).run P w = .ok (.tuple #[v1, v2]) w := by
  have hp' : tmps[p]?.getD undef = .pointer (some a1) := by simpa using hp
  have hq' : tmps[q]?.getD undef = .pointer (some a2) := by simpa using hq
  simp [results, h, hp', hq', asAddr, h1, h2]

theorem boxed_new' (W : World) (B : Nat) (t : TypeId) (v : Value) (h : B = W.heap.size) : Boxed (W.alloc (.cells #[v] t)) B t v := by subst h; exact Boxed.new W t v
/-- the parts of a text -/
theorem parts_of (l : List Nat) (hl : l.length ≤ 2000) (hb : ∀ x ∈ l, x < 256) : ∃ xs : List Pt, xs.map (·.1) = splitL 44 l ∧ xs.length ≤ 2001 := by
  have h1 : ∀ p ∈ splitL 44 l, p.length ≤ 1000000 ∧ ∀ x ∈ p, x < 256 := fun p hp => ⟨by have := splitL_small p hp; omega, splitL_lt hb p hp⟩
  refine ⟨(splitL 44 l).attach.map fun x => ⟨x.1, h1 x.1 x.2⟩, ?_, ?_⟩
  · rw [List.map_map]
    exact List.attach_map_subtype_val _
  · have := splitL_sum 44 l
    rw [List.length_map, List.length_attach]
    omega

set_option maxRecDepth 100000 in
set_option maxHeartbeats 8000000 in
theorem uParse_main (s : ByteArray) (h : ¬ 2000 < s.size) (w : World) (hS : Std w) : Calls Tryd.prog 9 #[.string s] w (ParseIs w (nats s)) := by
  have h1 : ¬ (2000 : Int) < (s.size : Int) := by omega
  have hn2 : ¬ 2000 < (nats s).length := by rw [nats_length]; exact h
  obtain ⟨xs, hxs, hxl⟩ := parts_of (nats s) (by omega) (nats_lt s)
  obtain ⟨i0, hi0, hz0, hz1, hz2⟩ := info_parts info_rg
  have HN := hide hn2
  have HXS := hide hxs
  have HST := hide hS
  clear hn2 hxs hS
  refine (callsIn_wide (n := 3)).1 ?_
  refine callsIn_of_wp_marks Tryd.func9 rfl trivial ?_ rfl
  simp only [Tryd.ntmps9, List.size_toArray, List.length_cons, List.length_nil, Nat.reduceAdd, Nat.reduceSub, Array.replicate_succ, Array.replicate_zero, List.push_toArray, List.append_toArray, List.nil_append, List.cons_append]
  gi_wp2_with fail
  refine ⟨trivial, (callsIn_wide.2 (callsIn_wide.1 (splitSeq_any s _))).mono ?_⟩
  rintro e W2 ⟨rfl, rfl⟩
  gi_wp2_with fail
  refine wpIn_over (fun W0 => PI w w.heap.size [] W0 ∧ Boxed W0 (w.heap.size + 4) 9 (.string s) ∧ W0.heap.size = w.heap.size + 7) ?hF ?hw
  case hF =>
    refine ⟨⟨⟨?_, ?_, ⟨.string s, ?_⟩, ?_, ?_⟩, ⟨some ⟨w.heap.size + 1 + 1, 0, none⟩, 0, 0, ?_, ?_⟩, rfl, ?_⟩, ?_, ?_⟩
    · exact ((((((Boxed.new w _ _).alloc _).alloc _).alloc _).alloc _).alloc _).alloc _
    · exact (((((boxed_new' _ _ _ _ (by simp)).alloc _).alloc _).alloc _).alloc _).alloc _
    · exact (((boxed_new' _ _ _ _ (by simp)).alloc _)).alloc _
    · exact (boxed_new' _ _ _ _ (by simp)).alloc _
    · exact boxed_new' _ _ _ _ (by simp)
    · exact ((((boxed_new' _ _ _ _ (by simp)).alloc _).alloc _)).alloc _
    · refine OwnK.alloc (OwnK.alloc (OwnK.alloc (OwnK.alloc ?_ _) _) _) _
      refine ⟨⟨rfl, .inr ⟨w.heap.size + 1 + 1, 0, #[], rfl, by omega, ?_, Nat.le_refl _, by unfold maxLen; omega, rfl, rfl⟩⟩, rfl, rgC_len⟩
      have := heap_alloc_new ((w.alloc (.cells #[.slice none 0 0] 22)).alloc (.cells #[.int .i64 0] 24)) (.cells #[] 43)
      simpa using this
    · exact ((((((((Below.refl _ _).alloc (Nat.le_refl _) _).alloc (by simp) _).alloc (by simp; omega) _).alloc (by simp; omega) _).alloc (by simp; omega) _).alloc (by simp; omega) _).alloc (by simp; omega) _)
    · exact (((boxed_new' _ _ _ _ (by simp)).alloc _)).alloc _
    · simp
  case hw =>
    rintro W0 ⟨hP, hBs, hsz⟩
    obtain ⟨⟨_, _, _, b5, b6⟩, _, _, hb0⟩ := id hP
    have hSp : (fun k => k = w.heap.size + 4 ∨ k = w.heap.size + 5 ∨ k = w.heap.size + 6) (w.heap.size + 5) := .inr (.inl rfl)
    have hSs : (fun k => k = w.heap.size + 4 ∨ k = w.heap.size + 5 ∨ k = w.heap.size + 6) (w.heap.size + 4) := .inl rfl
    have hSv : (fun k => k = w.heap.size + 4 ∨ k = w.heap.size + 5 ∨ k = w.heap.size + 6) (w.heap.size + 6) := .inr (.inr rfl)
    have hSw : ∀ b, (fun k => k = w.heap.size + 4 ∨ k = w.heap.size + 5 ∨ k = w.heap.size + 6) b → b < W0.heap.size := fun b hb => by rw [hsz]; rcases hb with rfl | rfl | rfl <;> omega
    have HP0 := hide hP
    clear hP
    refine wpIn_rangeBox (α := Pt) rfl (by omega) (gf := 45) (lb := #[.pointer (some ⟨w.heap.size + 5, 0, none⟩), .pointer (some ⟨w.heap.size + 4, 0, none⟩), .pointer (some ⟨w.heap.size + 6, 0, none⟩)]) rfl trivial
      (enters_of Tryd.func45 (by kernel_rfl) rfl)
      (splitSeq1_box (fun k => k = w.heap.size + 4 ∨ k = w.heap.size + 5 ∨ k = w.heap.size + 6) s (by omega) xs HXS.out (w.heap.size + 5) (w.heap.size + 4) (w.heap.size + 6) W0 b5.cell hBs.cell b6.cell hBs.frozen hSp hSs hSv (by omega) (by omega))
      (fun _ => rfl) Keeps.trans (keeps_putObj hSw) (fun o o' => ((Keeps.refl _ W0).alloc hSw o).alloc (fun b hb => by have := hSw b hb; simp; omega) o') (by rw [hsz]; omega)
      (PI w w.heap.size) (PX w w.heap.size) (PI.set w w.heap.size) (PI.own w w.heap.size W0.heap.size (Nat.le_refl _) hb0.size) (PX.own w w.heap.size W0.heap.size (Nat.le_refl _) hb0.size) HP0.out
      (fun x => { tmps := #[.string s, undef, .pointer (some ⟨w.heap.size, 0, none⟩), .pointer (some ⟨w.heap.size + 1, 0, none⟩), .pointer (some ⟨w.heap.size + 1 + 1 + 1, 0, none⟩), .string (strOf x.1), undef, undef, .string s, .int .i64 (s.size : Int), .bool false, .slice (some ⟨w.heap.size + 1 + 1, 0, none⟩) 0 0, .string s, .func (.func 45) #[] #[.pointer (some ⟨w.heap.size + 5, 0, none⟩), .pointer (some ⟨w.heap.size + 4, 0, none⟩), .pointer (some ⟨w.heap.size + 6, 0, none⟩)], .string (strOf x.1),
        undef, undef, undef, undef, undef, undef, undef, undef, undef, undef, undef, undef, undef, undef, undef], defers := [] }) ?assign ?body ?done ?stop
    case assign =>
      intro l x W K hK
      unfold encP
      gi_wp2
      exact hK
    case body =>
      rintro l pre x W hI hpx
      have hx3 := x.2.1
      have CR := ureadRange_any (strOf x.1) (by rw [strOf_size]; omega) W (HST.out.below hI.2.2.2)
      rw [nats_strOf _ x.2.2] at CR
      have HCR := hide CR
      have HI := hide hI
      have hpl : (pre ++ [x]).length ≤ 2001 := Nat.le_trans hpx.length_le hxl
      rw [List.length_append, List.length_singleton] at hpl
      clear CR hI hb0 b5 b6 hBs hpx
      gi_wp2_with fail
      refine ⟨trivial, (CallsIn.inRound l (callsIn_wide.2 HCR.out)).mono ?_⟩
      rintro e W3 ⟨y, z, q, rfl, hrg, hb3⟩
      have HI3 := hide (HI.out.below (Nat.le_refl _) hb3)
      have hb4 : Below W.heap.size W (W3.alloc (.cells #[.int .i64 y, .int .i64 z] 43)) := hb3.alloc hb3.size _
      have HB3 := hide hb3
      clear hb3 HCR
      cases q with
      | false =>
        have hnone : rangeO x.1 = none := by have := hrg.1; cases h : rangeO x.1 with
          | none => rfl
          | some r => rw [h] at this; cases this
        have HSTOP := hide (rgs_stop (pre := pre) hnone)
        obtain ⟨⟨b0, b1, _, _, _⟩, _, _, hbB⟩ := HI3.out
        have c0 := b0.cell
        have c1 := b1.cell
        have f0 := b0.frozen
        have f1 := b1.frozen
        have l0 := b0.lt
        have l1 := b1.lt
        have HE0 := hide b0; have HE1 := hide b1; have HBE := hide hbB
        clear hrg hnone b0 b1 hbB
        gi_wp2
        exact ⟨(below_keepsOthers HB3.out).trans ((KeepsOthers.setCell _ _ _).trans ((KeepsOthers.setCell _ _ _).trans (KeepsOthers.alloc _ _))), rfl, ((HE0.out.set _).other (by omega) _).alloc _, ((HE1.out.other (by omega) _).set _).alloc _, HSTOP.out, ((HBE.out.setCell (Nat.le_refl _) _).setCell (by show w.heap.size ≤ w.heap.size + 1; omega) _).alloc (by simp; omega) _⟩
      | true =>
        have hsome : rangeO x.1 = some (y, z) := by have := hrg.1; cases h : rangeO x.1 with
          | none => rw [h] at this; cases this
          | some r => rw [hrg.2 r h]
        obtain ⟨h5, h6⟩ := rgs_next HI.out.2.2.1 hsome
        have HR5 := hide h5; have HR6 := hide h6
        obtain ⟨⟨b0, b1, ⟨v4, b4⟩, b5, b6⟩, ⟨A, n, c, b3, ho⟩, hr, hbB⟩ := HI3.out
        have hn : n ≤ 2001 := by have := ho.len; rw [rgsV_len hr, List.length_map] at this; omega
        obtain ⟨⟨_, _, ⟨v4', a4⟩, a5, a6⟩, _, _, hbA⟩ := HI.out
        have hv4 : v4' = v4 := by
          have := boxed_below a4 HB3.out
          have h9 := (show W3.heap[w.heap.size + 4]? = _ from this).symm.trans (show W3.heap[w.heap.size + 4]? = _ from b4)
          simpa using h9
        subst hv4
        have l3 := b3.lt
        have c3 := b3.cell
        have hwW3 : w.heap.size ≤ W3.heap.size := hbB.size
        have b3' := b3.alloc (.cells #[.int .i64 y, .int .i64 z] 43)
        have ho' := ho.alloc (.cells #[.int .i64 y, .int .i64 z] 43)
        have hbW4 : Below W.heap.size W (W3.alloc (.cells #[.int .i64 y, .int .i64 z] 43)) := HB3.out.alloc HB3.out.size _
        have HA := hide (And.intro a4 (And.intro a5 a6))
        have HBX := hide (And.intro b0 (And.intro b1 (And.intro b4 (And.intro b5 b6))))
        have HO := hide ho'; have HB3' := hide b3'; have HBW4 := hide hbW4; have HBA := hide hbA; have HBB := hide hbB
        have HO2 := hide (ho'.alloc (.cells #[.int .i64 y, .int .i64 z] 43)).1
        clear hrg hsome h5 h6 b0 b1 b4 b5 b6 b3 ho hr hbB a4 a5 a6 hbA b3' ho' hbW4
        gi_wp2_with ((with_reducible show wpListIn _ _ _ _ _ (⟨some 25, _, _, _, _, _⟩ :: _) _ _); refine hold ?_)
        refine held (wpListIn_append_own _ rfl (.tmp 22) (.tmp 24) 22 rfl (w.heap.size + 2) 43 i0 _ 2 16 Tryd.underlying22 hi0 hz0 hz1 hz2 rfl (by omega) (.slice A n c) n _ rfl HO2.out ⟨W3.heap.size + 1, 0, none⟩ 1 1 [.int .i64 y, .int .i64 z] rfl rfl
          (fun j u hj => by
            have h9 := heap_alloc_new (W3.alloc (.cells #[.int .i64 y, .int .i64 z] 43)) (.cells #[.int .i64 y, .int .i64 z] 43)
            rw [World.size_alloc] at h9
            rw [Addr.add_mid, Nat.zero_add, cell_of_row _ (W3.heap.size + 1) j _ _ (0, 0) h9]
            simpa using hj) (rgC_one (y, z)) (by unfold maxLen; omega) (by omega) (by simp; omega) ?_)
        intro v' w1 hown' hgrow _
        obtain ⟨g', cap', rfl⟩ := ownsRow_succ hown'
        have hn0 : w.heap.size + 2 ≤ (W3.alloc (.cells #[.int .i64 y, .int .i64 z] 43)).heap.size := by simp; omega
        obtain ⟨hv1, hv2, hr2, hk2, hb2⟩ := HB3'.out.appended (t := 22) (e := 43) (by decide) HO.out.1 hn0 (by omega) hown' hgrow
        have d3 := hv1.cell
        have g3 := hv1.frozen
        have HFIN : Hid (KeepsOthers W (w1.setCell ⟨w.heap.size + 3, 0, none⟩ (.slice (some ⟨g', 0, none⟩) (n + 1) cap')) ∧ Keeps (fun k => k = w.heap.size + 4 ∨ k = w.heap.size + 5 ∨ k = w.heap.size + 6) W (w1.setCell ⟨w.heap.size + 3, 0, none⟩ (.slice (some ⟨g', 0, none⟩) (n + 1) cap')) ∧ PI w w.heap.size (pre ++ [x]) (w1.setCell ⟨w.heap.size + 3, 0, none⟩ (.slice (some ⟨g', 0, none⟩) (n + 1) cap'))) := by
          have bump : ∀ {k : Nat} {t : TypeId} {v : Value}, Boxed W3 k t v → t ≠ 43 → k ≠ w.heap.size + 3 → Boxed (w1.setCell ⟨w.heap.size + 3, 0, none⟩ (.slice (some ⟨g', 0, none⟩) (n + 1) cap')) k t v := fun hb ht hk =>
            ((((hb.alloc _).alloc _).kept hgrow ((hb.alloc (.cells #[.int .i64 y, .int .i64 z] 43)).not_row ht HO.out.1)).other hk _)
          obtain ⟨b0, b1, b4, b5, b6⟩ := HBX.out
          obtain ⟨a4, a5, a6⟩ := HA.out
          have e4 := bump b4 (by decide) (by omega)
          have e5 := bump b5 (by decide) (by omega)
          have e6 := bump b6 (by decide) (by omega)
          have hbw : Below (w.heap.size + 2) W (w1.setCell ⟨w.heap.size + 3, 0, none⟩ (.slice (some ⟨g', 0, none⟩) (n + 1) cap')) := (HBW4.out.mono (by have := a6.lt; omega)).trans hb2
          refine hide ⟨(below_keepsOthers HBW4.out).trans hk2, ⟨hbw.os, hbw.tape, hbw.output, hbw.size, ?_⟩, ⟨bump b0 (by decide) (by omega), bump b1 (by decide) (by omega), ⟨_, e4⟩, e5, e6⟩, ⟨_, _, _, hv2, by rw [HR6.out, List.flatMap_append, List.flatMap_singleton]; exact hr2, by have := HO.out.len; rw [HR6.out, List.length_append, this]; rfl, rgC_len⟩, HR5.out, HBA.out.trans (hbw.mono (by omega))⟩
          rintro k (rfl | rfl | rfl)
          · exact (show _ = _ from e4).trans (show _ = _ from a4).symm
          · exact (show _ = _ from e5).trans (show _ = _ from a5).symm
          · exact (show _ = _ from e6).trans (show _ = _ from a6).symm
        clear hv1 hv2 hr2 hk2 hb2 hown' hgrow
        gi_wp2
        exact HFIN.out
    case done =>
      intro W9 hI hK
      rw [hsz] at hK
      obtain ⟨⟨b0, b1, _, _, _⟩, ⟨A, n, c, b3, ho⟩, hr, hbB⟩ := hI
      rw [HXS.out] at ho hr
      have hlen := ho.len
      rw [rgsV_len hr] at hlen
      have c0 := b0.cell
      have c1 := b1.cell
      have f0 := b0.frozen
      have f1 := b1.frozen
      have c3 := b3.cell
      have HB0 := hide b0; have HB1 := hide b1; have HO := hide ho; have HBB := hide hbB; have HK := hide hK
      have HLEN := hide hlen; have HR := hide hr
      clear b0 b1 b3 ho hr hbB hK hlen hb0 b5 b6 hBs
      by_cases h60 : 60 < n
      · have h60' : (60 : Int) < (n : Int) := by omega
        obtain ⟨he, hv⟩ := parsE_many HN.out HR.out (by rw [HLEN.out]; exact h60)
        have HE := hide he
        have HV := hide hv
        clear he hv
        gi_wp2
        have x0 := (HB0.out.set (.slice none 0 0)).other (B' := w.heap.size + 1) (by omega) (.int .i64 4)
        have x1 := (HB1.out.other (B' := w.heap.size) (by omega) (.slice none 0 0)).set (.int .i64 4)
        have hKf : ((W9.setCell ⟨w.heap.size, 0, none⟩ (.slice none 0 0)).setCell ⟨w.heap.size + 1, 0, none⟩ (.int .i64 4)).heap[(w.heap.size + 7)]? = some (.deferred (some [])) := ((KeepsOthers.setCell _ _ _).trans (KeepsOthers.setCell _ _ _)).same _ _ HK.out rfl
        have hkp : ∀ r, some (w.heap.size + 7) = some r → ∃ o : Obj, ((W9.setCell ⟨w.heap.size, 0, none⟩ (.slice none 0 0)).setCell ⟨w.heap.size + 1, 0, none⟩ (.int .i64 4)).heap[r]? = some o ∧ o.isCells = false := fun r e => by cases e; exact ⟨_, hKf, rfl⟩
        have hgb := grownBy_putObj' ((W9.setCell ⟨w.heap.size, 0, none⟩ (.slice none 0 0)).setCell ⟨w.heap.size + 1, 0, none⟩ (.int .i64 4)) (w.heap.size + 7) (.deferred none)
        have hbf : Below w.heap.size w ((W9.setCell ⟨w.heap.size, 0, none⟩ (.slice none 0 0)).setCell ⟨w.heap.size + 1, 0, none⟩ (.int .i64 4)) := (HBB.out.setCell (Nat.le_refl _) _).setCell (by show w.heap.size ≤ w.heap.size + 1; omega) _
        refine ⟨by simp, .inl ⟨_, _, rfl, run_takeDeferred hKf, ?_⟩⟩
        refine ⟨_, results_two rfl _ _ ⟨w.heap.size, 0, none⟩ ⟨w.heap.size + 1, 0, none⟩ _ _ rfl rfl (load_ranges (boxed_turn x0 hgb hkp)) (load_errno (boxed_turn x1 hgb hkp)), ?_⟩
        exact ⟨none, 0, 0, by rw [HE.out], by rw [HV.out]; exact ColK.nil, hbf.grown hgb hbf.size (fun k e => by cases e; omega)⟩
      · have h60' : ¬ (60 : Int) < (n : Int) := by omega
        obtain ⟨he, hv⟩ := parsE_good HN.out HR.out (by rw [HLEN.out]; exact h60)
        have HE := hide he
        have HV := hide hv
        clear he hv
        gi_wp2
        have x0 := (HB0.out.set (.slice A n c)).other (B' := w.heap.size + 1) (by omega) (.int .i64 0)
        have x1 := (HB1.out.other (B' := w.heap.size) (by omega) (.slice A n c)).set (.int .i64 0)
        have xo := ownK_box (ownK_box HO.out HB0.out (by decide) (.slice A n c)) (HB1.out.other (B' := w.heap.size) (by omega) (.slice A n c)) (by decide) (.int .i64 0)
        have hKf : ((W9.setCell ⟨w.heap.size, 0, none⟩ (.slice A n c)).setCell ⟨w.heap.size + 1, 0, none⟩ (.int .i64 0)).heap[(w.heap.size + 7)]? = some (.deferred (some [])) := ((KeepsOthers.setCell _ _ _).trans (KeepsOthers.setCell _ _ _)).same _ _ HK.out rfl
        have hkp : ∀ r, some (w.heap.size + 7) = some r → ∃ o : Obj, ((W9.setCell ⟨w.heap.size, 0, none⟩ (.slice A n c)).setCell ⟨w.heap.size + 1, 0, none⟩ (.int .i64 0)).heap[r]? = some o ∧ o.isCells = false := fun r e => by cases e; exact ⟨_, hKf, rfl⟩
        have hgb := grownBy_putObj' ((W9.setCell ⟨w.heap.size, 0, none⟩ (.slice A n c)).setCell ⟨w.heap.size + 1, 0, none⟩ (.int .i64 0)) (w.heap.size + 7) (.deferred none)
        have hbf : Below w.heap.size w ((W9.setCell ⟨w.heap.size, 0, none⟩ (.slice A n c)).setCell ⟨w.heap.size + 1, 0, none⟩ (.int .i64 0)) := (HBB.out.setCell (Nat.le_refl _) _).setCell (by show w.heap.size ≤ w.heap.size + 1; omega) _
        refine ⟨by simp, .inl ⟨_, _, rfl, run_takeDeferred hKf, ?_⟩⟩
        refine ⟨_, results_two rfl _ _ ⟨w.heap.size, 0, none⟩ ⟨w.heap.size + 1, 0, none⟩ _ _ rfl rfl (load_ranges (boxed_turn x0 hgb hkp)) (load_errno (boxed_turn x1 hgb hkp)), ?_⟩
        exact ⟨A, n, c, by rw [HE.out], by rw [HV.out]; exact (ownK_turn xo hgb hkp).col, hbf.grown hgb hbf.size (fun k e => by cases e; omega)⟩
    case stop =>
      rintro c9 pre W9 hpre ⟨rfl, b0, b1, hr, hbB⟩ hK
      rw [hsz] at hK
      have hbad : rgsB (splitL 44 (nats s)) = false := by
        rw [← HXS.out]
        obtain ⟨r, rfl⟩ := hpre
        unfold rgsB at hr ⊢
        rw [List.map_append, List.all_append, hr, Bool.false_and]
      obtain ⟨he, hv⟩ := parsE_bad HN.out hbad
      have HE := hide he
      have HV := hide hv
      have HB0 := hide b0; have HB1 := hide b1; have HBB := hide hbB; have HK := hide hK
      clear he hv b0 b1 hbB hK hbad hr hpre hb0 b5 b6 hBs
      gi_wp2
      have hkp : ∀ r, some (w.heap.size + 7) = some r → ∃ o : Obj, W9.heap[r]? = some o ∧ o.isCells = false := fun r e => by cases e; exact ⟨_, HK.out, rfl⟩
      have hgb := grownBy_putObj' W9 (w.heap.size + 7) (.deferred none)
      refine ⟨by simp, .inl ⟨_, _, rfl, run_takeDeferred HK.out, ?_⟩⟩
      refine ⟨_, results_two rfl _ _ ⟨w.heap.size, 0, none⟩ ⟨w.heap.size + 1, 0, none⟩ _ _ rfl rfl (load_ranges (boxed_turn HB0.out hgb hkp)) (load_errno (boxed_turn HB1.out hgb hkp)), ?_⟩
      exact ⟨none, 0, 0, by rw [HE.out], by rw [HV.out]; exact ColK.nil, HBB.out.grown hgb HBB.out.size (fun k e => by cases e; omega)⟩
end Go.Proofs.YtiophifilikajaaDoor
