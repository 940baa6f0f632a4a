/-
  Contracts over package event: an event's bytes.
-/
import Derived.Test.YtcajmigkpcjbcaaDoorQEventH
namespace Go.Proofs.YtcajmigkpcjbcaaDoor
set_option linter.unusedVariables false
set_option linter.unusedSimpArgs false
open Go.RowKit
set_option linter.unusedVariables false
set_option linter.unusedSimpArgs false

def EncIs (h : Eh) (w : World) (e : Ending) (w' : World) : Prop := ∃ A N c, e = .returned (.tuple #[.slice A N c, .int .i64 ((encE h.e : Nat) : Int)]) ∧ OwnB w' w.heap.size 5 A N c (encV h.e) ∧ Below w.heap.size w w'
theorem flat_snoc {p : List Nat} {k c : Nat} (hc : p[k]? = some c) (f : Nat → List Nat) : (p.take (k + 1)).flatMap f = (p.take k).flatMap f ++ f c := by
  rw [take_snoc_n p k c hc, List.flatMap_append, List.flatMap_singleton]
theorem OwnB.iter {w : World} {g pos base n c : Nat} {p : List Nat} {e : TypeId} {A : Option Addr} {l : List Nat} (hi : It w g p pos) (h : OwnB w base e A n c l) (pos' : Nat) : OwnB (w.iterAt g (strOf p) pos') base e A n c l := by
  refine ⟨⟨h.1.1, ?_⟩, h.2⟩
  rcases h.1.2 with h0 | ⟨g', cap, cur, hv, hg, hh, rest⟩
  · exact .inl h0
  · have hne : g' ≠ g := by
      intro e
      subst e
      rw [It, hh] at hi
      cases hi
    exact .inr ⟨g', cap, cur, hv, hg, (Lib.iterAt_other w g g' (strOf p) pos' hne).trans hh, rest⟩
structure EnAt (w : World) (h : Eh) (b1 g : Nat) (p : List Nat) (pos : Nat) (A : Option Addr) (N c : Nat) (wx : World) : Prop where
  it : It wx g p pos
  bx : Bk wx b1 26 (evC h)
  own : OwnB wx w.heap.size 5 A N c (numsB [h.e.kind, h.e.at_] ++ (p.take pos).flatMap (layP h.e))
  below : Below w.heap.size w wx
theorem enc_small {e : Ev} (hr : rightE e = true) (k : Nat) : (numsB [e.kind, e.at_] ++ ((partsN e.kind).take k).flatMap (layP e)).length ≤ 100000 := by
  have h1 := flat_len_le (f := layP e) (p := (partsN e.kind).take k) fun c hc => layP_len ((rightE_parts hr).2.2.1 c (List.mem_of_mem_take hc))
  have h2 : ((partsN e.kind).take k).length ≤ 4 := by rw [List.length_take]; have := (partsN_nine e.kind).2.2; omega
  rw [List.length_append, numsB_length, List.length_cons, List.length_singleton]
  omega
set_option maxRecDepth 20000 in
set_option maxHeartbeats 4000000 in
theorem evEncode_any (h : Eh) (w : World) (Hh : EvIn w w.heap.size h) (hK : Kinds w) : Calls Tryd.prog 9 #[.agg (evC h)] w (EncIs h w) := by
  have HH := Lib.hid Hh
  have HK := Lib.hid hK
  clear Hh hK
  go_enter Tryd.func9, Tryd.ntmps9
  go_wp2_with ((with_reducible show wpList _ _ _ (⟨some 7, _, _, _, _, _⟩ :: _) _ _); refine hold ?_)
  refine held (list_overE (fun W => Bk W w.heap.size 26 (evC h) ∧ Below w.heap.size w W) ⟨Bk.new _ _ _, (Below.refl _ _).alloc (Nat.le_refl _) _⟩ ?_)
  rintro W ⟨q1, q2⟩
  have Q1 := Lib.hid q1
  have Q2 := Lib.hid q2
  clear q1 q2
  refine wpList_load_mid rfl 26 (.tmp 1) rfl w.heap.size 0 rfl _ _ Q1.out.range Tryd.underlying26 rfl (by kernel_rfl) ?_
  go_wp2_with fail
  refine (evRight_any h W (HH.out.later Q2.out) (HK.out.below Q2.out)).mono ?_
  rintro e W1 ⟨rfl, hb⟩
  have R1 := Lib.hid (Q1.out.below hb Q1.out.lt)
  have R2 := Lib.hid (Q2.out.trans (hb.mono Q2.out.size))
  have c0 : W1.cell? ⟨w.heap.size, 0, none⟩ = some (.int .i64 h.e.kind) := R1.out.cell 0
  have c1 : W1.cell? ⟨w.heap.size, 1, none⟩ = some (.int .i64 h.e.at_) := R1.out.cell 1
  clear hb Q1 Q2
  cases hr : rightE h.e
  · have HZ : Hid (encE h.e = 1) := Lib.hid (by unfold encE; rw [hr]; rfl)
    have HV : Hid (encV h.e = []) := Lib.hid (by unfold encV; rw [hr]; rfl)
    clear hr
    go_wp2_with fail
    go_ret2
    exact ⟨none, 0, 0, by rw [HZ.out]; rfl, by rw [HV.out]; exact OwnB.nil, R2.out⟩
  have HRT := Lib.hid hr
  have HZ : Hid (encE h.e = 0) := Lib.hid (if_pos hr)
  have HV : Hid (encV h.e = bytesE h.e) := Lib.hid (if_pos hr)
  clear hr
  have hws := R2.out.size
  have B1 : Hid (Below w.heap.size w (W1.alloc (.cells #[.int .i64 h.e.kind, .int .i64 h.e.at_] 3))) := Lib.hid (R2.out.alloc R2.out.size _)
  have hk2 := Bk.new W1 3 #[.int .i64 h.e.kind, .int .i64 h.e.at_]
  have CN := Lib.hid (pnum_any none 0 0 [] (some ⟨W1.heap.size, 0, none⟩) 2 2 [h.e.kind, h.e.at_] (W1.alloc (.cells #[.int .i64 h.e.kind, .int .i64 h.e.at_] 3)) Bytes.nil ⟨rfl, fun _ => ⟨_, _, rfl, by simp, fun i a ha => by
    rw [Nat.zero_add, hk2.cell i]
    match i, ha with
    | 0, ha => cases ha; rfl
    | 1, ha => cases ha; rfl⟩⟩ (by omega))
  clear hk2 hws
  go_wp2_with fail
  refine CN.out.mono ?_
  rintro e W2 hm
  have hsz : W1.heap.size < (W1.alloc (.cells #[.int .i64 h.e.kind, .int .i64 h.e.at_] 3)).heap.size := by simp
  have hbb : Below W1.heap.size W1 W2 := by
    obtain ⟨_, _, _, _, h5⟩ := hm
    exact ((Below.refl _ _).alloc (Nat.le_refl _) _).trans (h5.mono (Nat.le_of_lt hsz))
  obtain ⟨A2, N2, c2, rfl, ho, hb⟩ := hm.give (l' := numsB [h.e.kind, h.e.at_]) B1.out rfl
  have S1 := Lib.hid (R1.out.below hbb R1.out.lt)
  have SO := Lib.hid ho
  have SB := Lib.hid hb
  have d0 : W2.cell? ⟨w.heap.size, 0, none⟩ = some (.int .i64 h.e.kind) := S1.out.cell 0
  clear hm hsz hbb ho hb c0 c1 CN B1 R1 R2
  go_wp2_with fail
  refine (evParts_any h.e.kind W2 (HK.out.below SB.out)).mono ?_
  rintro e W3 ⟨rfl, hb⟩
  have T1 := Lib.hid (S1.out.below hb S1.out.lt)
  have TO := Lib.hid (SO.out.below hb)
  have TB := Lib.hid (SB.out.trans (hb.mono SB.out.size))
  clear hb d0 S1 SO SB
  obtain ⟨p, hp⟩ : ∃ p, partsN h.e.kind = p := ⟨_, rfl⟩
  rw [hp]
  have H128 : Hid (∀ x ∈ p, x < 128) := Lib.hid (by rw [← hp]; exact partsN_lt _)
  have H9 : Hid (∀ x ∈ p, x ∈ nineL) := Lib.hid (by rw [← hp]; exact (partsN_nine _).1)
  have HP := Lib.hid hp
  clear hp
  go_wp2_with fail
  go_loopw [4, 6] (fun t _ wx => ∃ (pos : Nat) (A : Option Addr) (N c : Nat), pos ≤ p.length ∧ t = .slice A N c ∧ EnAt w h w.heap.size W3.heap.size p pos A N c wx) (fun _ _ wx => p.length - wx.iterPos W3.heap.size)
  case atStart =>
    exact ⟨0, A2, N2, c2, Nat.zero_le _, rfl, { it := World.iter_heap W3 (strOf p) 0, bx := T1.out.alloc _, own := by rw [List.take_zero, List.flatMap_nil, List.append_nil]; exact TO.out.alloc _, below := TB.out.alloc TB.out.size _ }⟩
  case round =>
    obtain ⟨pos, A, N, c, hpos, rfl, hr⟩ := hrel
    have HR := Lib.hid hr
    have HM : Hid (wr.iterPos W3.heap.size = pos) := Lib.hid hr.it.pos
    clear hr
    by_cases hlt : pos < p.length
    · obtain ⟨x, hx⟩ : ∃ x, p[pos]? = some x := ⟨_, List.getElem?_eq_getElem hlt⟩
      have hnx := fun ty => next_letter (P := Tryd.prog) H128.out HR.out.it hx ty
      have HX := Lib.hid hx
      have HX9 := Lib.hid (H9.out x (List.mem_of_getElem? hx))
      have hN : N ≤ 100000 := by
        have h1 := HR.out.own.len
        have h2 := enc_small HRT.out pos
        rw [HP.out] at h2
        omega
      have HN := Lib.hid hN
      have TW : Hid (Below wr.heap.size wr (wr.iterAt W3.heap.size (strOf p) (pos + 1)) → True) := Lib.hid (fun _ => trivial)
      have own2 : OwnB (wr.iterAt W3.heap.size (strOf p) (pos + 1)) w.heap.size 5 A N c (numsB [h.e.kind, h.e.at_] ++ (p.take pos).flatMap (layP h.e)) := OwnB.iter HR.out.it HR.out.own _
      have T1' : Hid (Bk (wr.iterAt W3.heap.size (strOf p) (pos + 1)) w.heap.size 26 (evC h)) := Lib.hid (Bk.iter HR.out.it HR.out.bx _)
      have TI : Hid (It (wr.iterAt W3.heap.size (strOf p) (pos + 1)) W3.heap.size p (pos + 1)) := Lib.hid (HR.out.it.iter _)
      have TB' : Hid (Below w.heap.size w (wr.iterAt W3.heap.size (strOf p) (pos + 1))) := Lib.hid (Lib.below_iterAt HR.out.below TB.out.size _ _)
      have TO' := Lib.hid own2
      clear hx own2 hN TW
      go_wp2_with ((with_reducible show wpList _ _ _ (⟨some 24, _, _, _, _, _⟩ :: _) _ _); refine hold ?_)
      refine held (list_overE (fun W => Bk W w.heap.size 26 (evC h) ∧ OwnB W w.heap.size 5 A N c (numsB [h.e.kind, h.e.at_] ++ (p.take pos).flatMap (layP h.e)) ∧ It W W3.heap.size p (pos + 1) ∧ Below w.heap.size w W) ⟨T1'.out, TO'.out, TI.out, TB'.out⟩ ?_)
      rintro W5 ⟨q1, q2, q3, q4⟩
      have U1 := Lib.hid q1
      have UO := Lib.hid q2
      have UI := Lib.hid q3
      have UB := Lib.hid q4
      clear q1 q2 q3 q4 hnx T1' TO' TI TB'
      refine wpList_load_mid rfl 26 (.tmp 1) rfl w.heap.size 0 rfl _ _ U1.out.range Tryd.underlying26 rfl (by kernel_rfl) ?_
      go_wp2_with fail
      refine (evlay_any A N c _ h HX9.out W5 UO.out.bytes (HH.out.later UB.out) ((rightE_parts HRT.out).2.2.1 x (by rw [HP.out]; exact List.mem_of_getElem? HX.out)) HN.out).mono ?_
      rintro e W6 ⟨A6, N6, c6, rfl, ho, hb⟩
      have R : Hid (EnAt w h w.heap.size W3.heap.size p (pos + 1) A6 N6 c6 W6) := Lib.hid { it := UI.out.below hb, bx := U1.out.below hb U1.out.lt, own := by rw [flat_snoc HX.out, ← List.append_assoc]; exact ho.base_le UB.out.size, below := UB.out.trans (hb.mono UB.out.size) }
      clear ho hb HR U1 UO UI UB
      go_wp2_with fail
      go_roundw
      case rel => exact ⟨pos + 1, A6, N6, c6, by omega, rfl, R.out⟩
      case measure => rw [R.out.it.pos]; rw [HM.out]; omega
    · have hnx := fun ty => next_none (P := Tryd.prog) HR.out.it (by omega) ty
      obtain rfl : pos = p.length := by omega
      have HO := Lib.hid HR.out.own
      have HBL := Lib.hid HR.out.below
      have HE : Hid (encV h.e = numsB [h.e.kind, h.e.at_] ++ (p.take p.length).flatMap (layP h.e)) := Lib.hid (by rw [HV.out, List.take_of_length_le (Nat.le_refl _), ← HP.out]; rfl)
      clear HR
      go_wp2_with fail
      go_ret2
      exact ⟨A, N, c, by rw [HZ.out]; rfl, by rw [HE.out]; exact HO.out, HBL.out⟩
end Go.Proofs.YtcajmigkpcjbcaaDoor
