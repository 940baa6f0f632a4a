/-
  A part of the proof: see the last text.
-/
import Derived.Test.YtbogjfbfgbhdbaaGreatDoorSNameMore
import Derived.Test.YtbogjfbfgbhdbaaGreatDoorSStG
import Derived.Test.YtbogjfbfgbhdbaaGreatDoorSEventMath
import Derived.Test.YtbogjfbfgbhdbaaGreatDoorSBoxJ
import Derived.Deep.DeepCutAuto
namespace Go.Proofs.YtbogjfbfgbhdbaaGreatDoor
set_option linter.unusedVariables false
set_option linter.unusedSimpArgs false
open Go.RowKit
set_option linter.unusedVariables false
set_option linter.unusedSimpArgs false
theorem cmp13_iff : ∀ a b : List UInt8, Lib.compareBytes a b < 0 ↔ a < b
  | [], [] => by simp [Lib.compareBytes]
  | [], b :: m => by simp [Lib.compareBytes]
  | a :: l, [] => by simp [Lib.compareBytes]
  | a :: l, b :: m => by
    have ih := cmp13_iff l m
    unfold Lib.compareBytes
    rw [List.cons_lt_cons_iff]
    by_cases h1 : a < b
    · simp [h1]
    · by_cases h2 : b < a
      · have hne : a ≠ b := fun e => by rw [e] at h2; exact absurd h2 (UInt8.lt_irrefl _)
        simp [h1, h2, hne]
      · have he : a = b := UInt8.le_antisymm (UInt8.not_lt.1 h2) (UInt8.not_lt.1 h1)
        simp [h1, h2, he, ih]
theorem wpList_load_wanted {P : Program} {ops : Array Oper} {rest : List Oper} {op : Oper} {a : Act} {w : World} {Q : Exit → Act → World → Prop} (hw : Region.wanted op (yielded ops a.tmps) = true) (ty : TypeId) (x : Operand) (ho : op.op = .load ty x)
    (b o : Nat) (hx : a.eval x = .pointer (some ⟨b, o, none⟩)) (cs : List Value) (d : TypeDesc) (hc : w.rangeAt b o cs)
    (hu : P.underlying ty = some d) (hd : d.isRow = true) (hi : (P.info? ty).map (·.size) = some cs.length)
    (h : wpList P ops Q rest (a.put op.dst (.agg cs.toArray)) w) : wpList P ops Q (op :: rest) a w :=
  wpList_step fun K hK => by
    rw [if_pos hw]
    exact wp_load_mid ty x ho b o hx cs d hc hu hd hi (hK _ _ h)
def cmpS (a b : ByteArray) : Int := Lib.compareBytes a.data.toList b.data.toList
theorem cmpS_iff (a b : ByteArray) : cmpS a b < 0 ↔ ltS a b := cmp13_iff _ _
set_option maxHeartbeats 1000000 in
theorem rlSet2_any (x : Rul) (box : ByteArray) (w : World) :
    Calls Tryz.prog 227 #[.agg (rulA x), .string box] w fun e w' => e = .returned (.int .i64 (cmpS x.1 box)) ∧ Below w.heap.size w w' := by
  have hcon := fun W' => Any.strings_Compare rS106 x.1 box W'
  change ∀ W', Calls Tryz.prog 214 _ _ _ at hcon
  unfold cmpS
  generalize Lib.compareBytes x.1.data.toList box.data.toList = r at hcon ⊢
  have x0 : (rulA x)[0]? = some (.string x.1) := rfl
  go_enter Tryz.func227, Tryz.ntmps227
  go_wp2_with fail
  refine (hcon _).mono ?_
  rintro e w' ⟨rfl, rfl⟩
  go_wp2_with fail
  go_ret
  exact ⟨rfl, (Below.refl _ _).alloc (Nat.le_refl _) _⟩
def ltL (box : ByteArray) (l : List Rul) : List Rul := l.filter (fun r => decide (ltS r.1 box))
def AllLt (l : List Rul) (box : ByteArray) (lo : Nat) : Prop := ∀ t r, t < lo → l[t]? = some r → ltS r.1 box
def NoneLt (l : List Rul) (box : ByteArray) (hi : Nat) : Prop := ∀ t r, hi ≤ t → l[t]? = some r → ¬ ltS r.1 box
theorem rise_lt {l : List Rul} (h : riseR l) {s t : Nat} {p q : Rul} (hst : s < t) (hp : l[s]? = some p) (hq : l[t]? = some q) : ltS p.1 q.1 := by
  unfold riseR at h
  rw [List.pairwise_iff_getElem] at h
  obtain ⟨h1, e1⟩ := List.getElem?_eq_some_iff.1 hp
  obtain ⟨h2, e2⟩ := List.getElem?_eq_some_iff.1 hq
  have := h s t h1 h2 hst
  rwa [e1, e2] at this
theorem AllLt.up {l : List Rul} {box : ByteArray} {m : Nat} {x : Rul} (h : riseR l) (hx : l[m]? = some x) (hl : ltS x.1 box) : AllLt l box (m + 1) := by
  intro t r ht hr
  rcases Nat.lt_or_ge t m with h1 | h1
  · exact ltS_trans (rise_lt h h1 hr hx) hl
  · obtain rfl : t = m := by omega
    rw [hx] at hr; cases hr; exact hl
theorem NoneLt.down {l : List Rul} {box : ByteArray} {m : Nat} {x : Rul} (h : riseR l) (hx : l[m]? = some x) (hl : ¬ ltS x.1 box) : NoneLt l box m := by
  intro t r ht hr hlt
  rcases Nat.lt_or_ge m t with h1 | h1
  · exact hl (ltS_trans (rise_lt h h1 hx hr) hlt)
  · obtain rfl : t = m := by omega
    rw [hx] at hr; cases hr; exact hl hlt
theorem place_len {l : List Rul} {box : ByteArray} {p : Nat} (hp : p ≤ l.length) (h1 : AllLt l box p) (h2 : NoneLt l box p) : (ltL box l).length = p := by
  unfold ltL
  have e : l.filter (fun r => decide (ltS r.1 box)) = l.take p := by
    conv => lhs; rw [← List.take_append_drop p l]
    rw [List.filter_append, List.filter_eq_self.2, List.filter_eq_nil_iff.2, List.append_nil]
    · intro r hr
      obtain ⟨i, hi, rfl⟩ := List.mem_iff_getElem.1 hr
      have := h2 (p + i) _ (by omega) (show l[p + i]? = some ((l.drop p)[i]) by rw [← List.getElem?_drop, List.getElem?_eq_getElem hi])
      simpa using this
    · intro r hr
      obtain ⟨i, hi, rfl⟩ := List.mem_iff_getElem.1 hr
      rw [List.length_take] at hi
      exact decide_eq_true (h1 i _ (by omega) (show l[i]? = some ((l.take p)[i]'(by rw [List.length_take]; omega)) by rw [List.getElem_take, List.getElem?_eq_getElem (by omega)]))
  rw [e, List.length_take]; omega
def PlaceIs (w : World) (p : Nat) (e : Ending) (w' : World) : Prop := ∃ b, e = .returned (.tuple #[.int .i64 (p : Int), .bool b]) ∧ Below w.heap.size w w'
set_option maxRecDepth 20000 in
set_option maxHeartbeats 4000000 in
theorem rlBinary_any (A : Option Addr) (n c : Nat) (box : ByteArray) (l : List Rul) (w : World) (hl : ColK 2 rulC w w.heap.size A n l) (hn : n ≤ 1000000) (hr : riseR l) :
    Calls Tryz.prog 226 #[.slice A n c, .string box, .func (.func 227) #[] #[]] w (PlaceIs w (ltL box l).length) := by
  have HL := Lib.hid hl
  have HR := Lib.hid hr
  have A0 : Hid (AllLt l box 0) := Lib.hid (fun t r ht => absurd ht (Nat.not_lt_zero _))
  have N0 : Hid (NoneLt l box n) := Lib.hid (fun t r ht hr => by
    have := (List.getElem?_eq_some_iff.1 hr).1
    have := hl.1
    omega)
  clear hl hr
  go_enter Tryz.func226, Tryz.ntmps226
  go_wp2_with fail
  go_loopw [9, 10] (fun a b wx => ∃ lo hi : Nat, a = .int .i64 (lo : Int) ∧ b = .int .i64 (hi : Int) ∧ lo ≤ hi ∧ hi ≤ n ∧ Hid (AllLt l box lo) ∧ Hid (NoneLt l box hi) ∧ Below w.heap.size w wx) (fun a b _ => (intOf b).toNat - (intOf a).toNat)
  case atStart => exact ⟨0, n, rfl, rfl, Nat.zero_le _, Nat.le_refl _, A0, N0, Below.refl _ _⟩
  case round =>
    clear A0 N0
    obtain ⟨lo, hi, rfl, rfl, hlh, hin, HA, HN, hb⟩ := hrel
    have HB := Lib.hid hb
    clear hb
    by_cases hlt : lo < hi
    · obtain ⟨b, o, x, rfl, hbb, hla, htk, hrow⟩ := (HL.out.below HB.out (Nat.le_refl _)).at_ (show (lo + hi) / 2 < n by omega)
      have HLA := Lib.hid hla
      have HROW := Lib.hid hrow
      obtain ⟨x1, x2⟩ := x
      have CS := Lib.hid (fun W => (show Calls Tryz.prog 227 #[.agg #[.string x1, .int .i64 x2], .string box] W fun e w' => e = .returned (.int .i64 (cmpS x1 box)) ∧ Below W.heap.size W w' from rlSet2_any (x1, x2) box W))
      have HUP := Lib.hid (fun h => AllLt.up (box := box) HR.out hla h)
      have HDN := Lib.hid (fun h => NoneLt.down (box := box) HR.out hla h)
      have hc := cmpS_iff x1 box
      have HC := Lib.hid hc
      have hmn : (((lo + hi) / 2 : Nat) : Int) < (n : Int) := by omega
      clear hla htk hrow hc
      go_wp2_with ((with_reducible show wpList _ _ _ (⟨some 28, _, _, _, _, _⟩ :: _) _ _); refine hold ?_)
      refine held (wpList_load_mid rfl 83 (.tmp 27) rfl b (o + (lo + hi) / 2 * 2) rfl (rulC (x1, x2)) _ HROW.out Tryz.underlying83 rfl (by kernel_rfl) ?_)
      unfold rulC
      go_wp2_with fail
      refine (CS.out _).mono ?_
      rintro e w3 ⟨rfl, hb3⟩
      have B3 := Lib.hid (HB.out.trans (hb3.mono HB.out.size))
      clear hb3 CS HB HROW
      by_cases hs : ltS x1 box
      · have hneg : cmpS x1 box < 0 := HC.out.2 hs
        have HA2 := Lib.hid (HUP.out hs)
        clear hs
        go_wp2_with fail
        go_roundw
        case rel => exact ⟨(lo + hi) / 2 + 1, hi, by go_num, rfl, by omega, hin, HA2, HN, B3.out⟩
        case measure => simp [intOf]; omega
      · have hneg : ¬ cmpS x1 box < 0 := fun h => hs (HC.out.1 h)
        have HN2 := Lib.hid (HDN.out hs)
        clear hs
        go_wp2_with fail
        go_roundw
        case rel => exact ⟨lo, (lo + hi) / 2, rfl, by go_num, by omega, by omega, HA, HN2, B3.out⟩
        case measure => simp [intOf]; omega
    · obtain rfl : hi = lo := by omega
      have hnlt : ¬ (hi : Int) < (hi : Int) := by omega
      have HPL := Lib.hid (place_len (by rw [HL.out.1]; exact hin) HA.out HN.out)
      by_cases hn2 : hi < n
      · obtain ⟨b, o, x, rfl, hbb, hla, htk, hrow⟩ := (HL.out.below HB.out (Nat.le_refl _)).at_ hn2
        have HROW := Lib.hid hrow
        obtain ⟨x1, x2⟩ := x
        have CS := Lib.hid (fun W => (show Calls Tryz.prog 227 #[.agg #[.string x1, .int .i64 x2], .string box] W fun e w' => e = .returned (.int .i64 (cmpS x1 box)) ∧ Below W.heap.size W w' from rlSet2_any (x1, x2) box W))
        have h0 : (0 : Int) ≤ (hi : Int) := by omega
        have hin2 : (hi : Int) < (n : Int) := by omega
        clear hla htk hrow
        go_wp2_with ((with_reducible show wpList _ _ _ (⟨some 44, _, _, _, _, _⟩ :: _) _ _); refine hold ?_)
        refine held (wpList_load_wanted (by rfl) 83 (.tmp 43) rfl b (o + hi * 2) rfl (rulC (x1, x2)) _ HROW.out Tryz.underlying83 rfl (by kernel_rfl) ?_)
        unfold rulC
        go_wp2_with fail
        refine (CS.out _).mono ?_
        rintro e w3 ⟨rfl, hb3⟩
        have B3 := Lib.hid (HB.out.trans (hb3.mono HB.out.size))
        clear hb3 CS HB HROW
        go_wp2_with fail
        go_ret2
        exact ⟨cmpS x1 box == 0, by rw [HPL.out] <;> rfl, B3.out⟩
      · have hin2 : ¬ (hi : Int) < (n : Int) := by omega
        go_wp2_with fail
        go_ret2
        exact ⟨false, by rw [HPL.out] <;> rfl, HB.out⟩
end Go.Proofs.YtbogjfbfgbhdbaaGreatDoor
namespace Go.Proofs.YtbogjfbfgbhdbaaGreatDoor
set_option linter.unusedVariables false
set_option linter.unusedSimpArgs false
open Go.RowKit
set_option linter.unusedVariables false
set_option linter.unusedSimpArgs false
theorem neR_rise {l : List Rul} (h : riseR l) (box : ByteArray) : riseR (neR box l) := h.filter _
theorem neR_lt (l : List Rul) (box : ByteArray) : (neR box l).filter (fun r => decide (ltS r.1 box)) = l.filter (fun r => decide (ltS r.1 box)) := by
  unfold neR
  rw [List.filter_filter]
  refine List.filter_congr fun r _ => ?_
  by_cases h : ltS r.1 box
  · simp [h, ltS_ne h]
  · simp [h]
theorem neR_gt (l : List Rul) (box : ByteArray) : (neR box l).filter (fun r => decide (¬ ltS r.1 box)) = l.filter (fun r => decide (ltS box r.1)) := by
  rw [← filter_great (l := l) box]
  unfold neR
  rw [List.filter_filter, List.filter_filter]
  refine List.filter_congr fun r _ => ?_
  rw [Bool.and_comm]
theorem ltL_ne (l : List Rul) (box : ByteArray) : ltL box (neR box l) = l.filter (fun r => decide (ltS r.1 box)) := neR_lt l box
theorem neR_parts {l : List Rul} (h : riseR l) (box : ByteArray) : neR box l = l.filter (fun r => decide (ltS r.1 box)) ++ l.filter (fun r => decide (ltS box r.1)) := by
  have := riseR_split (neR_rise h box) box
  rwa [neR_lt, neR_gt] at this
theorem set_none {l : List Rul} (h : riseR l) (box : ByteArray) {keep : Int} (hk : ¬ 0 < keep) : setR l box keep = neR box l := by
  unfold setR newR
  rw [if_neg hk, List.nil_append, neR_parts h]
theorem set_some {l : List Rul} (h : riseR l) (box : ByteArray) {keep : Int} (hk : 0 < keep) : setR l box keep = (neR box l).take (ltL box (neR box l)).length ++ [(box, keep)] ++ (neR box l).drop (ltL box (neR box l)).length := by
  unfold setR newR
  rw [if_pos hk, ltL_ne, neR_parts h, List.take_left, List.drop_left, List.append_assoc]
theorem OwnK.fresh {α : Type} {k : Nat} {f : α → List Value} {w : World} {base n c : Nat} {e : TypeId} {A : Option Addr} {l : List α} (h : OwnK k f w base e A n c l) : ∀ a, A = some a → w.heap.size ≠ a.block := by
  intro a ha
  subst ha
  rcases h.1.2 with ⟨hv, _⟩ | ⟨g, cap, cur, hv, _, hc, _⟩
  · cases hv
  · injection hv with hv
    injection hv with hv
    subst hv
    have := (Array.getElem?_eq_some_iff.1 hc).1
    exact fun e => by simp only at e; omega
set_option maxRecDepth 20000 in
set_option maxHeartbeats 4000000 in
theorem rlSet_any (A : Option Addr) (n c : Nat) (l : List Rul) (box : ByteArray) (keep : Int) (w : World) (hl : ColK 2 rulC w w.heap.size A n l) (hn : n ≤ 10000) (hr : riseR l) :
    Calls Tryz.prog 172 #[.slice A n c, .string box, .int .i64 keep] w (GiveR w (setR l box keep)) := by
  have HR := Lib.hid hr
  have HL := Lib.hid hl
  clear hl hr
  go_enter Tryz.func172, Tryz.ntmps172
  go_wp2_with fail
  have hb1 : Below w.heap.size w (w.alloc (.cells #[.string box] 9)) := (Below.refl _ _).alloc (Nat.le_refl _) _
  have k1 : (w.alloc (.cells #[.string box] 9)).cell? ⟨w.heap.size, 0, none⟩ = some (.string box) := by rw [cell_of_row _ w.heap.size 0 _ _ (0, 0) (heap_alloc_new w _)]; rfl
  refine (rlClone_any A n c l _ (HL.out.later hb1) (by omega)).mono ?_
  rintro e w2 ⟨A2, c2, rfl, ho2, hb2⟩
  have hsz1 : (w.alloc (.cells #[.string box] 9)).heap.size = w.heap.size + 1 := by simp
  have O2 := Lib.hid (ho2.from_ (base' := w.heap.size + 1) (by rw [hsz1]; exact Nat.le_refl _))
  have K2 : Hid (w2.cell? ⟨w.heap.size, 0, none⟩ = some (.string box)) := Lib.hid ((hb2.cell (p := ⟨w.heap.size, 0, none⟩) (by rw [hsz1]; exact Nat.lt_succ_self _)).trans k1)
  have B2 := Lib.hid (hb1.trans (hb2.mono (by rw [hsz1]; omega)))
  have Z2 : Hid (w.heap.size + 1 ≤ w2.heap.size) := Lib.hid (by have := hb2.size; rw [hsz1] at this; exact this)
  clear ho2 hb2 hb1 k1 hsz1
  go_wp2_with fail
  refine (rlDelete_any (w.heap.size + 1) A2 n c2 w.heap.size box l w2 O2.out (by omega) K2.out (Nat.lt_succ_self _) Z2.out).mono ?_
  rintro e w3 ⟨A3, n3, rfl, hn3, ho3, hb3⟩
  have O3 := Lib.hid ho3
  have K3 : Hid (w3.cell? ⟨w.heap.size, 0, none⟩ = some (.string box)) := Lib.hid ((hb3.cell (p := ⟨w.heap.size, 0, none⟩) (Nat.lt_succ_self _)).trans K2.out)
  have B3 := Lib.hid (B2.out.trans (hb3.mono (Nat.le_succ _)))
  have Z3 := Lib.hid (Nat.le_trans Z2.out hb3.size)
  clear ho3 hb3 O2 K2 B2 Z2
  by_cases hk : 0 < keep
  · have hk' : ¬ keep ≤ 0 := by omega
    have HS := Lib.hid (set_some HR.out box hk)
    have HP : Hid ((ltL box (neR box l)).length ≤ n3) := Lib.hid (by have := O3.out.len; unfold ltL; have h2 := List.length_filter_le (fun r : Rul => decide (ltS r.1 box)) (neR box l); omega)
    have k3 := K3.out
    clear hk
    go_wp2_with fail
    refine (rlBinary_any A3 n3 c2 box (neR box l) w3 O3.out.col (by omega) (neR_rise HR.out box)).mono ?_
    rintro e w4 ⟨b, rfl, hb4⟩
    have O4 := Lib.hid (O3.out.below hb4)
    have k4 := (hb4.cell (p := ⟨w.heap.size, 0, none⟩) (show w.heap.size < w3.heap.size from Z3.out)).trans k3
    have B4 := Lib.hid (B3.out.trans (hb4.mono (by have := Z3.out; omega)))
    have Z4 := Lib.hid (Nat.le_trans Z3.out hb4.size)
    clear hb4 k3 K3 O3 B3 Z3
    obtain ⟨pl, hpl⟩ : ∃ pl, pl = (ltL box (neR box l)).length := ⟨_, rfl⟩
    rw [← hpl] at HS HP ⊢
    clear hpl
    go_wp2_with fail
    have ho5 : OwnK 2 rulC (w4.alloc (.cells #[.string box, .int .i64 keep] 83)) (w.heap.size + 1) 83 A3 n3 c2 (neR box l) := O4.out.alloc _
    refine (rlInsert_any (w.heap.size + 1) A3 n3 c2 pl w4.heap.size (box, keep) (neR box l) _ ho5 (by omega) HP.out (Bk.new w4 83 _) O4.out.fresh (by have := Z4.out; simp; omega)).mono ?_
    rintro e w6 ⟨A6, n6, c6, rfl, ho6, hb6⟩
    have O6 := Lib.hid ho6
    have B6 := Lib.hid ((B4.out.alloc B4.out.size _).trans (hb6.mono (Nat.le_succ _)))
    clear ho6 hb6 ho5 O4
    go_wp2_with fail
    go_ret
    exact ⟨A6, n6, c6, rfl, by rw [HS.out]; exact O6.out.from_ (Nat.le_succ _), B6.out⟩
  · have hk' : keep ≤ 0 := by omega
    have HS := Lib.hid (set_none HR.out box hk)
    clear hk
    go_wp2_with fail
    go_ret
    exact ⟨A3, n3, c2, rfl, by rw [HS.out]; exact O3.out.from_ (Nat.le_succ _), B3.out⟩
end Go.Proofs.YtbogjfbfgbhdbaaGreatDoor
namespace Go.Proofs.YtbogjfbfgbhdbaaGreatDoor
set_option linter.unusedVariables false
set_option linter.unusedSimpArgs false
theorem putB_cons_lt {x b : Bx} {l : List Bx} (h : ltS x.name b.name) : putB (x :: l) b = x :: putB l b := by
  unfold putB; rw [List.takeWhile_cons, List.dropWhile_cons]; simp [h]
theorem putB_cons_ge {x b : Bx} {l : List Bx} (h : ¬ ltS x.name b.name) : putB (x :: l) b = b :: x :: l := by
  unfold putB; rw [List.takeWhile_cons, List.dropWhile_cons]; simp [h]
theorem putB_perm (l : List Bx) (b : Bx) : (putB l b).Perm (b :: l) := by
  unfold putB
  refine List.perm_middle.trans ?_
  rw [List.takeWhile_append_dropWhile]
theorem mem_putB {l : List Bx} {b x : Bx} : x ∈ putB l b ↔ x = b ∨ x ∈ l := by rw [(putB_perm l b).mem_iff, List.mem_cons]
theorem putB_len (l : List Bx) (b : Bx) : (putB l b).length = l.length + 1 := by rw [(putB_perm l b).length_eq, List.length_cons]
theorem putB_rise {l : List Bx} {b : Bx} (h : l.Pairwise (fun a b => ltS a.name b.name)) (hn : ∀ x ∈ l, x.name ≠ b.name) : (putB l b).Pairwise (fun a b => ltS a.name b.name) := by
  induction l with
  | nil => exact List.pairwise_singleton ..
  | cons x l ih =>
    rw [List.pairwise_cons] at h
    by_cases hx : ltS x.name b.name
    · rw [putB_cons_lt hx, List.pairwise_cons]
      refine ⟨fun y hy => ?_, ih h.2 fun y hy => hn y (List.mem_cons_of_mem _ hy)⟩
      rcases mem_putB.1 hy with rfl | hy
      · exact hx
      · exact h.1 y hy
    · have hb : ltS b.name x.name := by
        rcases ltS_tri x.name b.name with h1 | h1 | h1
        · exact absurd h1 hx
        · exact absurd h1 (hn x List.mem_cons_self)
        · exact h1
      rw [putB_cons_ge hx, List.pairwise_cons, List.pairwise_cons]
      refine ⟨fun y hy => ?_, h⟩
      rcases List.mem_cons.1 hy with rfl | hy
      · exact hb
      · exact ltS_trans hb (h.1 y hy)
theorem foldl_putB : ∀ (g l : List Bx), l.Pairwise (fun a b => ltS a.name b.name) → g.Pairwise (fun a b => a.name ≠ b.name) → (∀ x ∈ g, ∀ y ∈ l, y.name ≠ x.name) →
    (g.foldl putB l).Pairwise (fun a b => ltS a.name b.name) ∧ (g.foldl putB l).Perm (g ++ l)
  | [], l, hl, _, _ => ⟨hl, List.Perm.refl _⟩
  | x :: g, l, hl, hg, hd => by
    rw [List.pairwise_cons] at hg
    rw [List.foldl_cons]
    have hx : ∀ y ∈ l, y.name ≠ x.name := hd x List.mem_cons_self
    obtain ⟨h1, h2⟩ := foldl_putB g (putB l x) (putB_rise hl hx) hg.2 (fun z hz y hy => by
      rcases mem_putB.1 hy with rfl | hy
      · exact hg.1 z hz
      · exact hd z (List.mem_cons_of_mem _ hz) y hy)
    refine ⟨h1, h2.trans ?_⟩
    exact ((putB_perm l x).append_left g).trans List.perm_middle
theorem OkSta.tick {s : Sta} (h : OkSta s) {t : Int} (ht : tmB t = true) : OkSta (tick s t) := by
  unfold tmB at ht
  have ht := of_decide_eq_true ht
  have hc := h.clock
  refine ⟨?_, h.nv, h.nt, h.nh, h.lens, h.boxes, h.subs, h.rules, okTombs_more h.tombs ?_ (Int.le_refl _), h.holds⟩
  · show 0 ≤ max s.clock t ∧ max s.clock t ≤ _; omega
  · show s.clock ≤ max s.clock t; omega
theorem create_right {s : Sta} (h : OkSta s) {name : ByteArray} (hn : rightS name = true) (he : (createS s name).2 = 0) : OkSta (createS s name).1 := by
  unfold createS at he ⊢
  by_cases h1 : boxN s.boxes name = 0
  · have h1' : ¬ boxN s.boxes name ≠ 0 := by omega
    rw [if_neg h1'] at he ⊢
    by_cases h2 : s.boxes.length = 16
    · rw [if_pos h2] at he; simp at he
    · rw [if_neg h2] at he ⊢
      by_cases h3 : 4294967295 < s.nv
      · rw [if_pos h3] at he; simp at he
      · rw [if_neg h3]
        have hnv := h.nv
        have hfree := boxN_none.1 h1
        have hl := h.lens
        refine ⟨h.clock, ⟨by show 1 ≤ s.nv + 1; have := hnv.1; omega, by show s.nv + 1 ≤ _; omega⟩, h.nt, h.nh, ⟨by show (putB _ _).length ≤ 16; rw [putB_len]; omega, hl.2⟩, ?_, h.subs, h.rules, h.tombs, h.holds⟩
        have hb := h.boxes
        refine ⟨fun b hb2 => ?_, putB_rise hb.rise (fun x hx => hfree x hx), ?_, ?_⟩
        · rcases mem_putB.1 hb2 with rfl | hb2
          · refine ⟨⟨hnv.1, by show s.nv ≤ _; omega, by show (1 : Int) ≤ 1; omega, by show (1 : Int) ≤ _; omega, by show (0 : Nat) ≤ 40; omega, (fun m hm => by cases hm), List.Pairwise.nil⟩, hn, by show s.nv < s.nv + 1; omega⟩
          · have := hb.each b hb2
            exact ⟨this.1, this.2.1, by have := this.2.2; show b.valid < s.nv + 1; omega⟩
        · rw [(putB_perm s.boxes ⟨name, s.nv, 1, []⟩).pairwise_iff (fun {x y} hxy => Ne.symm hxy), List.pairwise_cons]
          exact ⟨fun x hx => by have := (hb.each x hx).2.2; show s.nv ≠ x.valid; omega, hb.vals⟩
        · obtain ⟨x, hx, he2⟩ := hb.inbox
          exact ⟨x, mem_putB.2 (.inr hx), he2⟩
  · rw [if_pos h1] at he; simp at he
theorem okMsgs_of {b : Bx} (h : OkBx b) : ∀ m ∈ b.msgs, okMg m = true := fun m hm => (h.2.2.2.2.2.1 m hm).1
theorem remove_right {s : Sta} (h : OkSta s) {name : ByteArray} (hn : rightS name = true) (he : (removeS s name).2 = 0) : OkSta (removeS s name).1 := by
  unfold removeS at he ⊢
  by_cases h1 : boxN s.boxes name = 0
  · rw [if_pos h1] at he; simp at he
  · rw [if_neg h1] at he ⊢
    by_cases h2 : name = inboxS
    · rw [if_pos h2] at he; simp at he
    · rw [if_neg h2] at he ⊢
      simp only at he ⊢
      by_cases h3 : buryE s (boxAt s.boxes name).msgs.length ≠ 0
      · rw [if_pos h3] at he; exact absurd he h3
      · rw [if_neg h3]
        have h3' : buryE s (boxAt s.boxes name).msgs.length = 0 := by omega
        obtain ⟨q1, q2⟩ := buryE_ok h3'
        obtain ⟨g1, g2, g3⟩ := boxAt_get h1
        have hb := h.boxes
        have hl := h.lens
        have hsub : (s.boxes.eraseIdx (boxN s.boxes name - 1)).Sublist s.boxes := List.eraseIdx_sublist ..
        refine ⟨h.clock, h.nv, ⟨by show 1 ≤ s.nt + _; have := h.nt.1; omega, by show s.nt + _ ≤ _; omega⟩, h.nh, ⟨Nat.le_trans hsub.length_le hl.1, hl.2.1, hl.2.2.1, by show (s.tombs ++ _).length ≤ 60; rw [List.length_append, bury_len]; omega, hl.2.2.2.2⟩, ?_, h.subs, h.rules, bury_tombs h.tombs h.clock.1 hn (okMsgs_of (hb.each _ g3).1) h.nt.1, h.holds⟩
        refine ⟨fun b hb2 => hb.each b (hsub.subset hb2), hb.rise.sublist hsub, hb.vals.sublist hsub, ?_⟩
        obtain ⟨x, hx, he2⟩ := hb.inbox
        obtain ⟨j, hj⟩ := List.mem_iff_getElem?.1 hx
        refine ⟨x, ?_, he2⟩
        have hne : j ≠ boxN s.boxes name - 1 := fun e => by
          rw [e, g1] at hj
          have := Option.some.inj hj
          rw [← this, g2] at he2
          exact h2 he2
        exact List.mem_eraseIdx_iff_getElem?.2 ⟨j, hne, hj⟩
theorem setAt_right {s : Sta} (h : OkSta s) {name : ByteArray} (h1 : boxN s.boxes name ≠ 0) {b : Bx} (hb : OkBx b) (hn : b.name = (boxAt s.boxes name).name) (hv : b.valid = (boxAt s.boxes name).valid) : OkSta (setAt s name b) := by
  obtain ⟨g1, g2, g3⟩ := boxAt_get h1
  exact ⟨h.clock, h.nv, h.nt, h.nh, ⟨by show (s.boxes.set _ _).length ≤ 16; rw [List.length_set]; exact h.lens.1, h.lens.2⟩, h.boxes.set g1 hb hn hv, h.subs, h.rules, h.tombs, h.holds⟩
theorem add_name {b : Bx} {m : Mg} (h : addE b m = 0) : (addB b m).name = b.name ∧ (addB b m).valid = b.valid := by rw [(addB_ok h).1]; exact ⟨rfl, rfl⟩
theorem append_right {s : Sta} (h : OkSta s) {name : ByteArray} {m : Mg} (he : (appendS s name m).2 = 0) : OkSta (appendS s name m).1 := by
  unfold appendS at he ⊢
  by_cases h1 : boxN s.boxes name = 0
  · rw [if_pos h1] at he; simp at he
  · rw [if_neg h1] at he ⊢
    exact setAt_right h h1 (add_right he) (add_name he).1 (add_name he).2
theorem apV_ok {m g f : Int} (h : apE 0 m g = 0) (hf : okF f = true) : okF (apV f m g) = true := by
  unfold apE at h
  split at h
  · rename_i hq
    obtain ⟨_, hg, hm0, hm2⟩ := hq
    unfold apV
    rw [if_pos ⟨hf, hg⟩]
    have hf' : 0 ≤ f ∧ f ≤ 31 := by unfold okF at hf; exact of_decide_eq_true hf
    have hg' : 0 ≤ g ∧ g ≤ 31 := by unfold okF at hg; exact of_decide_eq_true hg
    obtain ⟨a, rfl⟩ := Int.eq_ofNat_of_zero_le hf'.1
    obtain ⟨c, rfl⟩ := Int.eq_ofNat_of_zero_le hg'.1
    have ha : a ≤ 31 := by omega
    have hc : c ≤ 31 := by omega
    have all : ∀ x : Fin 32, ∀ y : Fin 32, okF (bits .or .i64 (x.val : Int) (y.val : Int)) = true ∧ okF (bits .andNot .i64 (x.val : Int) (y.val : Int)) = true := by decide +kernel
    have := all ⟨a, by omega⟩ ⟨c, by omega⟩
    split
    · exact hg
    · split
      · exact this.1
      · split
        · exact this.2
        · omega
  · omega
theorem store_right {b : Bx} {ids : List Int} {mode flags : Int} (h : storeE b ids mode flags = 0) : OkBx (storeB b ids mode flags) := by
  obtain ⟨hb, ha, _⟩ := storeE_zero h
  rw [storeB_ok h]
  obtain ⟨h1, h2, h3, h4, h5, h6, h7⟩ := hb
  have hu : ∀ m, (if m.uid ∈ ids then setF mode flags m else m).uid = m.uid := fun m => by split <;> rfl
  refine ⟨h1, h2, h3, h4, by show (storeL _ _ _ _).length ≤ 40; unfold storeL; rw [List.length_map]; exact h5, ?_, ?_⟩
  · intro x hx
    obtain ⟨m, hm, rfl⟩ := List.mem_map.1 hx
    have hk := h6 m hm
    have ho := okMg_of hk.1
    refine ⟨?_, by rw [hu]; exact hk.2⟩
    split
    · exact okMg_yes ⟨ho.1, ho.2.1, apV_ok ha ho.2.2.1, ho.2.2.2⟩
    · exact hk.1
  · show (storeL _ _ _ _).Pairwise _
    unfold storeL
    rw [List.pairwise_map]
    exact h7.imp fun {a c} hac => by rw [hu, hu]; exact hac
theorem takeS_right {b : Bx} {ids : List Int} (h : tkE b ids = 0) : OkBx (tkB b ids) := by
  obtain ⟨h1, h2, h3, h4, h5, h6, h7⟩ := (tkE_zero h).1
  rw [(tkB_ok h).1]
  refine ⟨h1, h2, h3, h4, Nat.le_trans (left_le _ _) h5, fun m hm => h6 m (List.mem_filter.1 hm).1, h7.filter _⟩
theorem storeS_right {s : Sta} (h : OkSta s) {e : Ev} (he : (storeS s e).2 = 0) : OkSta (storeS s e).1 := by
  unfold storeS at he ⊢
  by_cases h1 : boxN s.boxes e.box = 0
  · rw [if_pos h1] at he; simp at he
  · rw [if_neg h1] at he ⊢
    exact setAt_right h h1 (store_right he) (by rw [storeB_ok he]) (by rw [storeB_ok he])
theorem expunge_right {s : Sta} (h : OkSta s) {e : Ev} (hn : rightS e.box = true) (he : (expungeS s e).2 = 0) : OkSta (expungeS s e).1 := by
  unfold expungeS at he ⊢
  by_cases h1 : boxN s.boxes e.box = 0
  · rw [if_pos h1] at he; simp at he
  · rw [if_neg h1] at he ⊢
    by_cases h2 : tkE (boxAt s.boxes e.box) e.ids ≠ 0
    · rw [if_pos h2] at he; exact absurd he h2
    · rw [if_neg h2] at he ⊢
      simp only at he ⊢
      have h2' : tkE (boxAt s.boxes e.box) e.ids = 0 := by omega
      by_cases h3 : buryE s (tkM (boxAt s.boxes e.box) e.ids).length ≠ 0
      · rw [if_pos h3] at he; exact absurd he h3
      · rw [if_neg h3]
        have h3' : buryE s (tkM (boxAt s.boxes e.box) e.ids).length = 0 := by omega
        obtain ⟨q1, q2⟩ := buryE_ok h3'
        have hS := setAt_right h h1 (takeS_right h2') (by rw [(tkB_ok h2').1]) (by rw [(tkB_ok h2').1])
        have hm : ∀ m ∈ tkM (boxAt s.boxes e.box) e.ids, okMg m = true := by
          rw [(tkB_ok h2').2]
          exact fun m hm => okMsgs_of (tkE_zero h2').1 m (List.mem_filter.1 hm).1
        have hl := hS.lens
        exact ⟨hS.clock, hS.nv, ⟨by show 1 ≤ s.nt + _; have := h.nt.1; omega, by show s.nt + _ ≤ _; omega⟩, hS.nh, ⟨hl.1, hl.2.1, hl.2.2.1, by show (s.tombs ++ _).length ≤ 60; rw [List.length_append, bury_len]; omega, hl.2.2.2.2⟩, hS.boxes, hS.subs, hS.rules, bury_tombs hS.tombs hS.clock.1 hn hm hS.nt.1, hS.holds⟩
theorem copyL_right {b : Bx} : ∀ {l : List Mg}, OkBx b → (copyL b l).2 = 0 → OkBx (copyL b l).1 ∧ (copyL b l).1.name = b.name ∧ (copyL b l).1.valid = b.valid := by
  intro l
  induction l generalizing b with
  | nil => exact fun h _ => ⟨h, rfl, rfl⟩
  | cons m l ih =>
    intro h he
    unfold copyL at he ⊢
    by_cases h1 : addE b m = 0
    · rw [if_pos h1] at he ⊢
      obtain ⟨a1, a2, a3⟩ := ih (add_right h1) he
      exact ⟨a1, a2.trans (add_name h1).1, a3.trans (add_name h1).2⟩
    · rw [if_neg h1] at he; exact absurd he h1
theorem copyS_right {s : Sta} (h : OkSta s) {e : Ev} (he : (copyS s e).2 = 0) : OkSta (copyS s e).1 := by
  unfold copyS at he ⊢
  by_cases h1 : boxN s.boxes e.box = 0 ∨ boxN s.boxes e.to_ = 0 ∨ thereU (boxAt s.boxes e.box).msgs e.ids = false
  · rw [if_pos h1] at he; simp at he
  · rw [if_neg h1] at he ⊢
    simp only at he ⊢
    have h2 : boxN s.boxes e.to_ ≠ 0 := fun e2 => h1 (.inr (.inl e2))
    obtain ⟨a1, a2, a3⟩ := copyL_right (h.boxes.each _ (boxAt_get h2).2.2).1 he
    exact setAt_right h h2 a1 a2 a3
theorem restore_right {s : Sta} (h : OkSta s) {id : Int} (he : (restoreS s id).2 = 0) : OkSta (restoreS s id).1 := by
  unfold restoreS at he ⊢
  cases hq : tombO s id with
  | none => rw [hq] at he; simp at he
  | some t =>
    rw [hq] at he
    simp only at he ⊢
    by_cases h1 : boxN s.boxes t.box = 0
    · rw [if_pos h1] at he; simp at he
    · rw [if_neg h1] at he ⊢
      have hS := setAt_right h h1 (add_right he) (add_name he).1 (add_name he).2
      have hl := hS.lens
      exact ⟨hS.clock, hS.nv, hS.nt, hS.nh, ⟨hl.1, hl.2.1, hl.2.2.1, Nat.le_trans (List.length_filter_le ..) hl.2.2.2.1, hl.2.2.2.2⟩, hS.boxes, hS.subs, hS.rules, okTombs_filter hS.tombs _, hS.holds⟩
theorem rule_right {s : Sta} (h : OkSta s) {box : ByteArray} {keep : Int} (hb : rightS box = true) (hk : tmB keep = true) (he : (ruleS s box keep).2 = 0) : OkSta (ruleS s box keep).1 := by
  unfold ruleS at he ⊢
  simp only at he
  have hlen : (setR s.rules box keep).length ≤ 16 := by
    split at he
    · omega
    · omega
  have hk := of_decide_eq_true hk
  have hl := h.lens
  refine ⟨h.clock, h.nv, h.nt, h.nh, ⟨hl.1, hl.2.1, hlen, hl.2.2.2⟩, h.boxes, h.subs, ⟨fun r hr => ?_, setR_rise h.rules.2 _ _⟩, h.tombs, h.holds⟩
  rcases mem_setR.1 hr with ⟨hr, _⟩ | ⟨h0, rfl⟩
  · exact h.rules.1 r hr
  · exact ⟨hb, by show 1 ≤ keep; omega, hk.2⟩
theorem hold_right {s : Sta} (h : OkSta s) {e : Ev} (hb : rightS e.box = true) (hs : setB e.set = true) (he : (holdS s e).2 = 0) : OkSta (holdS s e).1 := by
  unfold holdS at he ⊢
  by_cases h1 : s.holds.length = 16
  · rw [if_pos h1] at he; simp at he
  · rw [if_neg h1] at he ⊢
    by_cases h2 : 4294967295 < s.nh
    · rw [if_pos h2] at he; simp at he
    · rw [if_neg h2]
      have hl := h.lens
      have hn := h.nh
      have hs := of_decide_eq_true hs
      refine ⟨h.clock, h.nv, h.nt, ⟨by show 1 ≤ s.nh + 1; have := hn.1; omega, by show s.nh + 1 ≤ _; omega⟩, ⟨hl.1, hl.2.1, hl.2.2.1, hl.2.2.2.1, by show (s.holds ++ _).length ≤ 16; rw [List.length_append]; simp; omega⟩, h.boxes, h.subs, h.rules, h.tombs, ⟨fun x hx => ?_, ?_⟩⟩
      · rcases List.mem_append.1 hx with hx | hx
        · have := h.holds.1 x hx; exact ⟨this.1, by show x.id < s.nh + 1; omega, this.2.2⟩
        · rw [List.mem_singleton.1 hx]
          refine ⟨hn.1, by show s.nh < s.nh + 1; omega, hb, fun hne => ?_⟩
          unfold rightU
          have : 1 ≤ e.set.length := List.length_pos_iff.2 hne
          exact decide_eq_true ⟨this, hs.1, hs.2⟩
      · rw [List.pairwise_append]
        exact ⟨h.holds.2, List.pairwise_singleton .., fun a ha b hb => by rw [List.mem_singleton.1 hb]; exact (h.holds.1 a ha).2.1⟩
theorem release_right {s : Sta} (h : OkSta s) {id : Int} (he : (releaseS s id).2 = 0) : OkSta (releaseS s id).1 := by
  unfold releaseS at he ⊢
  split
  · have hl := h.lens
    exact ⟨h.clock, h.nv, h.nt, h.nh, ⟨hl.1, hl.2.1, hl.2.2.1, hl.2.2.2.1, Nat.le_trans (List.length_filter_le ..) hl.2.2.2.2⟩, h.boxes, h.subs, h.rules, h.tombs, okHolds_filter h.holds _⟩
  · rename_i hq; rw [if_neg hq] at he; simp at he
theorem purge_right {s : Sta} (h : OkSta s) {ids : List Int} (he : (purgeS s ids).2 = 0) : OkSta (purgeS s ids).1 := by
  unfold purgeS at he ⊢
  split
  · rename_i hq; rw [if_pos hq] at he; simp at he
  · rename_i hq
    rw [if_neg hq] at he
    split
    · rename_i hq2; rw [if_pos hq2] at he; simp at he
    · have hl := h.lens
      exact ⟨h.clock, h.nv, h.nt, h.nh, ⟨hl.1, hl.2.1, hl.2.2.1, Nat.le_trans (List.length_filter_le ..) hl.2.2.2.1, hl.2.2.2.2⟩, h.boxes, h.subs, h.rules, okTombs_filter h.tombs _, h.holds⟩
end Go.Proofs.YtbogjfbfgbhdbaaGreatDoor
namespace Go.Proofs.YtbogjfbfgbhdbaaGreatDoor
set_option linter.unusedVariables false
set_option linter.unusedSimpArgs false
theorem sub_right {s : Sta} (h : OkSta s) {name : ByteArray} (hn : rightS name = true) (he : (subS s name).2 = 0) : OkSta (subS s name).1 := by
  unfold subS at he ⊢
  by_cases h1 : ∃ x ∈ s.subs, x = name
  · rw [if_pos h1] at he; simp at he
  · rw [if_neg h1] at he ⊢
    by_cases h2 : s.subs.length = 16
    · rw [if_pos h2] at he; simp at he
    · rw [if_neg h2]
      have hl := h.lens
      have hlen : (s.subs.filter (fun x => decide (ltS x name))).length + (s.subs.filter (fun x => decide (ltS name x))).length ≤ s.subs.length := by
        have e : s.subs.filter (fun x => decide (ltS name x)) = (s.subs.filter (fun x => decide (ltS name x))).filter (fun x => !decide (ltS x name)) := by
          rw [List.filter_filter]
          refine List.filter_congr fun x hx => ?_
          by_cases hq : ltS name x
          · have := ltS_not hq; simp [hq, this]
          · simp [hq]
        have e2 := (List.filter_append_perm (fun x => decide (ltS x name)) s.subs).length_eq
        rw [List.length_append] at e2
        have e3 : (s.subs.filter (fun x => decide (ltS name x))).length ≤ (s.subs.filter (fun x => !decide (ltS x name))).length := by
          rw [e, List.filter_filter]
          have e4 : s.subs.filter (fun a => (!decide (ltS a name)) && decide (ltS name a)) = (s.subs.filter (fun x => !decide (ltS x name))).filter (fun x => decide (ltS name x)) := by
            rw [List.filter_filter]
            exact List.filter_congr fun x hx => Bool.and_comm _ _
          rw [e4]
          exact List.length_filter_le ..
        omega
      refine ⟨h.clock, h.nv, h.nt, h.nh, ⟨hl.1, by show (_ ++ _ :: _).length ≤ 16; rw [List.length_append, List.length_cons]; omega, hl.2.2⟩, h.boxes, ⟨fun x hx => ?_, ?_⟩, h.rules, h.tombs, h.holds⟩
      · rcases List.mem_append.1 hx with hx | hx
        · exact h.subs.1 x (List.mem_filter.1 hx).1
        · rcases List.mem_cons.1 hx with rfl | hx
          · exact hn
          · exact h.subs.1 x (List.mem_filter.1 hx).1
      · rw [List.pairwise_append, List.pairwise_cons]
        refine ⟨h.subs.2.filter _, ⟨fun x hx => of_decide_eq_true (List.mem_filter.1 hx).2, h.subs.2.filter _⟩, fun a ha b hb => ?_⟩
        have h1 := of_decide_eq_true (List.mem_filter.1 ha).2
        rcases List.mem_cons.1 hb with rfl | hb
        · exact h1
        · exact ltS_trans h1 (of_decide_eq_true (List.mem_filter.1 hb).2)
theorem forget_right {s : Sta} (h : OkSta s) {name : ByteArray} (he : (forgetS s name).2 = 0) : OkSta (forgetS s name).1 := by
  unfold forgetS at he ⊢
  split
  · have hl := h.lens
    have e : s.subs.filter (fun x => decide (ltS x name)) ++ s.subs.filter (fun x => decide (ltS name x)) = s.subs.filter (fun x => decide (ltS x name)) ++ s.subs.filter (fun x => decide (ltS name x)) := rfl
    have hlen : (s.subs.filter (fun x => decide (ltS x name)) ++ s.subs.filter (fun x => decide (ltS name x))).length ≤ s.subs.length := by
      have e2 := (List.filter_append_perm (fun x => decide (ltS x name)) s.subs).length_eq
      rw [List.length_append] at e2 ⊢
      have e3 : (s.subs.filter (fun x => decide (ltS name x))).length ≤ (s.subs.filter (fun x => !decide (ltS x name))).length := by
        have e4 : s.subs.filter (fun x => decide (ltS name x)) = (s.subs.filter (fun x => !decide (ltS x name))).filter (fun x => decide (ltS name x)) := by
          rw [List.filter_filter]
          refine List.filter_congr fun x hx => ?_
          by_cases hq : ltS name x
          · have := ltS_not hq; simp [hq, this]
          · simp [hq]
        rw [e4]
        exact List.length_filter_le ..
      omega
    refine ⟨h.clock, h.nv, h.nt, h.nh, ⟨hl.1, Nat.le_trans hlen hl.2.1, hl.2.2⟩, h.boxes, ⟨fun x hx => ?_, ?_⟩, h.rules, h.tombs, h.holds⟩
    · rcases List.mem_append.1 hx with hx | hx <;> exact h.subs.1 x (List.mem_filter.1 hx).1
    · rw [List.pairwise_append]
      exact ⟨h.subs.2.filter _, h.subs.2.filter _, fun a ha b hb => ltS_trans (of_decide_eq_true (List.mem_filter.1 ha).2) (of_decide_eq_true (List.mem_filter.1 hb).2)⟩
  · rename_i hq; rw [if_neg hq] at he; simp at he
theorem below_prefix {l t : List Nat} (h : belowN l t = true) : t <+: l := by
  unfold belowN at h
  have h := of_decide_eq_true h
  unfold aboveN at h
  split at h
  · unfold aboveR at h
    obtain ⟨i, _, hi⟩ := List.mem_filterMap.1 h
    split at hi
    · rw [← Option.some.inj hi]; exact List.take_prefix ..
    · cases hi
  · cases h
theorem moves_prefix {a : ByteArray} {b : Bx} (h : movesB a b = true) : a.data.toList <+: b.name.data.toList := by
  unfold movesB at h
  rw [Bool.or_eq_true] at h
  rcases h with h | h
  · rw [of_decide_eq_true h]; exact List.prefix_refl _
  · have hp := below_prefix h
    unfold nats at hp
    rw [List.prefix_iff_eq_take] at hp ⊢
    have hq : (a.data.toList).map (·.toNat) = (b.name.data.toList.take a.data.toList.length).map (·.toNat) := by
      rw [List.map_take]
      simpa using hp
    exact (List.map_inj_right (fun x y hxy => UInt8.toNat_inj.1 hxy)).1 hq
theorem newName_inj {a to_ : ByteArray} {x y : Bx} (hx : movesB a x = true) (hy : movesB a y = true) (h : newName a to_ x.name = newName a to_ y.name) : x.name = y.name := by
  obtain ⟨u, hu⟩ := moves_prefix hx
  obtain ⟨v, hv⟩ := moves_prefix hy
  have h1 : to_.data.toList ++ x.name.data.toList.drop a.data.toList.length = to_.data.toList ++ y.name.data.toList.drop a.data.toList.length := by
    have := congrArg (fun z : ByteArray => z.data.toList) h
    simpa [newName] using this
  have h2 := List.append_cancel_left h1
  rw [← hu, ← hv, List.drop_left, List.drop_left] at h2
  exact ba_eq (by rw [← hu, ← hv, h2])
theorem inbox_stays {a : ByteArray} (ha : a ≠ inboxS) {b : Bx} (hb : b.name = inboxS) : movesB a b = false := by
  unfold movesB
  rw [hb, decide_eq_false (fun e => ha e.symm), Bool.false_or]
  unfold belowS belowN
  have e : aboveN (nats inboxS) = [] := by decide +kernel
  rw [e]; simp
theorem rename_right {s : Sta} (h : OkSta s) {a to_ : ByteArray} (he : (renameS s a to_).2 = 0) : OkSta (renameS s a to_).1 := by
  unfold renameS at he ⊢
  by_cases h1 : boxN s.boxes a = 0
  · rw [if_pos h1] at he; simp at he
  · rw [if_neg h1] at he ⊢
    by_cases h2 : a = inboxS ∨ to_ = a ∨ belowS to_ a = true
    · rw [if_pos h2] at he; simp at he
    · rw [if_neg h2] at he ⊢
      by_cases h3 : ¬ (∀ b ∈ goL s a to_, rightS b.name = true)
      · rw [if_pos h3] at he; simp at he
      · rw [if_neg h3] at he ⊢
        by_cases h4 : ¬ (∀ b ∈ goL s a to_, boxN (stayL s a) b.name = 0)
        · rw [if_pos h4] at he; simp at he
        · rw [if_neg h4]
          have h3' := Classical.not_not.1 h3
          have h4' := Classical.not_not.1 h4
          have ha : a ≠ inboxS := fun e => h2 (.inl e)
          have hb := h.boxes
          have hl := h.lens
          have hgo : (goL s a to_).Pairwise (fun x y => x.name ≠ y.name) := by
            unfold goL
            rw [List.pairwise_map]
            refine List.Pairwise.imp_of_mem (R := fun x y => ltS x.name y.name) (fun {x y} hx hy hxy hn => ?_) (hb.rise.filter _)
            exact ltS_ne hxy (newName_inj (List.mem_filter.1 hx).2 (List.mem_filter.1 hy).2 hn)
          obtain ⟨r1, r2⟩ := foldl_putB (goL s a to_) (stayL s a) (hb.rise.filter _) hgo (fun x hx y hy => boxN_none.1 (h4' x hx) y hy)
          have hp := List.filter_append_perm (movesB a) s.boxes
          have hlen : ((goL s a to_).foldl putB (stayL s a)).length = s.boxes.length := by
            rw [r2.length_eq, ← hp.length_eq, List.length_append, List.length_append]
            unfold goL stayL
            rw [List.length_map]
          refine ⟨h.clock, h.nv, h.nt, h.nh, ⟨by show ((goL s a to_).foldl putB (stayL s a)).length ≤ 16; rw [hlen]; exact hl.1, hl.2⟩, ⟨fun x hx => ?_, r1, ?_, ?_⟩, h.subs, h.rules, h.tombs, h.holds⟩
          · rcases List.mem_append.1 (r2.mem_iff.1 hx) with hx | hx
            · have hx0 := hx
              unfold goL at hx
              obtain ⟨b, hb2, rfl⟩ := List.mem_map.1 hx
              have := hb.each b (List.mem_filter.1 hb2).1
              exact ⟨this.1, h3' _ hx0, this.2.2⟩
            · exact hb.each x (List.mem_filter.1 hx).1
          · rw [r2.pairwise_iff (fun {x y} hxy => Ne.symm hxy), List.pairwise_append]
            have hv := (hp.pairwise_iff (fun {x y} hxy => Ne.symm hxy)).2 hb.vals
            rw [List.pairwise_append] at hv
            refine ⟨?_, hv.2.1, fun x hx y hy => ?_⟩
            · unfold goL
              rw [List.pairwise_map]
              exact hv.1
            · unfold goL at hx
              obtain ⟨b, hb2, rfl⟩ := List.mem_map.1 hx
              exact hv.2.2 b hb2 y hy
          · obtain ⟨x, hx, he2⟩ := hb.inbox
            refine ⟨x, r2.mem_iff.2 (List.mem_append.2 (.inr ?_)), he2⟩
            unfold stayL
            exact List.mem_filter.2 ⟨hx, by rw [inbox_stays ha he2]; rfl⟩
theorem rightS_parts {e : Ev} (h : rightE e = true) : (1 ≤ e.kind ∧ e.kind ≤ 14) ∧ tmB e.at_ = true ∧ ∀ c ∈ partsN e.kind, okQ e c = true := by
  unfold rightE at h
  simp only [Bool.and_eq_true, List.all_eq_true] at h
  refine ⟨?_, h.2.1, h.2.2.1⟩
  have h1 := h.1
  unfold partsN at h1
  by_cases hk : 1 ≤ e.kind ∧ e.kind ≤ 14
  · exact hk
  · rw [if_neg hk] at h1; simp at h1
theorem do_1 {s : Sta} {e : Ev} (h : e.kind = 1) : doS s e = createS s e.box := by unfold doS; simp [h]
theorem do_2 {s : Sta} {e : Ev} (h : e.kind = 2) : doS s e = removeS s e.box := by unfold doS; simp [h]
theorem do_3 {s : Sta} {e : Ev} (h : e.kind = 3) : doS s e = renameS s e.box e.to_ := by unfold doS; simp [h]
theorem do_4 {s : Sta} {e : Ev} (h : e.kind = 4) : doS s e = subS s e.box := by unfold doS; simp [h]
theorem do_5 {s : Sta} {e : Ev} (h : e.kind = 5) : doS s e = forgetS s e.box := by unfold doS; simp [h]
theorem do_6 {s : Sta} {e : Ev} (h : e.kind = 6) : doS s e = appendS s e.box ⟨0, e.flags, e.date, e.body⟩ := by unfold doS; simp [h]
theorem do_7 {s : Sta} {e : Ev} (h : e.kind = 7) : doS s e = storeS s e := by unfold doS; simp [h]
theorem do_8 {s : Sta} {e : Ev} (h : e.kind = 8) : doS s e = copyS s e := by unfold doS; simp [h]
theorem do_9 {s : Sta} {e : Ev} (h : e.kind = 9) : doS s e = expungeS s e := by unfold doS; simp [h]
theorem do_10 {s : Sta} {e : Ev} (h : e.kind = 10) : doS s e = restoreS s e.n := by unfold doS; simp [h]
theorem do_11 {s : Sta} {e : Ev} (h : e.kind = 11) : doS s e = ruleS s e.box e.n := by unfold doS; simp [h]
theorem do_12 {s : Sta} {e : Ev} (h : e.kind = 12) : doS s e = holdS s e := by unfold doS; simp [h]
theorem do_13 {s : Sta} {e : Ev} (h : e.kind = 13) : doS s e = releaseS s e.n := by unfold doS; simp [h]
theorem do_14 {s : Sta} {e : Ev} (h : e.kind = 14) : doS s e = purgeS s e.ids := by unfold doS; simp [h]
theorem do_right {s : Sta} (h : OkSta s) {e : Ev} (hr : rightE e = true) (he : (doS s e).2 = 0) : OkSta (doS s e).1 := by
  obtain ⟨hk, _, hp⟩ := rightS_parts hr
  have box : (98 : Nat) ∈ partsN e.kind → rightS e.box = true := fun hm => by
    have := hp 98 hm; unfold okQ at this; simpa [rightS] using this
  rcases kind_cases hk with hq | hq | hq | hq | hq | hq | hq | hq | hq | hq | hq | hq | hq | hq <;> rw [hq] at box hp
  · rw [do_1 hq] at he ⊢; exact create_right h (box (by decide)) he
  · rw [do_2 hq] at he ⊢; exact remove_right h (box (by decide)) he
  · rw [do_3 hq] at he ⊢; exact rename_right h he
  · rw [do_4 hq] at he ⊢; exact sub_right h (box (by decide)) he
  · rw [do_5 hq] at he ⊢; exact forget_right h he
  · rw [do_6 hq] at he ⊢; exact append_right h he
  · rw [do_7 hq] at he ⊢; exact storeS_right h he
  · rw [do_8 hq] at he ⊢; exact copyS_right h he
  · rw [do_9 hq] at he ⊢; exact expunge_right h (box (by decide)) he
  · rw [do_10 hq] at he ⊢; exact restore_right h he
  · rw [do_11 hq] at he ⊢; exact rule_right h (box (by decide)) (by have := hp 110 (by decide); unfold okQ at this; simpa using this) he
  · rw [do_12 hq] at he ⊢; exact hold_right h (box (by decide)) (by have := hp 115 (by decide); unfold okQ at this; simpa using this) he
  · rw [do_13 hq] at he ⊢; exact release_right h he
  · rw [do_14 hq] at he ⊢; exact purge_right h he
theorem appE_zero {s : Sta} {e : Ev} (h : appE s e = 0) : OkSta s ∧ rightE e = true ∧ (doS (tick s e.at_) e).2 = 0 ∧ appS s e = (doS (tick s e.at_) e).1 := by
  have h0 := h
  unfold appE at h
  split at h
  · rename_i hq
    refine ⟨hq.1, hq.2, h, ?_⟩
    unfold appS
    rw [if_pos h0]
  · omega
theorem app_right {s : Sta} {e : Ev} (h : appE s e = 0) : OkSta (appS s e) := by
  obtain ⟨h1, h2, h3, h4⟩ := appE_zero h
  rw [h4]
  exact do_right (h1.tick (rightS_parts h2).2.1) h2 h3
theorem app_no {s : Sta} {e : Ev} (h : appE s e ≠ 0) : appS s e = s := by unfold appS; rw [if_neg h]
theorem app_keep {s : Sta} {e : Ev} (h : OkSta s) : OkSta (appS s e) := by
  by_cases he : appE s e = 0
  · exact app_right he
  · rw [app_no he]; exact h
theorem new_right : OkSta staNew := by
  refine ⟨⟨Int.le_refl _, by show (0 : Int) ≤ _; omega⟩, ⟨by show (1 : Int) ≤ 2; omega, by show (2 : Int) ≤ _; omega⟩, ⟨Int.le_refl _, by show (1 : Int) ≤ _; omega⟩, ⟨Int.le_refl _, by show (1 : Int) ≤ _; omega⟩, ⟨by show (1 : Nat) ≤ 16; omega, Nat.zero_le _, Nat.zero_le _, Nat.zero_le _, Nat.zero_le _⟩, ⟨fun b hb => ?_, List.pairwise_singleton .., List.pairwise_singleton .., ⟨_, List.mem_singleton_self _, rfl⟩⟩, ⟨(fun x hx => by cases hx), List.Pairwise.nil⟩, ⟨(fun x hx => by cases hx), List.Pairwise.nil⟩, ⟨(fun x hx => by cases hx), List.Pairwise.nil⟩, ⟨(fun x hx => by cases hx), List.Pairwise.nil⟩⟩
  rw [List.mem_singleton.1 hb]
  refine ⟨⟨Int.le_refl _, by show (1 : Int) ≤ _; omega, Int.le_refl _, by show (1 : Int) ≤ _; omega, Nat.zero_le _, (fun m hm => by cases hm), List.Pairwise.nil⟩, by show rightS inboxS = true; decide +kernel, by show (1 : Int) < 2; omega⟩
end Go.Proofs.YtbogjfbfgbhdbaaGreatDoor
namespace Go.Proofs.YtbogjfbfgbhdbaaGreatDoor
set_option linter.unusedVariables false
set_option linter.unusedSimpArgs false
open Go.RowKit
set_option linter.unusedVariables false
set_option linter.unusedSimpArgs false
structure ScAt (t : TypeId) (w : World) (base bs : Nat) (s : Sta) (p : StaAt) : Prop where
  own : StaO w base s p
  bk : Bk w bs t (staA s p)
  hb : base ≤ bs
theorem ScAt.below {t : TypeId} {w w' : World} {base bs : Nat} {s : Sta} {p : StaAt} (h : ScAt t w base bs s p) (hb : Below w.heap.size w w') : ScAt t w' base bs s p :=
  ⟨h.own.below hb, h.bk.below hb h.bk.lt, h.hb⟩
theorem ScAt.base {t : TypeId} {w : World} {base bs : Nat} {s : Sta} {p : StaAt} (h : ScAt t w base bs s p) : base ≤ w.heap.size := Nat.le_trans h.hb (Nat.le_of_lt h.bk.lt)
def DoIs (t : TypeId) (base bs : Nat) (r : Sta × Int) (w : World) (e : Ending) (w' : World) : Prop :=
  e = .returned (.int .i64 r.2) ∧ Below base w w' ∧ (r.2 = 0 → ∃ p, ScAt t w' base bs r.1 p)
theorem DoIs.no {t : TypeId} {base bs : Nat} {r : Sta × Int} {w w' : World} {z : Int} (h : r.2 = z) (hz : z ≠ 0) (hb : Below base w w') : DoIs t base bs r w (.returned (.int .i64 z)) w' :=
  ⟨by rw [h], hb, fun h0 => absurd (h.symm.trans h0) hz⟩
theorem DoIs.yes {t : TypeId} {base bs : Nat} {r : Sta × Int} {w w' : World} {p : StaAt} (h : r.2 = 0) (hb : Below base w w') (hp : ScAt t w' base bs r.1 p) : DoIs t base bs r w (.returned (.int .i64 0)) w' :=
  ⟨by rw [h], hb, fun _ => ⟨p, hp⟩⟩
theorem Chg.sc {t : TypeId} {w : World} {base bs : Nat} {s : Sta} {p : StaAt} (h : ScAt t w base bs s p) (i : Nat) (v : Value) : Chg t base w (w.setCell ⟨bs, i, none⟩ v) := Chg.cell h.bk h.hb i v
theorem notT_scribe : ¬ StaT 73 := by unfold StaT; decide
theorem OkSta.small {s : Sta} (h : OkSta s) : SmSta s where
  lens := by have := h.lens; omega
  bx := fun b hb => by
    have h1 := (h.boxes.each b hb).1
    refine ⟨Nat.le_trans h1.2.2.2.2.1 (by omega), fun m hm => ?_⟩
    have := okMg_of (h1.2.2.2.2.2.1 m hm).1
    omega
  tb := fun t ht => by have := okMg_of (h.tombs.1 t ht).2.2.2.2.2; omega
  ho := fun x hx => by
    by_cases hn : x.set = []
    · rw [hn]; simp
    · have := (h.holds.1 x hx).2.2.2 hn
      unfold rightU at this
      have := of_decide_eq_true this
      omega
theorem OwnK.putB {w : World} {base n c g : Nat} {l : List Bh} (h : OwnK 4 bhC w base 44 (some ⟨g, 0, none⟩) n c l) {i : Nat} {x y : Bh} (hi : l[i]? = some x) :
    OwnK 4 bhC ((((w.setCell ⟨g, i * 4, none⟩ (.string y.b.name)).setCell ⟨g, i * 4 + 1, none⟩ (.int .i64 y.b.valid)).setCell ⟨g, i * 4 + 2, none⟩ (.int .i64 y.b.next)).setCell ⟨g, i * 4 + 3, none⟩ (.slice y.A y.n y.c)) base 44 (some ⟨g, 0, none⟩) n c (l.set i y) := by
  have hh : ∀ g' : Nat, some (⟨g, 0, none⟩ : Addr) = some ⟨g', 0, none⟩ → g' = g := fun g' e => by injection e with e; injection e with e; exact e.symm
  have hil := (List.getElem?_eq_some_iff.1 hi).1
  have hget : ∀ z : Bh, (l.set i z)[i]? = some z := fun z => by rw [List.getElem?_set_self hil]
  obtain ⟨g0, e0, _, _, _, _, h0⟩ := OwnK.putX h hi (j := 0) (a' := (⟨⟨y.b.name, x.b.valid, x.b.next, x.b.msgs⟩, x.A, x.n, x.c⟩ : Bh)) (by omega) (.string y.b.name) (by unfold bhC; rfl)
  rw [hh g0 e0] at h0
  obtain ⟨g1, e1, _, _, _, _, h1⟩ := OwnK.putX h0 (hget _) (j := 1) (a' := (⟨⟨y.b.name, y.b.valid, x.b.next, x.b.msgs⟩, x.A, x.n, x.c⟩ : Bh)) (by omega) (.int .i64 y.b.valid) (by unfold bhC; rfl)
  rw [hh g1 e1, List.set_set] at h1
  obtain ⟨g2, e2, _, _, _, _, h2⟩ := OwnK.putX h1 (hget _) (j := 2) (a' := (⟨⟨y.b.name, y.b.valid, y.b.next, x.b.msgs⟩, x.A, x.n, x.c⟩ : Bh)) (by omega) (.int .i64 y.b.next) (by unfold bhC; rfl)
  rw [hh g2 e2, List.set_set] at h2
  obtain ⟨g3, e3, _, _, _, _, h3⟩ := OwnK.putX h2 (hget _) (j := 3) (a' := y) (by omega) (.slice y.A y.n y.c) (by unfold bhC; rfl)
  rw [hh g3 e3, List.set_set] at h3
  exact h3
theorem BoxesO.put {w : World} {base n c g : Nat} {l : List Bx} (h : BoxesO w base (some ⟨g, 0, none⟩) n c l) {i : Nat} (hi : i < n) (y : Bh) (hy : OwnM w base y.A y.n y.c y.b.msgs) :
    BoxesO ((((w.setCell ⟨g, i * 4, none⟩ (.string y.b.name)).setCell ⟨g, i * 4 + 1, none⟩ (.int .i64 y.b.valid)).setCell ⟨g, i * 4 + 2, none⟩ (.int .i64 y.b.next)).setCell ⟨g, i * 4 + 3, none⟩ (.slice y.A y.n y.c)) base (some ⟨g, 0, none⟩) n c (l.set i y.b) ∧
    Chg 44 base w ((((w.setCell ⟨g, i * 4, none⟩ (.string y.b.name)).setCell ⟨g, i * 4 + 1, none⟩ (.int .i64 y.b.valid)).setCell ⟨g, i * 4 + 2, none⟩ (.int .i64 y.b.next)).setCell ⟨g, i * 4 + 3, none⟩ (.slice y.A y.n y.c)) := by
  obtain ⟨hs, a1, a2, rfl⟩ := h
  obtain ⟨b, cur, hA, hb, hh, _, _⟩ := a1.block (by omega)
  injection hA with hA
  injection hA with hA
  subst hA
  obtain ⟨x, hx⟩ : ∃ x, hs[i]? = some x := ⟨_, List.getElem?_eq_getElem (by rw [a1.len]; exact hi)⟩
  have hch : Chg 44 base w ((((w.setCell ⟨g, i * 4, none⟩ (.string y.b.name)).setCell ⟨g, i * 4 + 1, none⟩ (.int .i64 y.b.valid)).setCell ⟨g, i * 4 + 2, none⟩ (.int .i64 y.b.next)).setCell ⟨g, i * 4 + 3, none⟩ (.slice y.A y.n y.c)) :=
    Chg.of (show Bk w g 44 cur from hh) (grown_put4o w g (i * 4) _ _ _ _) (below_put4o (Below.refl _ _) hb _ _ _ _ _)
  refine ⟨⟨hs.set i y, a1.putB hx, fun z hz => ?_, by rw [List.map_set]⟩, hch⟩
  rcases List.mem_or_eq_of_mem_set hz with hz | rfl
  · exact bhOwns.chg (a2 z hz) hch (by decide)
  · exact bhOwns.chg (show BhO w base z from hy) hch (by decide)
theorem BoxesO.row {w : World} {base n c : Nat} {A : Option Addr} {l : List Bx} (h : BoxesO w base A n c l) {i : Nat} (hi : i < n) : ∃ (g : Nat) (x : Bh), A = some ⟨g, 0, none⟩ ∧ base ≤ g ∧ g < w.heap.size ∧ l[i]? = some x.b ∧ OwnM w base x.A x.n x.c x.b.msgs ∧
    (w.cell? ⟨g, i * 4, none⟩ = some (.string x.b.name) ∧ w.cell? ⟨g, i * 4 + 1, none⟩ = some (.int .i64 x.b.valid) ∧ w.cell? ⟨g, i * 4 + 2, none⟩ = some (.int .i64 x.b.next) ∧ w.cell? ⟨g, i * 4 + 3, none⟩ = some (.slice x.A x.n x.c)) ∧
    (w.frozen? ⟨g, i * 4, none⟩ = false ∧ w.frozen? ⟨g, i * 4 + 1, none⟩ = false ∧ w.frozen? ⟨g, i * 4 + 2, none⟩ = false ∧ w.frozen? ⟨g, i * 4 + 3, none⟩ = false) := by
  obtain ⟨g, x, hA, hb, hl, hx, _, hr, hP, cs, hk, _⟩ := h.at_ hi
  exact ⟨g, x, hA, hb, hl, hx, hP, ⟨hr 0 _ rfl, hr 1 _ rfl, hr 2 _ rfl, hr 3 _ rfl⟩, ⟨hk.frozen _, hk.frozen _, hk.frozen _, hk.frozen _⟩⟩
def BdOk (w : World) (base : Nat) (h : Hd) : Prop := (OwnB w base 5 h.A h.n h.c h.m.body ∨ Bytes w base h.A h.n h.m.body) ∧ h.n ≤ 140737488355328
theorem Bytes.stay {w w' : World} {B n : Nat} {A : Option Addr} {l : List Nat} (h : Bytes w B A n l) (hk : ∀ p : Addr, p.block < B → p.block < w.heap.size → w'.cell? p = w.cell? p) : Bytes w' B A n l := by
  refine ⟨h.1, h.2.1, fun hn => ?_⟩
  obtain ⟨b, o, e, hb, hc⟩ := h.2.2 hn
  exact ⟨b, o, e, hb, fun k hk' => (hk ⟨b, o + k, none⟩ hb (World.block_lt_of_cell? _ _ (hc k hk'))).trans (hc k hk')⟩
theorem BdOk.below {w w' : World} {base : Nat} {h : Hd} (H : BdOk w base h) (hb : Below w.heap.size w w') : BdOk w' base h := ⟨H.1.imp (fun a => a.below hb) (fun a => a.stay fun p _ hp => hb.cell (p := p) hp), H.2⟩
theorem BdOk.chg {w w' : World} {base : Nat} {h : Hd} {t : TypeId} (H : BdOk w base h) (hc : Chg t base w w') (hn : 5 ≠ t) : BdOk w' base h := ⟨H.1.imp (fun a => a.chg hc hn) (fun a => a.stay fun p hp _ => hc.1.cell (p := p) hp), H.2⟩
theorem BdOk.bytes {w : World} {base : Nat} {h : Hd} (H : BdOk w base h) (hb : base ≤ w.heap.size) : Bytes w w.heap.size h.A h.n h.m.body := by
  rcases H.1 with h1 | h1
  · exact h1.bytes
  · exact h1.more hb
def MsgsV (w : World) (base : Nat) (A : Option Addr) (n c : Nat) (l : List Mg) : Prop := ∃ hs : List Hd, OwnK 4 hdC w base 49 A n c hs ∧ (∀ h ∈ hs, BdOk w base h) ∧ hs.map Hd.m = l
section
variable {w w' : World} {base n c : Nat} {A : Option Addr} {l : List Mg}
theorem MsgsV.len (h : MsgsV w base A n c l) : l.length = n := by
  obtain ⟨hs, h1, _, h3⟩ := h
  rw [← h3, List.length_map, h1.len]
theorem MsgsV.below (h : MsgsV w base A n c l) (hb : Below w.heap.size w w') : MsgsV w' base A n c l := by
  obtain ⟨hs, h1, h2, h3⟩ := h
  exact ⟨hs, h1.below hb, fun x hx => (h2 x hx).below hb, h3⟩
theorem MsgsV.chg {t : TypeId} (h : MsgsV w base A n c l) (hc : Chg t base w w') (h1 : 49 ≠ t) (h2 : 5 ≠ t) : MsgsV w' base A n c l := by
  obtain ⟨hs, a1, a2, a3⟩ := h
  exact ⟨hs, a1.chg hc h1, fun x hx => (a2 x hx).chg hc h2, a3⟩
theorem MsgsV.at_ {j : Nat} (h : MsgsV w base A n c l) (hj : j < n) : ∃ b x, A = some ⟨b, 0, none⟩ ∧ base ≤ b ∧ b < w.heap.size ∧ l[j]? = some x.m ∧ l.take (j + 1) = l.take j ++ [x.m] ∧ w.rangeAt b (j * 4) (hdC x) ∧ BdOk w base x := by
  obtain ⟨hs, h1, h2, rfl⟩ := h
  obtain ⟨b, hA, hb, hl', hr⟩ := h1.range (by omega)
  obtain ⟨x, hx⟩ : ∃ x, hs[j]? = some x := ⟨_, List.getElem?_eq_getElem (by rw [h1.len]; exact hj)⟩
  have hx' : (hs.map Hd.m)[j]? = some x.m := by rw [List.getElem?_map, hx]; rfl
  exact ⟨b, x, hA, hb, hl', hx', take_snoc_l _ _ _ hx', hr j x hx, h2 x (List.mem_of_getElem? hx)⟩
end
end Go.Proofs.YtbogjfbfgbhdbaaGreatDoor
