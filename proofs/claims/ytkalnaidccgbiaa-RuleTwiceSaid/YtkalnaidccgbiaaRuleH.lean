/-
  Contracts over what package rule calls of the library: the place of a name.
-/
import Derived.Test.YtkalnaidccgbiaaRuleF
import Derived.Test.YtkalnaidccgbiaaRuleShelf
namespace Go.Proofs.Ytkalnaidccgbiaa
open Go.RowKit
set_option linter.unusedVariables false
set_option linter.unusedSimpArgs false

theorem cmp13_iff : ∀ a b : List UInt8, Lib.compareBytes a b < 0 ↔ a < b
  | [], [] => by simp [Lib.compareBytes]
  | [], b :: m => by simp [Lib.compareBytes]
  | a :: l, [] => by simp [Lib.compareBytes]
  | a :: l, b :: m => by
    have ih := cmp13_iff l m
    unfold Lib.compareBytes
    rw [List.cons_lt_cons_iff]
    by_cases h1 : a < b
    · simp [h1]
    · by_cases h2 : b < a
      · have hne : a ≠ b := fun e => by rw [e] at h2; exact absurd h2 (UInt8.lt_irrefl _)
        simp [h1, h2, hne]
      · have he : a = b := UInt8.le_antisymm (UInt8.not_lt.1 h2) (UInt8.not_lt.1 h1)
        simp [h1, h2, he, ih]
theorem wpList_load_wanted {P : Program} {ops : Array Oper} {rest : List Oper} {op : Oper} {a : Act} {w : World} {Q : Exit → Act → World → Prop} (hw : Region.wanted op (yielded ops a.tmps) = true) (ty : TypeId) (x : Operand) (ho : op.op = .load ty x)
    (b o : Nat) (hx : a.eval x = .pointer (some ⟨b, o, none⟩)) (cs : List Value) (d : TypeDesc) (hc : w.rangeAt b o cs)
    (hu : P.underlying ty = some d) (hd : d.isRow = true) (hi : (P.info? ty).map (·.size) = some cs.length)
    (h : wpList P ops Q rest (a.put op.dst (.agg cs.toArray)) w) : wpList P ops Q (op :: rest) a w :=
  wpList_step fun K hK => by
    rw [if_pos hw]
    exact wp_load_mid ty x ho b o hx cs d hc hu hd hi (hK _ _ h)
def cmpS (a b : ByteArray) : Int := Lib.compareBytes a.data.toList b.data.toList
theorem cmpS_iff (a b : ByteArray) : cmpS a b < 0 ↔ ltS a b := cmp13_iff _ _
set_option maxHeartbeats 1000000 in
theorem rlSet2_any (x : Rul) (box : ByteArray) (w : World) :
    Calls Try.prog 33 #[.agg (rulA x), .string box] w fun e w' => e = .returned (.int .i64 (cmpS x.1 box)) ∧ Below w.heap.size w w' := by
  have hcon := fun W' => Any.strings_Compare rS106 x.1 box W'
  change ∀ W', Calls Try.prog 34 _ _ _ at hcon
  unfold cmpS
  generalize Lib.compareBytes x.1.data.toList box.data.toList = r at hcon ⊢
  have x0 : (rulA x)[0]? = some (.string x.1) := rfl
  go_enter Try.func33, Try.ntmps33
  go_wp2_with fail
  refine (hcon _).mono ?_
  rintro e w' ⟨rfl, rfl⟩
  go_wp2_with fail
  go_ret
  exact ⟨rfl, (Below.refl _ _).alloc (Nat.le_refl _) _⟩

def ltL (box : ByteArray) (l : List Rul) : List Rul := l.filter (fun r => decide (ltS r.1 box))
def AllLt (l : List Rul) (box : ByteArray) (lo : Nat) : Prop := ∀ t r, t < lo → l[t]? = some r → ltS r.1 box
def NoneLt (l : List Rul) (box : ByteArray) (hi : Nat) : Prop := ∀ t r, hi ≤ t → l[t]? = some r → ¬ ltS r.1 box
theorem rise_lt {l : List Rul} (h : riseR l) {s t : Nat} {p q : Rul} (hst : s < t) (hp : l[s]? = some p) (hq : l[t]? = some q) : ltS p.1 q.1 := by
  unfold riseR at h
  rw [List.pairwise_iff_getElem] at h
  obtain ⟨h1, e1⟩ := List.getElem?_eq_some_iff.1 hp
  obtain ⟨h2, e2⟩ := List.getElem?_eq_some_iff.1 hq
  have := h s t h1 h2 hst
  rwa [e1, e2] at this
theorem AllLt.up {l : List Rul} {box : ByteArray} {m : Nat} {x : Rul} (h : riseR l) (hx : l[m]? = some x) (hl : ltS x.1 box) : AllLt l box (m + 1) := by
  intro t r ht hr
  rcases Nat.lt_or_ge t m with h1 | h1
  · exact ltS_trans (rise_lt h h1 hr hx) hl
  · obtain rfl : t = m := by omega
    rw [hx] at hr; cases hr; exact hl
theorem NoneLt.down {l : List Rul} {box : ByteArray} {m : Nat} {x : Rul} (h : riseR l) (hx : l[m]? = some x) (hl : ¬ ltS x.1 box) : NoneLt l box m := by
  intro t r ht hr hlt
  rcases Nat.lt_or_ge m t with h1 | h1
  · exact hl (ltS_trans (rise_lt h h1 hx hr) hlt)
  · obtain rfl : t = m := by omega
    rw [hx] at hr; cases hr; exact hl hlt
theorem place_len {l : List Rul} {box : ByteArray} {p : Nat} (hp : p ≤ l.length) (h1 : AllLt l box p) (h2 : NoneLt l box p) : (ltL box l).length = p := by
  unfold ltL
  have e : l.filter (fun r => decide (ltS r.1 box)) = l.take p := by
    conv => lhs; rw [← List.take_append_drop p l]
    rw [List.filter_append, List.filter_eq_self.2, List.filter_eq_nil_iff.2, List.append_nil]
    · intro r hr
      obtain ⟨i, hi, rfl⟩ := List.mem_iff_getElem.1 hr
      have := h2 (p + i) _ (by omega) (show l[p + i]? = some ((l.drop p)[i]) by rw [← List.getElem?_drop, List.getElem?_eq_getElem hi])
      simpa using this
    · intro r hr
      obtain ⟨i, hi, rfl⟩ := List.mem_iff_getElem.1 hr
      rw [List.length_take] at hi
      exact decide_eq_true (h1 i _ (by omega) (show l[i]? = some ((l.take p)[i]'(by rw [List.length_take]; omega)) by rw [List.getElem_take, List.getElem?_eq_getElem (by omega)]))
  rw [e, List.length_take]; omega
def PlaceIs (w : World) (p : Nat) (e : Ending) (w' : World) : Prop := ∃ b, e = .returned (.tuple #[.int .i64 (p : Int), .bool b]) ∧ Below w.heap.size w w'
set_option maxRecDepth 20000 in
set_option maxHeartbeats 4000000 in
theorem rlBinary_any (A : Option Addr) (n c : Nat) (box : ByteArray) (l : List Rul) (w : World) (hl : ColK 2 rulC w w.heap.size A n l) (hn : n ≤ 1000000) (hr : riseR l) :
    Calls Try.prog 32 #[.slice A n c, .string box, .func (.func 33) #[] #[]] w (PlaceIs w (ltL box l).length) := by
  have HL := Lib.hid hl
  have HR := Lib.hid hr
  have A0 : Hid (AllLt l box 0) := Lib.hid (fun t r ht => absurd ht (Nat.not_lt_zero _))
  have N0 : Hid (NoneLt l box n) := Lib.hid (fun t r ht hr => by
    have := (List.getElem?_eq_some_iff.1 hr).1
    have := hl.1
    omega)
  clear hl hr
  go_enter Try.func32, Try.ntmps32
  go_wp2_with fail
  go_loopw [9, 10] (fun a b wx => ∃ lo hi : Nat, a = .int .i64 (lo : Int) ∧ b = .int .i64 (hi : Int) ∧ lo ≤ hi ∧ hi ≤ n ∧ Hid (AllLt l box lo) ∧ Hid (NoneLt l box hi) ∧ Below w.heap.size w wx) (fun a b _ => (intOf b).toNat - (intOf a).toNat)
  case atStart => exact ⟨0, n, rfl, rfl, Nat.zero_le _, Nat.le_refl _, A0, N0, Below.refl _ _⟩
  case round =>
    clear A0 N0
    obtain ⟨lo, hi, rfl, rfl, hlh, hin, HA, HN, hb⟩ := hrel
    have HB := Lib.hid hb
    clear hb
    by_cases hlt : lo < hi
    · obtain ⟨b, o, x, rfl, hbb, hla, htk, hrow⟩ := (HL.out.below HB.out (Nat.le_refl _)).at_ (show (lo + hi) / 2 < n by omega)
      have HLA := Lib.hid hla
      have HROW := Lib.hid hrow
      obtain ⟨x1, x2⟩ := x
      have CS := Lib.hid (fun W => (show Calls Try.prog 33 #[.agg #[.string x1, .int .i64 x2], .string box] W fun e w' => e = .returned (.int .i64 (cmpS x1 box)) ∧ Below W.heap.size W w' from rlSet2_any (x1, x2) box W))
      have HUP := Lib.hid (fun h => AllLt.up (box := box) HR.out hla h)
      have HDN := Lib.hid (fun h => NoneLt.down (box := box) HR.out hla h)
      have hc := cmpS_iff x1 box
      have HC := Lib.hid hc
      have hmn : (((lo + hi) / 2 : Nat) : Int) < (n : Int) := by omega
      clear hla htk hrow hc
      go_wp2_with ((with_reducible show wpList _ _ _ (⟨some 28, _, _, _, _, _⟩ :: _) _ _); refine hold ?_)
      refine held (wpList_load_mid rfl 54 (.tmp 27) rfl b (o + (lo + hi) / 2 * 2) rfl (rulC (x1, x2)) _ HROW.out Try.underlying54 rfl (by kernel_rfl) ?_)
      unfold rulC
      go_wp2_with fail
      refine (CS.out _).mono ?_
      rintro e w3 ⟨rfl, hb3⟩
      have B3 := Lib.hid (HB.out.trans (hb3.mono HB.out.size))
      clear hb3 CS HB HROW
      by_cases hs : ltS x1 box
      · have hneg : cmpS x1 box < 0 := HC.out.2 hs
        have HA2 := Lib.hid (HUP.out hs)
        clear hs
        go_wp2_with fail
        go_roundw
        case rel => exact ⟨(lo + hi) / 2 + 1, hi, by go_num, rfl, by omega, hin, HA2, HN, B3.out⟩
        case measure => simp [intOf]; omega
      · have hneg : ¬ cmpS x1 box < 0 := fun h => hs (HC.out.1 h)
        have HN2 := Lib.hid (HDN.out hs)
        clear hs
        go_wp2_with fail
        go_roundw
        case rel => exact ⟨lo, (lo + hi) / 2, rfl, by go_num, by omega, by omega, HA, HN2, B3.out⟩
        case measure => simp [intOf]; omega
    · obtain rfl : hi = lo := by omega
      have hnlt : ¬ (hi : Int) < (hi : Int) := by omega
      have HPL := Lib.hid (place_len (by rw [HL.out.1]; exact hin) HA.out HN.out)
      by_cases hn2 : hi < n
      · obtain ⟨b, o, x, rfl, hbb, hla, htk, hrow⟩ := (HL.out.below HB.out (Nat.le_refl _)).at_ hn2
        have HROW := Lib.hid hrow
        obtain ⟨x1, x2⟩ := x
        have CS := Lib.hid (fun W => (show Calls Try.prog 33 #[.agg #[.string x1, .int .i64 x2], .string box] W fun e w' => e = .returned (.int .i64 (cmpS x1 box)) ∧ Below W.heap.size W w' from rlSet2_any (x1, x2) box W))
        have h0 : (0 : Int) ≤ (hi : Int) := by omega
        have hin2 : (hi : Int) < (n : Int) := by omega
        clear hla htk hrow
        go_wp2_with ((with_reducible show wpList _ _ _ (⟨some 44, _, _, _, _, _⟩ :: _) _ _); refine hold ?_)
        refine held (wpList_load_wanted (by rfl) 54 (.tmp 43) rfl b (o + hi * 2) rfl (rulC (x1, x2)) _ HROW.out Try.underlying54 rfl (by kernel_rfl) ?_)
        unfold rulC
        go_wp2_with fail
        refine (CS.out _).mono ?_
        rintro e w3 ⟨rfl, hb3⟩
        have B3 := Lib.hid (HB.out.trans (hb3.mono HB.out.size))
        clear hb3 CS HB HROW
        go_wp2_with fail
        go_ret2
        exact ⟨cmpS x1 box == 0, by rw [HPL.out] <;> rfl, B3.out⟩
      · have hin2 : ¬ (hi : Int) < (n : Int) := by omega
        go_wp2_with fail
        go_ret2
        exact ⟨false, by rw [HPL.out] <;> rfl, HB.out⟩
end Go.Proofs.Ytkalnaidccgbiaa
