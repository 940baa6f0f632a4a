/-
  A part of the proof: see the last text.
-/
import Derived.Test.YtbogjfbfgbhdbaaGreatDoorSEventMath
import Derived.Test.YtbogjfbfgbhdbaaGreatDoorSBytesOwn
import Derived.Test.YtbogjfbfgbhdbaaGreatDoorSAppK
import Derived.Test.YtbogjfbfgbhdbaaGreatDoorSNameMore
import Derived.Test.YtbogjfbfgbhdbaaGreatDoorSNameRefB
import Derived.BigQuiet
import Derived.Deep.QuietTactic
import Derived.Test.YtbogjfbfgbhdbaaGreatDoorSUidsB
import Derived.Laws.EntriesVeiled
namespace Go.Proofs.YtbogjfbfgbhdbaaGreatDoor
set_option linter.unusedVariables false
set_option linter.unusedSimpArgs false
end Go.Proofs.YtbogjfbfgbhdbaaGreatDoor
namespace Go.Proofs.YtbogjfbfgbhdbaaGreatDoor
set_option linter.unusedVariables false
set_option linter.unusedSimpArgs false
open Go.RowKit
set_option linter.unusedVariables false
set_option linter.unusedSimpArgs false
structure Eh where
  e : Ev
  A1 : Option Addr
  n1 : Nat
  c1 : Nat
  A2 : Option Addr
  n2 : Nat
  c2 : Nat
  A3 : Option Addr
  n3 : Nat
  c3 : Nat
def evC (h : Eh) : Array Value := #[.int .i64 h.e.kind, .int .i64 h.e.at_, .string h.e.box, .string h.e.to_, .slice h.A1 h.n1 h.c1, .slice h.A2 h.n2 h.c2, .int .i64 h.e.mode, .int .i64 h.e.flags, .int .i64 h.e.date, .int .i64 h.e.n, .slice h.A3 h.n3 h.c3]
theorem evC_size (h : Eh) : (evC h).size = 11 := rfl
theorem evC_one (h : Eh) : ∀ v ∈ (evC h).toList, v.oneCell' = true := by
  intro v hv
  simp only [evC, List.mem_cons, List.not_mem_nil, or_false] at hv
  rcases hv with rfl | rfl | rfl | rfl | rfl | rfl | rfl | rfl | rfl | rfl | rfl <;> rfl
def bareH (k t : Int) : Eh := ⟨bare k t, none, 0, 0, none, 0, 0, none, 0, 0⟩
def EvIn (w : World) (B : Nat) (h : Eh) : Prop :=
  Col ints w B h.A1 h.n1 h.e.ids ∧ ColK 2 rgC w B h.A2 h.n2 h.e.set ∧ Bytes w B h.A3 h.n3 h.e.body ∧ h.n1 ≤ 140737488355328 ∧ h.n2 ≤ 140737488355328 ∧ h.n3 ≤ 140737488355328 ∧ h.e.box.size ≤ 140737488355328 ∧ h.e.to_.size ≤ 140737488355328
theorem EvIn.below {w w' : World} {B B' : Nat} {h : Eh} (H : EvIn w B h) (hb : Below B' w w') (hB : B ≤ B') : EvIn w' B h := ⟨H.1.below hb hB, H.2.1.below hb hB, H.2.2.1.below hb hB, H.2.2.2⟩
theorem EvIn.more {w : World} {B B' : Nat} {h : Eh} (H : EvIn w B h) (hB : B ≤ B') : EvIn w B' h := ⟨H.1.more hB, H.2.1.more hB, H.2.2.1.more hB, H.2.2.2⟩
theorem EvIn.later {w w' : World} {h : Eh} (H : EvIn w w.heap.size h) (hb : Below w.heap.size w w') : EvIn w' w'.heap.size h := (H.below hb (Nat.le_refl _)).more hb.size
theorem EvIn.bare (w : World) (B : Nat) (k t : Int) : EvIn w B (bareH k t) := ⟨Col.nil, ColK.nil, Bytes.nil, Nat.zero_le _, Nat.zero_le _, Nat.zero_le _, Nat.zero_le _, Nat.zero_le _⟩
theorem EvIn.drewN {w : World} {B : Nat} {h : Eh} (H : EvIn w B h) (q : Nat) : EvIn (w.drewN q) B h := H
def outH (h : Eh) (c : Nat) : Eh :=
  if c = 98 then { h with e := outP h.e c } else if c = 116 then { h with e := outP h.e c } else if c = 105 then { h with e := outP h.e c, A1 := none, n1 := 0, c1 := 0 } else if c = 115 then { h with e := outP h.e c, A2 := none, n2 := 0, c2 := 0 } else
  if c = 121 then { h with e := outP h.e c, A3 := none, n3 := 0, c3 := 0 } else { h with e := outP h.e c }
theorem outH_e (h : Eh) (c : Nat) : (outH h c).e = outP h.e c := by
  unfold outH
  repeat (first | rfl | split)
theorem EvIn.out {w : World} {B : Nat} {h : Eh} (H : EvIn w B h) {c : Nat} (hc : c ∈ nineL) : EvIn w B (outH h c) := by
  obtain ⟨h1, h2, h3, h4, h5, h6, h7, h8⟩ := H
  rcases nine_cases hc with rfl | rfl | rfl | rfl | rfl | rfl | rfl | rfl | rfl
  · exact ⟨h1, h2, h3, h4, h5, h6, Nat.zero_le _, h8⟩
  · exact ⟨h1, h2, h3, h4, h5, h6, h7, Nat.zero_le _⟩
  · exact ⟨Col.nil, h2, h3, Nat.zero_le _, h5, h6, h7, h8⟩
  · exact ⟨h1, ColK.nil, h3, h4, Nat.zero_le _, h6, h7, h8⟩
  · exact ⟨h1, h2, h3, h4, h5, h6, h7, h8⟩
  · exact ⟨h1, h2, h3, h4, h5, h6, h7, h8⟩
  · exact ⟨h1, h2, h3, h4, h5, h6, h7, h8⟩
  · exact ⟨h1, h2, h3, h4, h5, h6, h7, h8⟩
  · exact ⟨h1, h2, Bytes.nil, h4, h5, Nat.zero_le _, h7, h8⟩
theorem info_ev : (Tryz.prog.info? 33).map (·.size) = some 11 := by kernel_rfl
theorem Bk.ev {w : World} {b : Nat} {h : Eh} (H : Bk w b 33 (evC h)) : (loadVar 33 ⟨b, 0, none⟩).run Tryz.prog w = .ok (.agg (evC h)) w := H.load Tryz.underlying33 rfl (by kernel_rfl)
theorem Bk.evs {w : World} {b : Nat} {v0 v1 v2 v3 v4 v5 v6 v7 v8 v9 v10 : Value} {t : TypeId} (h : Bk w b t #[v0, v1, v2, v3, v4, v5, v6, v7, v8, v9, v10]) :
    (w.cell? ⟨b, 0, none⟩ = some v0 ∧ w.cell? ⟨b, 1, none⟩ = some v1 ∧ w.cell? ⟨b, 2, none⟩ = some v2 ∧ w.cell? ⟨b, 3, none⟩ = some v3 ∧ w.cell? ⟨b, 4, none⟩ = some v4 ∧ w.cell? ⟨b, 5, none⟩ = some v5) ∧
    (w.cell? ⟨b, 6, none⟩ = some v6 ∧ w.cell? ⟨b, 7, none⟩ = some v7 ∧ w.cell? ⟨b, 8, none⟩ = some v8 ∧ w.cell? ⟨b, 9, none⟩ = some v9 ∧ w.cell? ⟨b, 10, none⟩ = some v10) :=
  ⟨⟨h.cell 0, h.cell 1, h.cell 2, h.cell 3, h.cell 4, h.cell 5⟩, h.cell 6, h.cell 7, h.cell 8, h.cell 9, h.cell 10⟩
theorem list_overE {P : Program} {ops : Array Oper} {l : List Oper} {a : Act} {W : World} {Q : Exit → Act → World → Prop} (G : World → Prop) (hG : G W) (h : ∀ W', G W' → wpList P ops Q l a W') : wpList P ops Q l a W := h W hG
theorem w_setRow_allE {w w' : World} {g : Nat} {cur cells : Array Value} (h : Hid (w' = w.setRow g (splice cur.toList 0 cells.toList).toArray)) (hs : cells.size = cur.size) : w' = w.setRow g cells := by
  rw [h.out, splice_all (by simpa using hs), Array.toArray_toList]
end Go.Proofs.YtbogjfbfgbhdbaaGreatDoor
namespace Go.Proofs.YtbogjfbfgbhdbaaGreatDoor
set_option linter.unusedVariables false
set_option linter.unusedSimpArgs false
open Go.RowKit
set_option linter.unusedVariables false
set_option linter.unusedSimpArgs false
set_option maxRecDepth 20000 in
set_option maxHeartbeats 2000000 in
theorem x9Same_any (A B : Option Addr) (n c m d : Nat) (l r : List Rg) (w : World) (hl : ColK 2 rgC w w.heap.size A n l) (hr : ColK 2 rgC w w.heap.size B m r) (hn : n ≤ 140737488355328) (hm : m ≤ 140737488355328) :
    Calls Tryz.prog 43 #[.slice A n c, .slice B m d] w fun e w' => e = .returned (.bool (decide (l = r))) ∧ ∃ q, w' = w.drewN q := by
  have HL := Lib.hid hl
  have HR := Lib.hid hr
  by_cases hnm : n = m
  · subst hnm
    have hne : ((n : Int) != (n : Int)) = false := by simp
    clear hl hr
    go_enter Tryz.func43, Tryz.ntmps43
    go_wp2_with fail
    go_loopw [5] (fun i wx => ∃ k q : Nat, k ≤ n ∧ i = .int .i64 (k : Int) ∧ l.take k = r.take k ∧ wx = w.drewN q) (fun i _ => n - (intOf i).toNat)
    case atStart => exact ⟨0, 0, Nat.zero_le _, rfl, rfl, rfl⟩
    case round =>
      obtain ⟨k, q, hk, rfl, hm, hw⟩ := hrel
      have HM := Lib.hid hm
      have HW := Lib.hid hw
      clear hm hw
      by_cases hlt : k < n
      · obtain ⟨b, o, x, rfl, hbb, hla, htk, hc⟩ := HL.out.at_ hlt
        obtain ⟨b2, o2, y, rfl, hbb2, hla2, htk2, hc2⟩ := HR.out.at_ hlt
        rw [show w.rangeAt b (o + k * 2) (rgC x) = wr.rangeAt b (o + k * 2) (rgC x) by rw [HW.out]; rfl] at hc
        rw [show w.rangeAt b2 (o2 + k * 2) (rgC y) = wr.rangeAt b2 (o2 + k * 2) (rgC y) by rw [HW.out]; rfl] at hc2
        obtain ⟨x0, x1⟩ := x
        obtain ⟨y0, y1⟩ := y
        have r0 := hc 0 _ rfl
        have r1 := hc 1 _ rfl
        have s0 := hc2 0 _ rfl
        have s1 := hc2 1 _ rfl
        rw [Nat.add_zero] at r0 s0
        have hk0 : (0 : Int) ≤ (k : Int) := by omega
        have hkn : (k : Int) < (n : Int) := by omega
        have HA1 := Lib.hid hla
        have HA2 := Lib.hid hla2
        have HT1 := Lib.hid htk
        have HT2 := Lib.hid htk2
        clear hla hla2 htk htk2 hc hc2
        by_cases he : (x0, x1) = (y0, y1)
        · injection he with he1 he2
          subst he1 he2
          have kq : ∀ W, (binOp .neq 131 (.agg #[.int .i64 x0, .int .i64 x1]) (.agg #[.int .i64 x0, .int .i64 x1])).run Tryz.prog W = .ok (.bool false) W := fun W => by rw [rg_neq]; simp
          have HN : Hid (l.take (k + 1) = r.take (k + 1)) := Lib.hid (by rw [HT1.out, HT2.out, HM.out])
          go_wp2_with fail
          go_quiet (fail)
          go_wp2_with fail
          go_roundw
          case rel => exact ⟨k + 1, _, by omega, by go_num, HN.out, by rw [HW.out]; exact drewN_twice _ _ _⟩
          case measure => simp [intOf]; omega
        · have kq : ∀ W, (binOp .neq 131 (.agg #[.int .i64 x0, .int .i64 x1]) (.agg #[.int .i64 y0, .int .i64 y1])).run Tryz.prog W = .ok (.bool true) W := fun W => by rw [rg_neq, decide_eq_false he]; rfl
          have HN : Hid (decide (l = r) = false) := Lib.hid (decide_eq_false (ne_at HA1.out HA2.out he))
          clear he
          go_wp2_with fail
          go_quiet (fail)
          go_wp2_with fail
          go_ret
          exact ⟨by rw [HN.out] <;> rfl, _, by rw [HW.out]; exact drewN_twice _ _ _⟩
      · have HN : Hid (decide (l = r) = true) := Lib.hid (decide_eq_true (eq_at (HL.out.1.trans HR.out.1.symm) k HM.out (by rw [HL.out.1]; omega)))
        go_wp2_with fail
        go_ret
        exact ⟨by rw [HN.out] <;> rfl, _, HW.out⟩
  · have hne : ((n : Int) != (m : Int)) = true := by simp; omega
    have HN : Hid (decide (l = r) = false) := Lib.hid (decide_eq_false (fun e => hnm (by rw [← hl.1, ← hr.1, e])))
    clear hl hr
    go_enter Tryz.func43, Tryz.ntmps43
    go_wp2_with fail
    go_ret
    exact ⟨by rw [HN.out] <;> rfl, 0, rfl⟩
def riseUp (l : List Int) (k : Nat) : Prop := ∀ i, i < k → riseAt l i = true
theorem riseUp_next {l : List Int} {k : Nat} (h : riseUp l k) (hk : riseAt l k = true) : riseUp l (k + 1) := fun i hi => by
  by_cases e : i = k
  · rw [e]; exact hk
  · exact h i (by omega)
theorem riseUp_all {l : List Int} {k : Nat} (h : riseUp l k) (hk : l.length ≤ k) : riseB l = true := decide_eq_true fun i hi => h i (by omega)
end Go.Proofs.YtbogjfbfgbhdbaaGreatDoor
namespace Go.Proofs.YtbogjfbfgbhdbaaGreatDoor
set_option linter.unusedVariables false
set_option linter.unusedSimpArgs false
open Go.RowKit
set_option linter.unusedVariables false
set_option linter.unusedSimpArgs false
theorem tm_lo {z : Int} (h : ¬ 0 ≤ z) : tmB z = false := decide_eq_false fun e => h e.1
theorem tm_hi {z : Int} (h : ¬ z ≤ 1099511627776) : tmB z = false := decide_eq_false fun e => h e.2
theorem tm_yes {z : Int} (h : 0 ≤ z) (h2 : z ≤ 1099511627776) : tmB z = true := decide_eq_true ⟨h, h2⟩
set_option maxHeartbeats 400000 in
theorem evisTime_any (z : Int) (w : World) : Calls Tryz.prog 88 #[.int .i64 z] w fun e w' => e = .returned (.bool (tmB z)) ∧ w = w' := by
  by_cases h1 : 0 ≤ z
  · by_cases h2 : z ≤ 1099511627776
    · have HR := Lib.hid (tm_yes h1 h2)
      go_enter Tryz.func88, Tryz.ntmps88
      go_wp2_with fail
      go_ret
      exact ⟨by rw [HR.out] <;> rfl, rfl⟩
    · have HR := Lib.hid (tm_hi h2)
      go_enter Tryz.func88, Tryz.ntmps88
      go_wp2_with fail
      go_ret
      exact ⟨by rw [HR.out] <;> rfl, rfl⟩
  · have HR := Lib.hid (tm_lo h1)
    go_enter Tryz.func88, Tryz.ntmps88
    go_wp2_with fail
    go_ret
    exact ⟨by rw [HR.out] <;> rfl, rfl⟩
def lastAt (l : List Int) (k : Nat) : Int := if k = 0 then 0 else l.getD (k - 1) 0
theorem lastAt_next {l : List Int} {k : Nat} {z : Int} (h : l[k]? = some z) : lastAt l (k + 1) = z := by
  unfold lastAt
  rw [if_neg (by omega), Nat.add_sub_cancel]
  simp [h]
theorem riseAt_last {l : List Int} {k : Nat} {z : Int} (h : l[k]? = some z) (hu : riseUp l k) : riseAt l k = decide (lastAt l k < z ∧ z ≤ 4294967295) := by
  unfold riseAt lastAt
  have e : l.getD k 0 = z := by simp [h]
  rw [e]
  refine decide_eq_decide.2 ?_
  rcases Nat.eq_zero_or_pos k with h0 | h0
  · rw [if_pos h0]
    constructor
    · rintro ⟨a, b, c⟩; exact ⟨by omega, b⟩
    · rintro ⟨a, b⟩; exact ⟨by omega, b, .inl h0⟩
  · rw [if_neg (by omega)]
    have h1 := (of_decide_eq_true (hu (k - 1) (by omega))).1
    constructor
    · rintro ⟨a, b, c⟩
      rcases c with c | c
      · omega
      · exact ⟨c, b⟩
    · rintro ⟨a, b⟩; exact ⟨by omega, b, .inr a⟩
theorem idsB_short {l : List Int} (h : l.length < 1) : idsB l = false := by unfold idsB; rw [decide_eq_false (by omega)]; rfl
theorem idsB_long {l : List Int} (h : 60 < l.length) : idsB l = false := by unfold idsB; rw [decide_eq_false (by omega)]; rfl
theorem idsB_no {l : List Int} (h : riseB l = false) : idsB l = false := by unfold idsB; rw [h, Bool.and_false]
theorem idsB_yes {l : List Int} (h1 : ¬ l.length < 1) (h2 : ¬ 60 < l.length) (h : riseB l = true) : idsB l = true := by unfold idsB; rw [h, decide_eq_true (by omega)]; rfl
set_option maxRecDepth 20000 in
set_option maxHeartbeats 2000000 in
theorem evids_any (A : Option Addr) (n c : Nat) (l : List Int) (w : World) (hl : Col ints w w.heap.size A n l) (hn : n ≤ 140737488355328) :
    Calls Tryz.prog 152 #[.slice A n c] w fun e w' => e = .returned (.bool (idsB l)) ∧ w = w' := by
  have HL := Lib.hid hl
  have HLN := Lib.hid hl.1
  clear hl
  by_cases h1 : n < 1
  · have h1' : (n : Int) < 1 := by omega
    have HR := Lib.hid (idsB_short (l := l) (by rw [HLN.out]; exact h1))
    go_enter Tryz.func152, Tryz.ntmps152
    go_wp2_with fail
    go_ret
    exact ⟨by rw [HR.out] <;> rfl, rfl⟩
  by_cases h2 : 60 < n
  · have h1' : ¬ (n : Int) < 1 := by omega
    have h2' : (60 : Int) < (n : Int) := by omega
    have HR := Lib.hid (idsB_long (l := l) (by rw [HLN.out]; exact h2))
    go_enter Tryz.func152, Tryz.ntmps152
    go_wp2_with fail
    go_ret
    exact ⟨by rw [HR.out] <;> rfl, rfl⟩
  have h1' : ¬ (n : Int) < 1 := by omega
  have h2' : ¬ (60 : Int) < (n : Int) := by omega
  go_enter Tryz.func152, Tryz.ntmps152
  go_wp2_with fail
  go_loop [3, 16] (fun p i => ∃ (k : Nat) (q : Int), k ≤ n ∧ i = .int .i64 (k : Int) ∧ p = .int .i64 q ∧ q = lastAt l k ∧ riseUp l k) (fun _ i => n - (intOf i).toNat)
  case atStart => exact ⟨0, 0, Nat.zero_le _, rfl, rfl, rfl, fun i hi => by omega⟩
  case round =>
    obtain ⟨k, q, hk, rfl, rfl, hq, hu⟩ := hrel
    have HQ := Lib.hid hq
    have HU := Lib.hid hu
    clear hq hu
    by_cases hlt : k < n
    · have hk0 : (0 : Int) ≤ (k : Int) := by omega
      have hkn : (k : Int) < (n : Int) := by omega
      obtain ⟨b, o, z, rfl, hbb, hla, htk, hc⟩ := HL.out.at_ hlt
      unfold ints at hc
      have HLA := Lib.hid hla
      have ha := riseAt_last hla HU.out
      rw [← HQ.out] at ha
      have HA := Lib.hid ha
      have HLT := Lib.hid (show k < l.length by rw [HLN.out]; exact hlt)
      clear hla htk ha
      by_cases hz1 : z ≤ q
      · have HR := Lib.hid (idsB_no (riseB_stop HLT.out (by rw [HA.out]; exact decide_eq_false (by omega))))
        go_wp2_with fail
        go_ret
        exact ⟨by rw [HR.out] <;> rfl, rfl⟩
      · by_cases hz2 : 4294967295 < z
        · have HR := Lib.hid (idsB_no (riseB_stop HLT.out (by rw [HA.out]; exact decide_eq_false (by omega))))
          go_wp2_with fail
          go_ret
          exact ⟨by rw [HR.out] <;> rfl, rfl⟩
        · have HN := Lib.hid (riseUp_next HU.out (by rw [HA.out]; exact decide_eq_true (by omega)))
          go_wp2_with fail
          go_round
          case rel => exact ⟨k + 1, z, by omega, by go_num, rfl, (lastAt_next HLA.out).symm, HN.out⟩
          case measure => simp [intOf]; omega
    · have hkn : ¬ (k : Int) < (n : Int) := by omega
      have HR := Lib.hid (idsB_yes (l := l) (by rw [HLN.out]; exact h1) (by rw [HLN.out]; exact h2) (riseUp_all HU.out (by rw [HLN.out]; omega)))
      go_wp2_with fail
      go_ret
      exact ⟨by rw [HR.out] <;> rfl, rfl⟩
section
variable {P : Program}
theorem wpList_append_valsE {ops : Array Oper} {rest : List Oper} {o : Oper} {a : Act} {w : World} {Q : Exit → Act → World → Prop} (hgd : o.guard = none) (s x : Operand) (t : TypeId)
    (ho : o.op = .call { callee := .builtin .append, args := #[s, x], argTypes := #[t, t] }) {e : TypeId} (ht : P.underlying t = some (.slice e)) {zv : Value} {by_ : Nat}
    (he : (P.info? e).map (fun i => (i.zero, i.size, i.bytes)) = some (some zv, 1, by_)) (hzc : zv.cells.size = 1) (hby : by_ ≤ 24)
    (base : Nat) (A : Option Addr) (n c : Nat) (vs : List Value) (hs : a.eval s = .slice A n c) (hown : OwnV w base e A n c vs)
    (A' : Option Addr) (m c' : Nat) (us : List Value) (hx : a.eval x = .slice A' m c') (hl : us.length = m) (hc : 0 < m → ∃ b o, A' = some ⟨b, o, none⟩ ∧ ∀ (i : Nat) (u : Value), us[i]? = some u → w.cell? ⟨b, o + i, none⟩ = some u)
    (hone : ∀ u ∈ us, u.oneCell' = true) (hnm : n + m ≤ 1000000) (hbase : base ≤ w.heap.size)
    (h : ∀ A2 c2 w', OwnV w' base e A2 (n + m) c2 (vs ++ us) → Below base w w' → wpList P ops Q rest (a.put o.dst (.slice A2 (n + m) c2)) w') : wpList P ops Q (o :: rest) a w :=
  wpList_plain hgd fun _ hK => by
    obtain ⟨A2, c2, w', hrun, h1, h2⟩ := run_append_vals (P := P) hown t o.type ht he hzc hby (c' := c') hl hc hone hnm hbase
    unfold Oper.wp execOp
    simp only [ho, resolve, invoke, builtin, Sem.run_bind, Sem.run_pure, Result.andThen_ok, List.map_toArray, List.map_cons, List.map_nil, hs, hx, hrun]
    exact hK _ _ (h A2 c2 w' h1 h2)
end
theorem info_intE : (Tryz.prog.info? 3).map (fun i => (i.zero, i.size, i.bytes)) = some (some (.int .i64 0), 1, 8) := by kernel_rfl
theorem info_rgE : (Tryz.prog.info? 131).map (fun i => (i.zero, i.size, i.bytes)) = some (some (.agg #[.int .i64 0, .int .i64 0]), 2, 16) := by kernel_rfl
theorem OwnV.colE {w : World} {base n c : Nat} {A : Option Addr} {l : List Int} (h : OwnV w base 3 A n c (l.map ints)) : Col ints w w.heap.size A n l := by
  have hlen : l.length = n := by have := OwnV.len h; simpa using this
  refine ⟨hlen, fun hn => ?_⟩
  obtain ⟨g, hA, _, hg, hc⟩ := OwnV.cells h hn
  exact ⟨g, 0, hA, hg, fun i a ha => by rw [Nat.zero_add]; exact hc i _ (by simp [ha])⟩
def GiveN (l : List Int) (w0 : World) (e : Ending) (w' : World) : Prop := ∃ A c, e = .returned (.slice A l.length c) ∧ Col ints w' w'.heap.size A l.length l ∧ Below w0.heap.size w0 w'
theorem ends_take {l : List Rg} {k : Nat} {x y : Int} (h : l.take (k + 1) = l.take k ++ [(x, y)]) : (endsL (l.take (k + 1))).map ints = (endsL (l.take k)).map ints ++ [.int .i64 x, .int .i64 y] := by
  rw [h, endsL_snoc, List.map_append]; rfl
set_option maxRecDepth 20000 in
set_option maxHeartbeats 2000000 in
theorem evends_any (A : Option Addr) (n c : Nat) (l : List Rg) (w : World) (hl : ColK 2 rgC w w.heap.size A n l) (hn : n ≤ 400000) :
    Calls Tryz.prog 211 #[.slice A n c] w (GiveN (endsL l) w) := by
  have HL := Lib.hid hl
  clear hl
  go_enter Tryz.func211, Tryz.ntmps211
  go_wp2_with fail
  go_loopw [3, 8] (fun t i wx => ∃ (k n2 c2 : Nat) (A2 : Option Addr), k ≤ n ∧ i = .int .i64 (k : Int) ∧ n2 = 2 * k ∧ t = .slice A2 n2 c2 ∧ OwnV wx w.heap.size 3 A2 n2 c2 ((endsL (l.take k)).map ints) ∧ Below w.heap.size w wx) (fun _ i _ => n - (intOf i).toNat)
  case atStart => exact ⟨0, 0, 0, none, Nat.zero_le _, rfl, rfl, rfl, OwnV.nil, Below.refl _ _⟩
  case round =>
    obtain ⟨k, n2, c2, A2, hk, rfl, hn2, rfl, ho, hb⟩ := hrel
    have hn2' : n2 ≤ 800000 := by omega
    have HO := Lib.hid ho
    have HB := Lib.hid hb
    have HN2 := Lib.hid hn2
    clear ho hb hn2
    by_cases hlt : k < n
    · obtain ⟨b, o, x, rfl, hbb, hla, htk, hrow⟩ := (HL.out.below HB.out (Nat.le_refl _)).at_ hlt
      obtain ⟨x, y⟩ := x
      have HTK := Lib.hid (ends_take htk)
      have hk0 : (0 : Int) ≤ (k : Int) := by omega
      have hkn : (k : Int) < (n : Int) := by omega
      have HROW := Lib.hid hrow
      clear hla htk hrow
      go_wp2_with ((with_reducible show wpList _ _ _ (⟨some 11, _, _, _, _, _⟩ :: _) _ _); refine hold ?_)
      refine held (wpList_load_mid rfl 131 (.tmp 10) rfl b (o + k * 2) rfl (rgC (x, y)) _ HROW.out Tryz.underlying131 rfl (by kernel_rfl) ?_)
      unfold rgC
      go_wp2_with ((with_reducible show wpList _ _ _ (⟨some 18, _, _, _, _, _⟩ :: _) _ _); refine hold ?_)
      have hws := HB.out.size
      have hb3 : Below w.heap.size w ((wr.alloc (.cells #[.int .i64 x, .int .i64 y] 131)).alloc (.cells #[.int .i64 x, .int .i64 y] 3)) := (HB.out.alloc hws _).alloc (by simp; omega) _
      have ho3 := (HO.out.alloc (.cells #[.int .i64 x, .int .i64 y] 131)).alloc (.cells #[.int .i64 x, .int .i64 y] 3)
      have h3 : Bk ((wr.alloc (.cells #[.int .i64 x, .int .i64 y] 131)).alloc (.cells #[.int .i64 x, .int .i64 y] 3)) (wr.heap.size + 1) 3 #[.int .i64 x, .int .i64 y] := Bk.new2 _ _ _ _
      refine held (wpList_append_valsE rfl (.tmp 12) (.tmp 17) 29 rfl Tryz.underlying29 info_intE rfl (by omega) w.heap.size A2 n2 c2 _ rfl ho3 (some ⟨wr.heap.size + 1, 0, none⟩) 2 2 [.int .i64 x, .int .i64 y] rfl rfl (fun _ => ⟨_, _, rfl, fun i u hu => by rw [Nat.zero_add, h3.cell i]; simpa using hu⟩) (by simp [Value.oneCell']) (by omega) (by simp; omega) ?_)
      intro A4 c4 w4 ho4 hb4
      have HO4 : Hid (OwnV w4 w.heap.size 3 A4 (n2 + 2) c4 ((endsL (l.take (k + 1))).map ints)) := Lib.hid (by rw [HTK.out]; exact ho4)
      have HB4 := Lib.hid (hb3.trans hb4)
      clear ho3 hb3 h3 hws ho4 hb4
      go_wp2_with fail
      go_roundw
      case rel => exact ⟨k + 1, n2 + 2, c4, A4, by omega, by go_num, by have := HN2.out; omega, rfl, HO4.out, HB4.out⟩
      case measure => simp [intOf]; omega
    · have hkn : ¬ (k : Int) < (n : Int) := by omega
      have ho4 : OwnV wr w.heap.size 3 A2 n2 c2 ((endsL l).map ints) := by have := HO.out; rwa [List.take_of_length_le (by rw [HL.out.1]; omega)] at this
      have hlen : (endsL l).length = n2 := by have := OwnV.len ho4; simpa using this
      have HO4 := Lib.hid ho4
      have HLE := Lib.hid hlen
      clear ho4 hlen
      go_wp2_with fail
      go_ret
      exact ⟨A2, c2, by rw [HLE.out] <;> rfl, by rw [HLE.out]; exact HO4.out.colE, HB.out⟩
def wrongE (z : Int) : Bool := decide (z < 0 ∨ 4294967295 < z)
set_option maxHeartbeats 400000 in
theorem evisWrong_any (z : Int) (w : World) : Calls Tryz.prog 210 #[.int .i64 z] w fun e w' => e = .returned (.bool (wrongE z)) ∧ w = w' := by
  by_cases h1 : z < 0
  · have HR : Hid (wrongE z = true) := Lib.hid (decide_eq_true (.inl h1))
    go_enter Tryz.func210, Tryz.ntmps210
    go_wp2_with fail
    go_ret
    exact ⟨by rw [HR.out] <;> rfl, rfl⟩
  · by_cases h2 : 4294967295 < z
    · have HR : Hid (wrongE z = true) := Lib.hid (decide_eq_true (.inr h2))
      go_enter Tryz.func210, Tryz.ntmps210
      go_wp2_with fail
      go_ret
      exact ⟨by rw [HR.out] <;> rfl, rfl⟩
    · have HR : Hid (wrongE z = false) := Lib.hid (decide_eq_false (by omega))
      go_enter Tryz.func210, Tryz.ntmps210
      go_wp2_with fail
      go_ret
      exact ⟨by rw [HR.out] <;> rfl, rfl⟩
theorem anyI_next {l : List Int} {k : Nat} {z : Int} {p : Int → Bool} (h : (l.take k).any p = false) (ht : l.take (k + 1) = l.take k ++ [z]) (hz : p z = false) : (l.take (k + 1)).any p = false := by
  rw [ht, List.any_append, h]; simp [hz]
theorem anyI_stop {l : List Int} {p : Int → Bool} {k : Nat} {r : Int} (hr : l[k]? = some r) (h : p r = true) : l.any p = true := List.any_eq_true.2 ⟨r, List.mem_of_getElem? hr, h⟩
set_option maxRecDepth 20000 in
set_option maxHeartbeats 2000000 in
theorem evindexF_any (A : Option Addr) (m c : Nat) (l : List Int) (w : World) (hl : Col ints w w.heap.size A m l) (hm : m ≤ 1000000) :
    Calls Tryz.prog 229 #[.slice A m c, .func (.func 210) #[] #[]] w fun e w' => (∃ z : Int, e = .returned (.int .i64 z) ∧ (decide (0 ≤ z) = l.any wrongE)) ∧ w = w' := by
  have HL := Lib.hid hl
  clear hl
  go_enter Tryz.func229, Tryz.ntmps229
  go_wp2_with fail
  go_loop [8] (fun i => ∃ k : Nat, k ≤ m ∧ i = .int .i64 (k : Int) ∧ (l.take k).any wrongE = false) (fun i => m - (intOf i).toNat)
  case atStart => exact ⟨0, Nat.zero_le _, rfl, rfl⟩
  case round =>
    obtain ⟨k, hk, rfl, ha⟩ := hrel
    have HA := Lib.hid ha
    clear ha
    by_cases hlt : k < m
    · obtain ⟨b, o, z, rfl, hbb, hla, htk, hc⟩ := HL.out.at_ hlt
      unfold ints at hc
      have HLA := Lib.hid hla
      have HTK := Lib.hid htk
      have hk0 : (0 : Int) ≤ (k : Int) := by omega
      have hkn : (k : Int) < (m : Int) := by omega
      have CI := Lib.hid (evisWrong_any z w)
      clear hla htk
      go_wp2_with fail
      refine CI.out.mono ?_
      rintro e w' ⟨rfl, rfl⟩
      cases hok : wrongE z
      · have HS := Lib.hid (anyI_next HA.out HTK.out hok)
        clear hok
        go_wp2_with fail
        go_round
        case rel => exact ⟨k + 1, by omega, by go_num, HS.out⟩
        case measure => simp [intOf]; omega
      · have HS := Lib.hid (anyI_stop HLA.out hok)
        clear hok
        go_wp2_with fail
        go_ret
        exact ⟨⟨(k : Int), rfl, by rw [HS.out, decide_eq_true hk0]⟩, rfl⟩
    · have hkn : ¬ (k : Int) < (m : Int) := by omega
      have HS : Hid (l.any wrongE = false) := Lib.hid (by have := HA.out; rwa [List.take_of_length_le (by rw [HL.out.1]; omega)] at this)
      go_wp2_with fail
      go_ret
      exact ⟨⟨-1, rfl, by rw [HS.out]; rfl⟩, rfl⟩
theorem ret_boolE {a b : Bool} (h : a = b) : Ending.returned (.bool a) = .returned (.bool b) := by rw [h]
set_option maxHeartbeats 1000000 in
theorem evcontainsF_any (A : Option Addr) (m c : Nat) (l : List Int) (w : World) (hl : Col ints w w.heap.size A m l) (hm : m ≤ 1000000) :
    Calls Tryz.prog 176 #[.slice A m c, .func (.func 210) #[] #[]] w fun e w' => e = .returned (.bool (l.any wrongE)) ∧ w = w' := by
  have CI := Lib.hid (evindexF_any A m c l w hl hm)
  clear hl
  go_enter Tryz.func176, Tryz.ntmps176
  go_wp2_with fail
  refine CI.out.mono ?_
  rintro e w' ⟨⟨z, rfl, hz⟩, rfl⟩
  have HZ := Lib.hid hz
  clear hz CI
  by_cases h0 : 0 ≤ z
  · have HR : Hid (l.any wrongE = true) := Lib.hid (by rw [← HZ.out]; exact decide_eq_true h0)
    go_wp2_with fail
    go_ret
    exact ⟨by rw [HR.out] <;> rfl, rfl⟩
  · have HR : Hid (l.any wrongE = false) := Lib.hid (by rw [← HZ.out]; exact decide_eq_false h0)
    go_wp2_with fail
    go_ret
    exact ⟨ret_boolE (by rw [HR.out] <;> first | rfl | exact decide_eq_false (by omega)), rfl⟩
theorem wrong_ends (l : List Rg) : (endsL l).any wrongE = !decide (∀ r ∈ l, okR r) := by
  rw [Bool.eq_iff_iff, List.any_eq_true, Bool.not_eq_true', decide_eq_false_iff_not]
  constructor
  · rintro ⟨z, hz, hw⟩ hall
    unfold endsL at hz
    obtain ⟨r, hr, hz⟩ := List.mem_flatMap.1 hz
    obtain ⟨⟨a, b⟩, c, d⟩ := hall r hr
    have hw' := of_decide_eq_true hw
    simp only [List.mem_cons, List.not_mem_nil, or_false] at hz
    rcases hz with rfl | rfl <;> omega
  · intro h
    refine Decidable.byContradiction fun hn => h fun r hr => ?_
    have h1 : wrongE r.1 = false := Bool.eq_false_iff.2 fun e => hn ⟨r.1, List.mem_flatMap.2 ⟨r, hr, by simp⟩, e⟩
    have h2 : wrongE r.2 = false := Bool.eq_false_iff.2 fun e => hn ⟨r.2, List.mem_flatMap.2 ⟨r, hr, by simp⟩, e⟩
    have h1' := of_decide_eq_false h1
    have h2' := of_decide_eq_false h2
    exact ⟨⟨by omega, by omega⟩, ⟨by omega, by omega⟩⟩
theorem setB_eq (l : List Rg) : setB l = (decide (l.length ≤ 60) && !(endsL l).any wrongE) := by
  rw [wrong_ends, Bool.not_not]
  unfold setB
  rw [← Bool.decide_and]
set_option maxRecDepth 20000 in
set_option maxHeartbeats 1000000 in
theorem evset_any (A : Option Addr) (n c : Nat) (l : List Rg) (w : World) (hl : ColK 2 rgC w w.heap.size A n l) (hn : n ≤ 140737488355328) :
    Calls Tryz.prog 153 #[.slice A n c] w fun e w' => e = .returned (.bool (setB l)) ∧ Below w.heap.size w w' := by
  by_cases h1 : n ≤ 60
  · have h1' : (n : Int) ≤ 60 := by omega
    have CE := Lib.hid (evends_any A n c l w hl (by omega))
    have hlen : (endsL l).length ≤ 1000000 := by rw [endsL_len, hl.1]; omega
    have HLE := Lib.hid hlen
    have HS : Hid (setB l = !(endsL l).any wrongE) := Lib.hid (by rw [setB_eq, decide_eq_true (by rw [hl.1]; exact h1)]; rfl)
    clear hl hlen
    go_enter Tryz.func153, Tryz.ntmps153
    go_wp2_with fail
    refine CE.out.mono ?_
    rintro e w1 ⟨A1, c1, rfl, hc, hb⟩
    have CC := Lib.hid (evcontainsF_any A1 _ c1 _ w1 hc HLE.out)
    have HB := Lib.hid hb
    clear hc hb CE
    go_wp2_with fail
    refine CC.out.mono ?_
    rintro e w' ⟨rfl, rfl⟩
    clear CC
    go_wp2_with fail
    go_ret
    exact ⟨by rw [HS.out] <;> rfl, HB.out⟩
  · have h1' : ¬ (n : Int) ≤ 60 := by omega
    have HS : Hid (setB l = false) := Lib.hid (by rw [setB_eq, decide_eq_false (by rw [hl.1]; exact h1)]; rfl)
    clear hl
    go_enter Tryz.func153, Tryz.ntmps153
    go_wp2_with fail
    go_ret
    exact ⟨by rw [HS.out] <;> rfl, Below.refl _ _⟩
end Go.Proofs.YtbogjfbfgbhdbaaGreatDoor
