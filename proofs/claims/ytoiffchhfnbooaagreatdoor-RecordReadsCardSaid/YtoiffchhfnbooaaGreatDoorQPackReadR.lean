/-
  Contracts over package pack: a new reader, a nil reader; and the document's own reader.
-/
import Derived.Test.YtoiffchhfnbooaaGreatDoorQEventF
namespace Go.Proofs.YtoiffchhfnbooaaGreatDoor
set_option linter.unusedVariables false
set_option linter.unusedSimpArgs false
open Go.RowKit

/-- a new reader of bytes -/
def NewRd (l : List Nat) (w : World) (x : Ending) (w' : World) : Prop := x = .returned (.pointer (some ⟨w.heap.size, 0, none⟩)) ∧ RdP w' w.heap.size l 0 ∧ Below w.heap.size w w'
set_option maxHeartbeats 400000 in
theorem pFrom_any (A : Option Addr) (n c B : Nat) (l : List Nat) (w : World) (hl : Bytes w B A n l) :
    Calls Tryz.prog 24 #[.slice A n c] w (NewRd l w) := by
  have kc := run_str_of_bytes (P := Tryz.prog) (c := c) hl Tryz.underlying27 Tryz.underlying5 Tryz.underlying9
  have H := hide (RdP.new w l)
  generalize strOf l = s at *
  go_enter Tryz.func24, Tryz.ntmps24
  go_wp2
  go_ret
  exact ⟨rfl, H.out, (Below.refl _ _).alloc (Nat.le_refl _) _⟩

set_option maxHeartbeats 400000 in
theorem take_nil (n : Nat) (w : World) : Calls Tryz.prog 76 #[.pointer none, .int .i64 (n : Int)] w fun e w' => e = .returned (.string ⟨#[]⟩) ∧ w = w' := by
  go_enter Tryz.func76, Tryz.ntmps76
  go_wp2
  go_ret
  exact ⟨rfl, rfl⟩
set_option maxHeartbeats 400000 in
theorem done_nil (w : World) : Calls Tryz.prog 52 #[.pointer none] w fun e w' => e = .returned (.int .i64 0) ∧ w = w' := by
  go_enter Tryz.func52, Tryz.ntmps52
  go_wp2
  go_ret
  exact ⟨rfl, rfl⟩
set_option maxHeartbeats 400000 in
theorem raw_nil (n : Nat) (w : World) : Calls Tryz.prog 49 #[.pointer none, .int .i64 (n : Int)] w fun e w' => e = .returned (.int .u64 0) ∧ Below w.heap.size w w' := by
  have kc := fun W s => Lib.run_convert_string_bytes (P := Tryz.prog) W 9 27 5 s Tryz.underlying9 Tryz.underlying27 Tryz.underlying5
  have hb : Below w.heap.size w (Lib.bytesWorld w 5 ⟨#[]⟩) := (Below.refl _ _).grown (bytesWorld_grown w 5 ⟨#[]⟩ none) (Nat.le_refl _) (fun k hk => by cases hk)
  have hz : (⟨#[]⟩ : ByteArray).size = 0 := rfl
  go_enter Tryz.func49, Tryz.ntmps49
  go_wp2_with fail
  refine (take_nil n w).mono ?_
  rintro e w1 ⟨rfl, rfl⟩
  generalize hs : (⟨#[]⟩ : ByteArray) = s at *
  clear hs
  go_wp2
  clear kc
  generalize Lib.bytesWorld w 5 s = W at *
  go_loop [5, 13] (fun t i => i = .int .i64 0 ∧ t = .int .u64 0) (fun _ _ => 0)
  case atStart => exact ⟨rfl, rfl⟩
  case round =>
    obtain ⟨rfl, rfl⟩ := hrel
    go_wp2
    go_ret
    exact ⟨rfl, hb⟩
set_option maxHeartbeats 400000 in
theorem num_nil (w : World) : Calls Tryz.prog 25 #[.pointer none] w fun e w' => e = .returned (.int .i64 0) ∧ Below w.heap.size w w' := by
  go_enter Tryz.func25, Tryz.ntmps25
  go_wp2_with fail
  refine (raw_nil 8 w).mono ?_
  rintro e w1 ⟨rfl, hb⟩
  go_wp2
  go_ret
  exact ⟨rfl, hb⟩

/-- the document's reader in block g: bytes below B -/
def RdR (w : World) (g B : Nat) (l : List Nat) (e : Nat) : Prop := ∃ A n c, w.heap[g]? = some (.cells #[.slice A n c, .int .i64 (e : Int)] 58) ∧ n ≤ c ∧ c ≤ maxLen ∧ n ≤ 140737488355328 ∧ Bytes w B A n l
section
variable {w w' : World} {g B e : Nat} {l : List Nat}
theorem RdR.lt (h : RdR w g B l e) : g < w.heap.size := by obtain ⟨A, n, c, h, _⟩ := h; exact (Array.getElem?_eq_some_iff.1 h).1
theorem RdR.grown (h : RdR w g B l e) {row : Option Nat} (hg : w.grownBy w' row) (hr : some g ≠ row) (hB : ∀ k, row = some k → B ≤ k) (hBw : B ≤ w.heap.size) : RdR w' g B l e := by
  have hlt := h.lt
  obtain ⟨A, n, c, h, h1, h2, h3, h4⟩ := h
  exact ⟨A, n, c, (hg.block g hlt hr).trans h, h1, h2, h3, h4.below ((Below.refl B w).grown hg hBw hB) (Nat.le_refl _)⟩
end
/-- behind a call of a method of the document's reader -/
def StoodR (g B : Nat) (l : List Nat) (e : Nat) (w w' : World) : Prop := RdR w' g B l e ∧ w.grownBy w' (some g)
def GaveR (v : Value) (g B : Nat) (l : List Nat) (e : Nat) (w : World) (x : Ending) (w' : World) : Prop := x = .returned v ∧ StoodR g B l e w w'
theorem StoodR.trans {g B : Nat} {l l' : List Nat} {e e' : Nat} {w w' w'' : World} (h : StoodR g B l e w w') (h' : StoodR g B l' e' w' w'') : StoodR g B l' e' w w'' := ⟨h'.1, grownBy_trans h.2 h'.2⟩
/-- what was taken: a slice of bytes -/
def TookR (v : List Nat) (g B : Nat) (l : List Nat) (e : Nat) (w : World) (x : Ending) (w' : World) : Prop := ∃ A n c, x = .returned (.slice A n c) ∧ n ≤ 140737488355328 ∧ Bytes w' B A n v ∧ StoodR g B l e w w'

/-- the reader's cells, one by one -/
theorem RdR.open_ {w : World} {g B e : Nat} {l : List Nat} (h : RdR w g B l e) (hgB : B ≤ g) : ∃ A n c, n ≤ c ∧ c ≤ maxLen ∧ n ≤ 140737488355328 ∧ Bytes w B A n l ∧ l.length = n ∧
    w.cell? ⟨g, 0, none⟩ = some (.slice A n c) ∧ w.cell? ⟨g, 1, none⟩ = some (.int .i64 (e : Int)) ∧ w.frozen? ⟨g, 0, none⟩ = false ∧ w.frozen? ⟨g, 1, none⟩ = false ∧
    (∀ e' : Nat, RdR (w.setCell ⟨g, 1, none⟩ (.int .i64 (e' : Int))) g B l e') ∧
    (∀ A' n' c' l', n' ≤ c' → c' ≤ maxLen → n' ≤ 140737488355328 → Bytes w B A' n' l' → RdR (w.setCell ⟨g, 0, none⟩ (.slice A' n' c')) g B l' e) := by
  obtain ⟨A, n, c, h, h1, h2, h3, h4⟩ := h
  refine ⟨A, n, c, h1, h2, h3, h4, h4.1, ?_, ?_, frozen_of_row w g 0 _ _ h, frozen_of_row w g 1 _ _ h, fun e' => ?_, fun A' n' c' l' g1 g2 g3 g4 => ?_⟩
  · rw [cell_of_row w g 0 _ _ (0, 0) h]; rfl
  · rw [cell_of_row w g 1 _ _ (0, 0) h]; rfl
  · exact ⟨A, n, c, heap_setCell_same w g 1 _ _ _ h, h1, h2, h3, h4.below ((Below.refl B w).setCell hgB _) (Nat.le_refl _)⟩
  · exact ⟨A', n', c', heap_setCell_same w g 0 _ _ _ h, g1, g2, g3, g4.below ((Below.refl B w).setCell hgB _) (Nat.le_refl _)⟩

theorem Bytes.to {w : World} {B n : Nat} {A : Option Addr} {l : List Nat} (h : Bytes w B A n l) {k : Nat} (hk : k ≤ n) : Bytes w B A k (l.take k) :=
  ⟨by rw [List.length_take, h.1]; omega, fun x hx => h.2.1 x (List.mem_of_mem_take hx), fun h0 => by
    obtain ⟨b, o, e, hb, hc⟩ := h.2.2 (by omega)
    refine ⟨b, o, e, hb, fun i hi => ?_⟩
    rw [hc i (by omega)]
    unfold byteAt
    simp [List.getD_eq_getElem?_getD, List.getElem?_take, hi]⟩
theorem Bytes.from_ {w : World} {B n : Nat} {b o : Nat} {l : List Nat} (h : Bytes w B (some ⟨b, o, none⟩) n l) {k : Nat} (hk : k ≤ n) (hkn : 0 < n) : Bytes w B (some ⟨b, o + k, none⟩) (n - k) (l.drop k) :=
  ⟨by rw [List.length_drop, h.1], fun x hx => h.2.1 x (List.mem_of_mem_drop hx), fun h0 => by
    obtain ⟨b', o', e, hb, hc⟩ := h.2.2 (by omega)
    injection e with e
    injection e with e1 e2
    subst e1; subst e2
    refine ⟨b, o + k, rfl, hb, fun i hi => ?_⟩
    rw [Nat.add_assoc, hc (k + i) (by omega)]
    unfold byteAt
    simp [List.getD_eq_getElem?_getD, List.getElem?_drop]⟩

theorem Bytes.rest {w : World} {B n : Nat} {A : Option Addr} {l : List Nat} (h : Bytes w B A n l) {k : Nat} (hk : k ≤ n) : Bytes w B (A.map fun x => x.add k) (n - k) (l.drop k) := by
  by_cases h0 : n - k = 0
  · rw [h0, List.drop_eq_nil_of_le (by rw [h.1]; omega)]
    exact Bytes.nil
  · obtain ⟨b, o, rfl, _⟩ := h.2.2 (by omega)
    have e : (some (⟨b, o, none⟩ : Addr)).map (fun x => x.add k) = some ⟨b, o + k, none⟩ := by rw [Option.map_some, Addr.add_mid]
    rw [e]
    exact h.from_ hk (by omega)

set_option maxRecDepth 20000 in
set_option maxHeartbeats 400000 in
theorem rtake_any (g B e n : Nat) (l : List Nat) (w : World) (h : RdR w g B l e) (hgB : B ≤ g) (hn : n ≤ 4611686018427387904) :
    Calls Tryz.prog 54 #[.pointer (some ⟨g, 0, none⟩), .int .i64 (n : Int)] w (TookR (takeV l e n) g B (takeL l e n) (takeE l e n) w) := by
  obtain ⟨A, m, c, h1, h2, h3, hl, hlen, hc0, hc1, hf0, hf1, hp1, hp0⟩ := h.open_ hgB
  have hmx : m ≤ maxLen := by unfold maxLen; omega
  unfold maxLen at h2
  have HP1 := hide (hp1 2)
  by_cases he : e = 0
  · subst he
    by_cases hlt : m < n
    · have HV := hide (takeV_short (l := l) (n := n) (by omega))
      have HL := hide (takeL_short (l := l) (n := n) (by omega))
      have HE := hide (takeE_short (l := l) (n := n) (by omega))
      clear hp0 hp1 h
      go_enter Tryz.func54, Tryz.ntmps54
      go_wp2
      go_ret
      rw [HV.out, HL.out, HE.out]
      exact ⟨none, 0, 0, rfl, by omega, Bytes.nil, HP1.out, grownBy_setCell _ _ _ _⟩
    · have HV := hide (takeV_ok (l := l) (n := n) (by omega))
      have HL := hide (takeL_ok (l := l) (n := n) (by omega))
      have HE := hide (takeE_ok (l := l) (n := n) (by omega))
      have HR := hide (hl.rest (k := n) (by omega))
      have HB := hide (hl.to (k := n) (by omega))
      have HP0 := hide hp0
      clear HP1 hp1 hp0 h
      have hcm : c ≤ maxLen := by unfold maxLen; omega
      by_cases hcn : c = n
      · have hmn : m - n = 0 := by omega
        have HP := hide (HP0.out A 0 0 (l.drop n) (by omega) (by omega) (by omega) (by rw [List.drop_eq_nil_of_le (by omega)]; exact Bytes.nil))
        subst hcn
        have HMN := hide hmn
        clear hmn
        go_enter Tryz.func54, Tryz.ntmps54
        go_wp2
        go_ret
        rw [HV.out, HL.out, HE.out]
        exact ⟨_, _, _, rfl, by omega, HB.out.below ((Below.refl B w).setCell hgB _) (Nat.le_refl _), HP.out, grownBy_setCell _ _ _ _⟩
      · have HP := hide (HP0.out (A.map fun x => x.add n) (m - n) (c - n) (l.drop n) (by omega) (by omega) (by omega) HR.out)
        go_enter Tryz.func54, Tryz.ntmps54
        go_wp2
        go_ret
        rw [HV.out, HL.out, HE.out]
        exact ⟨_, _, _, rfl, by omega, HB.out.below ((Below.refl B w).setCell hgB _) (Nat.le_refl _), HP.out, grownBy_setCell _ _ _ _⟩
  · have HV := hide (takeV_stays (l := l) (n := n) he)
    have HL := hide (takeL_stays (l := l) (n := n) he)
    have HE := hide (takeE_stays (l := l) (n := n) he)
    have heb : ((e : Int) == 0) = false := by simp; omega
    have H := hide h
    clear HP1 hp1 hp0 h
    go_enter Tryz.func54, Tryz.ntmps54
    go_wp2
    go_ret
    rw [HV.out, HL.out, HE.out]
    exact ⟨none, 0, 0, rfl, by omega, Bytes.nil, H.out, World.grownBy.refl _ _⟩

theorem numB_pos {l : List Nat} (h : ¬ 4611686018427387904 < decB l) : numB l = (decB l : Int) := if_neg h
theorem numB_neg {l : List Nat} (h : 4611686018427387904 < decB l) : numB l = -1 := if_pos h

set_option maxRecDepth 20000 in
set_option maxHeartbeats 400000 in
theorem rNum_any (g B e : Nat) (l : List Nat) (w : World) (h : RdR w g B l e) (hgB : B ≤ g) :
    Calls Tryz.prog 29 #[.pointer (some ⟨g, 0, none⟩)] w (GaveR (.int .i64 ((numV l e : Nat) : Int)) g B (takeL l e 8) (numE l e) w) := by
  have HV : Hid (numV l e = if 4611686018427387904 < decB (takeV l e 8) then 0 else decB (takeV l e 8)) := hide rfl
  have HE : Hid (numE l e = if 4611686018427387904 < decB (takeV l e 8) then 3 else takeE l e 8) := hide rfl
  have HX : Hid (takeE l e 8 ≠ 0 → takeV l e 8 = []) := hide takeV_err
  go_enter Tryz.func29, Tryz.ntmps29
  go_wp2_with fail
  refine (rtake_any g B e 8 l w h hgB (by omega)).mono ?_
  rintro e' w1 ⟨A, n, c, rfl, hn, hby, hs1⟩
  generalize takeV l e 8 = v at *
  generalize takeE l e 8 = e1 at *
  generalize takeL l e 8 = l1 at *
  go_wp2_with fail
  refine (number_any A n c B v w1 hby (by unfold maxLen; omega)).mono ?_
  rintro e' w' ⟨rfl, rfl⟩
  obtain ⟨A1, m1, c1, _, _, _, _, _, hc0, hc1, hf0, hf1, hp1, _⟩ := hs1.1.open_ hgB
  by_cases hg : 4611686018427387904 < decB v
  · have he : e1 = 0 := by
      rcases Nat.eq_zero_or_pos e1 with h0 | h0
      · exact h0
      · have := HX.out (by omega); subst this; rw [decB_nil] at hg; omega
    subst he
    have HV2 := hide (HV.out.trans (if_pos hg))
    have HE2 := hide (HE.out.trans (if_pos hg))
    rw [numB_neg hg]
    have HP := hide (hp1 3)
    have HS := hide hs1
    clear hg HV HE HX hp1 hby hs1 h
    go_wp2
    go_ret
    rw [HV2.out, HE2.out]
    exact ⟨rfl, HP.out, grownBy_trans HS.out.2 (grownBy_setCell _ _ _ _)⟩
  · have HV2 := hide (HV.out.trans (if_neg hg))
    have HE2 := hide (HE.out.trans (if_neg hg))
    rw [numB_pos hg]
    have HS := hide hs1
    have HV3 := hide (fun h0 : e1 ≠ 0 => show decB v = 0 by rw [HX.out h0]; rfl)
    clear hg HV HE HX hp1 hby hs1 h
    generalize decB v = x at *
    by_cases he : e1 = 0
    · subst he
      go_wp2
      go_ret
      rw [HV2.out, HE2.out]
      exact ⟨rfl, HS.out⟩
    · have heb : ((e1 : Int) == 0) = false := by simp; omega
      have HV4 := hide (HV3.out he)
      go_wp2
      go_ret
      rw [HV2.out, HE2.out, HV4.out]
      exact ⟨rfl, HS.out⟩

set_option maxRecDepth 20000 in
set_option maxHeartbeats 400000 in
theorem rText_any (g B e : Nat) (l : List Nat) (w : World) (h : RdR w g B l e) (hgB : B ≤ g) (hb : ∀ x ∈ l, x < 256) :
    Calls Tryz.prog 80 #[.pointer (some ⟨g, 0, none⟩)] w (GaveR (.string (strOf (textV l e))) g B (textL l e) (textE l e) w) := by
  have HV : Hid (textV l e = if 4096 < decB (takeV l e 4) then [] else takeV (takeL l e 4) (takeE l e 4) (decB (takeV l e 4))) := hide rfl
  have HL : Hid (textL l e = if 4096 < decB (takeV l e 4) then takeL l e 4 else takeL (takeL l e 4) (takeE l e 4) (decB (takeV l e 4))) := hide rfl
  have HE : Hid (textE l e = if 4096 < decB (takeV l e 4) then 4 else takeE (takeL l e 4) (takeE l e 4) (decB (takeV l e 4))) := hide rfl
  have HX : Hid (takeE l e 4 ≠ 0 → takeV l e 4 = []) := hide takeV_err
  have hsmall : decB (takeV l e 4) ≤ 4611686018427387904 := by
    have h1 := decB_lt (takeV l e 4) (takeV_lt hb)
    have h2 : 256 ^ (takeV l e 4).length ≤ 256 ^ 4 := pow256_le takeV_len
    omega
  go_enter Tryz.func80, Tryz.ntmps80
  go_wp2_with fail
  refine (rtake_any g B e 4 l w h hgB (by omega)).mono ?_
  rintro e' w1 ⟨A, n, c, rfl, hn, hby, hs1⟩
  generalize takeV l e 4 = v at *
  generalize takeE l e 4 = e1 at *
  generalize takeL l e 4 = l1 at *
  go_wp2_with fail
  refine (number_any A n c B v w1 hby (by unfold maxLen; omega)).mono ?_
  rintro e' w' ⟨rfl, rfl⟩
  rw [numB_pos (by omega)]
  obtain ⟨A1, m1, c1, _, _, _, _, _, hc0, hc1, hf0, hf1, hp1, _⟩ := hs1.1.open_ hgB
  by_cases hg : 4096 < decB v
  · have he : e1 = 0 := by
      rcases Nat.eq_zero_or_pos e1 with h0 | h0
      · exact h0
      · have := HX.out (by omega); subst this; rw [decB_nil] at hg; omega
    subst he
    have HV2 := hide (HV.out.trans (if_pos hg))
    have HE2 := hide (HE.out.trans (if_pos hg))
    have HL2 := hide (HL.out.trans (if_pos hg))
    have HP := hide (hp1 4)
    have HS := hide hs1
    have hgi : (4096 : Int) < ((decB v : Nat) : Int) := by omega
    clear hg HV HE HX hp1 hby hs1 h HL
    generalize decB v = x at *
    go_wp2
    go_ret
    rw [HV2.out, HE2.out, HL2.out]
    exact ⟨rfl, HP.out, grownBy_trans HS.out.2 (grownBy_setCell _ _ _ _)⟩
  · have HV2 := hide (HV.out.trans (if_neg hg))
    have HE2 := hide (HE.out.trans (if_neg hg))
    have HL2 := hide (HL.out.trans (if_neg hg))
    have hgi : ¬ (4096 : Int) < ((decB v : Nat) : Int) := by omega
    have HS := hide hs1
    have HV3 := hide (fun h0 : e1 ≠ 0 => show decB v = 0 by rw [HX.out h0]; rfl)
    clear hg HV HE HX hp1 hby hs1 h HL
    generalize decB v = x at *
    by_cases he : e1 = 0
    · subst he
      go_wp2_with fail
      refine (rtake_any g B 0 x l1 w1 HS.out.1 hgB (by omega)).mono ?_
      rintro e' w2 ⟨A2, n2, c2, rfl, hn2, hby2, hs2⟩
      have kc := run_str_of_bytes (P := Tryz.prog) (c := c2) hby2 Tryz.underlying27 Tryz.underlying5 Tryz.underlying9
      have HS2 := hide hs2
      clear hs2 hby2 hc0 hc1 hf0 hf1
      go_wp2
      go_ret
      rw [HV2.out, HE2.out, HL2.out]
      exact ⟨rfl, HS.out.trans HS2.out⟩
    · have heb : ((e1 : Int) == 0) = false := by simp; omega
      go_wp2
      go_ret
      rw [HV2.out, HE2.out, HL2.out, takeV_stays he, takeL_stays he, takeE_stays he]
      exact ⟨rfl, HS.out⟩

set_option maxRecDepth 20000 in
set_option maxHeartbeats 400000 in
theorem rCount_any (g B e : Nat) (m : Nat) (l : List Nat) (w : World) (h : RdR w g B l e) (hgB : B ≤ g) (hm : m ≤ 4611686018427387904) :
    Calls Tryz.prog 81 #[.pointer (some ⟨g, 0, none⟩), .int .i64 (m : Int)] w (GaveR (.int .i64 ((countV l e m : Nat) : Int)) g B (takeL l e 8) (countE l e m) w) := by
  have HV : Hid (countV l e m = if (m : Int) < (numV l e : Int) then 0 else numV l e) := hide rfl
  have HE : Hid (countE l e m = if numE l e = 0 ∧ (m : Int) < (numV l e : Int) then 4 else numE l e) := hide rfl
  have hle : numV l e ≤ 4611686018427387904 := by unfold numV; split <;> omega
  have HZ : Hid (numE l e ≠ 0 → numV l e = 0) := hide (fun h0 => by
    unfold numE at h0
    unfold numV
    split
    · rfl
    · rename_i h1
      rw [if_neg h1] at h0
      rw [takeV_err h0]
      rfl)
  go_enter Tryz.func81, Tryz.ntmps81
  go_wp2_with fail
  refine (rNum_any g B e l w h hgB).mono ?_
  rintro e' w1 ⟨rfl, hs1⟩
  generalize numV l e = x at *
  generalize numE l e = e1 at *
  generalize takeL l e 8 = l1 at *
  obtain ⟨A1, m1, c1, _, _, _, _, _, hc0, hc1, hf0, hf1, hp1, _⟩ := hs1.1.open_ hgB
  have HS := hide hs1
  have HP := hide (hp1 4)
  clear hp1 hs1 h
  by_cases he : e1 = 0
  · subst he
    by_cases hg : (m : Int) < (x : Int)
    · have HV2 := hide (HV.out.trans (if_pos hg))
      have HE2 := hide (HE.out.trans (if_pos ⟨rfl, hg⟩))
      clear HV HE HZ
      go_wp2
      go_ret
      rw [HV2.out, HE2.out]
      exact ⟨rfl, HP.out, grownBy_trans HS.out.2 (grownBy_setCell _ _ _ _)⟩
    · have HV2 := hide (HV.out.trans (if_neg hg))
      have HE2 := hide (HE.out.trans (if_neg (fun h => hg h.2)))
      clear HV HE HZ
      go_wp2
      go_ret
      rw [HV2.out, HE2.out]
      exact ⟨rfl, HS.out⟩
  · have hx := HZ.out he
    subst hx
    have HV2 := hide (HV.out.trans (ite_self _))
    have HE2 := hide (HE.out.trans (if_neg (fun h => he h.1)))
    have heb : ((e1 : Int) == 0) = false := by simp; omega
    clear HV HE HZ
    go_wp2
    go_ret
    rw [HV2.out, HE2.out]
    exact ⟨rfl, HS.out⟩

set_option maxHeartbeats 400000 in
theorem rFail_any (g B e : Nat) (b : Bool) (l : List Nat) (w : World) (h : RdR w g B l e) (hgB : B ≤ g) :
    Calls Tryz.prog 30 #[.pointer (some ⟨g, 0, none⟩), .bool b] w (GaveR (.tuple #[]) g B l (failE e b) w) := by
  have HE : Hid (failE e b = if e = 0 ∧ b = true then 3 else e) := hide rfl
  obtain ⟨A1, m1, c1, _, _, _, _, _, hc0, hc1, hf0, hf1, hp1, _⟩ := h.open_ hgB
  have HS := hide h
  have HP := hide (hp1 3)
  clear hp1 h
  by_cases he : e = 0
  · subst he
    cases b with
    | true =>
      have HE2 := hide (HE.out.trans (if_pos ⟨rfl, rfl⟩))
      clear HE
      go_enter Tryz.func30, Tryz.ntmps30
      go_wp2
      go_end0
      rw [HE2.out]
      exact ⟨rfl, HP.out, grownBy_setCell _ _ _ _⟩
    | false =>
      have HE2 := hide (HE.out.trans (if_neg (by simp)))
      clear HE
      go_enter Tryz.func30, Tryz.ntmps30
      go_wp2
      go_end0
      rw [HE2.out]
      exact ⟨rfl, HS.out, World.grownBy.refl _ _⟩
  · have HE2 := hide (HE.out.trans (if_neg (fun h => he h.1)))
    have heb : ((e : Int) == 0) = false := by simp; omega
    clear HE
    go_enter Tryz.func30, Tryz.ntmps30
    go_wp2
    go_end0
    rw [HE2.out]
    exact ⟨rfl, HS.out, World.grownBy.refl _ _⟩

set_option maxHeartbeats 400000 in
theorem rDone_any (g B e : Nat) (l : List Nat) (w : World) (h : RdR w g B l e) (hgB : B ≤ g) :
    Calls Tryz.prog 56 #[.pointer (some ⟨g, 0, none⟩)] w fun x w' => x = .returned (.int .i64 ((doneE l e : Nat) : Int)) ∧ w = w' := by
  have HE : Hid (doneE l e = if e = 0 ∧ l ≠ [] then 3 else e) := hide rfl
  obtain ⟨A1, m1, c1, h1, h2, h3, _, hlen, hc0, hc1, _⟩ := h.open_ hgB
  unfold maxLen at h2
  clear h
  by_cases he : e = 0
  · subst he
    by_cases h0 : m1 = 0
    · have HE2 := hide (HE.out.trans (if_neg (by simp; exact List.eq_nil_of_length_eq_zero (by omega))))
      subst h0
      clear HE hlen
      go_enter Tryz.func56, Tryz.ntmps56
      go_wp2
      go_ret
      exact ⟨ret_int (by rw [HE2.out]; rfl), rfl⟩
    · have HE2 := hide (HE.out.trans (if_pos ⟨rfl, by intro hl; rw [hl] at hlen; simp at hlen; omega⟩))
      have hmi : (0 : Int) < (m1 : Int) := by omega
      clear HE hlen
      go_enter Tryz.func56, Tryz.ntmps56
      go_wp2
      go_ret
      exact ⟨ret_int (by rw [HE2.out]; rfl), rfl⟩
  · have HE2 := hide (HE.out.trans (if_neg (fun h => he h.1)))
    have heb : ((e : Int) == 0) = false := by simp; omega
    clear HE hlen
    go_enter Tryz.func56, Tryz.ntmps56
    go_wp2
    go_ret
    exact ⟨ret_int (by rw [HE2.out]), rfl⟩
end Go.Proofs.YtoiffchhfnbooaaGreatDoor
