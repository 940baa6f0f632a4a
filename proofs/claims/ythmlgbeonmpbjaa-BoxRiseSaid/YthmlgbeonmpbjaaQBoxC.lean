/-
  Contracts over package box and the document's own: all numbers; which messages are meant.
-/
import Derived.Test.YthmlgbeonmpbjaaQBoxB
import Derived.Test.YthmlgbeonmpbjaaQUidsA
import Derived.Deep.RegionHeld3
import Derived.BigQuiet
import Derived.Deep.QuietTactic
namespace Go.Proofs.Ythmlgbeonmpbjaa
set_option linter.unusedVariables false
set_option linter.unusedSimpArgs false
open Go.RowKit
set_option linter.unusedVariables false
set_option linter.unusedSimpArgs false

theorem info_int : (Try.prog.info? 3).map (fun i => (i.zero, i.size, i.bytes)) = some (some (.int .i64 0), 1, 8) := by kernel_rfl
theorem OwnV.colI {w : World} {base n c : Nat} {e : TypeId} {A : Option Addr} {l : List Int} (h : OwnV w base e A n c (l.map ints)) : Col ints w w.heap.size A n l := by
  have hl := h.len
  rw [List.length_map] at hl
  refine ⟨hl, fun hn => ?_⟩
  obtain ⟨g, rfl, _, hg, hc⟩ := h.cells hn
  exact ⟨g, 0, rfl, hg, fun i a ha => by rw [Nat.zero_add]; exact hc i (ints a) (by rw [List.getElem?_map, ha]; rfl)⟩
/-- numbers are answered -/
def GiveI (l : List Int) (w : World) (e : Ending) (w' : World) : Prop := ∃ A n c, e = .returned (.slice A n c) ∧ Col ints w' w'.heap.size A n l ∧ n ≤ c ∧ Below w.heap.size w w'
theorem uids_snoc {l : List Mg} {k : Nat} {a : Mg} (ht : l.take (k + 1) = l.take k ++ [a]) : ((l.take (k + 1)).map Mg.uid).map ints = ((l.take k).map Mg.uid).map ints ++ [.int .i64 a.uid] := by rw [ht]; simp [ints]
set_option maxRecDepth 20000 in
set_option maxHeartbeats 2000000 in
theorem uids_any (nm : ByteArray) (v nx : Int) (A : Option Addr) (n c : Nat) (l : List Mg) (w : World) (hl : MsgsIn w w.heap.size A n l) (hn : n ≤ 1000000) :
    Calls Try.prog 31 #[.agg #[.string nm, .int .i64 v, .int .i64 nx, .slice A n c]] w (GiveI (l.map Mg.uid) w) := by
  have h1 : Bk (w.alloc (.cells #[.string nm, .int .i64 v, .int .i64 nx, .slice A n c] 24)) w.heap.size 24 #[.string nm, .int .i64 v, .int .i64 nx, .slice A n c] := Bk.new _ _ _
  have hB : Below w.heap.size w (w.alloc (.cells #[.string nm, .int .i64 v, .int .i64 nx, .slice A n c] 24)) := (Below.refl _ _).alloc (Nat.le_refl _) _
  have HL := Lib.hid hl
  have c3 := h1.cell 3
  have HB := Lib.hid hB
  have HO : Hid (OwnV ((w.alloc (.cells #[.string nm, .int .i64 v, .int .i64 nx, .slice A n c] 24)).alloc (.cells #[] 3)) (w.heap.size + 1) 3 (some ⟨w.heap.size + 1, 0, none⟩) 0 0 (((l.take 0).map Mg.uid).map ints)) := Lib.hid (by
    have := OwnV.empty (w.alloc (.cells #[.string nm, .int .i64 v, .int .i64 nx, .slice A n c] 24)) 3
    rwa [World.size_alloc] at this)
  have HB1 : Hid (Below (w.heap.size + 1) (w.alloc (.cells #[.string nm, .int .i64 v, .int .i64 nx, .slice A n c] 24)) ((w.alloc (.cells #[.string nm, .int .i64 v, .int .i64 nx, .slice A n c] 24)).alloc (.cells #[] 3))) := Lib.hid ((Below.refl _ _).alloc (by simp) _)
  have HZ : Hid ((w.alloc (.cells #[.string nm, .int .i64 v, .int .i64 nx, .slice A n c] 24)).heap.size = w.heap.size + 1) := Lib.hid (by simp)
  clear h1 hB hl
  go_enter Try.func31, Try.ntmps31
  go_wp2_with fail
  generalize w.alloc (.cells #[.string nm, .int .i64 v, .int .i64 nx, .slice A n c] 24) = w1 at *
  go_loopw [3, 10] (fun t i wx => ∃ (k c2 : Nat) (A2 : Option Addr), k ≤ n ∧ i = .int .i64 (k : Int) ∧ t = .slice A2 k c2 ∧ OwnV wx (w.heap.size + 1) 3 A2 k c2 (((l.take k).map Mg.uid).map ints) ∧ Below (w.heap.size + 1) w1 wx) (fun _ i _ => n - (intOf i).toNat)
  case atStart => exact ⟨0, 0, _, Nat.zero_le _, rfl, rfl, HO.out, HB1.out⟩
  case round =>
    obtain ⟨k, c2, A2, hk, rfl, rfl, ho, hb⟩ := hrel
    have HO2 := Lib.hid ho
    have HBR := Lib.hid hb
    have HB2 := Lib.hid (HB.out.trans (hb.mono (by omega)))
    clear ho hb c3 HO HB1
    by_cases hlt : k < n
    · obtain ⟨b, o, x, rfl, hbb, hla, htk, hrow, hin⟩ := (HL.out.below HB2.out (Nat.le_refl _)).at_ hlt
      have HTK := Lib.hid htk
      have HROW := Lib.hid hrow
      have hk0 : (0 : Int) ≤ (k : Int) := by omega
      have hkn : (k : Int) < (n : Int) := by omega
      obtain ⟨⟨u, f, d, bl⟩, xA, xn, xc⟩ := x
      clear hla htk hrow hin
      go_wp2_with ((with_reducible show wpList _ _ _ (⟨some 13, _, _, _, _, _⟩ :: _) _ _); refine hold ?_)
      refine held (wpList_load_mid rfl 27 (.tmp 12) rfl b (o + k * 4) rfl _ _ HROW.out Try.underlying27 rfl (by kernel_rfl) ?_)
      unfold hdC
      go_wp2_with ((with_reducible show wpList _ _ _ (⟨some 18, _, _, _, _, _⟩ :: _) _ _); refine hold ?_)
      have hb3 : Below (w.heap.size + 1) w1 ((wr.alloc (.cells #[.int .i64 u, .int .i64 f, .int .i64 d, .slice xA xn xc] 27)).alloc (.cells #[.int .i64 u] 3)) := (HBR.out.alloc (by have := HBR.out.size; rw [HZ.out] at this; omega) _).alloc (by have := HBR.out.size; rw [HZ.out] at this; simp; omega) _
      have ho3 := (HO2.out.alloc (.cells #[.int .i64 u, .int .i64 f, .int .i64 d, .slice xA xn xc] 27)).alloc (.cells #[.int .i64 u] 3)
      have h3 : Bk ((wr.alloc (.cells #[.int .i64 u, .int .i64 f, .int .i64 d, .slice xA xn xc] 27)).alloc (.cells #[.int .i64 u] 3)) (wr.heap.size + 1) 3 #[.int .i64 u] := Bk.new2 _ _ _ _
      have hsz : w.heap.size + 1 ≤ ((wr.alloc (.cells #[.int .i64 u, .int .i64 f, .int .i64 d, .slice xA xn xc] 27)).alloc (.cells #[.int .i64 u] 3)).heap.size := by have := HBR.out.size; rw [HZ.out] at this; simp; omega
      refine held (wpList_append_one rfl (.tmp 14) (.tmp 17) 36 rfl Try.underlying36 info_int rfl (by omega) (w.heap.size + 1) A2 k c2 _ rfl ho3 (wr.heap.size + 1) 0 (.int .i64 u) rfl (h3.cell 0) rfl (by omega) hsz ?_)
      intro A4 c4 w4 ho4 hb4
      have HO4 : Hid (OwnV w4 (w.heap.size + 1) 3 A4 (k + 1) c4 (((l.take (k + 1)).map Mg.uid).map ints)) := Lib.hid (by rw [uids_snoc HTK.out]; exact ho4)
      have HB4 := Lib.hid (hb3.trans hb4)
      clear ho3 hb3 h3 hsz ho4 hb4
      go_wp2_with fail
      go_roundw
      case rel => exact ⟨k + 1, c4, A4, by omega, by go_num, rfl, HO4.out, HB4.out⟩
      case measure => simp [intOf]; omega
    · have hkn : ¬ (k : Int) < (n : Int) := by omega
      have HO4 : Hid (OwnV wr (w.heap.size + 1) 3 A2 k c2 ((l.map Mg.uid).map ints)) := Lib.hid (by have := HO2.out; rwa [List.take_of_length_le (by rw [HL.out.len]; omega)] at this)
      go_wp2_with fail
      go_ret
      exact ⟨A2, k, c2, rfl, HO4.out.colI, HO4.out.cap_.1, HB2.out⟩
set_option maxRecDepth 20000 in
set_option maxHeartbeats 2000000 in
theorem x11uids_any (nm : ByteArray) (v nx : Int) (A : Option Addr) (n c : Nat) (l : List Mg) (w : World) (hl : MsgsIn w w.heap.size A n l) (hn : n ≤ 1000000) :
    Calls Try.prog 32 #[.agg #[.string nm, .int .i64 v, .int .i64 nx, .slice A n c]] w (GiveI (l.map Mg.uid) w) := by
  have h1 : Bk (w.alloc (.cells #[.string nm, .int .i64 v, .int .i64 nx, .slice A n c] 24)) w.heap.size 24 #[.string nm, .int .i64 v, .int .i64 nx, .slice A n c] := Bk.new _ _ _
  have hB : Below w.heap.size w (w.alloc (.cells #[.string nm, .int .i64 v, .int .i64 nx, .slice A n c] 24)) := (Below.refl _ _).alloc (Nat.le_refl _) _
  have HL := Lib.hid hl
  have HB := Lib.hid hB
  have H1 := Lib.hid h1
  have HZ : Hid ((w.alloc (.cells #[.string nm, .int .i64 v, .int .i64 nx, .slice A n c] 24)).heap.size = w.heap.size + 1) := Lib.hid (by simp)
  clear h1 hB hl
  go_enter Try.func32, Try.ntmps32
  go_wp2_with fail
  generalize w.alloc (.cells #[.string nm, .int .i64 v, .int .i64 nx, .slice A n c] 24) = w1 at *
  go_loopw [3, 4] (fun t i wx => ∃ (k c2 : Nat) (A2 : Option Addr), k ≤ n ∧ i = .int .i64 (k : Int) ∧ t = .slice A2 k c2 ∧ OwnV wx (w.heap.size + 1) 3 A2 k c2 (((l.take k).map Mg.uid).map ints) ∧ Below (w.heap.size + 1) w1 wx) (fun _ i _ => n - (intOf i).toNat)
  case atStart => exact ⟨0, 0, none, Nat.zero_le _, rfl, rfl, OwnV.nil, Below.refl _ _⟩
  case round =>
    obtain ⟨k, c2, A2, hk, rfl, rfl, ho, hb⟩ := hrel
    have c3 := (H1.out.below hb (by omega)).cell 3
    have HO2 := Lib.hid ho
    have HBR := Lib.hid hb
    have HB2 := Lib.hid (HB.out.trans (hb.mono (by omega)))
    clear ho hb
    by_cases hlt : k < n
    · obtain ⟨b, o, x, rfl, hbb, hla, htk, hrow, hin⟩ := (HL.out.below HB2.out (Nat.le_refl _)).at_ hlt
      have HTK := Lib.hid htk
      have r0 := (row4 hrow).1
      have hk0 : (0 : Int) ≤ (k : Int) := by omega
      have hkn : (k : Int) < (n : Int) := by omega
      obtain ⟨⟨u, f, d, bl⟩, xA, xn, xc⟩ := x
      replace r0 : wr.cell? ⟨b, o + k * 4, none⟩ = some (.int .i64 u) := r0
      clear hla htk hrow hin
      go_wp2_with ((with_reducible show wpList _ _ _ (⟨some 20, _, _, _, _, _⟩ :: _) _ _); refine hold ?_)
      have hws := HBR.out.size
      rw [HZ.out] at hws
      have hb3 : Below (w.heap.size + 1) w1 (wr.alloc (.cells #[.int .i64 u] 3)) := HBR.out.alloc hws _
      have ho3 := HO2.out.alloc (.cells #[.int .i64 u] 3)
      have h3 : Bk (wr.alloc (.cells #[.int .i64 u] 3)) wr.heap.size 3 #[.int .i64 u] := Bk.new _ _ _
      refine held (wpList_append_one rfl (.tmp 12) (.tmp 19) 36 rfl Try.underlying36 info_int rfl (by omega) (w.heap.size + 1) A2 k c2 _ rfl ho3 wr.heap.size 0 (.int .i64 u) rfl (h3.cell 0) rfl (by omega) (by simp; omega) ?_)
      intro A4 c4 w4 ho4 hb4
      have HO4 : Hid (OwnV w4 (w.heap.size + 1) 3 A4 (k + 1) c4 (((l.take (k + 1)).map Mg.uid).map ints)) := Lib.hid (by rw [uids_snoc HTK.out]; exact ho4)
      have HB4 := Lib.hid (hb3.trans hb4)
      clear ho3 hb3 h3 hws ho4 hb4 r0 c3
      go_wp2_with fail
      go_roundw
      case rel => exact ⟨k + 1, c4, A4, by omega, by go_num, rfl, HO4.out, HB4.out⟩
      case measure => simp [intOf]; omega
    · have hkn : ¬ (k : Int) < (n : Int) := by omega
      have HO4 : Hid (OwnV wr (w.heap.size + 1) 3 A2 k c2 ((l.map Mg.uid).map ints)) := Lib.hid (by have := HO2.out; rwa [List.take_of_length_le (by rw [HL.out.len]; omega)] at this)
      go_wp2_with fail
      go_ret
      exact ⟨A2, k, c2, rfl, HO4.out.colI, HO4.out.cap_.1, HB2.out⟩

/-! ### Which messages are meant -/
theorem not_in {l : List Int} {k n : Nat} {u : Int} (h : ∀ z ∈ l.take k, z ≠ u) (hl : l.length = n) (hk : ¬ k < n) : decide (u ∈ l) = false := decide_eq_false (fun e => by
  rw [List.take_of_length_le (by omega)] at h
  exact h u e rfl)
theorem is_in {l : List Int} {k : Nat} {a u : Int} (hk : l[k]? = some a) (h : (u == a) = true) : decide (u ∈ l) = true := decide_eq_true (by rw [beq_iff_eq.1 h]; exact List.mem_of_getElem? hk)
theorem not_yet {l : List Int} {k : Nat} {a u : Int} (h : ∀ z ∈ l.take k, z ≠ u) (ht : l.take (k + 1) = l.take k ++ [a]) (ha : (u == a) = false) : ∀ z ∈ l.take (k + 1), z ≠ u := by
  intro z hz
  rw [ht] at hz
  rcases List.mem_append.1 hz with hz | hz
  · exact h z hz
  · rw [List.mem_singleton.1 hz]
    intro e
    rw [e] at ha
    simp at ha
def IsIdx (l : List Int) (u : Int) (w : World) (e : Ending) (w' : World) : Prop := ∃ z : Int, e = .returned (.int .i64 z) ∧ decide (0 ≤ z) = decide (u ∈ l) ∧ w = w'
theorem indexI_any (A : Option Addr) (n c : Nat) (l : List Int) (u : Int) (w : World) (hl : Col ints w w.heap.size A n l) (hn : n ≤ 140737488355328) :
    Calls Try.prog 55 #[.slice A n c, .int .i64 u] w (IsIdx l u w) := by
  have HL := Lib.hid hl
  clear hl
  go_enter Try.func55, Try.ntmps55
  go_wp2_with fail
  go_loop [8] (fun i => ∃ k : Nat, k ≤ n ∧ i = .int .i64 (k : Int) ∧ ∀ z ∈ l.take k, z ≠ u) (fun i => n - (intOf i).toNat)
  case atStart => exact ⟨0, Nat.zero_le _, rfl, fun z hz => (by cases hz)⟩
  case round =>
    obtain ⟨k, hk, rfl, ha⟩ := hrel
    have HA := Lib.hid ha
    clear ha
    by_cases hlt : k < n
    · obtain ⟨b, o, a, rfl, hbb, hla, htk, hc⟩ := HL.out.at_ hlt
      have HLA := Lib.hid hla
      have HTK := Lib.hid htk
      have hk0 : (0 : Int) ≤ (k : Int) := by omega
      have hkn : (k : Int) < (n : Int) := by omega
      replace hc : w.cell? ⟨b, o + k, none⟩ = some (.int .i64 a) := hc
      clear hla htk
      cases hok : (u == a)
      · have HS := Lib.hid (not_yet HA.out HTK.out hok)
        go_wp2_with fail
        go_round
        case rel => exact ⟨k + 1, by omega, by go_num, HS.out⟩
        case measure => simp [intOf]; omega
      · have HS := Lib.hid (is_in HLA.out hok)
        go_wp2_with fail
        go_ret
        exact ⟨(k : Int), rfl, by rw [HS.out, decide_eq_true hk0], rfl⟩
    · have hkn : ¬ (k : Int) < (n : Int) := by omega
      have HS := Lib.hid (not_in HA.out HL.out.1 hlt)
      go_wp2_with fail
      go_ret
      exact ⟨-1, rfl, by rw [HS.out]; rfl, rfl⟩
theorem containsI_any (A : Option Addr) (n c : Nat) (l : List Int) (u : Int) (w : World) (hl : Col ints w w.heap.size A n l) (hn : n ≤ 140737488355328) :
    Calls Try.prog 53 #[.slice A n c, .int .i64 u] w fun e w' => e = .returned (.bool (decide (u ∈ l))) ∧ w = w' := by
  have hc := indexI_any A n c l u w hl hn
  unfold IsIdx at hc
  have HC := Lib.hid hc
  clear hl hc
  generalize decide (u ∈ l) = q at *
  go_enter Try.func53, Try.ntmps53
  go_wp2_with fail
  refine HC.out.mono ?_
  rintro e w' ⟨z, rfl, hz, rfl⟩
  have HZ := Lib.hid hz
  clear hz
  by_cases h0 : 0 ≤ z
  · have HR : Hid (q = true) := Lib.hid (by rw [← HZ.out]; exact decide_eq_true h0)
    go_wp2_with fail
    go_ret
    exact ⟨by rw [HR.out] <;> rfl, rfl⟩
  · have HR : Hid (q = false) := Lib.hid (by rw [← HZ.out]; exact decide_eq_false h0)
    go_wp2_with fail
    go_ret
    exact ⟨by rw [HR.out] <;> first | rfl | exact congrArg (fun b => Ending.returned (.bool b)) (decide_eq_false (by omega)), rfl⟩
theorem meant1_any (bi : Nat) (u f d : Int) (xA : Option Addr) (xn xc : Nat) (A : Option Addr) (n c : Nat) (ids : List Int) (w : World) (hi : w.cell? ⟨bi, 0, none⟩ = some (.slice A n c)) (hl : Col ints w w.heap.size A n ids) (hn : n ≤ 140737488355328) :
    Calls Try.prog 52 #[.agg #[.int .i64 u, .int .i64 f, .int .i64 d, .slice xA xn xc], .pointer (some ⟨bi, 0, none⟩)] w fun e w' => e = .returned (.bool (decide (u ∈ ids))) ∧ w' = w.alloc (.cells #[.int .i64 u, .int .i64 f, .int .i64 d, .slice xA xn xc] 27) := by
  have h1 : Bk (w.alloc (.cells #[.int .i64 u, .int .i64 f, .int .i64 d, .slice xA xn xc] 27)) w.heap.size 27 #[.int .i64 u, .int .i64 f, .int .i64 d, .slice xA xn xc] := Bk.new _ _ _
  have hB : Below w.heap.size w (w.alloc (.cells #[.int .i64 u, .int .i64 f, .int .i64 d, .slice xA xn xc] 27)) := (Below.refl _ _).alloc (Nat.le_refl _) _
  have c0 := h1.cell 0
  have cu := (hB.cell (p := ⟨bi, 0, none⟩) (World.block_lt_of_cell? _ _ hi)).trans hi
  have HC := Lib.hid (containsI_any A n c ids u _ (hl.later hB) hn)
  clear h1 hB hi hl
  generalize decide (u ∈ ids) = q at *
  go_enter Try.func52, Try.ntmps52
  go_wp2_with fail
  refine HC.out.mono ?_
  rintro e w' ⟨rfl, rfl⟩
  go_wp2_with fail
  go_ret
  exact ⟨rfl, rfl⟩
/-- which are meant is answered -/
def MeantIs (w : World) (ok : Bool) (A : Option Addr) (n c : Nat) (e : Ending) (w' : World) : Prop :=
  ∃ (fv : Value) (z : Int), e = .returned (.tuple #[fv, .int .i64 z]) ∧ Below w.heap.size w w' ∧ ((ok = false ∧ z = 6) ∨ (ok = true ∧ z = 0 ∧ ∃ bi, w.heap.size ≤ bi ∧ fv = .func (.func 52) #[] #[.pointer (some ⟨bi, 0, none⟩)] ∧ Bk w' bi 36 #[.slice A n c]))
theorem there_next {l : List Mg} {ids : List Int} {k : Nat} {u : Int} (h : thereU l (ids.take k) = true) (ht : ids.take (k + 1) = ids.take k ++ [u]) (hu : placeN l u ≠ 0) : thereU l (ids.take (k + 1)) = true := by rw [ht]; exact thereU_snoc h hu
theorem there_all {l : List Mg} {ids : List Int} {k n : Nat} (h : thereU l (ids.take k) = true) (hl : ids.length = n) (hk : ¬ k < n) : thereU l ids = true := by rwa [List.take_of_length_le (by omega)] at h
set_option maxRecDepth 20000 in
set_option maxHeartbeats 2000000 in
theorem meant_any (nm : ByteArray) (v nx : Int) (A : Option Addr) (n c : Nat) (l : List Mg) (B : Option Addr) (m d : Nat) (ids : List Int) (w : World) (hl : MsgsIn w w.heap.size A n l) (hn : n ≤ 1000000) (hi : Col ints w w.heap.size B m ids) (hm : m ≤ 140737488355328) :
    Calls Try.prog 40 #[.agg #[.string nm, .int .i64 v, .int .i64 nx, .slice A n c], .slice B m d] w (MeantIs w (thereU l ids) B m d) := by
  have h1 : Bk ((w.alloc (.cells #[.string nm, .int .i64 v, .int .i64 nx, .slice A n c] 24)).alloc (.cells #[.slice B m d] 36)) w.heap.size 24 #[.string nm, .int .i64 v, .int .i64 nx, .slice A n c] := (Bk.new _ _ _).alloc _
  have h2 : Bk ((w.alloc (.cells #[.string nm, .int .i64 v, .int .i64 nx, .slice A n c] 24)).alloc (.cells #[.slice B m d] 36)) (w.heap.size + 1) 36 #[.slice B m d] := Bk.new2 _ _ _ _
  have hB : Below w.heap.size w ((w.alloc (.cells #[.string nm, .int .i64 v, .int .i64 nx, .slice A n c] 24)).alloc (.cells #[.slice B m d] 36)) := ((Below.refl _ _).alloc (Nat.le_refl _) _).alloc (by simp) _
  have HL := Lib.hid hl
  have HI := Lib.hid hi
  have HB := Lib.hid hB
  have H1 := Lib.hid h1
  have H2 := Lib.hid h2
  have HZ : Hid (((w.alloc (.cells #[.string nm, .int .i64 v, .int .i64 nx, .slice A n c] 24)).alloc (.cells #[.slice B m d] 36)).heap.size = w.heap.size + 2) := Lib.hid (by simp)
  have c0 := h2.cell 0
  clear h1 h2 hB hl hi
  go_enter Try.func40, Try.ntmps40
  go_wp2_with fail
  generalize (w.alloc (.cells #[.string nm, .int .i64 v, .int .i64 nx, .slice A n c] 24)).alloc (.cells #[.slice B m d] 36) = w1 at *
  go_loopw [10] (fun i wx => ∃ k : Nat, k ≤ m ∧ i = .int .i64 (k : Int) ∧ thereU l (ids.take k) = true ∧ Below (w.heap.size + 2) w1 wx) (fun i _ => m - (intOf i).toNat)
  case atStart => exact ⟨0, Nat.zero_le _, rfl, rfl, Below.refl _ _⟩
  case round =>
    obtain ⟨k, hk, rfl, ha, hb⟩ := hrel
    have HA := Lib.hid ha
    have HBR := Lib.hid hb
    have HB2 := Lib.hid (HB.out.trans (hb.mono (by omega)))
    obtain ⟨⟨e0, e1, e2, e3⟩, -, -, -, -⟩ := (H1.out.below hb (by omega)).four
    clear ha hb c0
    by_cases hlt : k < m
    · obtain ⟨b, o, u, rfl, hbb, hla, htk, hc⟩ := (HI.out.below HB2.out (Nat.le_refl _)).at_ hlt
      have HLA := Lib.hid hla
      have HTK := Lib.hid htk
      have hk0 : (0 : Int) ≤ (k : Int) := by omega
      have hkn : (k : Int) < (m : Int) := by omega
      replace hc : wr.cell? ⟨b, o + k, none⟩ = some (.int .i64 u) := hc
      have HP := Lib.hid (place_any nm v nx u A n c l wr (HL.out.later HB2.out) hn)
      clear hla htk
      go_wp2_with fail
      refine HP.out.mono ?_
      rintro e w2 ⟨rfl, hb2⟩
      have HBR2 := Lib.hid (HBR.out.trans (hb2.mono (by have := HBR.out.size; rw [HZ.out] at this; exact this)))
      have HB3 := Lib.hid (HB2.out.trans (hb2.mono HB2.out.size))
      clear hb2 e0 e1 e2 e3 hc HP
      by_cases hp : placeN l u = 0
      · have HR := Lib.hid (thereU_no (List.mem_of_getElem? HLA.out) hp)
        rw [hp]
        clear hp
        go_wp2_with fail
        go_ret2
        exact ⟨_, _, rfl, HB3.out, .inl ⟨HR.out, rfl⟩⟩
      · have HR := Lib.hid (there_next HA.out HTK.out hp)
        have hpb : ((placeN l u : Int) == 0) = false := by simp; omega
        clear hp
        go_wp2_with fail
        go_roundw
        case rel => exact ⟨k + 1, by omega, by go_num, HR.out, HBR2.out⟩
        case measure => simp [intOf]; omega
    · have hkn : ¬ (k : Int) < (m : Int) := by omega
      have HR := Lib.hid (there_all HA.out HI.out.1 hlt)
      have HK := Lib.hid (H2.out.below HBR.out (by omega))
      go_wp2_with fail
      go_ret2
      exact ⟨_, _, rfl, HB2.out, .inr ⟨HR.out, rfl, _, by omega, rfl, HK.out⟩⟩
set_option maxRecDepth 20000 in
set_option maxHeartbeats 2000000 in
theorem x11there_any (nm : ByteArray) (v nx : Int) (A : Option Addr) (n c : Nat) (l : List Mg) (B : Option Addr) (m d : Nat) (ids : List Int) (w : World) (hl : MsgsIn w w.heap.size A n l) (hn : n ≤ 1000000) (hi : Col ints w w.heap.size B m ids) (hm : m ≤ 140737488355328) :
    Calls Try.prog 42 #[.agg #[.string nm, .int .i64 v, .int .i64 nx, .slice A n c], .slice B m d] w fun e w' => e = .returned (.bool (thereU l ids)) ∧ Below w.heap.size w w' := by
  have h1 : Bk (w.alloc (.cells #[.string nm, .int .i64 v, .int .i64 nx, .slice A n c] 24)) w.heap.size 24 #[.string nm, .int .i64 v, .int .i64 nx, .slice A n c] := Bk.new _ _ _
  have hB : Below w.heap.size w (w.alloc (.cells #[.string nm, .int .i64 v, .int .i64 nx, .slice A n c] 24)) := (Below.refl _ _).alloc (Nat.le_refl _) _
  have HL := Lib.hid hl
  have HI := Lib.hid hi
  have HB := Lib.hid hB
  have H1 := Lib.hid h1
  have HZ : Hid ((w.alloc (.cells #[.string nm, .int .i64 v, .int .i64 nx, .slice A n c] 24)).heap.size = w.heap.size + 1) := Lib.hid (by simp)
  clear h1 hB hl hi
  go_enter Try.func42, Try.ntmps42
  go_wp2_with fail
  generalize w.alloc (.cells #[.string nm, .int .i64 v, .int .i64 nx, .slice A n c] 24) = w1 at *
  go_loopw [5] (fun i wx => ∃ k : Nat, k ≤ m ∧ i = .int .i64 (k : Int) ∧ thereU l (ids.take k) = true ∧ Below (w.heap.size + 1) w1 wx) (fun i _ => m - (intOf i).toNat)
  case atStart => exact ⟨0, Nat.zero_le _, rfl, rfl, Below.refl _ _⟩
  case round =>
    obtain ⟨k, hk, rfl, ha, hb⟩ := hrel
    have HA := Lib.hid ha
    have HBR := Lib.hid hb
    have HB2 := Lib.hid (HB.out.trans (hb.mono (by omega)))
    have HS1 := Lib.hid (show w.heap.size + 1 ≤ wr.heap.size by have := hb.size; rw [HZ.out] at this; exact this)
    obtain ⟨⟨e0, e1, e2, e3⟩, -, -, -, -⟩ := (H1.out.below hb (by omega)).four
    clear ha hb
    by_cases hlt : k < m
    · obtain ⟨b, o, u, rfl, hbb, hla, htk, hc⟩ := (HI.out.below HB2.out (Nat.le_refl _)).at_ hlt
      have HLA := Lib.hid hla
      have HTK := Lib.hid htk
      have hk0 : (0 : Int) ≤ (k : Int) := by omega
      have hkn : (k : Int) < (m : Int) := by omega
      replace hc : wr.cell? ⟨b, o + k, none⟩ = some (.int .i64 u) := hc
      have hbl : b < wr.heap.size := by have := HB2.out.size; omega
      have CP := x11place_any nm v nx u A n c l wr.drew (HL.out.later HB2.out.drew) hn
      have HB3 := Lib.hid (HB2.out.drew.alloc HB2.out.size (.cells #[.string nm, .int .i64 v, .int .i64 nx, .slice A n c] 24))
      have HBR2 := Lib.hid (HBR.out.drew.alloc HS1.out (.cells #[.string nm, .int .i64 v, .int .i64 nx, .slice A n c] 24))
      clear hla htk
      by_cases hp : placeN l u = 0
      · have HR := Lib.hid (thereU_no (List.mem_of_getElem? HLA.out) hp)
        rw [hp] at CP
        clear hp
        go_wp2_with fail
        go_region_held3 (fun W' => (W'.cell? ⟨w.heap.size, 0, none⟩ = some (.string nm) ∧ W'.cell? ⟨w.heap.size, 1, none⟩ = some (.int .i64 v) ∧ W'.cell? ⟨w.heap.size, 2, none⟩ = some (.int .i64 nx) ∧ W'.cell? ⟨w.heap.size, 3, none⟩ = some (.slice A n c)) ∧ W'.cell? ⟨b, o + k, none⟩ = some (.int .i64 u))
          (go_keep)
          ((go_at_call 27; ((with_reducible refine CP.mono ?_); rintro e w5 ⟨rfl, rfl⟩)))
        go_wp2_with fail
        go_ret
        exact ⟨by rw [HR.out] <;> rfl, HB3.out⟩
      · have HR := Lib.hid (there_next HA.out HTK.out hp)
        have hpb : ((placeN l u : Int) == 0) = false := by simp; omega
        generalize placeN l u = p at *
        clear hp
        go_wp2_with fail
        go_region_held3 (fun W' => (W'.cell? ⟨w.heap.size, 0, none⟩ = some (.string nm) ∧ W'.cell? ⟨w.heap.size, 1, none⟩ = some (.int .i64 v) ∧ W'.cell? ⟨w.heap.size, 2, none⟩ = some (.int .i64 nx) ∧ W'.cell? ⟨w.heap.size, 3, none⟩ = some (.slice A n c)) ∧ W'.cell? ⟨b, o + k, none⟩ = some (.int .i64 u))
          (go_keep)
          ((go_at_call 27; ((with_reducible refine CP.mono ?_); rintro e w5 ⟨rfl, rfl⟩)))
        go_wp2_with fail
        go_roundw
        case rel => exact ⟨k + 1, by omega, by go_num, HR.out, HBR2.out⟩
        case measure => simp [intOf]; omega
    · have hkn : ¬ (k : Int) < (m : Int) := by omega
      have HR := Lib.hid (there_all HA.out HI.out.1 hlt)
      go_wp2_with fail
      go_ret
      exact ⟨by rw [HR.out] <;> rfl, HB2.out⟩
end Go.Proofs.Ythmlgbeonmpbjaa
