/-
  A part of the proof: see the last text.
-/
import Derived.Test.YthflljlilcmcnaaGreatDoorSKvGet
import Derived.Test.YthflljlilcmcnaaGreatDoorSKvEnc
import Derived.Test.YthflljlilcmcnaaGreatDoorSKvRise
namespace Go.Proofs.YthflljlilcmcnaaGreatDoor
set_option linter.unusedVariables false
set_option linter.unusedSimpArgs false
open Go.RowKit
set_option linter.unusedVariables false
set_option linter.unusedSimpArgs false
def begB (s p : ByteArray) : Bool := Lib.hasPrefix s.data.toList p.data.toList
def prefL (l : List Pr) (p : ByteArray) : List Pr := l.filter (fun x => begB x.1 p)
theorem prefL_yes {l : List Pr} {p : ByteArray} {k : Nat} {a : Pr} (h : l.take (k + 1) = l.take k ++ [a]) (hb : begB a.1 p = true) : prefL (l.take (k + 1)) p = prefL (l.take k) p ++ [a] := by
  unfold prefL
  rw [h, List.filter_append, List.filter_cons_of_pos (p := fun x : Pr => begB x.1 p) hb, List.filter_nil]
theorem prefL_no {l : List Pr} {p : ByteArray} {k : Nat} {a : Pr} (h : l.take (k + 1) = l.take k ++ [a]) (hb : begB a.1 p = false) : prefL (l.take (k + 1)) p = prefL (l.take k) p := by
  unfold prefL
  rw [h, List.filter_append, List.filter_cons_of_neg (p := fun x : Pr => begB x.1 p) (by rw [hb]; exact Bool.false_ne_true), List.filter_nil, List.append_nil]
theorem hasP_any (s p : ByteArray) (w : World) : Calls Tryz.prog 27 #[.string s, .string p] w fun e w' => e = .returned (.bool (begB s p)) ∧ w = w' :=
  (Any.strings_HasPrefix kS99 s p w).mono (fun _ _ h => ⟨h.1, h.2.symm⟩)
set_option maxHeartbeats 1000000 in
theorem x6begins_any (s p : ByteArray) (w : World) : Calls Tryz.prog 28 #[.string s, .string p] w fun e w' => e = .returned (.bool (begB s p)) ∧ w = w' := by
  unfold begB
  rw [← Lib.hasPrefix_of_take, ← Lib.size_eq, ← Lib.size_eq]
  by_cases h : p.size ≤ s.size
  · have h1 : decide ((p.size : Int) ≤ (s.size : Int)) = true := decide_eq_true (by omega)
    have h2 : (p.size : Int) ≤ (s.size : Int) := by omega
    go_enter Tryz.func28, Tryz.ntmps28
    go_wp2_with fail
    go_ret
    refine ⟨?_, rfl⟩
    show Ending.returned (Value.bool ((s.extract 0 p.size).toList == p.toList)) = _
    rw [Lib.extract_toList, Lib.toList_data]
    simp [h]
  · have h1 : decide ((p.size : Int) ≤ (s.size : Int)) = false := decide_eq_false (by omega)
    have h2 : ¬ (p.size : Int) ≤ (s.size : Int) := by omega
    go_enter Tryz.func28, Tryz.ntmps28
    go_wp2_with fail
    go_ret
    refine ⟨?_, rfl⟩
    show Ending.returned (Value.bool false) = _
    simp [h]
def PreIs (l : List Pr) (w : World) (e : Ending) (w' : World) : Prop := ∃ A n c, e = .returned (.slice A n c) ∧ OwnK 2 pairC w' w.heap.size 63 A n c l ∧ n = l.length ∧ Below w.heap.size w w'
set_option maxRecDepth 20000 in
set_option maxHeartbeats 4000000 in
theorem kprefix_any (x0 x1 x2 x3 : Value) (A : Option Addr) (n c : Nat) (l : List Pr) (key : ByteArray) (w : World) (h0 : x0.oneCell' = true) (h1 : x1.oneCell' = true) (h2 : x2.oneCell' = true) (h3 : x3.oneCell' = true) (hl : ColK 2 pairC w w.heap.size A n l) (hn : n ≤ 400000) :
    Calls Tryz.prog 12 #[.agg #[x0, x1, x2, x3, .slice A n c], .string key] w (PreIs (prefL l key) w) := by
  have hb0 : Below w.heap.size w (w.alloc (.cells #[x0, x1, x2, x3, .slice A n c] 31)) := (Below.refl _ _).alloc (Nat.le_refl _) _
  have c4 := cell_of_row (w.alloc (.cells #[x0, x1, x2, x3, .slice A n c] 31)) w.heap.size 4 _ _ (0, 0) (heap_alloc_new w _)
  have HL := Lib.hid hl
  have HB0 := Lib.hid hb0
  clear hl hb0
  go_enter Tryz.func12, Tryz.ntmps12
  go_wp2_with fail
  generalize w.alloc (.cells #[x0, x1, x2, x3, .slice A n c] 31) = w1 at *
  go_loopw [5, 11] (fun p i wx => ∃ (k m2 c2 : Nat) (A2 : Option Addr), k ≤ n ∧ i = .int .i64 (k : Int) ∧ p = .slice A2 m2 c2 ∧ m2 ≤ k ∧ OwnK 2 pairC wx w.heap.size 63 A2 m2 c2 (prefL (l.take k) key) ∧ Below w.heap.size w wx) (fun _ i _ => n - (intOf i).toNat)
  case atStart => exact ⟨0, 0, 0, none, Nat.zero_le _, rfl, rfl, Nat.le_refl _, OwnK.nil pairC_len, HB0.out⟩
  case round =>
    obtain ⟨k, m2, c2, A2, hk, rfl, rfl, hm2, hown, hb⟩ := hrel
    have HB := Lib.hid hb
    have HO := Lib.hid hown
    clear hb hown c4
    by_cases hlt : k < n
    · obtain ⟨b, o, a, rfl, hbb, hla, htk, hrow⟩ := (HL.out.below HB.out (Nat.le_refl _)).at_ hlt
      have HTK := Lib.hid htk
      have HROW := Lib.hid hrow
      have hk0 : (0 : Int) ≤ (k : Int) := by omega
      have hkn : (k : Int) < (n : Int) := by omega
      clear hla htk hrow
      go_wp2_with ((with_reducible show wpList _ _ _ (⟨some 14, _, _, _, _, _⟩ :: _) _ _); refine holdK ?_)
      refine heldK (wpList_load_mid rfl 63 (.tmp 13) rfl b (o + k * 2) rfl (pairC a) _ HROW.out Tryz.underlying63 rfl (by kernel_rfl) ?_)
      obtain ⟨ck, cv⟩ := a
      unfold pairC
      have HB2 := Lib.hid (HB.out.alloc HB.out.size (.cells #[.string ck, .string cv] 63))
      have HO2 := Lib.hid (HO.out.alloc (.cells #[.string ck, .string cv] 63))
      have hr9 := heap_alloc_new wr (.cells #[.string ck, .string cv] 63)
      have hcc := fun (i : Nat) => cell_of_row (wr.alloc (.cells #[.string ck, .string cv] 63)) wr.heap.size i _ _ (0, 0) hr9
      have c0 := hcc 0
      have c1 := hcc 1
      have hs9 : w.heap.size ≤ wr.heap.size := HB.out.size
      have HPC := Lib.hid (fun W => hasP_any ck key W)
      clear hcc HO
      cases hbg : begB ck key
      · have HN := Lib.hid (prefL_no HTK.out hbg)
        rw [hbg] at HPC
        clear hr9 hbg
        go_wp2_with fail
        refine (HPC.out _).mono ?_
        rintro e w3 ⟨rfl, rfl⟩
        go_wp2_with fail
        go_roundw
        case rel => exact ⟨k + 1, m2, c2, A2, by omega, by go_num, rfl, by omega, by rw [HN.out]; exact HO2.out, HB2.out⟩
        case measure => simp [intOf]; omega
      · have HN := Lib.hid (prefL_yes HTK.out hbg)
        rw [hbg] at HPC
        clear hbg
        have HR9 : Hid ((wr.alloc (.cells #[.string ck, .string cv] 63)).rangeAt wr.heap.size 0 (pairC (ck, cv))) := Lib.hid (fun j v hv => by
          rw [Nat.zero_add, cell_of_row _ wr.heap.size j _ _ (0, 0) hr9]; unfold pairC at hv; simpa [List.getElem?_toArray] using hv)
        clear hr9
        have hs10 : w.heap.size ≤ (wr.alloc (.cells #[.string ck, .string cv] 63)).heap.size := HB2.out.size
        obtain ⟨b9, hb9⟩ : ∃ q, wr.heap.size = q := ⟨_, rfl⟩
        rw [hb9] at HR9 c0 c1
        go_wp2_with fail
        refine (HPC.out _).mono ?_
        rintro e w3 ⟨rfl, rfl⟩
        try rw [hb9]
        clear hb9
        generalize wr.alloc (.cells #[.string ck, .string cv] 63) = W2 at *
        go_wp2_with ((with_reducible show wpList _ _ _ (⟨some 20, _, _, _, _, _⟩ :: _) _ _); refine holdK ?_)
        refine heldK (wpList_load_mid rfl 63 (.tmp 7) rfl b9 0 rfl (pairC (ck, cv)) _ HR9.out Tryz.underlying63 rfl (by kernel_rfl) ?_)
        unfold pairC
        go_wp2_with ((with_reducible show wpList _ _ _ (⟨some 22, _, _, _, _, _⟩ :: _) _ _); refine holdK ?_)
        refine heldK (wpList_append_k (k := 2) (f := pairC) rfl (.tmp 19) (.tmp 21) 22 rfl Tryz.underlying22 info_pair rfl (by omega) (by omega) w.heap.size A2 m2 c2 _ rfl (HO2.out.alloc _) W2.heap.size 0 (ck, cv) rfl (by
          intro j v hv
          rw [Nat.zero_add, cell_of_row _ W2.heap.size j _ _ (0, 0) (heap_alloc_new W2 _)]
          unfold pairC at hv
          simpa [List.getElem?_toArray] using hv) (pairC_one _) (by omega) (by simp; omega) ?_)
        intro A3 c3 w4 hown4 hb4 _
        have HO4 := Lib.hid hown4
        have HB4 := Lib.hid ((HB2.out.alloc hs10 _).trans hb4)
        clear hown4 hb4
        go_wp2_with fail
        go_roundw
        case rel => exact ⟨k + 1, m2 + 1, c3, A3, by omega, by go_num, rfl, by omega, by rw [HN.out]; exact HO4.out, HB4.out⟩
        case measure => simp [intOf]; omega
    · have hkn : ¬ (k : Int) < (n : Int) := by omega
      have hfull : l.take k = l := List.take_of_length_le (by rw [HL.out.1]; omega)
      rw [hfull] at HO
      clear hfull
      go_wp2_with fail
      go_ret
      exact ⟨A2, m2, c2, rfl, HO.out, HO.out.len.symm, HB.out⟩
set_option maxRecDepth 20000 in
set_option maxHeartbeats 4000000 in
theorem x6prefix_any (x0 x1 x2 x3 : Value) (A : Option Addr) (n c : Nat) (l : List Pr) (key : ByteArray) (w : World) (h0 : x0.oneCell' = true) (h1 : x1.oneCell' = true) (h2 : x2.oneCell' = true) (h3 : x3.oneCell' = true) (hl : ColK 2 pairC w w.heap.size A n l) (hn : n ≤ 400000) :
    Calls Tryz.prog 13 #[.agg #[x0, x1, x2, x3, .slice A n c], .string key] w (PreIs (prefL l key) w) := by
  have hb0 : Below w.heap.size w (w.alloc (.cells #[x0, x1, x2, x3, .slice A n c] 31)) := (Below.refl _ _).alloc (Nat.le_refl _) _
  have hr0 : Hid ((w.alloc (.cells #[x0, x1, x2, x3, .slice A n c] 31)).heap[w.heap.size]? = some (.cells #[x0, x1, x2, x3, .slice A n c] 31 (0, 0))) := Lib.hid (heap_alloc_new w _)
  have c4 : (w.alloc (.cells #[x0, x1, x2, x3, .slice A n c] 31)).cell? ⟨w.heap.size, 4, none⟩ = some (.slice A n c) := cell_of_row _ w.heap.size 4 _ _ (0, 0) hr0.out
  have HL := Lib.hid hl
  have HB0 := Lib.hid hb0
  have HLT0 : Hid (w.heap.size < (w.alloc (.cells #[x0, x1, x2, x3, .slice A n c] 31)).heap.size) := Lib.hid (by simp)
  clear hl hb0 hr0
  go_enter Tryz.func13, Tryz.ntmps13
  go_wp2_with fail
  generalize w.alloc (.cells #[x0, x1, x2, x3, .slice A n c] 31) = w1 at *
  obtain ⟨b8, hb8⟩ : ∃ q, q = w.heap.size := ⟨_, rfl⟩
  rw [← hb8] at c4 HLT0 ⊢
  have hsz8 : w.heap.size ≤ b8 := by omega
  have HC4 := Lib.hid c4
  clear hb8
  go_loopw [5, 6] (fun p i wx => ∃ (k m2 c2 : Nat) (A2 : Option Addr), k ≤ n ∧ i = .int .i64 (k : Int) ∧ p = .slice A2 m2 c2 ∧ m2 ≤ k ∧ OwnK 2 pairC wx w1.heap.size 63 A2 m2 c2 (prefL (l.take k) key) ∧ Below w1.heap.size w1 wx) (fun _ i _ => n - (intOf i).toNat)
  case atStart => exact ⟨0, 0, 0, none, Nat.zero_le _, rfl, rfl, Nat.le_refl _, OwnK.nil pairC_len, Below.refl _ _⟩
  case round =>
    obtain ⟨k, m2, c2, A2, hk, rfl, rfl, hm2, hown, hb⟩ := hrel
    have HB := Lib.hid hb
    have HO := Lib.hid hown
    have HB1 := Lib.hid (HB0.out.trans (hb.mono HB0.out.size))
    clear c4
    have c4 : wr.cell? ⟨b8, 4, none⟩ = some (.slice A n c) := (hb.cell (p := ⟨b8, 4, none⟩) HLT0.out).trans HC4.out
    have hs1 : w1.heap.size ≤ wr.heap.size := hb.size
    clear hb hown
    by_cases hlt : k < n
    · obtain ⟨b, o, a, rfl, hbb, hla, htk, hrow⟩ := (HL.out.below HB1.out (Nat.le_refl _)).at_ hlt
      obtain ⟨ck, cv⟩ := a
      have r0 := hrow 0 _ rfl
      have r1 := hrow 1 _ rfl
      rw [Nat.add_zero] at r0
      have HTK := Lib.hid htk
      have HROW := Lib.hid hrow
      have hk0 : (0 : Int) ≤ (k : Int) := by omega
      have hkn : (k : Int) < (n : Int) := by omega
      have HPC := Lib.hid (fun W => x6begins_any ck key W)
      clear hla htk hrow
      cases hbg : begB ck key
      · have HN := Lib.hid (prefL_no HTK.out hbg)
        rw [hbg] at HPC
        clear hbg
        go_wp2_with fail
        refine (HPC.out _).mono ?_
        rintro e w3 ⟨rfl, rfl⟩
        go_wp2_with fail
        go_roundw
        case rel => exact ⟨k + 1, m2, c2, A2, by omega, by go_num, rfl, by omega, by rw [HN.out]; exact HO.out, HB.out⟩
        case measure => simp [intOf]; omega
      · have HN := Lib.hid (prefL_yes HTK.out hbg)
        rw [hbg] at HPC
        clear hbg
        go_wp2_with fail
        refine (HPC.out _).mono ?_
        rintro e w3 ⟨rfl, rfl⟩
        go_wp2_with ((with_reducible show wpList _ _ _ (⟨some 27, _, _, _, _, _⟩ :: _) _ _); refine holdK ?_)
        refine heldK (wpList_load_mid rfl 63 (.tmp 26) rfl b (o + k * 2) rfl (pairC (ck, cv)) _ HROW.out Tryz.underlying63 rfl (by kernel_rfl) ?_)
        unfold pairC
        go_wp2_with ((with_reducible show wpList _ _ _ (⟨some 29, _, _, _, _, _⟩ :: _) _ _); refine holdK ?_)
        refine heldK (wpList_append_k (k := 2) (f := pairC) rfl (.tmp 22) (.tmp 28) 22 rfl Tryz.underlying22 info_pair rfl (by omega) (by omega) w1.heap.size A2 m2 c2 _ rfl (HO.out.alloc _) wr.heap.size 0 (ck, cv) rfl (by
          intro j v hv
          rw [Nat.zero_add, cell_of_row _ wr.heap.size j _ _ (0, 0) (heap_alloc_new wr _)]
          unfold pairC at hv
          simpa [List.getElem?_toArray] using hv) (pairC_one _) (by omega) (by simp; omega) ?_)
        intro A3 c3 w4 hown4 hb4 _
        have HO4 := Lib.hid hown4
        have HB4 := Lib.hid ((HB.out.alloc hs1 _).trans hb4)
        clear hown4 hb4
        go_wp2_with fail
        go_roundw
        case rel => exact ⟨k + 1, m2 + 1, c3, A3, by omega, by go_num, rfl, by omega, by rw [HN.out]; exact HO4.out, HB4.out⟩
        case measure => simp [intOf]; omega
    · have hkn : ¬ (k : Int) < (n : Int) := by omega
      have hfull : l.take k = l := List.take_of_length_le (by rw [HL.out.1]; omega)
      rw [hfull] at HO
      clear hfull
      go_wp2_with fail
      go_ret
      exact ⟨A2, m2, c2, rfl, HO.out.from_ HB0.out.size, HO.out.len.symm, HB1.out⟩
end Go.Proofs.YthflljlilcmcnaaGreatDoor
