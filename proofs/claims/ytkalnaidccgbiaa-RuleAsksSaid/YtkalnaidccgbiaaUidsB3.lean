/-
  Contracts over package uids and the document's own: what is in a set; numbers picked.
-/
import Derived.Test.YtkalnaidccgbiaaUidsB2
import Derived.Laws.EntriesVeiled
namespace Go.Proofs.Ytkalnaidccgbiaa
open Go.RowKit
set_option linter.unusedVariables false
set_option linter.unusedSimpArgs false

theorem any_stop {l : List Rg} {p : Rg → Bool} {k : Nat} {r : Rg} (hr : l[k]? = some r) (h : p r = true) : l.any p = true := List.any_eq_true.2 ⟨r, List.mem_of_getElem? hr, h⟩
/-- the boxes of a set that is asked: the set, the last number, what an end means -/
def IsIn (w : World) (bs bl bm : Nat) (A : Option Addr) (m c : Nat) (last : Int) : Prop :=
  w.cell? ⟨bs, 0, none⟩ = some (.slice A m c) ∧ w.cell? ⟨bl, 0, none⟩ = some (.int .i64 last) ∧ w.cell? ⟨bm, 0, none⟩ = some (.func (.func 45) #[] #[.pointer (some ⟨bl, 0, none⟩)])
theorem IsIn.below {w w' : World} {bs bl bm m c : Nat} {A : Option Addr} {last : Int} (h : IsIn w bs bl bm A m c last) (hb : Below w.heap.size w w') : IsIn w' bs bl bm A m c last :=
  ⟨(hb.cell (p := ⟨bs, 0, none⟩) (World.block_lt_of_cell? _ _ h.1)).trans h.1, (hb.cell (p := ⟨bl, 0, none⟩) (World.block_lt_of_cell? _ _ h.2.1)).trans h.2.1, (hb.cell (p := ⟨bm, 0, none⟩) (World.block_lt_of_cell? _ _ h.2.2)).trans h.2.2⟩

set_option maxRecDepth 20000 in
set_option maxHeartbeats 2000000 in
theorem uindex_any (A : Option Addr) (m c bm bn bl : Nat) (last n : Int) (l : List Rg) (w : World) (hl : ColK 2 rgC w w.heap.size A m l) (hm : m ≤ 1000000) (hm1 : w.cell? ⟨bm, 0, none⟩ = some (.func (.func 45) #[] #[.pointer (some ⟨bl, 0, none⟩)])) (hn1 : w.cell? ⟨bn, 0, none⟩ = some (.int .i64 n)) (hl1 : w.cell? ⟨bl, 0, none⟩ = some (.int .i64 last)) :
    Calls Try.prog 50 #[.slice A m c, .func (.func 48) #[] #[.pointer (some ⟨bm, 0, none⟩), .pointer (some ⟨bn, 0, none⟩)]] w fun e w' => ∃ z : Int, e = .returned (.int .i64 z) ∧ (decide (0 ≤ z) = l.any (inR last n)) ∧ Below w.heap.size w w' := by
  have HL := Lib.hid hl
  have HM1 := Lib.hid hm1
  have HN1 := Lib.hid hn1
  have HL1 := Lib.hid hl1
  have HLM := Lib.hid (World.block_lt_of_cell? _ _ hm1)
  have HLN := Lib.hid (World.block_lt_of_cell? _ _ hn1)
  have HLL := Lib.hid (World.block_lt_of_cell? _ _ hl1)
  clear hl hm1 hn1 hl1
  go_enter Try.func50, Try.ntmps50
  go_wp2_with fail
  go_loopw [8] (fun i wx => ∃ k : Nat, k ≤ m ∧ i = .int .i64 (k : Int) ∧ (l.take k).any (inR last n) = false ∧ Below w.heap.size w wx) (fun i _ => m - (intOf i).toNat)
  case atStart => exact ⟨0, Nat.zero_le _, rfl, rfl, Below.refl _ _⟩
  case round =>
    obtain ⟨k, hk, rfl, ha, hb⟩ := hrel
    have HB := Lib.hid hb
    have HA := Lib.hid ha
    clear ha hb
    by_cases hlt : k < m
    · obtain ⟨b, o, a, rfl, hbb, hla, htk, hrow⟩ := (HL.out.below HB.out (Nat.le_refl _)).at_ hlt
      have HLA := Lib.hid hla
      have HTK := Lib.hid htk
      have HROW := Lib.hid hrow
      have hk0 : (0 : Int) ≤ (k : Int) := by omega
      have hkn : (k : Int) < (m : Int) := by omega
      obtain ⟨x, y⟩ := a
      have ci := uinR_any bm bn bl last n x y wr ((HB.out.cell (p := ⟨bm, 0, none⟩) HLM.out).trans HM1.out) ((HB.out.cell (p := ⟨bn, 0, none⟩) HLN.out).trans HN1.out) ((HB.out.cell (p := ⟨bl, 0, none⟩) HLL.out).trans HL1.out)
      have CI := Lib.hid ci
      clear hla htk hrow ci
      go_wp2_with ((with_reducible show wpList _ _ _ (⟨some 15, _, _, _, _, _⟩ :: _) _ _); refine hold ?_)
      refine held (wpList_load_mid rfl 48 (.tmp 14) rfl b (o + k * 2) rfl (rgC (x, y)) _ HROW.out Try.underlying48 rfl (by kernel_rfl) ?_)
      unfold rgC
      go_wp2_with fail
      refine CI.out.mono ?_
      rintro e w' ⟨rfl, hb2⟩
      have HB2 := Lib.hid (HB.out.trans (hb2.mono HB.out.size))
      clear hb2
      cases hok : inR last n (x, y)
      · have HS := Lib.hid (any_next HA.out HTK.out hok)
        clear hok
        go_wp2_with fail
        go_roundw
        case rel => exact ⟨k + 1, by omega, by go_num, HS.out, HB2.out⟩
        case measure => simp [intOf]; omega
      · have HS := Lib.hid (any_stop HLA.out hok)
        clear hok
        go_wp2_with fail
        go_ret
        exact ⟨(k : Int), rfl, by rw [HS.out, decide_eq_true hk0], HB2.out⟩
    · have hkn : ¬ (k : Int) < (m : Int) := by omega
      have HS : Hid (l.any (inR last n) = false) := Lib.hid (by have := HA.out; rwa [List.take_of_length_le (by rw [HL.out.1]; omega)] at this)
      go_wp2_with fail
      go_ret
      exact ⟨-1, rfl, by rw [HS.out]; rfl, HB.out⟩

set_option maxHeartbeats 1000000 in
theorem ucontains_any (A : Option Addr) (m c bm bn bl : Nat) (last n : Int) (l : List Rg) (w : World) (hl : ColK 2 rgC w w.heap.size A m l) (hm : m ≤ 1000000) (hm1 : w.cell? ⟨bm, 0, none⟩ = some (.func (.func 45) #[] #[.pointer (some ⟨bl, 0, none⟩)])) (hn1 : w.cell? ⟨bn, 0, none⟩ = some (.int .i64 n)) (hl1 : w.cell? ⟨bl, 0, none⟩ = some (.int .i64 last)) :
    Calls Try.prog 47 #[.slice A m c, .func (.func 48) #[] #[.pointer (some ⟨bm, 0, none⟩), .pointer (some ⟨bn, 0, none⟩)]] w fun e w' => e = .returned (.bool (l.any (inR last n))) ∧ Below w.heap.size w w' := by
  have CI := Lib.hid (uindex_any A m c bm bn bl last n l w hl hm hm1 hn1 hl1)
  clear hl hm1 hn1 hl1
  go_enter Try.func47, Try.ntmps47
  go_wp2_with fail
  refine CI.out.mono ?_
  rintro e w' ⟨z, rfl, hz, hb⟩
  have HZ := Lib.hid hz
  have HB := Lib.hid hb
  clear hz hb CI
  by_cases h0 : 0 ≤ z
  · have HR : Hid (l.any (inR last n) = true) := Lib.hid (by rw [← HZ.out]; exact decide_eq_true h0)
    go_wp2_with fail
    go_ret
    exact ⟨by rw [HR.out] <;> rfl, HB.out⟩
  · have HR : Hid (l.any (inR last n) = false) := Lib.hid (by rw [← HZ.out]; exact decide_eq_false h0)
    go_wp2_with fail
    go_ret
    exact ⟨ret_bool (by rw [HR.out] <;> first | rfl | exact decide_eq_false (by omega)), HB.out⟩

set_option maxRecDepth 20000 in
set_option maxHeartbeats 2000000 in
theorem uisIn_any (A : Option Addr) (m c bs bl bm : Nat) (last n : Int) (l : List Rg) (w : World) (hl : ColK 2 rgC w w.heap.size A m l) (hm : m ≤ 1000000) (hI : IsIn w bs bl bm A m c last) :
    Calls Try.prog 46 #[.int .i64 n, .pointer (some ⟨bs, 0, none⟩), .pointer (some ⟨bm, 0, none⟩)] w fun e w' => e = .returned (.bool (hasZ l n last)) ∧ Below w.heap.size w w' := by
  have hb : Below w.heap.size w (w.alloc (.cells #[.int .i64 n] 3)) := (Below.refl _ _).alloc (Nat.le_refl _) _
  obtain ⟨hs1, hl1, hm1⟩ := hI.below hb
  have hn1 : (w.alloc (.cells #[.int .i64 n] 3)).cell? ⟨w.heap.size, 0, none⟩ = some (.int .i64 n) := (cell_of_row (w.alloc (.cells #[.int .i64 n] 3)) w.heap.size 0 _ _ (0, 0) (heap_alloc_new w _)).trans rfl
  have hl2 : ColK 2 rgC (w.alloc (.cells #[.int .i64 n] 3)) (w.alloc (.cells #[.int .i64 n] 3)).heap.size A m l := hl.later hb
  by_cases h1 : 1 ≤ n
  · have h1' : 0 < n := by omega
    have HR : Hid (hasZ l n last = l.any (inR last n)) := Lib.hid (by unfold hasZ; rw [decide_eq_true h1]; rfl)
    have CC := Lib.hid (ucontains_any A m c bm w.heap.size bl last n l _ hl2 hm hm1 hn1 hl1)
    have HB := Lib.hid hb
    clear hl hl2 hm1 hl1 hn1 hb
    go_enter Try.func46, Try.ntmps46
    go_wp2_with fail
    refine CC.out.mono ?_
    rintro e w' ⟨rfl, hb2⟩
    have HB2 := Lib.hid (HB.out.trans (hb2.mono HB.out.size))
    clear hb2 CC hs1
    go_wp2_with fail
    go_ret
    exact ⟨by rw [HR.out] <;> rfl, HB2.out⟩
  · have h1' : ¬ 0 < n := by omega
    have HR : Hid (hasZ l n last = false) := Lib.hid (has_low h1)
    have HB := Lib.hid hb
    clear hl hl2 hm1 hl1 hb
    go_enter Try.func46, Try.ntmps46
    go_wp2_with fail
    go_ret
    exact ⟨by rw [HR.out] <;> rfl, HB.out⟩

theorem umembers_any (A : Option Addr) (m c : Nat) (last : Int) (w : World) :
    Calls Try.prog 42 #[.slice A m c, .int .i64 last] w fun e w' => ∃ bs bl bm, e = .returned (.func (.func 46) #[] #[.pointer (some ⟨bs, 0, none⟩), .pointer (some ⟨bm, 0, none⟩)]) ∧ IsIn w' bs bl bm A m c last ∧ Below w.heap.size w w' := by
  go_enter Try.func42, Try.ntmps42
  go_wp2

  go_ret
  refine ⟨w.heap.size, w.heap.size + 1, w.heap.size + 2, rfl, ⟨?_, ?_, ?_⟩, (((Below.refl _ _).alloc (Nat.le_refl _) _).alloc (by simp) _).alloc (by simp; omega) _⟩
  · rw [cell_of_row _ w.heap.size 0 _ _ (0, 0) ((Below.heap_alloc _ _ _ (by simp; omega)).trans ((Below.heap_alloc _ _ _ (by simp)).trans (heap_alloc_new w _)))]; rfl
  · have := heap_alloc_new (w.alloc (.cells #[.slice A m c] 49)) (.cells #[.int .i64 last] 3)
    rw [World.size_alloc] at this
    rw [cell_of_row _ (w.heap.size + 1) 0 _ _ (0, 0) ((Below.heap_alloc _ _ _ (by simp)).trans this)]; rfl
  · have := heap_alloc_new ((w.alloc (.cells #[.slice A m c] 49)).alloc (.cells #[.int .i64 last] 3)) (.cells #[.func (.func 45) #[] #[.pointer (some ⟨w.heap.size + 1, 0, none⟩)]] 75)
    rw [World.size_alloc, World.size_alloc] at this
    rw [cell_of_row _ (w.heap.size + 2) 0 _ _ (0, 0) this]; rfl

set_option maxRecDepth 20000 in
set_option maxHeartbeats 2000000 in
theorem uHas_any (A : Option Addr) (m c : Nat) (last n : Int) (l : List Rg) (w : World) (hl : ColK 2 rgC w w.heap.size A m l) (hm : m ≤ 1000000) :
    Calls Try.prog 37 #[.slice A m c, .int .i64 n, .int .i64 last] w fun e w' => e = .returned (.bool (hasZ l n last)) ∧ Below w.heap.size w w' := by
  have HL := Lib.hid hl
  clear hl
  go_enter Try.func37, Try.ntmps37
  go_wp2_with fail
  refine (umembers_any A m c last w).mono ?_
  rintro e w1 ⟨bs, bl, bm, rfl, hI, hb⟩
  have HI := Lib.hid hI
  have HB := Lib.hid hb
  clear hI hb
  go_wp2_with fail
  refine (uisIn_any A m c bs bl bm last n l w1 (HL.out.later HB.out) hm HI.out).mono ?_
  rintro e w2 ⟨rfl, hb2⟩
  have HB2 := Lib.hid (HB.out.trans (hb2.mono HB.out.size))
  clear hb2
  go_wp2_with fail
  go_ret
  exact ⟨rfl, HB2.out⟩

theorem info_int : (Try.prog.info? 3).map (fun i => (i.zero, i.size, i.bytes)) = some (some (.int .i64 0), 1, 8) := by kernel_rfl
theorem OwnV.colI {w : World} {base n c : Nat} {e : TypeId} {A : Option Addr} {l : List Int} (h : OwnV w base e A n c (l.map ints)) : Col ints w w.heap.size A n l := by
  refine ⟨by have := h.len; simpa using this, fun hn => ?_⟩
  obtain ⟨g, rfl, _, hg, hc⟩ := h.cells hn
  exact ⟨g, 0, rfl, hg, fun i a ha => by rw [Nat.zero_add]; exact hc i _ (by rw [List.getElem?_map, ha]; rfl)⟩
theorem Col.keepW {w w' : World} {B n : Nat} {A : Option Addr} {l : List Int} (h : Col ints w B A n l) (hk : ∀ p : Addr, p.block < B → w'.cell? p = w.cell? p) : Col ints w' B A n l := by
  refine ⟨h.1, fun hn => ?_⟩
  obtain ⟨b, o, e, hb, hc⟩ := h.2 hn
  exact ⟨b, o, e, hb, fun i a ha => (hk _ hb).trans (hc i a ha)⟩
/-- a slice of numbers is handed back -/
def GiveI (w : World) (l : List Int) (e : Ending) (w' : World) : Prop := ∃ A n c, e = .returned (.slice A n c) ∧ Col ints w' w'.heap.size A n l ∧ Below w.heap.size w w'
theorem last_of {l : List Int} {j : Nat} {x : Int} (hj : l.length = j + 1) (h : l[j]? = some x) : l.getLastD 0 = x := by
  obtain ⟨a, b, rfl⟩ : ∃ a b, l = a ++ [b] := ⟨l.dropLast, l.getLast (by intro e; rw [e] at hj; cases hj), (List.dropLast_concat_getLast _).symm⟩
  have hl : a.length = j := by simp at hj; exact hj
  rw [List.getElem?_append_right (by omega), hl, Nat.sub_self] at h
  simp at h
  simp [h]

end Go.Proofs.Ytkalnaidccgbiaa
