/-
  Contracts over package uids and the document's own: what is in a set; numbers picked.
-/
import Derived.Test.YtiophifilikajaaDoorQUidsB2
import Derived.Laws.EntriesVeiled
import Derived.Test.YtiophifilikajaaDoorQUidsB
namespace Go.Proofs.YtiophifilikajaaDoor
set_option linter.unusedVariables false
set_option linter.unusedSimpArgs false
open Go.RowKit
set_option linter.unusedVariables false
set_option linter.unusedSimpArgs false

theorem any_stop {l : List Rg} {p : Rg → Bool} {k : Nat} {r : Rg} (hr : l[k]? = some r) (h : p r = true) : l.any p = true := List.any_eq_true.2 ⟨r, List.mem_of_getElem? hr, h⟩
/-- the boxes of a set that is asked: the set, the last number, what an end means -/
def IsIn (w : World) (bs bl bm : Nat) (A : Option Addr) (m c : Nat) (last : Int) : Prop :=
  w.cell? ⟨bs, 0, none⟩ = some (.slice A m c) ∧ w.cell? ⟨bl, 0, none⟩ = some (.int .i64 last) ∧ w.cell? ⟨bm, 0, none⟩ = some (.func (.func 41) #[] #[.pointer (some ⟨bl, 0, none⟩)])
theorem IsIn.below {w w' : World} {bs bl bm m c : Nat} {A : Option Addr} {last : Int} (h : IsIn w bs bl bm A m c last) (hb : Below w.heap.size w w') : IsIn w' bs bl bm A m c last :=
  ⟨(hb.cell (p := ⟨bs, 0, none⟩) (World.block_lt_of_cell? _ _ h.1)).trans h.1, (hb.cell (p := ⟨bl, 0, none⟩) (World.block_lt_of_cell? _ _ h.2.1)).trans h.2.1, (hb.cell (p := ⟨bm, 0, none⟩) (World.block_lt_of_cell? _ _ h.2.2)).trans h.2.2⟩

set_option maxRecDepth 20000 in
set_option maxHeartbeats 2000000 in
theorem uindex_any (A : Option Addr) (m c bm bn bl : Nat) (last n : Int) (l : List Rg) (w : World) (hl : ColK 2 rgC w w.heap.size A m l) (hm : m ≤ 1000000) (hm1 : w.cell? ⟨bm, 0, none⟩ = some (.func (.func 41) #[] #[.pointer (some ⟨bl, 0, none⟩)])) (hn1 : w.cell? ⟨bn, 0, none⟩ = some (.int .i64 n)) (hl1 : w.cell? ⟨bl, 0, none⟩ = some (.int .i64 last)) :
    Calls Tryd.prog 53 #[.slice A m c, .func (.func 44) #[] #[.pointer (some ⟨bm, 0, none⟩), .pointer (some ⟨bn, 0, none⟩)]] w fun e w' => ∃ z : Int, e = .returned (.int .i64 z) ∧ (decide (0 ≤ z) = l.any (inR last n)) ∧ Below w.heap.size w w' := by
  have HL := Lib.hid hl
  have HM1 := Lib.hid hm1
  have HN1 := Lib.hid hn1
  have HL1 := Lib.hid hl1
  have HLM := Lib.hid (World.block_lt_of_cell? _ _ hm1)
  have HLN := Lib.hid (World.block_lt_of_cell? _ _ hn1)
  have HLL := Lib.hid (World.block_lt_of_cell? _ _ hl1)
  clear hl hm1 hn1 hl1
  go_enter Tryd.func53, Tryd.ntmps53
  go_wp2_with fail
  go_loopw [8] (fun i wx => ∃ k : Nat, k ≤ m ∧ i = .int .i64 (k : Int) ∧ (l.take k).any (inR last n) = false ∧ Below w.heap.size w wx) (fun i _ => m - (intOf i).toNat)
  case atStart => exact ⟨0, Nat.zero_le _, rfl, rfl, Below.refl _ _⟩
  case round =>
    obtain ⟨k, hk, rfl, ha, hb⟩ := hrel
    have HB := Lib.hid hb
    have HA := Lib.hid ha
    clear ha hb
    by_cases hlt : k < m
    · obtain ⟨b, o, a, rfl, hbb, hla, htk, hrow⟩ := (HL.out.below HB.out (Nat.le_refl _)).at_ hlt
      have HLA := Lib.hid hla
      have HTK := Lib.hid htk
      have HROW := Lib.hid hrow
      have hk0 : (0 : Int) ≤ (k : Int) := by omega
      have hkn : (k : Int) < (m : Int) := by omega
      obtain ⟨x, y⟩ := a
      have ci := uinR_any bm bn bl last n x y wr ((HB.out.cell (p := ⟨bm, 0, none⟩) HLM.out).trans HM1.out) ((HB.out.cell (p := ⟨bn, 0, none⟩) HLN.out).trans HN1.out) ((HB.out.cell (p := ⟨bl, 0, none⟩) HLL.out).trans HL1.out)
      have CI := Lib.hid ci
      clear hla htk hrow ci
      go_wp2_with ((with_reducible show wpList _ _ _ (⟨some 15, _, _, _, _, _⟩ :: _) _ _); refine hold ?_)
      refine held (wpList_load_mid rfl 43 (.tmp 14) rfl b (o + k * 2) rfl (rgC (x, y)) _ HROW.out Tryd.underlying43 rfl (by kernel_rfl) ?_)
      unfold rgC
      go_wp2_with fail
      refine CI.out.mono ?_
      rintro e w' ⟨rfl, hb2⟩
      have HB2 := Lib.hid (HB.out.trans (hb2.mono HB.out.size))
      clear hb2
      cases hok : inR last n (x, y)
      · have HS := Lib.hid (any_next HA.out HTK.out hok)
        clear hok
        go_wp2_with fail
        go_roundw
        case rel => exact ⟨k + 1, by omega, by go_num, HS.out, HB2.out⟩
        case measure => simp [intOf]; omega
      · have HS := Lib.hid (any_stop HLA.out hok)
        clear hok
        go_wp2_with fail
        go_ret
        exact ⟨(k : Int), rfl, by rw [HS.out, decide_eq_true hk0], HB2.out⟩
    · have hkn : ¬ (k : Int) < (m : Int) := by omega
      have HS : Hid (l.any (inR last n) = false) := Lib.hid (by have := HA.out; rwa [List.take_of_length_le (by rw [HL.out.1]; omega)] at this)
      go_wp2_with fail
      go_ret
      exact ⟨-1, rfl, by rw [HS.out]; rfl, HB.out⟩

set_option maxHeartbeats 1000000 in
theorem ucontains_any (A : Option Addr) (m c bm bn bl : Nat) (last n : Int) (l : List Rg) (w : World) (hl : ColK 2 rgC w w.heap.size A m l) (hm : m ≤ 1000000) (hm1 : w.cell? ⟨bm, 0, none⟩ = some (.func (.func 41) #[] #[.pointer (some ⟨bl, 0, none⟩)])) (hn1 : w.cell? ⟨bn, 0, none⟩ = some (.int .i64 n)) (hl1 : w.cell? ⟨bl, 0, none⟩ = some (.int .i64 last)) :
    Calls Tryd.prog 43 #[.slice A m c, .func (.func 44) #[] #[.pointer (some ⟨bm, 0, none⟩), .pointer (some ⟨bn, 0, none⟩)]] w fun e w' => e = .returned (.bool (l.any (inR last n))) ∧ Below w.heap.size w w' := by
  have CI := Lib.hid (uindex_any A m c bm bn bl last n l w hl hm hm1 hn1 hl1)
  clear hl hm1 hn1 hl1
  go_enter Tryd.func43, Tryd.ntmps43
  go_wp2_with fail
  refine CI.out.mono ?_
  rintro e w' ⟨z, rfl, hz, hb⟩
  have HZ := Lib.hid hz
  have HB := Lib.hid hb
  clear hz hb CI
  by_cases h0 : 0 ≤ z
  · have HR : Hid (l.any (inR last n) = true) := Lib.hid (by rw [← HZ.out]; exact decide_eq_true h0)
    go_wp2_with fail
    go_ret
    exact ⟨by rw [HR.out] <;> rfl, HB.out⟩
  · have HR : Hid (l.any (inR last n) = false) := Lib.hid (by rw [← HZ.out]; exact decide_eq_false h0)
    go_wp2_with fail
    go_ret
    exact ⟨ret_bool (by rw [HR.out] <;> first | rfl | exact decide_eq_false (by omega)), HB.out⟩

set_option maxRecDepth 20000 in
set_option maxHeartbeats 2000000 in
theorem uisIn_any (A : Option Addr) (m c bs bl bm : Nat) (last n : Int) (l : List Rg) (w : World) (hl : ColK 2 rgC w w.heap.size A m l) (hm : m ≤ 1000000) (hI : IsIn w bs bl bm A m c last) :
    Calls Tryd.prog 42 #[.int .i64 n, .pointer (some ⟨bs, 0, none⟩), .pointer (some ⟨bm, 0, none⟩)] w fun e w' => e = .returned (.bool (hasZ l n last)) ∧ Below w.heap.size w w' := by
  have hb : Below w.heap.size w (w.alloc (.cells #[.int .i64 n] 3)) := (Below.refl _ _).alloc (Nat.le_refl _) _
  obtain ⟨hs1, hl1, hm1⟩ := hI.below hb
  have hn1 : (w.alloc (.cells #[.int .i64 n] 3)).cell? ⟨w.heap.size, 0, none⟩ = some (.int .i64 n) := (cell_of_row (w.alloc (.cells #[.int .i64 n] 3)) w.heap.size 0 _ _ (0, 0) (heap_alloc_new w _)).trans rfl
  have hl2 : ColK 2 rgC (w.alloc (.cells #[.int .i64 n] 3)) (w.alloc (.cells #[.int .i64 n] 3)).heap.size A m l := hl.later hb
  by_cases h1 : 1 ≤ n
  · have h1' : 0 < n := by omega
    have HR : Hid (hasZ l n last = l.any (inR last n)) := Lib.hid (by unfold hasZ; rw [decide_eq_true h1]; rfl)
    have CC := Lib.hid (ucontains_any A m c bm w.heap.size bl last n l _ hl2 hm hm1 hn1 hl1)
    have HB := Lib.hid hb
    clear hl hl2 hm1 hl1 hn1 hb
    go_enter Tryd.func42, Tryd.ntmps42
    go_wp2_with fail
    refine CC.out.mono ?_
    rintro e w' ⟨rfl, hb2⟩
    have HB2 := Lib.hid (HB.out.trans (hb2.mono HB.out.size))
    clear hb2 CC hs1
    go_wp2_with fail
    go_ret
    exact ⟨by rw [HR.out] <;> rfl, HB2.out⟩
  · have h1' : ¬ 0 < n := by omega
    have HR : Hid (hasZ l n last = false) := Lib.hid (has_low h1)
    have HB := Lib.hid hb
    clear hl hl2 hm1 hl1 hb
    go_enter Tryd.func42, Tryd.ntmps42
    go_wp2_with fail
    go_ret
    exact ⟨by rw [HR.out] <;> rfl, HB.out⟩

theorem umembers_any (A : Option Addr) (m c : Nat) (last : Int) (w : World) :
    Calls Tryd.prog 32 #[.slice A m c, .int .i64 last] w fun e w' => ∃ bs bl bm, e = .returned (.func (.func 42) #[] #[.pointer (some ⟨bs, 0, none⟩), .pointer (some ⟨bm, 0, none⟩)]) ∧ IsIn w' bs bl bm A m c last ∧ Below w.heap.size w w' := by
  go_enter Tryd.func32, Tryd.ntmps32
  go_wp2

  go_ret
  refine ⟨w.heap.size, w.heap.size + 1, w.heap.size + 2, rfl, ⟨?_, ?_, ?_⟩, (((Below.refl _ _).alloc (Nat.le_refl _) _).alloc (by simp) _).alloc (by simp; omega) _⟩
  · rw [cell_of_row _ w.heap.size 0 _ _ (0, 0) ((Below.heap_alloc _ _ _ (by simp; omega)).trans ((Below.heap_alloc _ _ _ (by simp)).trans (heap_alloc_new w _)))]; rfl
  · have := heap_alloc_new (w.alloc (.cells #[.slice A m c] 22)) (.cells #[.int .i64 last] 3)
    rw [World.size_alloc] at this
    rw [cell_of_row _ (w.heap.size + 1) 0 _ _ (0, 0) ((Below.heap_alloc _ _ _ (by simp)).trans this)]; rfl
  · have := heap_alloc_new ((w.alloc (.cells #[.slice A m c] 22)).alloc (.cells #[.int .i64 last] 3)) (.cells #[.func (.func 41) #[] #[.pointer (some ⟨w.heap.size + 1, 0, none⟩)]] 71)
    rw [World.size_alloc, World.size_alloc] at this
    rw [cell_of_row _ (w.heap.size + 2) 0 _ _ (0, 0) this]; rfl

set_option maxRecDepth 20000 in
set_option maxHeartbeats 2000000 in
theorem uHas_any (A : Option Addr) (m c : Nat) (last n : Int) (l : List Rg) (w : World) (hl : ColK 2 rgC w w.heap.size A m l) (hm : m ≤ 1000000) :
    Calls Tryd.prog 16 #[.slice A m c, .int .i64 n, .int .i64 last] w fun e w' => e = .returned (.bool (hasZ l n last)) ∧ Below w.heap.size w w' := by
  have HL := Lib.hid hl
  clear hl
  go_enter Tryd.func16, Tryd.ntmps16
  go_wp2_with fail
  refine (umembers_any A m c last w).mono ?_
  rintro e w1 ⟨bs, bl, bm, rfl, hI, hb⟩
  have HI := Lib.hid hI
  have HB := Lib.hid hb
  clear hI hb
  go_wp2_with fail
  refine (uisIn_any A m c bs bl bm last n l w1 (HL.out.later HB.out) hm HI.out).mono ?_
  rintro e w2 ⟨rfl, hb2⟩
  have HB2 := Lib.hid (HB.out.trans (hb2.mono HB.out.size))
  clear hb2
  go_wp2_with fail
  go_ret
  exact ⟨rfl, HB2.out⟩

theorem info_int : (Tryd.prog.info? 3).map (fun i => (i.zero, i.size, i.bytes)) = some (some (.int .i64 0), 1, 8) := by kernel_rfl
theorem OwnV.colI {w : World} {base n c : Nat} {e : TypeId} {A : Option Addr} {l : List Int} (h : OwnV w base e A n c (l.map ints)) : Col ints w w.heap.size A n l := by
  refine ⟨by have := h.len; simpa using this, fun hn => ?_⟩
  obtain ⟨g, rfl, _, hg, hc⟩ := h.cells hn
  exact ⟨g, 0, rfl, hg, fun i a ha => by rw [Nat.zero_add]; exact hc i _ (by rw [List.getElem?_map, ha]; rfl)⟩
theorem Col.keepW {w w' : World} {B n : Nat} {A : Option Addr} {l : List Int} (h : Col ints w B A n l) (hk : ∀ p : Addr, p.block < B → w'.cell? p = w.cell? p) : Col ints w' B A n l := by
  refine ⟨h.1, fun hn => ?_⟩
  obtain ⟨b, o, e, hb, hc⟩ := h.2 hn
  exact ⟨b, o, e, hb, fun i a ha => (hk _ hb).trans (hc i a ha)⟩
/-- a slice of numbers is handed back -/
def GiveI (w : World) (l : List Int) (e : Ending) (w' : World) : Prop := ∃ A n c, e = .returned (.slice A n c) ∧ Col ints w' w'.heap.size A n l ∧ Below w.heap.size w w'
theorem last_of {l : List Int} {j : Nat} {x : Int} (hj : l.length = j + 1) (h : l[j]? = some x) : l.getLastD 0 = x := by
  obtain ⟨a, b, rfl⟩ : ∃ a b, l = a ++ [b] := ⟨l.dropLast, l.getLast (by intro e; rw [e] at hj; cases hj), (List.dropLast_concat_getLast _).symm⟩
  have hl : a.length = j := by simp at hj; exact hj
  rw [List.getElem?_append_right (by omega), hl, Nat.sub_self] at h
  simp at h
  simp [h]

set_option maxRecDepth 20000 in
set_option maxHeartbeats 4000000 in
theorem uPick_any (A B : Option Addr) (m c k d : Nat) (l : List Rg) (nums : List Int) (w : World) (hl : ColK 2 rgC w w.heap.size A m l) (hm : m ≤ 1000000) (hN : Col ints w w.heap.size B k nums) (hk : k ≤ 1000000) :
    Calls Tryd.prog 20 #[.slice A m c, .slice B k d] w (GiveI w (pickZ l nums)) := by
  have HL := Lib.hid hl
  have HN := Lib.hid hN
  clear hl
  by_cases hk0 : k = 0
  · subst hk0
    have HE : Hid (pickZ l nums = []) := Lib.hid (by rw [List.eq_nil_of_length_eq_zero hN.1]; rfl)
    clear hN
    go_enter Tryd.func20, Tryd.ntmps20
    go_wp2_with fail
    go_ret
    exact ⟨none, 0, 0, rfl, by rw [HE.out]; exact ⟨rfl, fun h => absurd h (by omega)⟩, Below.refl _ _⟩
  · obtain ⟨j, rfl⟩ : ∃ j, k = j + 1 := ⟨k - 1, by omega⟩
    obtain ⟨b, o, x, rfl, hbb, hx, _, hc⟩ := hN.at_ (show j < j + 1 by omega)
    have HLAST : Hid (nums.getLastD 0 = x) := Lib.hid (last_of hN.1 hx)
    have hj0 : (0 : Int) ≤ (j : Int) := by omega
    have hjk : (j : Int) < (j : Int) + 1 := by omega
    have hwj : IntKind.i64.wrap (j : Int) = (j : Int) := IntWalk.i64_in _ (by omega)
    unfold ints at hc
    clear hN hx hk0
    go_enter Tryd.func20, Tryd.ntmps20
    go_wp2_with fail
    refine (umembers_any A m c x w).mono ?_
    rintro e w1 ⟨bs, bl, bm, rfl, hI, hb⟩
    have HI := Lib.hid hI
    have HB := Lib.hid hb
    clear hI hb hc
    go_wp2_with fail
    go_loopw [6, 23] (fun p i wx => ∃ (q n2 c2 : Nat) (A2 : Option Addr), q ≤ j + 1 ∧ i = .int .i64 (q : Int) ∧ p = .slice A2 n2 c2 ∧ n2 ≤ q ∧ OwnV wx w1.heap.size 3 A2 n2 c2 ((pickU l x (nums.take q)).map ints) ∧ Below w1.heap.size w1 wx) (fun _ i _ => j + 1 - (intOf i).toNat)
    case atStart =>
      refine ⟨0, _, _, _, Nat.zero_le _, rfl, rfl, Nat.le_refl _, ?_, (Below.refl _ _).alloc (Nat.le_refl _) _⟩
      exact ⟨rfl, .inr ⟨w1.heap.size, 0, _, rfl, Nat.le_refl _, heap_alloc_new w1 _, Nat.le_refl _, by unfold maxLen; omega, rfl, rfl⟩⟩
    case round =>
      obtain ⟨q, n2, c2, A2, hq, rfl, rfl, hn2, hown, hb1⟩ := hrel
      have HO := Lib.hid hown
      have HB1 := Lib.hid hb1
      have HBW := Lib.hid (HB.out.trans (hb1.mono HB.out.size))
      clear hown hb1
      by_cases hlt : q < j + 1
      · obtain ⟨b', o', z, e, hbb', hz, htk, hcz⟩ := (HN.out.below HBW.out (Nat.le_refl _)).at_ hlt
        injection e with e
        injection e with e1 e2
        subst e1 e2
        unfold ints at hcz
        have hq0 : (0 : Int) ≤ (q : Int) := by omega
        have hqk : (q : Int) < (j : Int) + 1 := by omega
        have HS : Hid (pickU l x (nums.take (q + 1)) = pickU l x (nums.take q) ++ (if hasZ l z x = true then [z] else [])) := Lib.hid (by rw [htk, pickU_snoc])
        clear hz htk
        go_wp2_with fail
        refine (uisIn_any A m c bs bl bm x z l wr (HL.out.later HBW.out) hm (HI.out.below HB1.out)).mono ?_
        rintro e w3 ⟨rfl, hb3⟩
        have HB3 := Lib.hid (HB1.out.trans (hb3.mono HB1.out.size))
        have HO3 := Lib.hid (HO.out.below hb3)
        clear hb3 hcz
        cases hh : hasZ l z x
        · have HS2 : Hid (pickU l x (nums.take (q + 1)) = pickU l x (nums.take q)) := Lib.hid (by rw [HS.out, hh, if_neg Bool.false_ne_true, List.append_nil])
          clear hh
          go_wp2_with fail
          go_roundw
          case rel => exact ⟨q + 1, n2, c2, A2, by omega, by go_num, rfl, by omega, by rw [HS2.out]; exact HO3.out, HB3.out⟩
          case measure => simp [intOf]; omega
        · have HS2 : Hid (pickU l x (nums.take (q + 1)) = pickU l x (nums.take q) ++ [z]) := Lib.hid (by rw [HS.out, hh, if_pos rfl])
          clear hh
          go_wp2_with ((with_reducible show wpList _ _ _ (⟨some 33, _, _, _, _, _⟩ :: _) _ _); refine hold ?_)
          refine held (wpList_append_one rfl (.tmp 30) (.tmp 32) 32 rfl Tryd.underlying32 info_int rfl (by omega) w1.heap.size A2 n2 c2 _ rfl (OwnV.alloc HO3.out _) w3.heap.size 0 (.int .i64 z) rfl
            (by rw [cell_of_row _ w3.heap.size 0 _ _ (0, 0) (heap_alloc_new w3 _)]; rfl) rfl (by omega) (by have := HB3.out.size; simp; omega) ?_)
          intro A4 c4 wx hown4 hb4
          have hown5 : OwnV wx w1.heap.size 3 A4 (n2 + 1) c4 ((pickU l x (nums.take (q + 1))).map ints) := by
            rw [HS2.out, List.map_append]
            exact hown4
          have HO5 := Lib.hid hown5
          have HB5 := Lib.hid ((HB3.out.alloc HB3.out.size _).trans hb4)
          clear hown4 hb4 hown5
          go_wp2_with fail
          go_roundw
          case rel => exact ⟨q + 1, n2 + 1, c4, A4, by omega, by go_num, rfl, by omega, HO5.out, HB5.out⟩
          case measure => simp [intOf]; omega
      · have HALL : Hid (pickU l x (nums.take q) = pickZ l nums) := Lib.hid (by rw [List.take_of_length_le (by rw [HN.out.1]; omega)]; unfold pickZ; rw [HLAST.out])
        have hqk : ¬ (q : Int) < (j : Int) + 1 := by omega
        go_wp2_with fail
        go_ret
        exact ⟨A2, n2, c2, rfl, by rw [← HALL.out]; exact HO.out.colI, HBW.out⟩
end Go.Proofs.YtiophifilikajaaDoor

/-
  Contracts over the document's own sets: equal sets; rising numbers.
-/
namespace Go.Proofs.YtiophifilikajaaDoor
set_option linter.unusedVariables false
set_option linter.unusedSimpArgs false
open Go.RowKit
set_option linter.unusedVariables false
set_option linter.unusedSimpArgs false

set_option maxRecDepth 20000 in
set_option maxHeartbeats 2000000 in
theorem x9Same_any (A B : Option Addr) (n c m d : Nat) (l r : List Rg) (w : World) (hl : ColK 2 rgC w w.heap.size A n l) (hr : ColK 2 rgC w w.heap.size B m r) (hn : n ≤ 140737488355328) (hm : m ≤ 140737488355328) :
    Calls Tryd.prog 13 #[.slice A n c, .slice B m d] w fun e w' => e = .returned (.bool (decide (l = r))) ∧ ∃ q, w' = w.drewN q := by
  have HL := Lib.hid hl
  have HR := Lib.hid hr
  by_cases hnm : n = m
  · subst hnm
    have hne : ((n : Int) != (n : Int)) = false := by simp
    clear hl hr
    go_enter Tryd.func13, Tryd.ntmps13
    go_wp2_with fail
    go_loopw [5] (fun i wx => ∃ k q : Nat, k ≤ n ∧ i = .int .i64 (k : Int) ∧ l.take k = r.take k ∧ wx = w.drewN q) (fun i _ => n - (intOf i).toNat)
    case atStart => exact ⟨0, 0, Nat.zero_le _, rfl, rfl, rfl⟩
    case round =>
      obtain ⟨k, q, hk, rfl, hm, hw⟩ := hrel
      have HM := Lib.hid hm
      have HW := Lib.hid hw
      clear hm hw
      by_cases hlt : k < n
      · obtain ⟨b, o, x, rfl, hbb, hla, htk, hc⟩ := HL.out.at_ hlt
        obtain ⟨b2, o2, y, rfl, hbb2, hla2, htk2, hc2⟩ := HR.out.at_ hlt
        rw [show w.rangeAt b (o + k * 2) (rgC x) = wr.rangeAt b (o + k * 2) (rgC x) by rw [HW.out]; rfl] at hc
        rw [show w.rangeAt b2 (o2 + k * 2) (rgC y) = wr.rangeAt b2 (o2 + k * 2) (rgC y) by rw [HW.out]; rfl] at hc2
        obtain ⟨x0, x1⟩ := x
        obtain ⟨y0, y1⟩ := y
        have r0 := hc 0 _ rfl
        have r1 := hc 1 _ rfl
        have s0 := hc2 0 _ rfl
        have s1 := hc2 1 _ rfl
        rw [Nat.add_zero] at r0 s0
        have hk0 : (0 : Int) ≤ (k : Int) := by omega
        have hkn : (k : Int) < (n : Int) := by omega
        have HA1 := Lib.hid hla
        have HA2 := Lib.hid hla2
        have HT1 := Lib.hid htk
        have HT2 := Lib.hid htk2
        clear hla hla2 htk htk2 hc hc2
        by_cases he : (x0, x1) = (y0, y1)
        · injection he with he1 he2
          subst he1 he2
          have kq : ∀ W, (binOp .neq 43 (.agg #[.int .i64 x0, .int .i64 x1]) (.agg #[.int .i64 x0, .int .i64 x1])).run Tryd.prog W = .ok (.bool false) W := fun W => by rw [rg_neq]; simp
          have HN : Hid (l.take (k + 1) = r.take (k + 1)) := Lib.hid (by rw [HT1.out, HT2.out, HM.out])
          go_wp2_with fail
          go_quiet (fail)
          go_wp2_with fail
          go_roundw
          case rel => exact ⟨k + 1, _, by omega, by go_num, HN.out, by rw [HW.out]; exact drewN_twice _ _ _⟩
          case measure => simp [intOf]; omega
        · have kq : ∀ W, (binOp .neq 43 (.agg #[.int .i64 x0, .int .i64 x1]) (.agg #[.int .i64 y0, .int .i64 y1])).run Tryd.prog W = .ok (.bool true) W := fun W => by rw [rg_neq, decide_eq_false he]; rfl
          have HN : Hid (decide (l = r) = false) := Lib.hid (decide_eq_false (ne_at HA1.out HA2.out he))
          clear he
          go_wp2_with fail
          go_quiet (fail)
          go_wp2_with fail
          go_ret
          exact ⟨by rw [HN.out] <;> rfl, _, by rw [HW.out]; exact drewN_twice _ _ _⟩
      · have HN : Hid (decide (l = r) = true) := Lib.hid (decide_eq_true (eq_at (HL.out.1.trans HR.out.1.symm) k HM.out (by rw [HL.out.1]; omega)))
        go_wp2_with fail
        go_ret
        exact ⟨by rw [HN.out] <;> rfl, _, HW.out⟩
  · have hne : ((n : Int) != (m : Int)) = true := by simp; omega
    have HN : Hid (decide (l = r) = false) := Lib.hid (decide_eq_false (fun e => hnm (by rw [← hl.1, ← hr.1, e])))
    clear hl hr
    go_enter Tryd.func13, Tryd.ntmps13
    go_wp2_with fail
    go_ret
    exact ⟨by rw [HN.out] <;> rfl, 0, rfl⟩

theorem getD_of {l : List Int} {k : Nat} {x : Int} (h : l[k]? = some x) : l.getD k 0 = x := by rw [List.getD_eq_getElem?_getD, h]; rfl
theorem riseAt_lo {l : List Int} {k : Nat} {x : Int} (h : l[k]? = some x) (hx : x < 1) : riseAt l k = false := decide_eq_false fun e => by rw [getD_of h] at e; omega
theorem riseAt_hi {l : List Int} {k : Nat} {x : Int} (h : l[k]? = some x) (hx : 4294967295 < x) : riseAt l k = false := decide_eq_false fun e => by rw [getD_of h] at e; omega
theorem riseAt_0 {l : List Int} {x : Int} (h : l[0]? = some x) (h1 : 1 ≤ x) (h2 : x ≤ 4294967295) : riseAt l 0 = true := decide_eq_true ⟨by rw [getD_of h]; exact h1, by rw [getD_of h]; exact h2, .inl rfl⟩
theorem riseAt_s {l : List Int} {j : Nat} {x y : Int} (h : l[j + 1]? = some x) (hy : l[j]? = some y) (h1 : 1 ≤ x) (h2 : x ≤ 4294967295) (h3 : y < x) : riseAt l (j + 1) = true :=
  decide_eq_true ⟨by rw [getD_of h]; exact h1, by rw [getD_of h]; exact h2, .inr (by rw [getD_of h, Nat.add_sub_cancel, getD_of hy]; exact h3)⟩
theorem riseAt_no {l : List Int} {j : Nat} {x y : Int} (h : l[j + 1]? = some x) (hy : l[j]? = some y) (h3 : x ≤ y) : riseAt l (j + 1) = false := decide_eq_false fun e => by
  rw [getD_of h, Nat.add_sub_cancel, getD_of hy] at e
  rcases e.2.2 with e | e <;> omega
def riseUp (l : List Int) (k : Nat) : Prop := ∀ i, i < k → riseAt l i = true
theorem riseUp_next {l : List Int} {k : Nat} (h : riseUp l k) (hk : riseAt l k = true) : riseUp l (k + 1) := fun i hi => by
  by_cases e : i = k
  · rw [e]; exact hk
  · exact h i (by omega)
theorem riseUp_all {l : List Int} {k : Nat} (h : riseUp l k) (hk : l.length ≤ k) : riseB l = true := decide_eq_true fun i hi => h i (by omega)

set_option maxRecDepth 20000 in
set_option maxHeartbeats 4000000 in
theorem x9Rising_any (A : Option Addr) (n c : Nat) (l : List Int) (w : World) (hl : Col ints w w.heap.size A n l) (hn : n ≤ 140737488355328) :
    Calls Tryd.prog 18 #[.slice A n c] w fun e w' => e = .returned (.bool (riseB l)) ∧ ∃ q, w' = w.drewN q := by
  have HL := Lib.hid hl
  clear hl
  go_enter Tryd.func18, Tryd.ntmps18
  go_wp2_with fail
  go_loopw [3] (fun i wx => ∃ k q : Nat, k ≤ n ∧ i = .int .i64 (k : Int) ∧ riseUp l k ∧ wx = w.drewN q) (fun i _ => n - (intOf i).toNat)
  case atStart => exact ⟨0, 0, Nat.zero_le _, rfl, fun i hi => by omega, rfl⟩
  case round =>
    obtain ⟨k, q, hk, rfl, hm, hw⟩ := hrel
    have HM := Lib.hid hm
    have HW := Lib.hid hw
    clear hm hw
    by_cases hlt : k < n
    · obtain ⟨b, o, x, rfl, hbb, hla, htk, hc⟩ := HL.out.at_ hlt
      rw [show w.cell? ⟨b, o + k, none⟩ = wr.cell? ⟨b, o + k, none⟩ by rw [HW.out]; rfl] at hc
      have hk0 : (0 : Int) ≤ (k : Int) := by omega
      have hkn : (k : Int) < (n : Int) := by omega
      unfold ints at hc
      have HLA := Lib.hid hla
      clear hla htk
      by_cases hx1 : x < 1
      · have hd1 : decide (x < 1) = true := decide_eq_true hx1
        have HN := Lib.hid (riseB_stop (l := l) (k := k) (by rw [HL.out.1]; exact hlt) (riseAt_lo HLA.out hx1))
        go_wp2_with fail
        go_quiet (fail)
        go_wp2_with fail
        go_ret
        exact ⟨by rw [HN.out] <;> rfl, _, by rw [HW.out]; exact drewN_twice _ _ _⟩
      · have hd1 : decide (x < 1) = false := decide_eq_false hx1
        by_cases hx2 : 4294967295 < x
        · have hd2 : decide (4294967295 < x) = true := decide_eq_true hx2
          have HN := Lib.hid (riseB_stop (l := l) (k := k) (by rw [HL.out.1]; exact hlt) (riseAt_hi HLA.out hx2))
          go_wp2_with fail
          go_quiet (fail)
          go_wp2_with fail
          go_ret
          exact ⟨by rw [HN.out] <;> rfl, _, by rw [HW.out]; exact drewN_twice _ _ _⟩
        · have hd2 : decide (4294967295 < x) = false := decide_eq_false hx2
          rcases Nat.eq_zero_or_pos k with hkz | hkp
          · subst hkz
            have HN := Lib.hid (riseUp_next HM.out (riseAt_0 HLA.out (by omega) (by omega)))
            rw [Nat.add_zero] at hc
            go_wp2_with fail
            go_quiet (fail)
            go_wp2_with fail
            go_roundw
            case rel => exact ⟨1, _, by omega, rfl, HN.out, by rw [HW.out]; exact drewN_twice _ _ _⟩
            case measure => simp [intOf]; omega
          · obtain ⟨j, rfl⟩ : ∃ j, k = j + 1 := ⟨k - 1, by omega⟩
            obtain ⟨b', o', y, e, hbb', hla', _, hc'⟩ := HL.out.at_ (show j < n by omega)
            injection e with e
            injection e with e1 e2
            subst e1 e2
            rw [show w.cell? ⟨b, o + j, none⟩ = wr.cell? ⟨b, o + j, none⟩ by rw [HW.out]; rfl] at hc'
            unfold ints at hc'
            have hd3 : decide ((0 : Int) < (j : Int) + 1) = true := decide_eq_true (by omega)
            have hj0 : (0 : Int) ≤ (j : Int) := by omega
            have hjn : (j : Int) < (n : Int) := by omega
            have hwj : IntKind.i64.wrap (j : Int) = (j : Int) := IntWalk.i64_in _ (by omega)
            have HLY := Lib.hid hla'
            clear hla'
            by_cases hyx : y < x
            · have hd4 : decide (x ≤ y) = false := decide_eq_false (by omega)
              have HN := Lib.hid (riseUp_next HM.out (riseAt_s HLA.out HLY.out (by omega) (by omega) hyx))
              go_wp2_with fail
              go_quiet (fail)
              go_wp2_with fail
              go_roundw
              case rel => exact ⟨j + 1 + 1, _, by omega, by go_num, HN.out, by rw [HW.out]; exact drewN_twice _ _ _⟩
              case measure => simp [intOf]; omega
            · have hd4 : decide (x ≤ y) = true := decide_eq_true (by omega)
              have HN := Lib.hid (riseB_stop (l := l) (k := j + 1) (by rw [HL.out.1]; exact hlt) (riseAt_no HLA.out HLY.out (by omega)))
              go_wp2_with fail
              go_quiet (fail)
              go_wp2_with fail
              go_ret
              exact ⟨by rw [HN.out] <;> rfl, _, by rw [HW.out]; exact drewN_twice _ _ _⟩
    · have HN := Lib.hid (riseUp_all HM.out (by rw [HL.out.1]; omega))
      go_wp2_with fail
      go_ret
      exact ⟨by rw [HN.out] <;> rfl, _, HW.out⟩
end Go.Proofs.YtiophifilikajaaDoor
