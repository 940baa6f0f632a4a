/-
  A part of the proof: see the last text.
-/
import Derived.Test.YtbogjfbfgbhdbaaGreatDoorSBytesOwn
import Derived.Laws.StructEq
import Derived.Deep.QuietTactic
import Derived.Laws.EntriesVeiled
import Derived.Test.YtbogjfbfgbhdbaaGreatDoorSBoxF
import Derived.Test.YtbogjfbfgbhdbaaGreatDoorSBoxE2
import Derived.IntWalk
namespace Go.Proofs.YtbogjfbfgbhdbaaGreatDoor
set_option linter.unusedVariables false
set_option linter.unusedSimpArgs false
open Go.RowKit
set_option linter.unusedVariables false
set_option linter.unusedSimpArgs false
theorem rg_fields : Tryz.prog.fieldsOf 131 = #[{ name := "From", type := 3, offset := 0, embedded := false, tag := "", pkgPath := "", byteOffset := 0 }, { name := "To", type := 3, offset := 1, embedded := false, tag := "", pkgPath := "", byteOffset := 8 }] := by kernel_rfl
theorem rg_neq (W : World) (x y u v : Int) : (binOp .neq 131 (.agg #[.int .i64 x, .int .i64 y]) (.agg #[.int .i64 u, .int .i64 v])).run Tryz.prog W = .ok (.bool (!decide ((x, y) = (u, v)))) W := by
  have h1 : Tryz.prog.underlying 131 = some (.struct (Tryz.prog.fieldsOf 131)) := by rw [rg_fields]; exact Tryz.underlying131
  have h2 : Tryz.prog.stoodInHeld 131 = false := by kernel_rfl
  simp [binOp, Op.equal, Op.maxDepth, run_equalIn_agg W 9999 131 _ _ h1 h2, rg_fields]
  have p0 : ∀ (a b : Int), (part 3 #[Value.int IntKind.i64 a, Value.int IntKind.i64 b] 0).run Tryz.prog W = .ok (.int .i64 a) W := fun a b => by simp [part, isAgg, Sem.run_bind, run_underlying Tryz.underlying3]
  have p1 : ∀ (a b : Int), (part 3 #[Value.int IntKind.i64 a, Value.int IntKind.i64 b] 1).run Tryz.prog W = .ok (.int .i64 b) W := fun a b => by simp [part, isAgg, Sem.run_bind, run_underlying Tryz.underlying3]
  have q : ∀ a b, (Op.equalIn 9999 3 (.int .i64 a) (.int .i64 b)).run Tryz.prog W = .ok (a == b) W := fun a b => run_equalIn_int W 9998 3 .i64 .i64 a b Tryz.underlying3
  simp [Op.eqFields, p0, p1, q, Sem.run_bind]
  by_cases h1 : x = u <;> by_cases h2 : y = v <;> simp [h1, h2]
theorem umeant_any (z last : Int) (bl : Nat) (w : World) (hl : w.cell? ⟨bl, 0, none⟩ = some (.int .i64 last)) :
    Calls Tryz.prog 298 #[.int .i64 z, .pointer (some ⟨bl, 0, none⟩)] w fun e w' => e = .returned (.int .i64 (meantZ last z)) ∧ w' = w := by
  by_cases hz : z = 0
  · subst hz
    have HR : Hid (meantZ last 0 = last) := Lib.hid (if_pos rfl)
    go_enter Tryz.func298, Tryz.ntmps298
    go_wp2
    go_ret
    exact ⟨by rw [HR.out] <;> rfl, rfl⟩
  · have hz' : (z == 0) = false := by simp; exact hz
    have HR : Hid (meantZ last z = z) := Lib.hid (if_neg hz)
    clear hz
    go_enter Tryz.func298, Tryz.ntmps298
    go_wp2
    go_ret
    exact ⟨by rw [HR.out] <;> rfl, rfl⟩
theorem any_next {l : List Rg} {last n : Int} {k : Nat} {r : Rg} (h : (l.take k).any (inR last n) = false) (ht : l.take (k + 1) = l.take k ++ [r]) (hr : inR last n r = false) : (l.take (k + 1)).any (inR last n) = false := by
  rw [ht, any_snoc, h, hr]; rfl
theorem has_low {l : List Rg} {n last : Int} (h : ¬ 1 ≤ n) : hasZ l n last = false := by unfold hasZ; rw [decide_eq_false h]; rfl
end Go.Proofs.YtbogjfbfgbhdbaaGreatDoor
namespace Go.Proofs.YtbogjfbfgbhdbaaGreatDoor
set_option linter.unusedVariables false
set_option linter.unusedSimpArgs false
open Go.RowKit
set_option linter.unusedVariables false
set_option linter.unusedSimpArgs false
theorem ret_bool {a b : Bool} (h : a = b) : Ending.returned (.bool a) = .returned (.bool b) := by rw [h]
set_option maxRecDepth 20000 in
set_option maxHeartbeats 8000000 in
theorem uinR_any (bm bn bl : Nat) (last n x y : Int) (w : World) (hm : w.cell? ⟨bm, 0, none⟩ = some (.func (.func 298) #[] #[.pointer (some ⟨bl, 0, none⟩)])) (hn : w.cell? ⟨bn, 0, none⟩ = some (.int .i64 n)) (hl : w.cell? ⟨bl, 0, none⟩ = some (.int .i64 last)) :
    Calls Tryz.prog 301 #[.agg #[.int .i64 x, .int .i64 y], .pointer (some ⟨bm, 0, none⟩), .pointer (some ⟨bn, 0, none⟩)] w fun e w' => e = .returned (.bool (inR last n (x, y))) ∧ Below w.heap.size w w' := by
  have lm := World.block_lt_of_cell? _ _ hm
  have ln := World.block_lt_of_cell? _ _ hn
  have ll := World.block_lt_of_cell? _ _ hl
  have hb : Below w.heap.size w (w.alloc (.cells #[.int .i64 x, .int .i64 y] 131)) := (Below.refl _ _).alloc (Nat.le_refl _) _
  have hm' := (hb.cell (p := ⟨bm, 0, none⟩) lm).trans hm
  have hn' := (hb.cell (p := ⟨bn, 0, none⟩) ln).trans hn
  have hl' := (hb.cell (p := ⟨bl, 0, none⟩) ll).trans hl
  have c0 := fun i => cell_of_row (w.alloc (.cells #[.int .i64 x, .int .i64 y] 131)) w.heap.size i _ _ (0, 0) (heap_alloc_new w _)
  have c00 := c0 0
  have c01 := c0 1
  have HBX := Lib.hid hb
  clear hm hn hl c0 hb lm ln ll
  go_enter Tryz.func301, Tryz.ntmps301
  go_wp2_with fail
  generalize w.alloc (.cells #[.int .i64 x, .int .i64 y] 131) = w0 at *
  obtain ⟨B, hB⟩ : ∃ B, w.heap.size = B := ⟨_, rfl⟩
  rw [hB] at HBX c00 c01 ⊢
  obtain ⟨a, ha⟩ : ∃ a, meantZ last x = a := ⟨_, rfl⟩
  obtain ⟨d, hd⟩ : ∃ d, meantZ last y = d := ⟨_, rfl⟩
  have HINR : Hid (inR last n (x, y) = decide (min a d ≤ n ∧ n ≤ max a d)) := Lib.hid (by unfold inR; rw [ha, hd])
  have hmx := fun W (h : W.cell? ⟨bl, 0, none⟩ = some (.int .i64 last)) => umeant_any x last bl W h
  have hmy := fun W (h : W.cell? ⟨bl, 0, none⟩ = some (.int .i64 last)) => umeant_any y last bl W h
  rw [ha] at hmx
  rw [hd] at hmy
  have CX := fun q => Calls.quiet_of_same (hmx (w0.drewN q) hl')
  have CY := fun q => Calls.quiet_of_same (hmy (w0.drewN q) hl')
  clear hmx hmy ha hd
  by_cases hab : a ≤ d
  · have hab' : ¬ d < a := by omega
    by_cases h1 : a ≤ n
    · by_cases h2 : n ≤ d
      · have HIN : Hid (inR last n (x, y) = true) := Lib.hid (by rw [HINR.out]; exact decide_eq_true (by omega))
        go_wp2_with fail
        go_quiet ((go_at_call 298; first | (with_reducible exact CX _) | (with_reducible exact CY _)))
        go_wp2_with fail
        all_goals (go_ret; exact ⟨ret_bool (by rw [HIN.out] <;> first | rfl | exact decide_eq_true (by omega) | exact decide_eq_false (by omega)), below_drewN HBX.out _⟩)
      · have HIN : Hid (inR last n (x, y) = false) := Lib.hid (by rw [HINR.out]; exact decide_eq_false (by omega))
        go_wp2_with fail
        go_quiet ((go_at_call 298; first | (with_reducible exact CX _) | (with_reducible exact CY _)))
        go_wp2_with fail
        all_goals (go_ret; exact ⟨ret_bool (by rw [HIN.out] <;> first | rfl | exact decide_eq_true (by omega) | exact decide_eq_false (by omega)), below_drewN HBX.out _⟩)
    · have HIN : Hid (inR last n (x, y) = false) := Lib.hid (by rw [HINR.out]; exact decide_eq_false (by omega))
      go_wp2_with fail
      go_quiet ((go_at_call 298; first | (with_reducible exact CX _) | (with_reducible exact CY _)))
      go_wp2_with fail
      all_goals (go_ret; exact ⟨ret_bool (by rw [HIN.out] <;> first | rfl | exact decide_eq_true (by omega) | exact decide_eq_false (by omega)), below_drewN HBX.out _⟩)
  · have hab' : d < a := by omega
    by_cases h1 : d ≤ n
    · by_cases h2 : n ≤ a
      · have HIN : Hid (inR last n (x, y) = true) := Lib.hid (by rw [HINR.out]; exact decide_eq_true (by omega))
        go_wp2_with fail
        go_quiet ((go_at_call 298; first | (with_reducible exact CX _) | (with_reducible exact CY _)))
        go_wp2_with fail
        all_goals (go_ret; exact ⟨ret_bool (by rw [HIN.out] <;> first | rfl | exact decide_eq_true (by omega) | exact decide_eq_false (by omega)), below_drewN HBX.out _⟩)
      · have HIN : Hid (inR last n (x, y) = false) := Lib.hid (by rw [HINR.out]; exact decide_eq_false (by omega))
        go_wp2_with fail
        go_quiet ((go_at_call 298; first | (with_reducible exact CX _) | (with_reducible exact CY _)))
        go_wp2_with fail
        all_goals (go_ret; exact ⟨ret_bool (by rw [HIN.out] <;> first | rfl | exact decide_eq_true (by omega) | exact decide_eq_false (by omega)), below_drewN HBX.out _⟩)
    · have HIN : Hid (inR last n (x, y) = false) := Lib.hid (by rw [HINR.out]; exact decide_eq_false (by omega))
      go_wp2_with fail
      go_quiet ((go_at_call 298; first | (with_reducible exact CX _) | (with_reducible exact CY _)))
      go_wp2_with fail
      all_goals (go_ret; exact ⟨ret_bool (by rw [HIN.out] <;> first | rfl | exact decide_eq_true (by omega) | exact decide_eq_false (by omega)), below_drewN HBX.out _⟩)
end Go.Proofs.YtbogjfbfgbhdbaaGreatDoor
namespace Go.Proofs.YtbogjfbfgbhdbaaGreatDoor
set_option linter.unusedVariables false
set_option linter.unusedSimpArgs false
open Go.RowKit
set_option linter.unusedVariables false
set_option linter.unusedSimpArgs false
theorem any_stop {l : List Rg} {p : Rg → Bool} {k : Nat} {r : Rg} (hr : l[k]? = some r) (h : p r = true) : l.any p = true := List.any_eq_true.2 ⟨r, List.mem_of_getElem? hr, h⟩
def IsIn (w : World) (bs bl bm : Nat) (A : Option Addr) (m c : Nat) (last : Int) : Prop :=
  w.cell? ⟨bs, 0, none⟩ = some (.slice A m c) ∧ w.cell? ⟨bl, 0, none⟩ = some (.int .i64 last) ∧ w.cell? ⟨bm, 0, none⟩ = some (.func (.func 298) #[] #[.pointer (some ⟨bl, 0, none⟩)])
theorem IsIn.below {w w' : World} {bs bl bm m c : Nat} {A : Option Addr} {last : Int} (h : IsIn w bs bl bm A m c last) (hb : Below w.heap.size w w') : IsIn w' bs bl bm A m c last :=
  ⟨(hb.cell (p := ⟨bs, 0, none⟩) (World.block_lt_of_cell? _ _ h.1)).trans h.1, (hb.cell (p := ⟨bl, 0, none⟩) (World.block_lt_of_cell? _ _ h.2.1)).trans h.2.1, (hb.cell (p := ⟨bm, 0, none⟩) (World.block_lt_of_cell? _ _ h.2.2)).trans h.2.2⟩
set_option maxRecDepth 20000 in
set_option maxHeartbeats 2000000 in
theorem uindex_any (A : Option Addr) (m c bm bn bl : Nat) (last n : Int) (l : List Rg) (w : World) (hl : ColK 2 rgC w w.heap.size A m l) (hm : m ≤ 1000000) (hm1 : w.cell? ⟨bm, 0, none⟩ = some (.func (.func 298) #[] #[.pointer (some ⟨bl, 0, none⟩)])) (hn1 : w.cell? ⟨bn, 0, none⟩ = some (.int .i64 n)) (hl1 : w.cell? ⟨bl, 0, none⟩ = some (.int .i64 last)) :
    Calls Tryz.prog 303 #[.slice A m c, .func (.func 301) #[] #[.pointer (some ⟨bm, 0, none⟩), .pointer (some ⟨bn, 0, none⟩)]] w fun e w' => ∃ z : Int, e = .returned (.int .i64 z) ∧ (decide (0 ≤ z) = l.any (inR last n)) ∧ Below w.heap.size w w' := by
  have HL := Lib.hid hl
  have HM1 := Lib.hid hm1
  have HN1 := Lib.hid hn1
  have HL1 := Lib.hid hl1
  have HLM := Lib.hid (World.block_lt_of_cell? _ _ hm1)
  have HLN := Lib.hid (World.block_lt_of_cell? _ _ hn1)
  have HLL := Lib.hid (World.block_lt_of_cell? _ _ hl1)
  clear hl hm1 hn1 hl1
  go_enter Tryz.func303, Tryz.ntmps303
  go_wp2_with fail
  go_loopw [8] (fun i wx => ∃ k : Nat, k ≤ m ∧ i = .int .i64 (k : Int) ∧ (l.take k).any (inR last n) = false ∧ Below w.heap.size w wx) (fun i _ => m - (intOf i).toNat)
  case atStart => exact ⟨0, Nat.zero_le _, rfl, rfl, Below.refl _ _⟩
  case round =>
    obtain ⟨k, hk, rfl, ha, hb⟩ := hrel
    have HB := Lib.hid hb
    have HA := Lib.hid ha
    clear ha hb
    by_cases hlt : k < m
    · obtain ⟨b, o, a, rfl, hbb, hla, htk, hrow⟩ := (HL.out.below HB.out (Nat.le_refl _)).at_ hlt
      have HLA := Lib.hid hla
      have HTK := Lib.hid htk
      have HROW := Lib.hid hrow
      have hk0 : (0 : Int) ≤ (k : Int) := by omega
      have hkn : (k : Int) < (m : Int) := by omega
      obtain ⟨x, y⟩ := a
      have ci := uinR_any bm bn bl last n x y wr ((HB.out.cell (p := ⟨bm, 0, none⟩) HLM.out).trans HM1.out) ((HB.out.cell (p := ⟨bn, 0, none⟩) HLN.out).trans HN1.out) ((HB.out.cell (p := ⟨bl, 0, none⟩) HLL.out).trans HL1.out)
      have CI := Lib.hid ci
      clear hla htk hrow ci
      go_wp2_with ((with_reducible show wpList _ _ _ (⟨some 15, _, _, _, _, _⟩ :: _) _ _); refine hold ?_)
      refine held (wpList_load_mid rfl 131 (.tmp 14) rfl b (o + k * 2) rfl (rgC (x, y)) _ HROW.out Tryz.underlying131 rfl (by kernel_rfl) ?_)
      unfold rgC
      go_wp2_with fail
      refine CI.out.mono ?_
      rintro e w' ⟨rfl, hb2⟩
      have HB2 := Lib.hid (HB.out.trans (hb2.mono HB.out.size))
      clear hb2
      cases hok : inR last n (x, y)
      · have HS := Lib.hid (any_next HA.out HTK.out hok)
        clear hok
        go_wp2_with fail
        go_roundw
        case rel => exact ⟨k + 1, by omega, by go_num, HS.out, HB2.out⟩
        case measure => simp [intOf]; omega
      · have HS := Lib.hid (any_stop HLA.out hok)
        clear hok
        go_wp2_with fail
        go_ret
        exact ⟨(k : Int), rfl, by rw [HS.out, decide_eq_true hk0], HB2.out⟩
    · have hkn : ¬ (k : Int) < (m : Int) := by omega
      have HS : Hid (l.any (inR last n) = false) := Lib.hid (by have := HA.out; rwa [List.take_of_length_le (by rw [HL.out.1]; omega)] at this)
      go_wp2_with fail
      go_ret
      exact ⟨-1, rfl, by rw [HS.out]; rfl, HB.out⟩
set_option maxHeartbeats 1000000 in
theorem ucontains_any (A : Option Addr) (m c bm bn bl : Nat) (last n : Int) (l : List Rg) (w : World) (hl : ColK 2 rgC w w.heap.size A m l) (hm : m ≤ 1000000) (hm1 : w.cell? ⟨bm, 0, none⟩ = some (.func (.func 298) #[] #[.pointer (some ⟨bl, 0, none⟩)])) (hn1 : w.cell? ⟨bn, 0, none⟩ = some (.int .i64 n)) (hl1 : w.cell? ⟨bl, 0, none⟩ = some (.int .i64 last)) :
    Calls Tryz.prog 300 #[.slice A m c, .func (.func 301) #[] #[.pointer (some ⟨bm, 0, none⟩), .pointer (some ⟨bn, 0, none⟩)]] w fun e w' => e = .returned (.bool (l.any (inR last n))) ∧ Below w.heap.size w w' := by
  have CI := Lib.hid (uindex_any A m c bm bn bl last n l w hl hm hm1 hn1 hl1)
  clear hl hm1 hn1 hl1
  go_enter Tryz.func300, Tryz.ntmps300
  go_wp2_with fail
  refine CI.out.mono ?_
  rintro e w' ⟨z, rfl, hz, hb⟩
  have HZ := Lib.hid hz
  have HB := Lib.hid hb
  clear hz hb CI
  by_cases h0 : 0 ≤ z
  · have HR : Hid (l.any (inR last n) = true) := Lib.hid (by rw [← HZ.out]; exact decide_eq_true h0)
    go_wp2_with fail
    go_ret
    exact ⟨by rw [HR.out] <;> rfl, HB.out⟩
  · have HR : Hid (l.any (inR last n) = false) := Lib.hid (by rw [← HZ.out]; exact decide_eq_false h0)
    go_wp2_with fail
    go_ret
    exact ⟨ret_bool (by rw [HR.out] <;> first | rfl | exact decide_eq_false (by omega)), HB.out⟩
set_option maxRecDepth 20000 in
set_option maxHeartbeats 2000000 in
theorem uisIn_any (A : Option Addr) (m c bs bl bm : Nat) (last n : Int) (l : List Rg) (w : World) (hl : ColK 2 rgC w w.heap.size A m l) (hm : m ≤ 1000000) (hI : IsIn w bs bl bm A m c last) :
    Calls Tryz.prog 299 #[.int .i64 n, .pointer (some ⟨bs, 0, none⟩), .pointer (some ⟨bm, 0, none⟩)] w fun e w' => e = .returned (.bool (hasZ l n last)) ∧ Below w.heap.size w w' := by
  have hb : Below w.heap.size w (w.alloc (.cells #[.int .i64 n] 3)) := (Below.refl _ _).alloc (Nat.le_refl _) _
  obtain ⟨hs1, hl1, hm1⟩ := hI.below hb
  have hn1 : (w.alloc (.cells #[.int .i64 n] 3)).cell? ⟨w.heap.size, 0, none⟩ = some (.int .i64 n) := (cell_of_row (w.alloc (.cells #[.int .i64 n] 3)) w.heap.size 0 _ _ (0, 0) (heap_alloc_new w _)).trans rfl
  have hl2 : ColK 2 rgC (w.alloc (.cells #[.int .i64 n] 3)) (w.alloc (.cells #[.int .i64 n] 3)).heap.size A m l := hl.later hb
  by_cases h1 : 1 ≤ n
  · have h1' : 0 < n := by omega
    have HR : Hid (hasZ l n last = l.any (inR last n)) := Lib.hid (by unfold hasZ; rw [decide_eq_true h1]; rfl)
    have CC := Lib.hid (ucontains_any A m c bm w.heap.size bl last n l _ hl2 hm hm1 hn1 hl1)
    have HB := Lib.hid hb
    clear hl hl2 hm1 hl1 hn1 hb
    go_enter Tryz.func299, Tryz.ntmps299
    go_wp2_with fail
    refine CC.out.mono ?_
    rintro e w' ⟨rfl, hb2⟩
    have HB2 := Lib.hid (HB.out.trans (hb2.mono HB.out.size))
    clear hb2 CC hs1
    go_wp2_with fail
    go_ret
    exact ⟨by rw [HR.out] <;> rfl, HB2.out⟩
  · have h1' : ¬ 0 < n := by omega
    have HR : Hid (hasZ l n last = false) := Lib.hid (has_low h1)
    have HB := Lib.hid hb
    clear hl hl2 hm1 hl1 hb
    go_enter Tryz.func299, Tryz.ntmps299
    go_wp2_with fail
    go_ret
    exact ⟨by rw [HR.out] <;> rfl, HB.out⟩
theorem umembers_any (A : Option Addr) (m c : Nat) (last : Int) (w : World) :
    Calls Tryz.prog 292 #[.slice A m c, .int .i64 last] w fun e w' => ∃ bs bl bm, e = .returned (.func (.func 299) #[] #[.pointer (some ⟨bs, 0, none⟩), .pointer (some ⟨bm, 0, none⟩)]) ∧ IsIn w' bs bl bm A m c last ∧ Below w.heap.size w w' := by
  go_enter Tryz.func292, Tryz.ntmps292
  go_wp2
  go_ret
  refine ⟨w.heap.size, w.heap.size + 1, w.heap.size + 2, rfl, ⟨?_, ?_, ?_⟩, (((Below.refl _ _).alloc (Nat.le_refl _) _).alloc (by simp) _).alloc (by simp; omega) _⟩
  · rw [cell_of_row _ w.heap.size 0 _ _ (0, 0) ((Below.heap_alloc _ _ _ (by simp; omega)).trans ((Below.heap_alloc _ _ _ (by simp)).trans (heap_alloc_new w _)))]; rfl
  · have := heap_alloc_new (w.alloc (.cells #[.slice A m c] 30)) (.cells #[.int .i64 last] 3)
    rw [World.size_alloc] at this
    rw [cell_of_row _ (w.heap.size + 1) 0 _ _ (0, 0) ((Below.heap_alloc _ _ _ (by simp)).trans this)]; rfl
  · have := heap_alloc_new ((w.alloc (.cells #[.slice A m c] 30)).alloc (.cells #[.int .i64 last] 3)) (.cells #[.func (.func 298) #[] #[.pointer (some ⟨w.heap.size + 1, 0, none⟩)]] 256)
    rw [World.size_alloc, World.size_alloc] at this
    rw [cell_of_row _ (w.heap.size + 2) 0 _ _ (0, 0) this]; rfl
set_option maxRecDepth 20000 in
set_option maxHeartbeats 2000000 in
theorem uHas_any (A : Option Addr) (m c : Nat) (last n : Int) (l : List Rg) (w : World) (hl : ColK 2 rgC w w.heap.size A m l) (hm : m ≤ 1000000) :
    Calls Tryz.prog 283 #[.slice A m c, .int .i64 n, .int .i64 last] w fun e w' => e = .returned (.bool (hasZ l n last)) ∧ Below w.heap.size w w' := by
  have HL := Lib.hid hl
  clear hl
  go_enter Tryz.func283, Tryz.ntmps283
  go_wp2_with fail
  refine (umembers_any A m c last w).mono ?_
  rintro e w1 ⟨bs, bl, bm, rfl, hI, hb⟩
  have HI := Lib.hid hI
  have HB := Lib.hid hb
  clear hI hb
  go_wp2_with fail
  refine (uisIn_any A m c bs bl bm last n l w1 (HL.out.later HB.out) hm HI.out).mono ?_
  rintro e w2 ⟨rfl, hb2⟩
  have HB2 := Lib.hid (HB.out.trans (hb2.mono HB.out.size))
  clear hb2
  go_wp2_with fail
  go_ret
  exact ⟨rfl, HB2.out⟩
theorem info_int : (Tryz.prog.info? 3).map (fun i => (i.zero, i.size, i.bytes)) = some (some (.int .i64 0), 1, 8) := by kernel_rfl
theorem OwnV.colI {w : World} {base n c : Nat} {e : TypeId} {A : Option Addr} {l : List Int} (h : OwnV w base e A n c (l.map ints)) : Col ints w w.heap.size A n l := by
  refine ⟨by have := h.len; simpa using this, fun hn => ?_⟩
  obtain ⟨g, rfl, _, hg, hc⟩ := h.cells hn
  exact ⟨g, 0, rfl, hg, fun i a ha => by rw [Nat.zero_add]; exact hc i _ (by rw [List.getElem?_map, ha]; rfl)⟩
def GiveI (w : World) (l : List Int) (e : Ending) (w' : World) : Prop := ∃ A n c, e = .returned (.slice A n c) ∧ Col ints w' w'.heap.size A n l ∧ Below w.heap.size w w'
end Go.Proofs.YtbogjfbfgbhdbaaGreatDoor
namespace Go.Proofs.YtbogjfbfgbhdbaaGreatDoor
set_option linter.unusedVariables false
set_option linter.unusedSimpArgs false
open Go.RowKit
set_option linter.unusedVariables false
set_option linter.unusedSimpArgs false
def nmbB (s : List Rg) (uid : Int) : Bool := decide (s = []) || hasZ s uid 4294967295
theorem nmbB_nil {s : List Rg} {uid : Int} (h : s = []) : nmbB s uid = true := by unfold nmbB; simp [h]
theorem nmbB_has {s : List Rg} {uid : Int} (h : s ≠ []) : nmbB s uid = hasZ s uid 4294967295 := by unfold nmbB; simp [h]
set_option maxHeartbeats 1000000 in
theorem rlhasNumber_any (A : Option Addr) (m c : Nat) (s : List Rg) (uid : Int) (w : World) (hl : ColK 2 rgC w w.heap.size A m s) (hm : m ≤ 1000000) :
    Calls Tryz.prog 273 #[.slice A m c, .int .i64 uid] w fun e w' => e = .returned (.bool (nmbB s uid)) ∧ Below w.heap.size w w' := by
  by_cases h0 : m = 0
  · subst h0
    have HR := Lib.hid (nmbB_nil (uid := uid) (List.eq_nil_of_length_eq_zero hl.1))
    clear hl
    go_enter Tryz.func273, Tryz.ntmps273
    go_wp2_with fail
    go_ret
    exact ⟨by rw [HR.out] <;> rfl, Below.refl _ _⟩
  · have h0b : ((m : Int) == 0) = false := by simp; omega
    have HR := Lib.hid (nmbB_has (s := s) (uid := uid) (fun e => h0 (by rw [← hl.1, e]; rfl)))
    have CU := Lib.hid (uHas_any A m c 4294967295 uid s w hl hm)
    clear hl h0
    go_enter Tryz.func273, Tryz.ntmps273
    go_wp2_with fail
    refine CU.out.mono ?_
    rintro e w' ⟨rfl, hb⟩
    have HB := Lib.hid hb
    clear hb
    go_wp2_with fail
    go_ret
    exact ⟨by rw [HR.out] <;> rfl, HB.out⟩
def AskIn (w : World) (bb bu : Nat) (box : ByteArray) (uid : Int) : Prop := w.cell? ⟨bb, 0, none⟩ = some (.string box) ∧ w.cell? ⟨bu, 0, none⟩ = some (.int .i64 uid)
theorem AskIn.below {w w' : World} {bb bu : Nat} {box : ByteArray} {uid : Int} (h : AskIn w bb bu box uid) (hb : Below w.heap.size w w') : AskIn w' bb bu box uid :=
  ⟨(hb.cell (p := ⟨bb, 0, none⟩) (World.block_lt_of_cell? _ _ h.1)).trans h.1, (hb.cell (p := ⟨bu, 0, none⟩) (World.block_lt_of_cell? _ _ h.2)).trans h.2⟩
def hhA (h : Hh) : Array Value := #[.int .i64 h.id, .string h.box, .slice h.A h.n h.c]
theorem hhC_A (h : Hh) : (hhC h).toArray = hhA h := rfl
set_option maxRecDepth 20000 in
set_option maxHeartbeats 2000000 in
theorem rlheld1_any (x : Hh) (bb bu : Nat) (box : ByteArray) (uid : Int) (w : World) (hx : HhIn w w.heap.size x) (hm : x.n ≤ 1000000) (hA : AskIn w bb bu box uid) :
    Calls Tryz.prog 272 #[.agg (hhA x), .pointer (some ⟨bb, 0, none⟩), .pointer (some ⟨bu, 0, none⟩)] w fun e w' => e = .returned (.bool (oneB x box uid)) ∧ Below w.heap.size w w' := by
  have hb : Below w.heap.size w (w.alloc (.cells (hhA x) 71)) := (Below.refl _ _).alloc (Nat.le_refl _) _
  obtain ⟨a1, a2⟩ := hA.below hb
  have HS := Lib.hid (hx.1.later hb)
  have HB := Lib.hid hb
  have x1 : (hhA x)[1]? = some (.string x.box) := rfl
  have x2 : (hhA x)[2]? = some (.slice x.A x.n x.c) := rfl
  have heq := str_eq13 x.box box
  have HL := Lib.hid hx.1.1
  clear hb hA
  by_cases he : x.box = box
  · rw [decide_eq_true he] at heq
    have HR : Hid (oneB x box uid = nmbB x.set uid) := Lib.hid (by unfold oneB nmbB; rw [decide_eq_true he]; rfl)
    have CN := Lib.hid (rlhasNumber_any x.A x.n x.c x.set uid _ HS.out hm)
    clear he hx hm
    go_enter Tryz.func272, Tryz.ntmps272
    go_wp2_with fail
    refine CN.out.mono ?_
    rintro e w' ⟨rfl, hb2⟩
    have HB2 := Lib.hid (HB.out.trans (hb2.mono HB.out.size))
    clear hb2
    go_wp2_with fail
    go_ret
    exact ⟨by rw [HR.out] <;> rfl, HB2.out⟩
  · rw [decide_eq_false he] at heq
    have HR := Lib.hid (oneB_other (uid := uid) he)
    clear he hx hm
    go_enter Tryz.func272, Tryz.ntmps272
    go_wp2_with fail
    go_ret
    exact ⟨by rw [HR.out] <;> rfl, HB.out⟩
set_option maxRecDepth 20000 in
set_option maxHeartbeats 2000000 in
theorem rlindexH_any (A : Option Addr) (m c bb bu : Nat) (box : ByteArray) (uid : Int) (l : List Hh) (w : World) (hl : HoldsIn w w.heap.size A m l) (hm : m ≤ 140737488355328) (hsm : ∀ h ∈ l, h.n ≤ 1000000) (hA : AskIn w bb bu box uid) :
    Calls Tryz.prog 173 #[.slice A m c, .func (.func 272) #[] #[.pointer (some ⟨bb, 0, none⟩), .pointer (some ⟨bu, 0, none⟩)]] w fun e w' => ∃ z : Int, e = .returned (.int .i64 z) ∧ (decide (0 ≤ z) = heldR l box uid) ∧ Below w.heap.size w w' := by
  have HL := Lib.hid hl
  have HA := Lib.hid hA
  have HSM := Lib.hid hsm
  clear hl hA hsm
  go_enter Tryz.func173, Tryz.ntmps173
  go_wp2_with fail
  go_loopw [8] (fun i wx => ∃ k : Nat, k ≤ m ∧ i = .int .i64 (k : Int) ∧ heldR (l.take k) box uid = false ∧ Below w.heap.size w wx) (fun i _ => m - (intOf i).toNat)
  case atStart => exact ⟨0, Nat.zero_le _, rfl, rfl, Below.refl _ _⟩
  case round =>
    obtain ⟨k, hk, rfl, ha, hb⟩ := hrel
    have HB := Lib.hid hb
    have HU := Lib.hid ha
    clear ha hb
    by_cases hlt : k < m
    · obtain ⟨b, o, x, rfl, hbb, hla, htk, hrow, hin⟩ := (HL.out.below HB.out (Nat.le_refl _)).at_ hlt
      have HLA := Lib.hid hla
      have HTK := Lib.hid htk
      have HROW := Lib.hid hrow
      have hk0 : (0 : Int) ≤ (k : Int) := by omega
      have hkn : (k : Int) < (m : Int) := by omega
      have CI := Lib.hid (rlheld1_any x bb bu box uid wr (hin.more HB.out.size) (HSM.out x (List.mem_of_getElem? hla)) (HA.out.below HB.out))
      clear hla htk hrow hin
      go_wp2_with ((with_reducible show wpList _ _ _ (⟨some 15, _, _, _, _, _⟩ :: _) _ _); refine hold ?_)
      refine held (wpList_load_mid rfl 71 (.tmp 14) rfl b (o + k * 3) rfl (hhC x) _ HROW.out Tryz.underlying71 rfl (by kernel_rfl) ?_)
      rw [hhC_A]
      go_wp2_with fail
      refine CI.out.mono ?_
      rintro e w' ⟨rfl, hb2⟩
      have HB2 := Lib.hid (HB.out.trans (hb2.mono HB.out.size))
      clear hb2 CI
      cases hok : oneB x box uid
      · have HS := Lib.hid (held_next HU.out HTK.out hok)
        clear hok
        go_wp2_with fail
        go_roundw
        case rel => exact ⟨k + 1, by omega, by go_num, HS.out, HB2.out⟩
        case measure => simp [intOf]; omega
      · have HS := Lib.hid (held_hit HLA.out hok)
        clear hok
        go_wp2_with fail
        go_ret
        exact ⟨(k : Int), rfl, by rw [HS.out, decide_eq_true hk0], HB2.out⟩
    · have hkn : ¬ (k : Int) < (m : Int) := by omega
      have HS : Hid (heldR l box uid = false) := Lib.hid (by have := HU.out; rwa [List.take_of_length_le (by rw [HL.out.len]; omega)] at this)
      go_wp2_with fail
      go_ret
      exact ⟨-1, rfl, by rw [HS.out]; rfl, HB.out⟩
set_option maxHeartbeats 1000000 in
theorem rlcontainsH_any (A : Option Addr) (m c bb bu : Nat) (box : ByteArray) (uid : Int) (l : List Hh) (w : World) (hl : HoldsIn w w.heap.size A m l) (hm : m ≤ 140737488355328) (hsm : ∀ h ∈ l, h.n ≤ 1000000) (hA : AskIn w bb bu box uid) :
    Calls Tryz.prog 206 #[.slice A m c, .func (.func 272) #[] #[.pointer (some ⟨bb, 0, none⟩), .pointer (some ⟨bu, 0, none⟩)]] w fun e w' => e = .returned (.bool (heldR l box uid)) ∧ Below w.heap.size w w' := by
  have CI := Lib.hid (rlindexH_any A m c bb bu box uid l w hl hm hsm hA)
  clear hl hsm hA
  go_enter Tryz.func206, Tryz.ntmps206
  go_wp2_with fail
  refine CI.out.mono ?_
  rintro e w' ⟨z, rfl, hz, hb⟩
  have HZ := Lib.hid hz
  have HB := Lib.hid hb
  clear hz hb CI
  by_cases h0 : 0 ≤ z
  · have HR : Hid (heldR l box uid = true) := Lib.hid (by rw [← HZ.out]; exact decide_eq_true h0)
    go_wp2_with fail
    go_ret
    exact ⟨by rw [HR.out] <;> rfl, HB.out⟩
  · have HR : Hid (heldR l box uid = false) := Lib.hid (by rw [← HZ.out]; exact decide_eq_false h0)
    go_wp2_with fail
    go_ret
    exact ⟨ret_bool (by rw [HR.out] <;> first | rfl | exact decide_eq_false (by omega)), HB.out⟩
set_option maxHeartbeats 1000000 in
theorem rlHeld_any (A : Option Addr) (m c : Nat) (box : ByteArray) (uid : Int) (l : List Hh) (w : World) (hl : HoldsIn w w.heap.size A m l) (hm : m ≤ 140737488355328) (hsm : ∀ h ∈ l, h.n ≤ 1000000) :
    Calls Tryz.prog 253 #[.slice A m c, .string box, .int .i64 uid] w fun e w' => e = .returned (.bool (heldR l box uid)) ∧ Below w.heap.size w w' := by
  have HL := Lib.hid hl
  have HSM := Lib.hid hsm
  clear hl hsm
  go_enter Tryz.func253, Tryz.ntmps253
  go_wp2_with fail
  have hb : Below w.heap.size w ((w.alloc (.cells #[.string box] 9)).alloc (.cells #[.int .i64 uid] 3)) := ((Below.refl _ _).alloc (Nat.le_refl _) _).alloc (by simp) _
  refine (rlcontainsH_any A m c w.heap.size (w.heap.size + 1) box uid l _ (HL.out.later hb) hm HSM.out ⟨?_, ?_⟩).mono ?_
  · rw [cell_of_row _ w.heap.size 0 _ _ (0, 0) ((Below.heap_alloc _ _ _ (by simp)).trans (heap_alloc_new w _))]; rfl
  · have := heap_alloc_new (w.alloc (.cells #[.string box] 9)) (.cells #[.int .i64 uid] 3)
    rw [World.size_alloc] at this
    rw [cell_of_row _ (w.heap.size + 1) 0 _ _ (0, 0) this]; rfl
  · rintro e w' ⟨rfl, hb2⟩
    have HB2 := Lib.hid (hb.trans (hb2.mono hb.size))
    clear hb2 hb
    go_wp2_with fail
    go_ret
    exact ⟨rfl, HB2.out⟩
end Go.Proofs.YtbogjfbfgbhdbaaGreatDoor
namespace Go.Proofs.YtbogjfbfgbhdbaaGreatDoor
set_option linter.unusedVariables false
set_option linter.unusedSimpArgs false
open Go.RowKit
set_option linter.unusedVariables false
set_option linter.unusedSimpArgs false
def idxN {β : Type} (p : β → Bool) : List β → Nat
  | [] => 0
  | b :: l => if p b = true then 1 else if idxN p l = 0 then 0 else idxN p l + 1
section
variable {β : Type} {p : β → Bool} {l : List β} {k n : Nat} {a : β}
theorem idx_none (h : ∀ b ∈ l, p b = false) : idxN p l = 0 := by
  induction l with
  | nil => rfl
  | cons b l ih =>
    unfold idxN
    rw [h b List.mem_cons_self, ih fun x hx => h x (List.mem_cons_of_mem _ hx)]
    rfl
theorem idx_hit : ∀ {l : List β} {k : Nat}, (∀ b ∈ l.take k, p b = false) → l[k]? = some a → p a = true → idxN p l = k + 1
  | [], k, _, h, _ => by simp at h
  | b :: l, 0, _, h, ha => by
    have e : b = a := by simpa using h
    subst e
    unfold idxN
    rw [if_pos ha]
  | b :: l, k + 1, h, hk, ha => by
    have h0 : p b = false := h b (by rw [List.take_succ_cons]; exact List.mem_cons_self)
    have h1 := idx_hit (l := l) (k := k) (fun x hx => h x (by rw [List.take_succ_cons]; exact List.mem_cons_of_mem _ hx)) (by simpa using hk) ha
    unfold idxN
    rw [h0, h1]
    simp
theorem idx_at (h : idxN p l ≠ 0) : ∃ k a, idxN p l = k + 1 ∧ l[k]? = some a ∧ p a = true ∧ ∀ b ∈ l.take k, p b = false := by
  induction l with
  | nil => exact absurd rfl h
  | cons b l ih =>
    unfold idxN at h ⊢
    cases hb : p b with
    | true => exact ⟨0, b, by simp, by simp, hb, fun x hx => by simp at hx⟩
    | false =>
      rw [hb] at h
      simp only [Bool.false_eq_true, if_false] at h ⊢
      have h2 : idxN p l ≠ 0 := fun e => h (by rw [e]; rfl)
      obtain ⟨k, a, e, hk, ha, hm⟩ := ih h2
      refine ⟨k + 1, a, by rw [if_neg h2, e], by simpa using hk, ha, fun x hx => ?_⟩
      rw [List.take_succ_cons] at hx
      rcases List.mem_cons.1 hx with rfl | hx
      · exact hb
      · exact hm x hx
theorem idx_zero : idxN p l = 0 ↔ ∀ b ∈ l, p b = false := by
  refine ⟨fun h => ?_, idx_none⟩
  intro b hb
  cases hq : p b with
  | false => rfl
  | true =>
    exfalso
    obtain ⟨i, hi⟩ := List.mem_iff_getElem?.1 hb
    induction l generalizing i with
    | nil => cases hb
    | cons x l ih =>
      unfold idxN at h
      by_cases hx : p x = true
      · rw [if_pos hx] at h; omega
      · rw [if_neg hx] at h
        by_cases h2 : idxN p l = 0
        · cases i with
          | zero => have e : x = b := by simpa using hi
                    rw [e] at hx; exact hx hq
          | succ i => exact ih h2 (List.mem_of_getElem? (i := i) (by simpa using hi)) i (by simpa using hi)
        · rw [if_neg h2] at h; omega
theorem idx_any : (decide (idxN p l ≠ 0)) = l.any p := by
  by_cases h : idxN p l = 0
  · rw [decide_eq_false (by rw [h]; simp)]
    symm
    rw [List.any_eq_false]
    intro b hb
    rw [idx_zero.1 h b hb]; simp
  · rw [decide_eq_true h]
    obtain ⟨k, a, _, hk, ha, _⟩ := idx_at h
    symm
    rw [List.any_eq_true]
    exact ⟨a, List.mem_of_getElem? hk, ha⟩
theorem none_next {l : List β} (h : ∀ b ∈ l.take k, p b = false) (ht : l.take (k + 1) = l.take k ++ [a]) (ha : p a = false) : ∀ b ∈ l.take (k + 1), p b = false := by
  intro b hb
  rw [ht] at hb
  rcases List.mem_append.1 hb with hb | hb
  · exact h b hb
  · rw [List.mem_singleton.1 hb]; exact ha
theorem none_all (h : ∀ b ∈ l.take k, p b = false) (hl : l.length = n) (hk : ¬ k < n) : idxN p l = 0 := by
  rw [List.take_of_length_le (by omega)] at h
  exact idx_none h
end
theorem boxN_idx (l : List Bx) (u : ByteArray) : boxN l u = idxN (fun b => decide (b.name = u)) l := by
  induction l with
  | nil => rfl
  | cons b l ih =>
    unfold boxN idxN
    rw [ih]
    simp only [decide_eq_true_eq]
def IsAt {β : Type} (l : List β) (p : β → Bool) (w : World) (e : Ending) (w' : World) : Prop := ∃ z : Int, e = .returned (.int .i64 z) ∧ z + 1 = (idxN p l : Int) ∧ -1 ≤ z ∧ z ≤ 140737488355328 ∧ Below w.heap.size w w'
def Enters (P : Program) (g : Nat) : Prop := ∀ (args : Array Value) (W : World), (callFunc g args).run P W = .ok (.enter g args) W
theorem enters_of {P : Program} {g : Nat} {fn : Func} (hf : P.funcs[g]? = some fn) (hname : (fn.name == "runtime.NumGoroutine") = false) (hb : fn.body.isSome = true) : Enters P g := by
  intro args W
  obtain ⟨c, hb⟩ := Option.isSome_iff_exists.1 hb
  have h1 : fn.name ≠ "runtime.NumGoroutine" := by simpa using hname
  simp [callFunc, hf, h1, hb]
theorem i64_wrap_nat (j : Nat) (h : j ≤ 4611686018427387904) : IntKind.i64.wrap (j : Int) = j := IntWalk.i64_in _ (by omega)
def CallP (P : Program) {α β : Type} (g : Nat) (caps : Array Value) (v : α → Value) (Q : World → Nat → α → Prop) (G : α → β) (l : List β) (p : β → Bool) (w : World) : Prop :=
  ∀ (W : World) (x : α), Below w.heap.size w W → G x ∈ l → Q W W.heap.size x → Calls P g (#[v x] ++ caps) W fun e W' => e = .returned (.bool (p (G x))) ∧ Below W.heap.size W W'
theorem CallP.later {P : Program} {α β : Type} {g : Nat} {caps : Array Value} {v : α → Value} {Q : World → Nat → α → Prop} {G : α → β} {l : List β} {p : β → Bool} {w w' : World} (h : CallP P g caps v Q G l p w) (hb : Below w.heap.size w w') : CallP P g caps v Q G l p w' :=
  fun W x hW hx hQ => h W x (hb.trans (hW.mono hb.size)) hx hQ
def CallK (P : Program) {α β : Type} (g : Nat) (v : α → Value) (Q : World → Nat → α → Prop) (G : α → β) (key : β → Value) : Prop :=
  ∀ (W : World) (x : α), Q W W.heap.size x → Calls P g #[v x] W fun e W' => e = .returned (key (G x)) ∧ Below W.heap.size W W'
def bhA (h : Bh) : Array Value := #[.string h.b.name, .int .i64 h.b.valid, .int .i64 h.b.next, .slice h.A h.n h.c]
theorem bhC_A (h : Bh) : (bhC h).toArray = bhA h := rfl
def thA (h : Th) : Array Value := #[.int .i64 h.t.id, .string h.t.box, .int .i64 h.t.at_, .int .i64 h.t.msg.uid, .int .i64 h.t.msg.flags, .int .i64 h.t.msg.date, .slice h.A h.n h.c]
theorem thC_A (h : Th) : (thC h).toArray = thA h := rfl
def rulA' (h : Rul) : Array Value := #[.string h.1, .int .i64 h.2]
theorem rulC_A' (h : Rul) : (rulC h).toArray = rulA' h := rfl
def TrueP {α : Type} (_ : World) (_ : Nat) (_ : α) : Prop := True
theorem trueStays {α : Type} : Stays (@TrueP α) := ⟨fun _ _ => trivial, fun _ _ => trivial⟩
abbrev RulesIn (w : World) (B : Nat) (A : Option Addr) (n : Nat) (l : List Rul) : Prop := Nest 2 rulC TrueP (id : Rul → Rul) w B A n l
abbrev StrsIn (w : World) (B : Nat) (A : Option Addr) (n : Nat) (l : List ByteArray) : Prop := Nest 1 strC TrueP (id : ByteArray → ByteArray) w B A n l
theorem ColK.nest {α : Type} {k : Nat} {f : α → List Value} {w : World} {B n : Nat} {A : Option Addr} {l : List α} (h : ColK k f w B A n l) : Nest k f TrueP (id : α → α) w B A n l := ⟨l, h, fun _ _ => trivial, List.map_id _⟩
theorem row1 {w : World} {b o : Nat} {x : ByteArray} (h : w.rangeAt b o (strC x)) : w.cell? ⟨b, o, none⟩ = some (.string x) := h 0 _ rfl
def intC (z : Int) : List Value := [.int .i64 z]
abbrev IntsIn (w : World) (B : Nat) (A : Option Addr) (n : Nat) (l : List Int) : Prop := Nest 1 intC TrueP (id : Int → Int) w B A n l
theorem rowI {w : World} {b o : Nat} {x : Int} (h : w.rangeAt b o (intC x)) : w.cell? ⟨b, o, none⟩ = some (.int .i64 x) := h 0 _ rfl
theorem Col.intsIn {w : World} {B n : Nat} {A : Option Addr} {l : List Int} (h : Col ints w B A n l) : IntsIn w B A n l := by
  refine ColK.nest ⟨h.1, fun hn => ?_⟩
  obtain ⟨b, o, e, hb, hc⟩ := h.2 hn
  refine ⟨b, o, e, hb, fun i a ha j v hv => ?_⟩
  cases j with
  | zero =>
    have e2 : Value.int .i64 a = v := by simpa [intC] using hv
    rw [← e2, Nat.mul_one, Nat.add_zero]
    exact hc i a ha
  | succ j => simp [intC] at hv
def okAll {β : Type} (most : Nat) (R : β → β → Prop) (p : β → Bool) (l : List β) : Prop := l.length ≤ most ∧ OkL (fun b => p b = true) R l
theorem Stays.later_ {α : Type} {P : World → Nat → α → Prop} (S : Stays P) {w w' : World} {a : α} (h : P w w.heap.size a) (hb : Below w.heap.size w w') : P w' w'.heap.size a :=
  S.more (S.keep h fun p hp => hb.cell (p := p) hp) hb.size
theorem Nest.later_ {α β : Type} {k : Nat} {f : α → List Value} {P : World → Nat → α → Prop} {g : α → β} {w w' : World} {n : Nat} {A : Option Addr} {l : List β} (h : Nest k f P g w w.heap.size A n l) (s : Stays P) (hb : Below w.heap.size w w') : Nest k f P g w' w'.heap.size A n l := h.later s hb
theorem pair_one1 {β : Type} {R : β → β → Prop} (l : List β) : (l.take 1).Pairwise R := by
  cases l with
  | nil => exact List.Pairwise.nil
  | cons a l => exact List.pairwise_singleton _ _
theorem pair_next2 {β : Type} {R : β → β → Prop} (tr : ∀ a b c, R a b → R b c → R a c) {l : List β} {j : Nat} {b a : β} (H : (l.take (j + 1)).Pairwise R) (hb : l[j]? = some b) (ha : l[j + 1]? = some a) (hr : R b a) : (l.take (j + 1 + 1)).Pairwise R := by
  rw [take_snocG ha]
  exact pair_nextG tr H (fun c hc => by rw [last_take hb] at hc; injection hc with hc; rw [← hc]; exact hr)
theorem all_says {β : Type} {most : Nat} {R : β → β → Prop} {p : β → Bool} {l : List β} {q : Bool} (h1 : l.length ≤ most) (h2 : l.Pairwise R) (hq : okAll most R p l ↔ q = true) : (!(l.any fun b => !p b)) = q := by
  have e : (l.any fun b => !p b) = !(l.all p) := List.not_all_eq_any_not.symm
  rw [e, Bool.not_not]
  cases hl : l.all p with
  | true =>
    refine (hq.1 ⟨h1, ?_, h2⟩).symm
    intro x hx
    exact List.all_eq_true.1 hl x hx
  | false =>
    cases hq2 : q with
    | false => rfl
    | true =>
      have := (hq.2 hq2).2.1
      rw [List.all_eq_false] at hl
      obtain ⟨x, hx, hn⟩ := hl
      exact absurd (this x hx) hn
theorem leq_bool (a b : ByteArray) : (decide (ltS a b) || (a.toList == b.toList)) = !decide (ltS b a) := by
  rw [str_eq13]
  by_cases h1 : ltS a b
  · rw [decide_eq_true h1, decide_eq_false (ltS_not h1)]; rfl
  · by_cases h2 : a = b
    · subst h2
      rw [decide_eq_false h1]; simp
    · rw [decide_eq_false h1, decide_eq_false h2]
      rcases ltS_tri a b with h | h | h
      · exact absurd h h1
      · exact absurd h h2
      · rw [decide_eq_true h]; rfl
theorem leq13 (a b : ByteArray) (W : World) : (binOp .leq 9 (.string a) (.string b)).run Tryz.prog W = .ok (.bool (!decide (ltS b a))) W := by
  rw [← leq_bool]
  show (Op.stringOp .leq a b).run Tryz.prog W = _
  unfold Op.stringOp
  rw [less13]
  rfl
end Go.Proofs.YtbogjfbfgbhdbaaGreatDoor
