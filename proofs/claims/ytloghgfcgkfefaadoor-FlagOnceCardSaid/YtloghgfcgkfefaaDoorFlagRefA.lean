/-
  Contracts over the document's own flags: names, small letters, a name's flag, names together, what is told, flags changed.
-/
import Derived.Test.YtloghgfcgkfefaaDoorFlagLawA
import Derived.Deep.RegionHeld3
namespace Go.Proofs.YtloghgfcgkfefaaDoor
open Go.RowKit
set_option linter.unusedVariables false
set_option linter.unusedSimpArgs false

theorem bytes_one (w : World) (c : Nat) (hc : c < 256) (t : TypeId) : Bytes (w.alloc (.cells #[.int .u8 (c : Int)] t)) (w.heap.size + 1) (some ⟨w.heap.size, 0, none⟩) 1 [c] := by
  refine ⟨rfl, by simpa using hc, fun _ => ⟨w.heap.size, 0, rfl, by omega, fun i hi => ?_⟩⟩
  obtain rfl : i = 0 := by omega
  rw [cell_of_row _ _ _ _ _ _ (heap_alloc_new w _)]
  rfl
theorem str_one (w : World) (c : Nat) (hc : c < 256) (t : TypeId) : (convert 35 9 (.slice (some ⟨w.heap.size, 0, none⟩) 1 1)).run Tryd.prog (w.alloc (.cells #[.int .u8 (c : Int)] t)) = .ok (.string (strOf [c])) (w.alloc (.cells #[.int .u8 (c : Int)] t)) :=
  run_str_of_bytes (P := Tryd.prog) (bytes_one w c hc t) Tryd.underlying35 Tryd.underlying5 Tryd.underlying9

set_option maxRecDepth 20000 in
set_option maxHeartbeats 2000000 in
theorem x8small_any (s : ByteArray) (hs : s.size ≤ 4294967296) (w : World) :
    Calls Tryd.prog 19 #[.string s] w fun e w' => e = .returned (.string (strOf ((nats s).map smallN))) ∧ Below w.heap.size w w' := by
  have h64 : s.size ≤ 9223372036854775807 := by omega
  have HN := Lib.hid (nats_length s)
  go_enter Tryd.func19, Tryd.ntmps19
  go_wp2_with fail
  go_loopw [3, 4] (fun o i wx => ∃ k : Nat, k ≤ s.size ∧ i = .int .i64 (k : Int) ∧ o = .string (strOf (((nats s).take k).map smallN)) ∧ Below w.heap.size w wx) (fun _ i _ => s.size - (intOf i).toNat)
  case atStart => exact ⟨0, Nat.zero_le _, rfl, by simp; rfl, Below.refl _ _⟩
  case round =>
    obtain ⟨k, hk, rfl, rfl, hb⟩ := hrel
    have HB := Lib.hid hb
    clear hb
    by_cases hlt : k < s.size
    · have hx := nats_byte s k hlt
      have hcb : s[k].toNat < 256 := s[k].toNat_lt
      have HS := Lib.hid (take_snoc_n (nats s) k _ hx)
      have hlk : (((nats s).take k).map smallN).length ≤ 4294967296 := by rw [List.length_map, List.length_take]; omega
      have kc := str_one wr (smallN s[k].toNat) (smallN_lt hcb) 5
      have ka := fun W => add_str (strOf (((nats s).take k).map smallN)) (strOf [smallN s[k].toNat]) (((nats s).take k).map smallN) [smallN s[k].toNat] rfl rfl (by simp at hlk ⊢; omega) W
      obtain ⟨acc, hacc⟩ : ∃ l, ((nats s).take k).map smallN = l := ⟨_, rfl⟩
      rw [hacc] at ka ⊢
      have HACC := Lib.hid hacc
      clear hx hlk hacc
      have hend : ((nats s).take (k + 1)).map smallN = acc ++ [smallN s[k].toNat] := by rw [HS.out, List.map_append, HACC.out]; rfl
      have HE := Lib.hid hend
      clear hend
      rcases (by omega : s[k].toNat < 65 ∨ (65 ≤ s[k].toNat ∧ s[k].toNat ≤ 90) ∨ (65 ≤ s[k].toNat ∧ 90 < s[k].toNat)) with hc1 | ⟨hc1, hc2⟩ | ⟨hc1, hc2⟩
      · rw [show smallN s[k].toNat = s[k].toNat from if_neg (by omega)] at kc ka HE
        go_wp2_with fail
        go_roundw
        case rel => exact ⟨k + 1, by omega, by go_num, by rw [HE.out], HB.out.alloc HB.out.size _⟩
        case measure => simp [intOf]; omega
      · rw [show smallN s[k].toNat = s[k].toNat + 32 from if_pos ⟨hc1, hc2⟩] at kc ka HE
        rw [show ((s[k].toNat + 32 : Nat) : Int) = (s[k].toNat : Int) + 32 from by omega] at kc
        go_wp2_with fail
        go_roundw
        case rel => exact ⟨k + 1, by omega, by go_num, by rw [HE.out], HB.out.alloc HB.out.size _⟩
        case measure => simp [intOf]; omega
      · rw [show smallN s[k].toNat = s[k].toNat from if_neg (by omega)] at kc ka HE
        go_wp2_with fail
        go_roundw
        case rel => exact ⟨k + 1, by omega, by go_num, by rw [HE.out], HB.out.alloc HB.out.size _⟩
        case measure => simp [intOf]; omega
    · have htk : (nats s).take k = nats s := List.take_of_length_le (by rw [HN.out]; omega)
      rw [htk]
      clear htk
      go_wp2_with fail
      go_ret
      exact ⟨rfl, HB.out⟩

theorem sameB_str (l m : List Nat) (hl : ∀ x ∈ l, x < 256) (hm : ∀ x ∈ m, x < 256) : ((strOf (l.map smallN)).toList == (strOf (m.map smallN)).toList) = sameB l m := by
  have f : ∀ (q : List Nat), (∀ x ∈ q, x < 256) → ∀ x ∈ q.map smallN, x < 256 := fun q hq x hx => by
    obtain ⟨y, hy, rfl⟩ := List.mem_map.1 hx
    exact smallN_lt (hq y hy)
  rw [strOf_eqb _ _ (f l hl) (f m hm)]
  rfl


/-- the document's names and bits lie in two blocks -/
def Nm (w : World) (g h : Nat) : Prop := g < w.heap.size ∧ h < w.heap.size ∧ (∀ k, k < 5 → w.cell? ⟨g, k, none⟩ = some (.string (strOf (flagS k)))) ∧ ∀ k, k < 5 → w.cell? ⟨h, k, none⟩ = some (.int .i64 (bitN k : Nat))
theorem Nm.below {w w' : World} {g h : Nat} (H : Nm w g h) (hb : Below w.heap.size w w') : Nm w' g h :=
  ⟨Nat.lt_of_lt_of_le H.1 hb.size, Nat.lt_of_lt_of_le H.2.1 hb.size, fun k hk => (hb.cell (p := ⟨g, k, none⟩) H.1).trans (H.2.2.1 k hk), fun k hk => (hb.cell (p := ⟨h, k, none⟩) H.2.1).trans (H.2.2.2 k hk)⟩
theorem five {p : Nat → Prop} (h0 : p 0) (h1 : p 1) (h2 : p 2) (h3 : p 3) (h4 : p 4) : ∀ k, k < 5 → p k := fun k hk => by
  rcases (by omega : k = 0 ∨ k = 1 ∨ k = 2 ∨ k = 3 ∨ k = 4) with rfl | rfl | rfl | rfl | rfl <;> assumption
set_option maxRecDepth 20000 in
set_option maxHeartbeats 2000000 in
theorem x8names_any (w : World) : Calls Tryd.prog 18 #[] w fun e w' => ∃ g h, e = .returned (.tuple #[.slice (some ⟨g, 0, none⟩) 5 5, .slice (some ⟨h, 0, none⟩) 5 5]) ∧ Nm w' g h ∧ Below w.heap.size w w' := by
  go_enter Tryd.func18, Tryd.ntmps18
  go_wp2
  go_ret2
  refine ⟨w.heap.size, w.heap.size + 1, rfl, ⟨by simp; omega, by simp, ?_, ?_⟩, ((Below.refl _ _).alloc (Nat.le_refl _) _).alloc (by simp) _⟩
  · intro k hk
    have hold : ∀ (o o' : Obj), ((w.alloc o).alloc o').cell? ⟨w.heap.size, k, none⟩ = (w.alloc o).cell? ⟨w.heap.size, k, none⟩ := fun o o' => by
      have := ((Below.refl (w.alloc o).heap.size (w.alloc o)).alloc (Nat.le_refl _) o').cell (p := ⟨w.heap.size, k, none⟩) (by simp)
      exact this
    rw [hold, cell_of_row _ w.heap.size k _ _ (0, 0) (heap_alloc_new w _)]
    clear hold
    revert k
    exact five rfl rfl rfl rfl rfl
  · intro k hk
    have e : ∀ (o o' : Obj), ((w.alloc o).alloc o').heap[w.heap.size + 1]? = some o' := fun o o' => by
      have := heap_alloc_new (w.alloc o) o'
      rwa [World.size_alloc] at this
    rw [cell_of_row _ (w.heap.size + 1) k _ _ (0, 0) (e _ _)]
    clear e
    revert k
    exact five rfl rfl rfl rfl rfl

set_option maxRecDepth 20000 in
set_option maxHeartbeats 8000000 in
theorem x8one_any (s : ByteArray) (hs : s.size ≤ 140737488355328) (w : World) :
    Calls Tryd.prog 8 #[.string s] w fun e w' => ∃ z d : Int, e = .returned (.tuple #[.int .i64 z, .int .i64 d]) ∧ z = (oneN (nats s) : Nat) ∧ d = oneE (oneN (nats s)) ∧ Below w.heap.size w w' := by
  have h64 : s.size ≤ 9223372036854775807 := by omega
  by_cases h20 : s.size < 20
  · have h20' : (s.size : Int) < 20 := by omega
    go_enter Tryd.func8, Tryd.ntmps8
    go_wp2_with fail
    refine (x8names_any w).mono ?_
    rintro e w1 ⟨g, h, rfl, hN, hb1⟩
    have HN := Lib.hid hN
    have HB1 := Lib.hid hb1
    clear hN hb1
    go_wp2_with fail
    go_loopw [6] (fun i wx => ∃ k : Nat, k ≤ 5 ∧ i = .int .i64 (k : Int) ∧ oneUp (nats s) k = 0 ∧ Nm wx g h ∧ Below w.heap.size w wx) (fun i _ => 5 - (intOf i).toNat)
    case atStart => exact ⟨0, by omega, rfl, rfl, HN.out, HB1.out⟩
    case round =>
      obtain ⟨k, hk, rfl, hm, hNr, hb⟩ := hrel
      have HB := Lib.hid hb
      have HU := Lib.hid hm
      have HNR := Lib.hid hNr
      clear hb hm hNr HN HB1
      by_cases hlt : k < 5
      · have hsz : (strOf (flagS k)).size ≤ 4294967296 := by rw [strOf_size]; have := flagS_le k; omega
        have HNS : Hid (nats (strOf (flagS k)) = flagS k) := Lib.hid (nats_strOf _ (flagS_lt _))
        have HEQ := Lib.hid (sameB_str (nats s) (flagS k) (nats_lt s) (flagS_lt _))
        have hc := HNR.out.2.2.1 k hlt
        have hgw : g < wr.drew.heap.size := HNR.out.1
        have hk0 : (0 : Int) ≤ (k : Int) := by omega
        have hk5 : (k : Int) < 5 := by omega
        go_wp2_with fail
        have hm : Tryd.prog.follows .mixedOrders = true := by kernel_rfl
        refine wp_region_held_drew (S := fun W' => W'.cell? ⟨g, k, none⟩ = some (.string (strOf (flagS k)))) hm hc (fun hHeld => ?_)
        have HBW := Lib.hid (HB.out.trans ((Below.refl wr.heap.size wr).drew.mono HB.out.size))
        have HNW := Lib.hid (HNR.out.below (Below.refl wr.heap.size wr).drew)
        clear HB HNR hc
        generalize wr.drew = W at *
        simp only [List.size_toArray, List.length_cons, List.length_nil, Nat.reduceAdd]
        refine wpAnyH_take (i := 0) (v := .string s) rfl (by kernel_rfl) (by kernel_rfl) (by kernel_rfl) (fun _ _ _ h => h) (Or.inl ⟨by rfl, fun w0 hC => by simp [execOp, Act.eval, Act.put, go_sem]⟩) hHeld ?_
        try simp only [Act.put, List.setIfInBounds_toArray, List.set_cons_zero, List.set_cons_succ, List.getElem_toArray, List.getElem_cons_zero, List.getElem_cons_succ]
        refine wpAnyH_take (i := 2) (v := .slice (some ⟨g, 0, none⟩) 5 5) rfl (by kernel_rfl) (by kernel_rfl) (by kernel_rfl) (fun _ _ _ h => h) (Or.inl ⟨by rfl, fun w0 hC => by simp [execOp, Act.eval, Act.put, go_sem]⟩) hHeld ?_
        try simp only [Act.put, List.setIfInBounds_toArray, List.set_cons_zero, List.set_cons_succ, List.getElem_toArray, List.getElem_cons_zero, List.getElem_cons_succ]
        refine wpAnyH_take (i := 3) (v := .int .i64 (k : Int)) rfl (by kernel_rfl) (by kernel_rfl) (by kernel_rfl) (fun _ _ _ h => h) (Or.inl ⟨by rfl, fun w0 hC => by simp [execOp, Act.eval, Act.put, go_sem]⟩) hHeld ?_
        try simp only [Act.put, List.setIfInBounds_toArray, List.set_cons_zero, List.set_cons_succ, List.getElem_toArray, List.getElem_cons_zero, List.getElem_cons_succ]
        refine wpAnyH_take (i := 4) (v := .pointer (some ⟨g, k, none⟩)) rfl (by kernel_rfl) (by kernel_rfl) (by kernel_rfl) (fun _ _ _ h => h) (Or.inl ⟨by rfl, fun w0 hC => by simp [execOp, Act.eval, Act.put, go_sem, hk0, hk5, hlt]⟩) hHeld ?_
        try simp only [Act.put, List.setIfInBounds_toArray, List.set_cons_zero, List.set_cons_succ, List.getElem_toArray, List.getElem_cons_zero, List.getElem_cons_succ]
        refine wpAnyH_take (i := 5) (v := .string (strOf (flagS k))) rfl (by kernel_rfl) (by kernel_rfl) (by kernel_rfl) (fun _ _ _ h => h) (Or.inl ⟨by rfl, fun w0 hC => by simp [execOp, Act.eval, Act.put, go_sem, hC]⟩) hHeld ?_
        try simp only [Act.put, List.setIfInBounds_toArray, List.set_cons_zero, List.set_cons_succ, List.getElem_toArray, List.getElem_cons_zero, List.getElem_cons_succ]
        refine wpAnyH_ready (rs := [1]) (by kernel_rfl) (by simp) (AllReadyH.cons rfl (fun K hK => ?_) AllReadyH.nil)
        rw [if_pos (by rfl)]
        go_wp2_with fail
        refine (x8small_any s (by omega) W).mono ?_
        rintro e W2 ⟨rfl, hb2⟩
        have hS := (hb2.cell (p := ⟨g, k, none⟩) hgw).trans hHeld
        have HB2 := Lib.hid (HBW.out.trans (hb2.mono HBW.out.size))
        have HN2 := Lib.hid (HNW.out.below hb2)
        clear hb2 HBW HNW hHeld
        refine hK.out _ _ hS (fun hHeld => ?_)
        clear hK K
        try simp only [Act.put, List.setIfInBounds_toArray, List.set_cons_zero, List.set_cons_succ, List.getElem_toArray, List.getElem_cons_zero, List.getElem_cons_succ]
        refine wpAnyH_ready (rs := [6]) (by kernel_rfl) (by simp) (AllReadyH.cons rfl (fun K hK => ?_) AllReadyH.nil)
        rw [if_pos (by rfl)]
        go_wp2_with fail
        refine (x8small_any (strOf (flagS k)) hsz W2).mono ?_
        rintro e W3 ⟨rfl, hb3⟩
        rw [HNS.out]
        have hS3 := (hb3.cell (p := ⟨g, k, none⟩) HN2.out.1).trans hS
        have HB3 := Lib.hid (HB2.out.trans (hb3.mono HB2.out.size))
        have HN3 := Lib.hid (HN2.out.below hb3)
        clear hb3 HB2 HN2 hHeld hS
        refine hK.out _ _ hS3 (fun hHeld => ?_)
        clear hK K
        try simp only [Act.put, List.setIfInBounds_toArray, List.set_cons_zero, List.set_cons_succ, List.getElem_toArray, List.getElem_cons_zero, List.getElem_cons_succ]
        clear hS3
        have hcb := HN3.out.2.2.2 k hlt
        cases hsm : sameB (nats s) (flagS k)
        · have HSM := Lib.hid hsm
          have heq := HEQ.out
          rw [hsm] at heq
          clear hsm
          refine wpAnyH_take (i := 7) (v := .bool false) rfl (by kernel_rfl) (by kernel_rfl) (by kernel_rfl) (fun _ _ _ h => h) (Or.inl ⟨by rfl, fun w0 hC => by simp [execOp, Act.eval, Act.put, go_sem, heq]⟩) hHeld ?_
          try simp only [Act.put, List.setIfInBounds_toArray, List.set_cons_zero, List.set_cons_succ, List.getElem_toArray, List.getElem_cons_zero, List.getElem_cons_succ]
          refine wpAnyH_done (by kernel_rfl) ?_ _
          clear hHeld heq
          go_wp2_with fail
          go_roundw
          case rel => exact ⟨k + 1, by omega, by go_num, oneUp_miss HU.out HSM.out, HN3.out, HB3.out⟩
          case measure => simp [intOf]; omega
        · have HSM := Lib.hid hsm
          have heq := HEQ.out
          rw [hsm] at heq
          clear hsm
          refine wpAnyH_take (i := 7) (v := .bool true) rfl (by kernel_rfl) (by kernel_rfl) (by kernel_rfl) (fun _ _ _ h => h) (Or.inl ⟨by rfl, fun w0 hC => by simp [execOp, Act.eval, Act.put, go_sem, heq]⟩) hHeld ?_
          try simp only [Act.put, List.setIfInBounds_toArray, List.set_cons_zero, List.set_cons_succ, List.getElem_toArray, List.getElem_cons_zero, List.getElem_cons_succ]
          refine wpAnyH_done (by kernel_rfl) ?_ _
          clear hHeld heq
          go_wp2_with fail
          go_ret2
          have hmn := oneN_hit hlt HU.out HSM.out
          have hb1 := (bitN_lt hlt).1
          exact ⟨_, _, rfl, by rw [hmn], by rw [hmn]; unfold oneE; rw [if_neg (by omega)], HB3.out⟩
      · have hmn : oneN (nats s) = 0 := by obtain rfl : k = 5 := by omega
                                           exact HU.out
        have HMN := Lib.hid hmn
        have hk5 : ¬ (k : Int) < 5 := by omega
        clear hmn
        go_wp2_with fail
        go_ret2
        exact ⟨_, _, rfl, by rw [HMN.out]; rfl, by rw [HMN.out]; rfl, HB.out⟩
  · have HMN := Lib.hid (oneN_long (l := nats s) (by rw [nats_length]; omega))
    have h20' : ¬ (s.size : Int) < 20 := by omega
    go_enter Tryd.func8, Tryd.ntmps8
    go_wp2_with fail
    refine (x8names_any w).mono ?_
    rintro e w1 ⟨g, h, rfl, hN, hb1⟩
    have HB1 := Lib.hid hb1
    clear hN hb1
    go_wp2_with fail
    go_loopw [6] (fun i wx => i = .int .i64 0 ∧ wx = w1) (fun i _ => 0)
    case atStart => exact ⟨rfl, rfl⟩
    case round =>
      obtain ⟨rfl, rfl⟩ := hrel
      go_wp2_with fail
      go_ret2
      exact ⟨_, _, rfl, by rw [HMN.out]; rfl, by rw [HMN.out]; rfl, HB1.out⟩

set_option maxRecDepth 20000 in
set_option maxHeartbeats 1000000 in
theorem x8apply_any (f m g : Int) (w : World) : Calls Tryd.prog 12 #[.int .i64 f, .int .i64 m, .int .i64 g] w fun e w' => ∃ z d : Int, e = .returned (.tuple #[.int .i64 z, .int .i64 d]) ∧ z = appV f m g ∧ d = appE f m g ∧ w = w' := by
  cases hf : rightB f
  · have HA := Lib.hid (app_no1 (m := m) (g := g) hf)
    go_enter Tryd.func12, Tryd.ntmps12
    go_wp2_with fail
    refine (x8right_any f w).mono ?_
    rintro e w' ⟨rfl, rfl⟩
    rw [hf]
    go_wp2_with fail
    go_ret2
    exact ⟨_, _, rfl, HA.out.1.symm, HA.out.2.symm, rfl⟩
  · cases hg : rightB g
    · have HA := Lib.hid (app_no2 (f := f) (m := m) hg)
      go_enter Tryd.func12, Tryd.ntmps12
      go_wp2_with fail
      refine (x8right_any f w).mono ?_
      rintro e w' ⟨rfl, rfl⟩
      rw [hf]
      go_wp2_with fail
      refine (x8right_any g w).mono ?_
      rintro e w' ⟨rfl, rfl⟩
      rw [hg]
      go_wp2_with fail
      go_ret2
      exact ⟨_, _, rfl, HA.out.1.symm, HA.out.2.symm, rfl⟩
    · rcases (by omega : m = 0 ∨ m = 1 ∨ m = 2 ∨ ¬ (0 ≤ m ∧ m ≤ 2)) with rfl | rfl | rfl | hm
      · have HA := Lib.hid (app_0 hf hg)
        go_enter Tryd.func12, Tryd.ntmps12
        go_wp2_with fail
        refine (x8right_any f w).mono ?_
        rintro e w' ⟨rfl, rfl⟩
        rw [hf]
        go_wp2_with fail
        refine (x8right_any g w).mono ?_
        rintro e w' ⟨rfl, rfl⟩
        rw [hg]
        go_wp2_with fail
        go_ret2
        exact ⟨_, _, rfl, HA.out.1.symm, HA.out.2.symm, rfl⟩
      · have HA := Lib.hid (app_1 hf hg)
        go_enter Tryd.func12, Tryd.ntmps12
        go_wp2_with fail
        refine (x8right_any f w).mono ?_
        rintro e w' ⟨rfl, rfl⟩
        rw [hf]
        go_wp2_with fail
        refine (x8right_any g w).mono ?_
        rintro e w' ⟨rfl, rfl⟩
        rw [hg]
        go_wp2_with fail
        go_ret2
        exact ⟨_, _, rfl, HA.out.1.symm, HA.out.2.symm, rfl⟩
      · have HA := Lib.hid (app_2 hf hg)
        go_enter Tryd.func12, Tryd.ntmps12
        go_wp2_with fail
        refine (x8right_any f w).mono ?_
        rintro e w' ⟨rfl, rfl⟩
        rw [hf]
        go_wp2_with fail
        refine (x8right_any g w).mono ?_
        rintro e w' ⟨rfl, rfl⟩
        rw [hg]
        go_wp2_with fail
        go_ret2
        exact ⟨_, _, rfl, HA.out.1.symm, HA.out.2.symm, rfl⟩
      · have HA := Lib.hid (app_mode hf hg hm)
        have f0 : (m == 0) = false := by simp; omega
        have f1 : (m == 1) = false := by simp; omega
        have f2 : (m == 2) = false := by simp; omega
        go_enter Tryd.func12, Tryd.ntmps12
        go_wp2_with fail
        refine (x8right_any f w).mono ?_
        rintro e w' ⟨rfl, rfl⟩
        rw [hf]
        go_wp2_with fail
        refine (x8right_any g w).mono ?_
        rintro e w' ⟨rfl, rfl⟩
        rw [hg]
        go_wp2_with fail
        all_goals
          go_ret2
          exact ⟨_, _, rfl, HA.out.1.symm, HA.out.2.symm, rfl⟩


end Go.Proofs.YtloghgfcgkfefaaDoor
