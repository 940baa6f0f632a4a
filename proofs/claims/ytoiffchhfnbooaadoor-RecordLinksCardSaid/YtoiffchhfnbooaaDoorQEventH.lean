/-
  Contracts over package event: the bytes of an event's part behind others.
-/
import Derived.Test.YtoiffchhfnbooaaDoorQEventF
import Derived.Test.YtoiffchhfnbooaaDoorQPackWalksB
import Derived.Deep.DeepCutAuto
import Derived.Deep.RegionHeld3
namespace Go.Proofs.YtoiffchhfnbooaaDoor
set_option linter.unusedVariables false
set_option linter.unusedSimpArgs false
open Go.RowKit
set_option linter.unusedVariables false
set_option linter.unusedSimpArgs false

/-- bytes of one's own are answered -/
def GiveB (l : List Nat) (w : World) (e : Ending) (w' : World) : Prop := ∃ A N c, e = .returned (.slice A N c) ∧ OwnB w' w.heap.size 5 A N c l ∧ Below w.heap.size w w'
theorem Made.give {w W w' : World} {n : Nat} {l l' : List Nat} {e : Ending} (h : Made W.heap.size W n l e w') (hb : Below w.heap.size w W) (hl : l = l') : GiveB l' w e w' := by
  subst hl
  obtain ⟨A, c, he, ho, hb2⟩ := h
  exact ⟨A, n, c, he, ho.base_le hb.size, hb.trans (hb2.mono hb.size)⟩
theorem one_text (s : ByteArray) : textsB ([s].map nats) = textB (nats s) := by rw [List.map_cons, List.map_nil, textsB_cons, textsB_nil, List.append_nil]
theorem col_ints {w : World} {B n : Nat} {A : Option Addr} {l : List Int} (h : Col ints w B A n l) : Col (fun z => .int .i64 z) w B A n l := h

set_option maxRecDepth 20000 in
set_option maxHeartbeats 4000000 in
theorem evlay_98 (A : Option Addr) (n c : Nat) (l : List Nat) (h : Eh) (w : World) (hl : Bytes w w.heap.size A n l) (Hh : EvIn w w.heap.size h) (ok : okQ h.e 98 = true) (hn : n ≤ 100000) :
    Calls Tryd.prog 19 #[.slice A n c, .agg (evC h), .int .i32 98] w (GiveB (l ++ layP h.e 98) w) := by
  have HH := Lib.hid Hh
  have HL := Lib.hid hl
  have OK := Lib.hid ok
  clear Hh hl ok
  go_enter Tryd.func19, Tryd.ntmps19

  go_upto_region 3 with (fail)
  refine code_over (fun W => Bk W w.heap.size 34 (evC h) ∧ Below w.heap.size w W) ⟨Bk.new _ _ _, (Below.refl _ _).alloc (Nat.le_refl _) _⟩ ?_
  rintro W ⟨q1, q2⟩
  have f0 : W.cell? ⟨w.heap.size, 2, none⟩ = some (.string h.e.box) := q1.cell 2
  have Q2 := Lib.hid q2
  have hlt := q1.lt
  clear q1 q2
  have HB : Hid (Below w.heap.size w (W.alloc (.cells #[.string h.e.box] 9))) := Lib.hid (Q2.out.alloc Q2.out.size _)
  have CT := Lib.hid (ptext_any A n c l (some ⟨W.heap.size, 0, none⟩) 1 1 [h.e.box] _ (HL.out.later HB.out) (by simpa using Col.one W Value.string h.e.box rfl 9) (by intro s hs; rw [List.mem_singleton.1 hs]; exact HH.out.2.2.2.2.2.2.1) (by omega))
  go_wp2_with fail
  refine CT.out.mono ?_
  rintro e W3 hm
  obtain ⟨A3, N3, c3, rfl, ho, hb⟩ := hm.give (l' := l ++ layP h.e 98) HB.out (by rw [one_text]; rfl)
  have HO := Lib.hid ho
  have HB3 := Lib.hid hb
  clear ho hb hm CT HB
  go_wp2_with fail
  go_ret
  exact ⟨A3, N3, c3, rfl, HO.out, HB3.out⟩

set_option maxRecDepth 20000 in
set_option maxHeartbeats 4000000 in
theorem evlay_116 (A : Option Addr) (n c : Nat) (l : List Nat) (h : Eh) (w : World) (hl : Bytes w w.heap.size A n l) (Hh : EvIn w w.heap.size h) (ok : okQ h.e 116 = true) (hn : n ≤ 100000) :
    Calls Tryd.prog 19 #[.slice A n c, .agg (evC h), .int .i32 116] w (GiveB (l ++ layP h.e 116) w) := by
  have HH := Lib.hid Hh
  have HL := Lib.hid hl
  have OK := Lib.hid ok
  clear Hh hl ok
  go_enter Tryd.func19, Tryd.ntmps19

  go_upto_region 5 with (fail)
  refine code_over (fun W => Bk W w.heap.size 34 (evC h) ∧ Below w.heap.size w W) ⟨Bk.new _ _ _, (Below.refl _ _).alloc (Nat.le_refl _) _⟩ ?_
  rintro W ⟨q1, q2⟩
  have f0 : W.cell? ⟨w.heap.size, 3, none⟩ = some (.string h.e.to_) := q1.cell 3
  have Q2 := Lib.hid q2
  have hlt := q1.lt
  clear q1 q2
  have HB : Hid (Below w.heap.size w (W.alloc (.cells #[.string h.e.to_] 9))) := Lib.hid (Q2.out.alloc Q2.out.size _)
  have CT := Lib.hid (ptext_any A n c l (some ⟨W.heap.size, 0, none⟩) 1 1 [h.e.to_] _ (HL.out.later HB.out) (by simpa using Col.one W Value.string h.e.to_ rfl 9) (by intro s hs; rw [List.mem_singleton.1 hs]; exact HH.out.2.2.2.2.2.2.2) (by omega))
  go_wp2_with fail
  refine CT.out.mono ?_
  rintro e W3 hm
  obtain ⟨A3, N3, c3, rfl, ho, hb⟩ := hm.give (l' := l ++ layP h.e 116) HB.out (by rw [one_text]; rfl)
  have HO := Lib.hid ho
  have HB3 := Lib.hid hb
  clear ho hb hm CT HB
  go_wp2_with fail
  go_ret
  exact ⟨A3, N3, c3, rfl, HO.out, HB3.out⟩

set_option maxRecDepth 20000 in
set_option maxHeartbeats 4000000 in
theorem evlay_105 (A : Option Addr) (n c : Nat) (l : List Nat) (h : Eh) (w : World) (hl : Bytes w w.heap.size A n l) (Hh : EvIn w w.heap.size h) (ok : okQ h.e 105 = true) (hn : n ≤ 100000) :
    Calls Tryd.prog 19 #[.slice A n c, .agg (evC h), .int .i32 105] w (GiveB (l ++ layP h.e 105) w) := by
  have HH := Lib.hid Hh
  have HL := Lib.hid hl
  have OK := Lib.hid ok
  clear Hh hl ok
  go_enter Tryd.func19, Tryd.ntmps19

  go_upto_region 7 with (fail)
  refine code_over (fun W => Bk W w.heap.size 34 (evC h) ∧ Below w.heap.size w W) ⟨Bk.new _ _ _, (Below.refl _ _).alloc (Nat.le_refl _) _⟩ ?_
  rintro W ⟨q1, q2⟩
  have f0 : W.cell? ⟨w.heap.size, 4, none⟩ = some (.slice h.A1 h.n1 h.c1) := q1.cell 4
  have Q2 := Lib.hid q2
  have hlt := q1.lt
  clear q1 q2
  have hlen : h.e.ids.length = h.n1 := HH.out.1.1
  have HN : Hid (h.e.ids.length = h.n1) := Lib.hid hlen
  have h60 : h.n1 ≤ 60 := by have := (idsB_len (l := h.e.ids) OK.out).2; omega
  clear hlen
  go_wp2_with fail
  refine wp_region_held_drew (S := fun W' => Below W.heap.size W W') (by kernel_rfl) (show Below W.heap.size W W.drew from (Below.refl _ _).drew) (fun hHeld => ?_)
  have hltW : w.heap.size < W.heap.size := hlt
  simp only [List.size_toArray, List.length_cons, List.length_nil, Nat.reduceAdd]
  refine wpAnyH_take (i := 0) (v := .slice A n c) rfl (by kernel_rfl) (by kernel_rfl) (by kernel_rfl) (fun _ _ _ h => h) (Or.inl ⟨by rfl, fun w0 hC => by simp [execOp, Act.eval, Act.put, go_sem]⟩) hHeld ?_
  try simp only [Act.put, List.setIfInBounds_toArray, List.set_cons_zero, List.set_cons_succ, List.getElem_toArray, List.getElem_cons_zero, List.getElem_cons_succ]
  refine wpAnyH_take (i := 1) (v := .pointer (some ⟨w.heap.size, 4, none⟩)) rfl (by kernel_rfl) (by kernel_rfl) (by kernel_rfl) (fun _ _ _ h => h) (Or.inl ⟨by rfl, fun w0 hC => by simp [execOp, Act.eval, Act.put, go_sem]⟩) hHeld ?_
  try simp only [Act.put, List.setIfInBounds_toArray, List.set_cons_zero, List.set_cons_succ, List.getElem_toArray, List.getElem_cons_zero, List.getElem_cons_succ]
  refine wpAnyH_take (i := 2) (v := .slice h.A1 h.n1 h.c1) rfl (by kernel_rfl) (by kernel_rfl) (by kernel_rfl) (fun _ _ _ h => h) (Or.inl ⟨by rfl, fun w0 hC => by simp [execOp, Act.eval, Act.put, go_sem, (hC.cell (p := ⟨w.heap.size, 4, none⟩) hltW).trans f0]⟩) hHeld ?_
  try simp only [Act.put, List.setIfInBounds_toArray, List.set_cons_zero, List.set_cons_succ, List.getElem_toArray, List.getElem_cons_zero, List.getElem_cons_succ]
  refine wpAnyH_take (i := 3) (v := .int .i64 (h.n1 : Int)) rfl (by kernel_rfl) (by kernel_rfl) (by kernel_rfl) (fun _ _ _ h => h) (Or.inl ⟨by rfl, fun w0 hC => by simp [execOp, Act.eval, Act.put, go_sem]⟩) hHeld ?_
  try simp only [Act.put, List.setIfInBounds_toArray, List.set_cons_zero, List.set_cons_succ, List.getElem_toArray, List.getElem_cons_zero, List.getElem_cons_succ]
  refine wpAnyH_take (i := 6) (v := .pointer (some ⟨w.heap.size, 4, none⟩)) rfl (by kernel_rfl) (by kernel_rfl) (by kernel_rfl) (fun _ _ _ h => h) (Or.inl ⟨by rfl, fun w0 hC => by simp [execOp, Act.eval, Act.put, go_sem]⟩) hHeld ?_
  try simp only [Act.put, List.setIfInBounds_toArray, List.set_cons_zero, List.set_cons_succ, List.getElem_toArray, List.getElem_cons_zero, List.getElem_cons_succ]
  refine wpAnyH_take (i := 7) (v := .slice h.A1 h.n1 h.c1) rfl (by kernel_rfl) (by kernel_rfl) (by kernel_rfl) (fun _ _ _ h => h) (Or.inl ⟨by rfl, fun w0 hC => by simp [execOp, Act.eval, Act.put, go_sem, (hC.cell (p := ⟨w.heap.size, 4, none⟩) hltW).trans f0]⟩) hHeld ?_
  try simp only [Act.put, List.setIfInBounds_toArray, List.set_cons_zero, List.set_cons_succ, List.getElem_toArray, List.getElem_cons_zero, List.getElem_cons_succ]
  obtain ⟨V0, hV0⟩ : ∃ V, V = W.drew := ⟨_, rfl⟩
  rw [← hV0] at hHeld ⊢
  clear hV0
  have K0 := Lib.hid (Q2.out.trans (hHeld.mono Q2.out.size))
  refine wpAnyH_ready (rs := [4]) (by kernel_rfl) (by simp) (AllReadyH.cons rfl (fun K hK => ?_) AllReadyH.nil)
  rw [if_pos (by rfl)]
  go_wp2_with fail
  have hSa := hHeld.alloc hHeld.size (.cells #[.int .i64 (h.n1 : Int)] 3)
  have HB : Hid (Below w.heap.size w (V0.alloc (.cells #[.int .i64 (h.n1 : Int)] 3))) := Lib.hid (K0.out.alloc K0.out.size _)
  have CT := Lib.hid (pnum_any A n c l (some ⟨V0.heap.size, 0, none⟩) 1 1 [(h.n1 : Int)] _ (HL.out.later HB.out) (by simpa using Col.one V0 (fun z => .int .i64 z) (h.n1 : Int) rfl 3) (by omega))
  clear hHeld
  refine hK.out _ _ hSa (fun hHeld => ?_)
  clear hK K
  try simp only [Act.put, List.setIfInBounds_toArray, List.set_cons_zero, List.set_cons_succ, List.getElem_toArray, List.getElem_cons_zero, List.getElem_cons_succ]
  clear hSa
  refine wpAnyH_ready (rs := [5]) (by kernel_rfl) (by simp) (AllReadyH.cons rfl (fun K hK => ?_) AllReadyH.nil)
  rw [if_pos (by rfl)]
  go_wp2_with fail
  refine CT.out.mono ?_
  rintro e V1 hm
  have hbm := (hm.give (w := V0.alloc (.cells #[.int .i64 (h.n1 : Int)] 3)) (Below.refl _ _) rfl)
  obtain ⟨A3, N3, c3, rfl, ho, hb⟩ := hbm
  have hN3 := ho.len
  have HO := Lib.hid ho
  have K1 := Lib.hid (HB.out.trans (hb.mono HB.out.size))
  have hSa := hHeld.trans (hb.mono hHeld.size)
  have HN3 : Hid (N3 ≤ n + 8) := Lib.hid (by rw [← hN3, List.length_append, numsB_length, HL.out.1]; simp)
  clear hHeld ho hb hm CT HB hN3
  refine hK.out _ _ hSa (fun hHeld => ?_)
  clear hK K
  try simp only [Act.put, List.setIfInBounds_toArray, List.set_cons_zero, List.set_cons_succ, List.getElem_toArray, List.getElem_cons_zero, List.getElem_cons_succ]
  clear hSa
  have CT := Lib.hid (pnum_any A3 N3 c3 _ h.A1 h.n1 h.c1 h.e.ids V1 HO.out.bytes (col_ints (HH.out.later K1.out).1) (by have := HN3.out; omega))
  refine wpAnyH_ready (rs := [8]) (by kernel_rfl) (by simp) (AllReadyH.cons rfl (fun K hK => ?_) AllReadyH.nil)
  rw [if_pos (by rfl)]
  go_wp2_with fail
  refine CT.out.mono ?_
  rintro e V2 hm
  have hbm := hm.give (l' := l ++ layP h.e 105) K1.out (by rw [List.append_assoc, ← HN.out]; rfl)
  obtain ⟨A4, N4, c4, rfl, ho, hb⟩ := hbm
  have HO4 := Lib.hid ho
  have HB4 := Lib.hid hb
  have hSa : Below W.heap.size W V2 := by
    obtain ⟨_, _, _, _, hb5⟩ := hm.give (w := V1) (Below.refl _ _) rfl
    exact hHeld.trans (hb5.2.mono hHeld.size)
  clear hHeld ho hb hm CT
  refine hK.out _ _ hSa (fun hHeld => ?_)
  clear hK K
  try simp only [Act.put, List.setIfInBounds_toArray, List.set_cons_zero, List.set_cons_succ, List.getElem_toArray, List.getElem_cons_zero, List.getElem_cons_succ]
  clear hSa
  refine wpAnyH_ready (rs := [9]) (by kernel_rfl) (by simp) (AllReadyH.cons rfl (fun K hK => ?_) AllReadyH.nil)
  rw [if_pos (by rfl)]
  go_wp2_with fail
  refine hK.out _ _ hHeld (fun hHeld => ?_)
  clear hK K
  try simp only [Act.put, List.setIfInBounds_toArray, List.set_cons_zero, List.set_cons_succ, List.getElem_toArray, List.getElem_cons_zero, List.getElem_cons_succ]
  refine wpAnyH_done (by kernel_rfl) ?_ _
  go_wp2_with fail
  go_ret
  exact ⟨A4, N4, c4, rfl, HO4.out, HB4.out⟩

set_option maxRecDepth 20000 in
set_option maxHeartbeats 4000000 in
theorem evlay_115 (A : Option Addr) (n c : Nat) (l : List Nat) (h : Eh) (w : World) (hl : Bytes w w.heap.size A n l) (Hh : EvIn w w.heap.size h) (ok : okQ h.e 115 = true) (hn : n ≤ 100000) :
    Calls Tryd.prog 19 #[.slice A n c, .agg (evC h), .int .i32 115] w (GiveB (l ++ layP h.e 115) w) := by
  have HH := Lib.hid Hh
  have HL := Lib.hid hl
  have OK := Lib.hid ok
  clear Hh hl ok
  go_enter Tryd.func19, Tryd.ntmps19

  go_upto_region 9 with (fail)
  refine code_over (fun W => Bk W w.heap.size 34 (evC h) ∧ Below w.heap.size w W) ⟨Bk.new _ _ _, (Below.refl _ _).alloc (Nat.le_refl _) _⟩ ?_
  rintro W ⟨q1, q2⟩
  have f0 : W.cell? ⟨w.heap.size, 5, none⟩ = some (.slice h.A2 h.n2 h.c2) := q1.cell 5
  have Q2 := Lib.hid q2
  have hlt := q1.lt
  clear q1 q2
  have hlen : h.e.set.length = h.n2 := HH.out.2.1.1
  have HN : Hid (h.e.set.length = h.n2) := Lib.hid hlen
  have h60 : h.n2 ≤ 60 := by have := setB_len (l := h.e.set) OK.out; omega
  clear hlen
  go_wp2_with fail
  refine wp_region_held_drew (S := fun W' => Below W.heap.size W W') (by kernel_rfl) (show Below W.heap.size W W.drew from (Below.refl _ _).drew) (fun hHeld => ?_)
  have hltW : w.heap.size < W.heap.size := hlt
  simp only [List.size_toArray, List.length_cons, List.length_nil, Nat.reduceAdd]
  refine wpAnyH_take (i := 0) (v := .slice A n c) rfl (by kernel_rfl) (by kernel_rfl) (by kernel_rfl) (fun _ _ _ h => h) (Or.inl ⟨by rfl, fun w0 hC => by simp [execOp, Act.eval, Act.put, go_sem]⟩) hHeld ?_
  try simp only [Act.put, List.setIfInBounds_toArray, List.set_cons_zero, List.set_cons_succ, List.getElem_toArray, List.getElem_cons_zero, List.getElem_cons_succ]
  refine wpAnyH_take (i := 1) (v := .pointer (some ⟨w.heap.size, 5, none⟩)) rfl (by kernel_rfl) (by kernel_rfl) (by kernel_rfl) (fun _ _ _ h => h) (Or.inl ⟨by rfl, fun w0 hC => by simp [execOp, Act.eval, Act.put, go_sem]⟩) hHeld ?_
  try simp only [Act.put, List.setIfInBounds_toArray, List.set_cons_zero, List.set_cons_succ, List.getElem_toArray, List.getElem_cons_zero, List.getElem_cons_succ]
  refine wpAnyH_take (i := 2) (v := .slice h.A2 h.n2 h.c2) rfl (by kernel_rfl) (by kernel_rfl) (by kernel_rfl) (fun _ _ _ h => h) (Or.inl ⟨by rfl, fun w0 hC => by simp [execOp, Act.eval, Act.put, go_sem, (hC.cell (p := ⟨w.heap.size, 5, none⟩) hltW).trans f0]⟩) hHeld ?_
  try simp only [Act.put, List.setIfInBounds_toArray, List.set_cons_zero, List.set_cons_succ, List.getElem_toArray, List.getElem_cons_zero, List.getElem_cons_succ]
  refine wpAnyH_take (i := 3) (v := .int .i64 (h.n2 : Int)) rfl (by kernel_rfl) (by kernel_rfl) (by kernel_rfl) (fun _ _ _ h => h) (Or.inl ⟨by rfl, fun w0 hC => by simp [execOp, Act.eval, Act.put, go_sem]⟩) hHeld ?_
  try simp only [Act.put, List.setIfInBounds_toArray, List.set_cons_zero, List.set_cons_succ, List.getElem_toArray, List.getElem_cons_zero, List.getElem_cons_succ]
  refine wpAnyH_take (i := 6) (v := .pointer (some ⟨w.heap.size, 5, none⟩)) rfl (by kernel_rfl) (by kernel_rfl) (by kernel_rfl) (fun _ _ _ h => h) (Or.inl ⟨by rfl, fun w0 hC => by simp [execOp, Act.eval, Act.put, go_sem]⟩) hHeld ?_
  try simp only [Act.put, List.setIfInBounds_toArray, List.set_cons_zero, List.set_cons_succ, List.getElem_toArray, List.getElem_cons_zero, List.getElem_cons_succ]
  refine wpAnyH_take (i := 7) (v := .slice h.A2 h.n2 h.c2) rfl (by kernel_rfl) (by kernel_rfl) (by kernel_rfl) (fun _ _ _ h => h) (Or.inl ⟨by rfl, fun w0 hC => by simp [execOp, Act.eval, Act.put, go_sem, (hC.cell (p := ⟨w.heap.size, 5, none⟩) hltW).trans f0]⟩) hHeld ?_
  try simp only [Act.put, List.setIfInBounds_toArray, List.set_cons_zero, List.set_cons_succ, List.getElem_toArray, List.getElem_cons_zero, List.getElem_cons_succ]
  obtain ⟨V0, hV0⟩ : ∃ V, V = W.drew := ⟨_, rfl⟩
  rw [← hV0] at hHeld ⊢
  clear hV0
  have K0 := Lib.hid (Q2.out.trans (hHeld.mono Q2.out.size))
  refine wpAnyH_ready (rs := [4]) (by kernel_rfl) (by simp) (AllReadyH.cons rfl (fun K hK => ?_) AllReadyH.nil)
  rw [if_pos (by rfl)]
  go_wp2_with fail
  have hSa := hHeld.alloc hHeld.size (.cells #[.int .i64 (h.n2 : Int)] 3)
  have HB : Hid (Below w.heap.size w (V0.alloc (.cells #[.int .i64 (h.n2 : Int)] 3))) := Lib.hid (K0.out.alloc K0.out.size _)
  have CT := Lib.hid (pnum_any A n c l (some ⟨V0.heap.size, 0, none⟩) 1 1 [(h.n2 : Int)] _ (HL.out.later HB.out) (by simpa using Col.one V0 (fun z => .int .i64 z) (h.n2 : Int) rfl 3) (by omega))
  clear hHeld
  refine hK.out _ _ hSa (fun hHeld => ?_)
  clear hK K
  try simp only [Act.put, List.setIfInBounds_toArray, List.set_cons_zero, List.set_cons_succ, List.getElem_toArray, List.getElem_cons_zero, List.getElem_cons_succ]
  clear hSa
  refine wpAnyH_ready (rs := [5]) (by kernel_rfl) (by simp) (AllReadyH.cons rfl (fun K hK => ?_) AllReadyH.nil)
  rw [if_pos (by rfl)]
  go_wp2_with fail
  refine CT.out.mono ?_
  rintro e V1 hm
  have hbm := (hm.give (w := V0.alloc (.cells #[.int .i64 (h.n2 : Int)] 3)) (Below.refl _ _) rfl)
  obtain ⟨A3, N3, c3, rfl, ho, hb⟩ := hbm
  have hN3 := ho.len
  have HO := Lib.hid ho
  have K1 := Lib.hid (HB.out.trans (hb.mono HB.out.size))
  have hSa := hHeld.trans (hb.mono hHeld.size)
  have HN3 : Hid (N3 ≤ n + 8) := Lib.hid (by rw [← hN3, List.length_append, numsB_length, HL.out.1]; simp)
  clear hHeld ho hb hm CT HB hN3
  refine hK.out _ _ hSa (fun hHeld => ?_)
  clear hK K
  try simp only [Act.put, List.setIfInBounds_toArray, List.set_cons_zero, List.set_cons_succ, List.getElem_toArray, List.getElem_cons_zero, List.getElem_cons_succ]
  clear hSa
  have CE := Lib.hid (evends_any h.A2 h.n2 h.c2 h.e.set V1 (HH.out.later K1.out).2.1 (by omega))
  refine wpAnyH_ready (rs := [8]) (by kernel_rfl) (by simp) (AllReadyH.cons rfl (fun K hK => ?_) AllReadyH.nil)
  rw [if_pos (by rfl)]
  go_wp2_with fail
  refine CE.out.mono ?_
  rintro e V2 ⟨A5, c5, rfl, hc5, hb⟩
  have HC5 := Lib.hid hc5
  have K2 := Lib.hid (K1.out.trans (hb.mono K1.out.size))
  have HO2 := Lib.hid (HO.out.below hb)
  have hSa := hHeld.trans (hb.mono hHeld.size)
  have h120 : (endsL h.e.set).length ≤ 120 := by rw [endsL_len, HN.out]; omega
  have CT := Lib.hid (pnum_any A3 N3 c3 _ A5 (endsL h.e.set).length c5 (endsL h.e.set) V2 HO2.out.bytes (col_ints HC5.out) (by have := HN3.out; omega))
  clear hHeld hb hc5 CE h120
  refine hK.out _ _ hSa (fun hHeld => ?_)
  clear hK K
  try simp only [Act.put, List.setIfInBounds_toArray, List.set_cons_zero, List.set_cons_succ, List.getElem_toArray, List.getElem_cons_zero, List.getElem_cons_succ]
  clear hSa
  refine wpAnyH_ready (rs := [9]) (by kernel_rfl) (by simp) (AllReadyH.cons rfl (fun K hK => ?_) AllReadyH.nil)
  rw [if_pos (by rfl)]
  go_wp2_with fail
  refine CT.out.mono ?_
  rintro e V3 hm
  have hbm := hm.give (l' := l ++ layP h.e 115) K2.out (by rw [List.append_assoc, ← HN.out]; rfl)
  obtain ⟨A4, N4, c4, rfl, ho, hb⟩ := hbm
  have HO4 := Lib.hid ho
  have HB4 := Lib.hid hb
  have hSa : Below W.heap.size W V3 := by
    obtain ⟨_, _, _, _, hb5⟩ := hm.give (w := V2) (Below.refl _ _) rfl
    exact hHeld.trans (hb5.2.mono hHeld.size)
  clear hHeld ho hb hm CT
  refine hK.out _ _ hSa (fun hHeld => ?_)
  clear hK K
  try simp only [Act.put, List.setIfInBounds_toArray, List.set_cons_zero, List.set_cons_succ, List.getElem_toArray, List.getElem_cons_zero, List.getElem_cons_succ]
  clear hSa
  refine wpAnyH_ready (rs := [10]) (by kernel_rfl) (by simp) (AllReadyH.cons rfl (fun K hK => ?_) AllReadyH.nil)
  rw [if_pos (by rfl)]
  go_wp2_with fail
  refine hK.out _ _ hHeld (fun hHeld => ?_)
  clear hK K
  try simp only [Act.put, List.setIfInBounds_toArray, List.set_cons_zero, List.set_cons_succ, List.getElem_toArray, List.getElem_cons_zero, List.getElem_cons_succ]
  refine wpAnyH_done (by kernel_rfl) ?_ _
  go_wp2_with fail
  go_ret
  exact ⟨A4, N4, c4, rfl, HO4.out, HB4.out⟩

set_option maxRecDepth 20000 in
set_option maxHeartbeats 4000000 in
theorem evlay_109 (A : Option Addr) (n c : Nat) (l : List Nat) (h : Eh) (w : World) (hl : Bytes w w.heap.size A n l) (Hh : EvIn w w.heap.size h) (ok : okQ h.e 109 = true) (hn : n ≤ 100000) :
    Calls Tryd.prog 19 #[.slice A n c, .agg (evC h), .int .i32 109] w (GiveB (l ++ layP h.e 109) w) := by
  have HH := Lib.hid Hh
  have HL := Lib.hid hl
  have OK := Lib.hid ok
  clear Hh hl ok
  go_enter Tryd.func19, Tryd.ntmps19

  go_upto_region 11 with (fail)
  refine code_over (fun W => Bk W w.heap.size 34 (evC h) ∧ Below w.heap.size w W) ⟨Bk.new _ _ _, (Below.refl _ _).alloc (Nat.le_refl _) _⟩ ?_
  rintro W ⟨q1, q2⟩
  have f0 : W.cell? ⟨w.heap.size, 6, none⟩ = some (.int .i64 h.e.mode) := q1.cell 6
  have Q2 := Lib.hid q2
  have hlt := q1.lt
  clear q1 q2
  have HB : Hid (Below w.heap.size w (W.alloc (.cells #[.int .i64 h.e.mode] 3))) := Lib.hid (Q2.out.alloc Q2.out.size _)
  have CT := Lib.hid (pnum_any A n c l (some ⟨W.heap.size, 0, none⟩) 1 1 [h.e.mode] _ (HL.out.later HB.out) (by simpa using Col.one W (fun z => .int .i64 z) h.e.mode rfl 3) (by omega))
  go_wp2_with fail
  refine CT.out.mono ?_
  rintro e W3 hm
  obtain ⟨A3, N3, c3, rfl, ho, hb⟩ := hm.give (l' := l ++ layP h.e 109) HB.out rfl
  have HO := Lib.hid ho
  have HB3 := Lib.hid hb
  clear ho hb hm CT HB
  go_wp2_with fail
  go_ret
  exact ⟨A3, N3, c3, rfl, HO.out, HB3.out⟩

set_option maxRecDepth 20000 in
set_option maxHeartbeats 4000000 in
theorem evlay_102 (A : Option Addr) (n c : Nat) (l : List Nat) (h : Eh) (w : World) (hl : Bytes w w.heap.size A n l) (Hh : EvIn w w.heap.size h) (ok : okQ h.e 102 = true) (hn : n ≤ 100000) :
    Calls Tryd.prog 19 #[.slice A n c, .agg (evC h), .int .i32 102] w (GiveB (l ++ layP h.e 102) w) := by
  have HH := Lib.hid Hh
  have HL := Lib.hid hl
  have OK := Lib.hid ok
  clear Hh hl ok
  go_enter Tryd.func19, Tryd.ntmps19

  go_upto_region 13 with (fail)
  refine code_over (fun W => Bk W w.heap.size 34 (evC h) ∧ Below w.heap.size w W) ⟨Bk.new _ _ _, (Below.refl _ _).alloc (Nat.le_refl _) _⟩ ?_
  rintro W ⟨q1, q2⟩
  have f0 : W.cell? ⟨w.heap.size, 7, none⟩ = some (.int .i64 h.e.flags) := q1.cell 7
  have Q2 := Lib.hid q2
  have hlt := q1.lt
  clear q1 q2
  have HB : Hid (Below w.heap.size w (W.alloc (.cells #[.int .i64 h.e.flags] 3))) := Lib.hid (Q2.out.alloc Q2.out.size _)
  have CT := Lib.hid (pnum_any A n c l (some ⟨W.heap.size, 0, none⟩) 1 1 [h.e.flags] _ (HL.out.later HB.out) (by simpa using Col.one W (fun z => .int .i64 z) h.e.flags rfl 3) (by omega))
  go_wp2_with fail
  refine CT.out.mono ?_
  rintro e W3 hm
  obtain ⟨A3, N3, c3, rfl, ho, hb⟩ := hm.give (l' := l ++ layP h.e 102) HB.out rfl
  have HO := Lib.hid ho
  have HB3 := Lib.hid hb
  clear ho hb hm CT HB
  go_wp2_with fail
  go_ret
  exact ⟨A3, N3, c3, rfl, HO.out, HB3.out⟩

set_option maxRecDepth 20000 in
set_option maxHeartbeats 4000000 in
theorem evlay_100 (A : Option Addr) (n c : Nat) (l : List Nat) (h : Eh) (w : World) (hl : Bytes w w.heap.size A n l) (Hh : EvIn w w.heap.size h) (ok : okQ h.e 100 = true) (hn : n ≤ 100000) :
    Calls Tryd.prog 19 #[.slice A n c, .agg (evC h), .int .i32 100] w (GiveB (l ++ layP h.e 100) w) := by
  have HH := Lib.hid Hh
  have HL := Lib.hid hl
  have OK := Lib.hid ok
  clear Hh hl ok
  go_enter Tryd.func19, Tryd.ntmps19

  go_upto_region 15 with (fail)
  refine code_over (fun W => Bk W w.heap.size 34 (evC h) ∧ Below w.heap.size w W) ⟨Bk.new _ _ _, (Below.refl _ _).alloc (Nat.le_refl _) _⟩ ?_
  rintro W ⟨q1, q2⟩
  have f0 : W.cell? ⟨w.heap.size, 8, none⟩ = some (.int .i64 h.e.date) := q1.cell 8
  have Q2 := Lib.hid q2
  have hlt := q1.lt
  clear q1 q2
  have HB : Hid (Below w.heap.size w (W.alloc (.cells #[.int .i64 h.e.date] 3))) := Lib.hid (Q2.out.alloc Q2.out.size _)
  have CT := Lib.hid (pnum_any A n c l (some ⟨W.heap.size, 0, none⟩) 1 1 [h.e.date] _ (HL.out.later HB.out) (by simpa using Col.one W (fun z => .int .i64 z) h.e.date rfl 3) (by omega))
  go_wp2_with fail
  refine CT.out.mono ?_
  rintro e W3 hm
  obtain ⟨A3, N3, c3, rfl, ho, hb⟩ := hm.give (l' := l ++ layP h.e 100) HB.out rfl
  have HO := Lib.hid ho
  have HB3 := Lib.hid hb
  clear ho hb hm CT HB
  go_wp2_with fail
  go_ret
  exact ⟨A3, N3, c3, rfl, HO.out, HB3.out⟩

set_option maxRecDepth 20000 in
set_option maxHeartbeats 4000000 in
theorem evlay_110 (A : Option Addr) (n c : Nat) (l : List Nat) (h : Eh) (w : World) (hl : Bytes w w.heap.size A n l) (Hh : EvIn w w.heap.size h) (ok : okQ h.e 110 = true) (hn : n ≤ 100000) :
    Calls Tryd.prog 19 #[.slice A n c, .agg (evC h), .int .i32 110] w (GiveB (l ++ layP h.e 110) w) := by
  have HH := Lib.hid Hh
  have HL := Lib.hid hl
  have OK := Lib.hid ok
  clear Hh hl ok
  go_enter Tryd.func19, Tryd.ntmps19

  go_upto_region 17 with (fail)
  refine code_over (fun W => Bk W w.heap.size 34 (evC h) ∧ Below w.heap.size w W) ⟨Bk.new _ _ _, (Below.refl _ _).alloc (Nat.le_refl _) _⟩ ?_
  rintro W ⟨q1, q2⟩
  have f0 : W.cell? ⟨w.heap.size, 9, none⟩ = some (.int .i64 h.e.n) := q1.cell 9
  have Q2 := Lib.hid q2
  have hlt := q1.lt
  clear q1 q2
  have HB : Hid (Below w.heap.size w (W.alloc (.cells #[.int .i64 h.e.n] 3))) := Lib.hid (Q2.out.alloc Q2.out.size _)
  have CT := Lib.hid (pnum_any A n c l (some ⟨W.heap.size, 0, none⟩) 1 1 [h.e.n] _ (HL.out.later HB.out) (by simpa using Col.one W (fun z => .int .i64 z) h.e.n rfl 3) (by omega))
  go_wp2_with fail
  refine CT.out.mono ?_
  rintro e W3 hm
  obtain ⟨A3, N3, c3, rfl, ho, hb⟩ := hm.give (l' := l ++ layP h.e 110) HB.out rfl
  have HO := Lib.hid ho
  have HB3 := Lib.hid hb
  clear ho hb hm CT HB
  go_wp2_with fail
  go_ret
  exact ⟨A3, N3, c3, rfl, HO.out, HB3.out⟩

set_option maxRecDepth 20000 in
set_option maxHeartbeats 4000000 in
theorem evlay_121 (A : Option Addr) (n c : Nat) (l : List Nat) (h : Eh) (w : World) (hl : Bytes w w.heap.size A n l) (Hh : EvIn w w.heap.size h) (ok : okQ h.e 121 = true) (hn : n ≤ 100000) :
    Calls Tryd.prog 19 #[.slice A n c, .agg (evC h), .int .i32 121] w (GiveB (l ++ layP h.e 121) w) := by
  have HH := Lib.hid Hh
  have HL := Lib.hid hl
  have OK := Lib.hid ok
  clear Hh hl ok
  go_enter Tryd.func19, Tryd.ntmps19

  go_upto_region 18 with (fail)
  refine code_over (fun W => Bk W w.heap.size 34 (evC h) ∧ Below w.heap.size w W) ⟨Bk.new _ _ _, (Below.refl _ _).alloc (Nat.le_refl _) _⟩ ?_
  rintro W ⟨q1, q2⟩
  have f0 : W.cell? ⟨w.heap.size, 10, none⟩ = some (.slice h.A3 h.n3 h.c3) := q1.cell 10
  have Q2 := Lib.hid q2
  have hlt := q1.lt
  clear q1 q2
  have hbody := (HH.out.later Q2.out).2.2.1
  have hcv := run_str_of_bytes (P := Tryd.prog) (c := h.c3) hbody Tryd.underlying32 Tryd.underlying5 Tryd.underlying9
  have HLT := Lib.hid hbody.2.1
  have hsz : (strOf h.e.body).size ≤ 2000 := by rw [strOf_size]; exact of_decide_eq_true OK.out
  have HSZ := Lib.hid hsz
  clear hbody hsz
  have HB : Hid (Below w.heap.size w (W.alloc (.cells #[.string (strOf h.e.body)] 9))) := Lib.hid (Q2.out.alloc Q2.out.size _)
  have CT := Lib.hid (ptext_any A n c l (some ⟨W.heap.size, 0, none⟩) 1 1 [strOf h.e.body] _ (HL.out.later HB.out) (by simpa using Col.one W Value.string (strOf h.e.body) rfl 9) (by intro s hs; rw [List.mem_singleton.1 hs]; have := HSZ.out; omega) (by omega))
  go_wp2_with fail
  refine CT.out.mono ?_
  rintro e W3 hm
  obtain ⟨A3, N3, c3, rfl, ho, hb⟩ := hm.give (l' := l ++ layP h.e 121) HB.out (by rw [one_text, nats_strOf _ HLT.out]; rfl)
  have HO := Lib.hid ho
  have HB3 := Lib.hid hb
  clear ho hb hm CT HB hcv
  go_wp2_with fail
  go_ret
  exact ⟨A3, N3, c3, rfl, HO.out, HB3.out⟩

theorem evlay_any (A : Option Addr) (n c : Nat) (l : List Nat) (h : Eh) {x : Nat} (hx : x ∈ nineL) (w : World) (hl : Bytes w w.heap.size A n l) (Hh : EvIn w w.heap.size h) (ok : okQ h.e x = true) (hn : n ≤ 100000) :
    Calls Tryd.prog 19 #[.slice A n c, .agg (evC h), .int .i32 (x : Int)] w (GiveB (l ++ layP h.e x) w) := by
  rcases nine_cases hx with rfl | rfl | rfl | rfl | rfl | rfl | rfl | rfl | rfl
  · exact evlay_98 A n c l h w hl Hh ok hn
  · exact evlay_116 A n c l h w hl Hh ok hn
  · exact evlay_105 A n c l h w hl Hh ok hn
  · exact evlay_115 A n c l h w hl Hh ok hn
  · exact evlay_109 A n c l h w hl Hh ok hn
  · exact evlay_102 A n c l h w hl Hh ok hn
  · exact evlay_100 A n c l h w hl Hh ok hn
  · exact evlay_110 A n c l h w hl Hh ok hn
  · exact evlay_121 A n c l h w hl Hh ok hn
end Go.Proofs.YtoiffchhfnbooaaDoor

/-
  Contracts over package event: an event's bytes.
-/
namespace Go.Proofs.YtoiffchhfnbooaaDoor
set_option linter.unusedVariables false
set_option linter.unusedSimpArgs false
open Go.RowKit
set_option linter.unusedVariables false
set_option linter.unusedSimpArgs false

def EncIs (h : Eh) (w : World) (e : Ending) (w' : World) : Prop := ∃ A N c, e = .returned (.tuple #[.slice A N c, .int .i64 ((encE h.e : Nat) : Int)]) ∧ OwnB w' w.heap.size 5 A N c (encV h.e) ∧ Below w.heap.size w w'
theorem flat_snoc {p : List Nat} {k c : Nat} (hc : p[k]? = some c) (f : Nat → List Nat) : (p.take (k + 1)).flatMap f = (p.take k).flatMap f ++ f c := by
  rw [take_snoc_n p k c hc, List.flatMap_append, List.flatMap_singleton]
theorem OwnB.iter {w : World} {g pos base n c : Nat} {p : List Nat} {e : TypeId} {A : Option Addr} {l : List Nat} (hi : It w g p pos) (h : OwnB w base e A n c l) (pos' : Nat) : OwnB (w.iterAt g (strOf p) pos') base e A n c l := by
  refine ⟨⟨h.1.1, ?_⟩, h.2⟩
  rcases h.1.2 with h0 | ⟨g', cap, cur, hv, hg, hh, rest⟩
  · exact .inl h0
  · have hne : g' ≠ g := by
      intro e
      subst e
      rw [It, hh] at hi
      cases hi
    exact .inr ⟨g', cap, cur, hv, hg, (Lib.iterAt_other w g g' (strOf p) pos' hne).trans hh, rest⟩
structure EnAt (w : World) (h : Eh) (b1 g : Nat) (p : List Nat) (pos : Nat) (A : Option Addr) (N c : Nat) (wx : World) : Prop where
  it : It wx g p pos
  bx : Bk wx b1 34 (evC h)
  own : OwnB wx w.heap.size 5 A N c (numsB [h.e.kind, h.e.at_] ++ (p.take pos).flatMap (layP h.e))
  below : Below w.heap.size w wx
theorem enc_small {e : Ev} (hr : rightE e = true) (k : Nat) : (numsB [e.kind, e.at_] ++ ((partsN e.kind).take k).flatMap (layP e)).length ≤ 100000 := by
  have h1 := flat_len_le (f := layP e) (p := (partsN e.kind).take k) fun c hc => layP_len ((rightE_parts hr).2.2.1 c (List.mem_of_mem_take hc))
  have h2 : ((partsN e.kind).take k).length ≤ 4 := by rw [List.length_take]; have := (partsN_nine e.kind).2.2; omega
  rw [List.length_append, numsB_length, List.length_cons, List.length_singleton]
  omega
set_option maxRecDepth 20000 in
set_option maxHeartbeats 4000000 in
theorem evEncode_any (h : Eh) (w : World) (Hh : EvIn w w.heap.size h) (hK : Kinds w) : Calls Tryd.prog 9 #[.agg (evC h)] w (EncIs h w) := by
  have HH := Lib.hid Hh
  have HK := Lib.hid hK
  clear Hh hK
  go_enter Tryd.func9, Tryd.ntmps9
  go_wp2_with ((with_reducible show wpList _ _ _ (⟨some 7, _, _, _, _, _⟩ :: _) _ _); refine hold ?_)
  refine held (list_overE (fun W => Bk W w.heap.size 34 (evC h) ∧ Below w.heap.size w W) ⟨Bk.new _ _ _, (Below.refl _ _).alloc (Nat.le_refl _) _⟩ ?_)
  rintro W ⟨q1, q2⟩
  have Q1 := Lib.hid q1
  have Q2 := Lib.hid q2
  clear q1 q2
  refine wpList_load_mid rfl 34 (.tmp 1) rfl w.heap.size 0 rfl _ _ Q1.out.range Tryd.underlying34 rfl (by kernel_rfl) ?_
  go_wp2_with fail
  refine (evRight_any h W (HH.out.later Q2.out) (HK.out.below Q2.out)).mono ?_
  rintro e W1 ⟨rfl, hb⟩
  have R1 := Lib.hid (Q1.out.below hb Q1.out.lt)
  have R2 := Lib.hid (Q2.out.trans (hb.mono Q2.out.size))
  have c0 : W1.cell? ⟨w.heap.size, 0, none⟩ = some (.int .i64 h.e.kind) := R1.out.cell 0
  have c1 : W1.cell? ⟨w.heap.size, 1, none⟩ = some (.int .i64 h.e.at_) := R1.out.cell 1
  clear hb Q1 Q2
  cases hr : rightE h.e
  · have HZ : Hid (encE h.e = 1) := Lib.hid (by unfold encE; rw [hr]; rfl)
    have HV : Hid (encV h.e = []) := Lib.hid (by unfold encV; rw [hr]; rfl)
    clear hr
    go_wp2_with fail
    go_ret2
    exact ⟨none, 0, 0, by rw [HZ.out]; rfl, by rw [HV.out]; exact OwnB.nil, R2.out⟩
  have HRT := Lib.hid hr
  have HZ : Hid (encE h.e = 0) := Lib.hid (if_pos hr)
  have HV : Hid (encV h.e = bytesE h.e) := Lib.hid (if_pos hr)
  clear hr
  have hws := R2.out.size
  have B1 : Hid (Below w.heap.size w (W1.alloc (.cells #[.int .i64 h.e.kind, .int .i64 h.e.at_] 3))) := Lib.hid (R2.out.alloc R2.out.size _)
  have hk2 := Bk.new W1 3 #[.int .i64 h.e.kind, .int .i64 h.e.at_]
  have CN := Lib.hid (pnum_any none 0 0 [] (some ⟨W1.heap.size, 0, none⟩) 2 2 [h.e.kind, h.e.at_] (W1.alloc (.cells #[.int .i64 h.e.kind, .int .i64 h.e.at_] 3)) Bytes.nil ⟨rfl, fun _ => ⟨_, _, rfl, by simp, fun i a ha => by
    rw [Nat.zero_add, hk2.cell i]
    match i, ha with
    | 0, ha => cases ha; rfl
    | 1, ha => cases ha; rfl⟩⟩ (by omega))
  clear hk2 hws
  go_wp2_with fail
  refine CN.out.mono ?_
  rintro e W2 hm
  have hsz : W1.heap.size < (W1.alloc (.cells #[.int .i64 h.e.kind, .int .i64 h.e.at_] 3)).heap.size := by simp
  have hbb : Below W1.heap.size W1 W2 := by
    obtain ⟨_, _, _, _, h5⟩ := hm
    exact ((Below.refl _ _).alloc (Nat.le_refl _) _).trans (h5.mono (Nat.le_of_lt hsz))
  obtain ⟨A2, N2, c2, rfl, ho, hb⟩ := hm.give (l' := numsB [h.e.kind, h.e.at_]) B1.out rfl
  have S1 := Lib.hid (R1.out.below hbb R1.out.lt)
  have SO := Lib.hid ho
  have SB := Lib.hid hb
  have d0 : W2.cell? ⟨w.heap.size, 0, none⟩ = some (.int .i64 h.e.kind) := S1.out.cell 0
  clear hm hsz hbb ho hb c0 c1 CN B1 R1 R2
  go_wp2_with fail
  refine (evParts_any h.e.kind W2 (HK.out.below SB.out)).mono ?_
  rintro e W3 ⟨rfl, hb⟩
  have T1 := Lib.hid (S1.out.below hb S1.out.lt)
  have TO := Lib.hid (SO.out.below hb)
  have TB := Lib.hid (SB.out.trans (hb.mono SB.out.size))
  clear hb d0 S1 SO SB
  obtain ⟨p, hp⟩ : ∃ p, partsN h.e.kind = p := ⟨_, rfl⟩
  rw [hp]
  have H128 : Hid (∀ x ∈ p, x < 128) := Lib.hid (by rw [← hp]; exact partsN_lt _)
  have H9 : Hid (∀ x ∈ p, x ∈ nineL) := Lib.hid (by rw [← hp]; exact (partsN_nine _).1)
  have HP := Lib.hid hp
  clear hp
  go_wp2_with fail
  go_loopw [4, 6] (fun t _ wx => ∃ (pos : Nat) (A : Option Addr) (N c : Nat), pos ≤ p.length ∧ t = .slice A N c ∧ EnAt w h w.heap.size W3.heap.size p pos A N c wx) (fun _ _ wx => p.length - wx.iterPos W3.heap.size)
  case atStart =>
    exact ⟨0, A2, N2, c2, Nat.zero_le _, rfl, { it := World.iter_heap W3 (strOf p) 0, bx := T1.out.alloc _, own := by rw [List.take_zero, List.flatMap_nil, List.append_nil]; exact TO.out.alloc _, below := TB.out.alloc TB.out.size _ }⟩
  case round =>
    obtain ⟨pos, A, N, c, hpos, rfl, hr⟩ := hrel
    have HR := Lib.hid hr
    have HM : Hid (wr.iterPos W3.heap.size = pos) := Lib.hid hr.it.pos
    clear hr
    by_cases hlt : pos < p.length
    · obtain ⟨x, hx⟩ : ∃ x, p[pos]? = some x := ⟨_, List.getElem?_eq_getElem hlt⟩
      have hnx := fun ty => next_letter (P := Tryd.prog) H128.out HR.out.it hx ty
      have HX := Lib.hid hx
      have HX9 := Lib.hid (H9.out x (List.mem_of_getElem? hx))
      have hN : N ≤ 100000 := by
        have h1 := HR.out.own.len
        have h2 := enc_small HRT.out pos
        rw [HP.out] at h2
        omega
      have HN := Lib.hid hN
      have TW : Hid (Below wr.heap.size wr (wr.iterAt W3.heap.size (strOf p) (pos + 1)) → True) := Lib.hid (fun _ => trivial)
      have own2 : OwnB (wr.iterAt W3.heap.size (strOf p) (pos + 1)) w.heap.size 5 A N c (numsB [h.e.kind, h.e.at_] ++ (p.take pos).flatMap (layP h.e)) := OwnB.iter HR.out.it HR.out.own _
      have T1' : Hid (Bk (wr.iterAt W3.heap.size (strOf p) (pos + 1)) w.heap.size 34 (evC h)) := Lib.hid (Bk.iter HR.out.it HR.out.bx _)
      have TI : Hid (It (wr.iterAt W3.heap.size (strOf p) (pos + 1)) W3.heap.size p (pos + 1)) := Lib.hid (HR.out.it.iter _)
      have TB' : Hid (Below w.heap.size w (wr.iterAt W3.heap.size (strOf p) (pos + 1))) := Lib.hid (Lib.below_iterAt HR.out.below TB.out.size _ _)
      have TO' := Lib.hid own2
      clear hx own2 hN TW
      go_wp2_with ((with_reducible show wpList _ _ _ (⟨some 24, _, _, _, _, _⟩ :: _) _ _); refine hold ?_)
      refine held (list_overE (fun W => Bk W w.heap.size 34 (evC h) ∧ OwnB W w.heap.size 5 A N c (numsB [h.e.kind, h.e.at_] ++ (p.take pos).flatMap (layP h.e)) ∧ It W W3.heap.size p (pos + 1) ∧ Below w.heap.size w W) ⟨T1'.out, TO'.out, TI.out, TB'.out⟩ ?_)
      rintro W5 ⟨q1, q2, q3, q4⟩
      have U1 := Lib.hid q1
      have UO := Lib.hid q2
      have UI := Lib.hid q3
      have UB := Lib.hid q4
      clear q1 q2 q3 q4 hnx T1' TO' TI TB'
      refine wpList_load_mid rfl 34 (.tmp 1) rfl w.heap.size 0 rfl _ _ U1.out.range Tryd.underlying34 rfl (by kernel_rfl) ?_
      go_wp2_with fail
      refine (evlay_any A N c _ h HX9.out W5 UO.out.bytes (HH.out.later UB.out) ((rightE_parts HRT.out).2.2.1 x (by rw [HP.out]; exact List.mem_of_getElem? HX.out)) HN.out).mono ?_
      rintro e W6 ⟨A6, N6, c6, rfl, ho, hb⟩
      have R : Hid (EnAt w h w.heap.size W3.heap.size p (pos + 1) A6 N6 c6 W6) := Lib.hid { it := UI.out.below hb, bx := U1.out.below hb U1.out.lt, own := by rw [flat_snoc HX.out, ← List.append_assoc]; exact ho.base_le UB.out.size, below := UB.out.trans (hb.mono UB.out.size) }
      clear ho hb HR U1 UO UI UB
      go_wp2_with fail
      go_roundw
      case rel => exact ⟨pos + 1, A6, N6, c6, by omega, rfl, R.out⟩
      case measure => rw [R.out.it.pos]; rw [HM.out]; omega
    · have hnx := fun ty => next_none (P := Tryd.prog) HR.out.it (by omega) ty
      obtain rfl : pos = p.length := by omega
      have HO := Lib.hid HR.out.own
      have HBL := Lib.hid HR.out.below
      have HE : Hid (encV h.e = numsB [h.e.kind, h.e.at_] ++ (p.take p.length).flatMap (layP h.e)) := Lib.hid (by rw [HV.out, List.take_of_length_le (Nat.le_refl _), ← HP.out]; rfl)
      clear HR
      go_wp2_with fail
      go_ret2
      exact ⟨A, N, c, by rw [HZ.out]; rfl, by rw [HE.out]; exact HO.out, HBL.out⟩
end Go.Proofs.YtoiffchhfnbooaaDoor
