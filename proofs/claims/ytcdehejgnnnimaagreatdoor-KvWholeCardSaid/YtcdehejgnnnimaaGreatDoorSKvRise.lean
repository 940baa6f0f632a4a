/-
 A part of the proof: see the last text.
-/
import Derived.Test.YtcdehejgnnnimaaGreatDoorSKvSmall
import Derived.Test.YtcdehejgnnnimaaGreatDoorSRowK
import Derived.Test.YtcdehejgnnnimaaGreatDoorSKvShelf
import Derived.Shelf.Small.Strs
namespace Go.Proofs.YtcdehejgnnnimaaGreatDoor
set_option linter.unusedVariables false
set_option linter.unusedSimpArgs false
open Go.RowKit Go.Maps
set_option linter.unusedVariables false
set_option linter.unusedSimpArgs false
def cmpP (p q : Pr) : Int := Lib.compareBytes p.1.data.toList q.1.data.toList
theorem cmp_iff : ∀ a b : List UInt8, Lib.compareBytes a b < 0 ↔ a < b
 | [], [] => by simp [Lib.compareBytes]
 | [], b :: m => by simp [Lib.compareBytes]
 | a :: l, [] => by simp [Lib.compareBytes]
 | a :: l, b :: m => by
   have ih := cmp_iff l m
   unfold Lib.compareBytes
   rw [List.cons_lt_cons_iff]
   by_cases h1 : a < b
   ·simp [h1]
   ·by_cases h2 : b < a
    ·have hne : a ≠ b := fun e => by rw [e] at h2; exact absurd h2 (UInt8.lt_irrefl _)
     simp [h1, h2, hne]
    ·have he : a = b := UInt8.le_antisymm (UInt8.not_lt.1 h2) (UInt8.not_lt.1 h1)
     simp [h1, h2, he, ih]
theorem ltP_iff (p q : Pr) : ltOf cmpP p q = true ↔ ltK p.1 q.1 := by
 unfold ltOf cmpP
 rw [decide_eq_true_iff, cmp_iff]; rfl
theorem swoP : Sort.SWO (ltOf cmpP) where
 irrefl x := by
  cases h : ltOf cmpP x x
  ·rfl
  ·exact absurd ((ltP_iff x x).1 h) (ltK_irrefl _)
 trans x y z h1 h2 := (ltP_iff x z).2 (ltK_trans ((ltP_iff x y).1 h1) ((ltP_iff y z).1 h2))
 ntrans x y z h1 h2 := by
  cases h : ltOf cmpP x z
  ·rfl
  ·have h3 := (ltP_iff x z).1 h
   rcases ltK_tri x.1 y.1 with q | q | q
   ·rw [(ltP_iff x y).2 q] at h1; cases h1
   ·rw [q] at h3
    rw [(ltP_iff y z).2 h3] at h2; cases h2
   ·have := ltK_trans q h3
    rw [(ltP_iff y z).2 this] at h2; cases h2
set_option maxHeartbeats 1000000 in
theorem less_any (x y : Pr) (W : World) : Calls Tryz.prog 58 #[.agg #[.string x.1, .string x.2], .agg #[.string y.1, .string y.2]] W fun e w' => e = .returned (.int .i64 (cmpP x y)) ∧ ∃ q os', w' = Sort.grow (W.drewN q) os' := by
 have hcon := fun W' => Any.strings_Compare kS106 x.1 y.1 W'
 change ∀ W', Calls Tryz.prog 59 _ _ _ at hcon
 unfold cmpP
 generalize Lib.compareBytes x.1.data.toList y.1.data.toList = r at hcon ⊢
 go_enter Tryz.func58, Tryz.ntmps58
 go_wp2_with (go_at_call 59; refine (hcon _).mono ?_; rintro e w' ⟨rfl, rfl⟩)
 go_ret
 exact ⟨rfl, 0, _, by rw [Sort.alloc_eq_grow, Sort.alloc_eq_grow, Sort.grow_grow]; rfl⟩
theorem sort_any (A : Option Addr) (n c base : Nat) (l : List Pr) (w : World) (h : OwnK 2 pairC w base 60 A n c l) (hn : n ≤ 1000000) (hb : base ≤ w.heap.size) :
 Calls Tryz.prog 57 #[.slice A n c, .func (.func 58) #[] #[]] w fun e w' => e = .returned (.tuple #[]) ∧ ∃ m : List Pr, m.Perm l ∧ m.Pairwise (fun p q => ¬ ltK q.1 p.1) ∧ OwnK 2 pairC w' base 60 A n c m ∧ Below base w w' := by
 have hlen := h.len
 by_cases h0 : n = 0
 ·subst h0
  obtain rfl : l = [] := List.eq_nil_of_length_eq_zero hlen
  refine (AnyF.slices_SortFunc_none kSsortP A c (.func (.func 58) #[] #[]) w).mono ?_
  rintro e w' ⟨rfl, rfl⟩
  exact ⟨rfl, [], List.Perm.refl _, List.Pairwise.nil, h, Below.refl _ _⟩
 ·obtain ⟨g, rfl, hg, hH, hafter⟩ := h.holds (by omega) (by omega)
  have hbg : base ≤ g := by
   obtain ⟨g', _, e, hg', _⟩ := h.block (by omega)
   injection e with e
   injection e with e _ _
   omega
  have eg : ∀ args w, (callFunc 58 args).run Tryz.prog w = .ok (.enter 58 args) w := enters_of Tryz.func58 (by kernel_rfl) rfl
  have hc := AnyQ.slices_SortFunc kSsortP 2 Tryz.isAgg60 Tryz.sizeOf60 pairC pairC_len pairC_one cmpP swoP 58 #[] g 0 c l.toArray w eg (fun _ _ _ _ x y => less_any x y _) hH hg (by simp; omega)
  rw [show l.toArray.size = n by simpa using hlen] at hc
  refine hc.mono ?_
  rintro e w' ⟨rfl, d', q, os, hp, hs, rfl⟩
  have hsz : d'.size = n := by have := hp.1; rw [this]; simpa using hlen
  have hp2 := perm_of (d := l.toArray) (by rw [show l.toArray.size = n by simpa using hlen]; exact hp)
  have hs2 := pairwise_of (d := d') (lt := ltOf cmpP) (by rw [hsz]; exact hs)
  obtain ⟨h1, h2⟩ := hafter d'.toList q os (by rw [Array.length_toList, hsz, hlen])
  rw [Array.toArray_toList] at h1 h2
  refine ⟨rfl, d'.toList, by simpa using hp2, hs2.imp (fun {p q} hh hl => ?_), h1, (Below.refl _ _).grown h2 hb (fun k hk => by cases hk; exact hbg)⟩
  rw [(ltP_iff q p).2 hl] at hh
  cases hh
end Go.Proofs.YtcdehejgnnnimaaGreatDoor
namespace Go.Proofs.YtcdehejgnnnimaaGreatDoor
set_option linter.unusedVariables false
set_option linter.unusedSimpArgs false
open Go.RowKit Go.Maps
set_option linter.unusedVariables false
set_option linter.unusedSimpArgs false
theorem info_pair : (Tryz.prog.info? 60).map (fun i => (i.zero, i.size, i.bytes)) = some (some (.agg #[.string ByteArray.empty, .string ByteArray.empty]), 2, 32) := by kernel_rfl
def RisesTo (f : Fn) (base : Nat) (w : World) (e : Ending) (w' : World) : Prop := ∃ A n c l, e = .returned (.slice A n c) ∧ OwnK 2 pairC w' base 60 A n c l ∧ Lists l f ∧ Below w.heap.size w w'
set_option maxRecDepth 20000 in
set_option maxHeartbeats 8000000 in
theorem rising_any (b N : Nat) (f : Fn) (w : World) (hm : MapIs w b N f) (hN : N ≤ 1000000) :
 Calls Tryz.prog 29 #[.map (some b)] w (RisesTo f w.heap.size w) := by
 obtain ⟨D, hD, hR⟩ := hm
 have HD := Lib.hid hD
 have HR := Lib.hid hR
 have hbw := hD.lt
 clear hD hR
 go_enter Tryz.func29, Tryz.ntmps29
 go_wp2_with ((with_reducible show wpList _ _ _ (⟨some 7, _, _, _, _, _⟩ :: _) _ _); refine holdK ?_)
 refine heldK (wpList_range_own _ rfl _ 72 rfl 9 60 lawS Tryz.underlying72 _ b N D rfl HD.out ?_)
 intro w1 hrg hg1 hsz1
 have HG1 := Lib.hid hg1
 have HB1 : Hid (Below w.heap.size w w1) := Lib.hid ((Below.refl _ _).grown hg1 (Nat.le_refl _) (fun k hk => by cases hk))
 have HRG := Lib.hid hrg
 have HS1 := Lib.hid hsz1
 clear hrg hg1 hsz1
 go_wp2_with fail
 simp only [Act.put, List.setIfInBounds_toArray, List.set_cons_zero, List.set_cons_succ]
 go_loopw [3] (fun o wx => ∃ (left : Lit → Bool) (cnt : Nat) (l : List Pr) (A : Option Addr) (n c : Nat), o = .slice A n c ∧ wx.ranges Tryz.prog 9 pairElem b w.heap.size N D left cnt ∧ Came D f left l ∧ OwnK 2 pairC wx w1.heap.size 60 A n c l ∧ l.length + cnt ≤ N ∧ Below w.heap.size w wx ∧ w1.heap.size ≤ wx.heap.size) (fun _ wx => wx.rangeLeft b w.heap.size)
 case atStart => exact ⟨_, _, [], none, 0, 0, rfl, HRG.out, Came.start D f, OwnK.nil pairC_len, by have := HD.out.size_le; simp; exact this, HB1.out, Nat.le_refl _⟩
 case round =>
  obtain ⟨left, cnt, l, A, n, c, rfl, hrg, hcm, hown, hcnt, hb, hw1⟩ := hrel
  have HRG2 := Lib.hid hrg
  have HCM := Lib.hid hcm
  have HOWN := Lib.hid hown
  have HB := Lib.hid hb
  have hleft := hrg.left_eq
  have hnl := hown.len
  clear hrg hcm hown hb HRG
  go_wp2_with ((with_reducible show wpList _ _ _ (⟨some 8, _, _, _, _, _⟩ :: _) _ _); refine holdK ?_)
  refine heldK (wpList_next_ranges _ rfl _ rfl 9 lawS _ encStr (fun p : Pr => pairV p.1 p.2) (fun key kl hk => by obtain ⟨x, hx, _⟩ := Maps.keyOf_str Tryz.underlying9 hk; exact ⟨x, hx⟩) (fun v y hv => by obtain ⟨a, b, rfl, _⟩ := pairElem_inv hv; exact ⟨(a, b), rfl⟩) b w.heap.size N D left cnt rfl HRG2.out ?_ ?_)
  ·intro hc0 hl0
   have HALL := Lib.hid (HCM.out.all HR.out hl0)
   clear hleft
   go_wp2_with fail
   have hsort := sort_any A n c w1.heap.size l wr HOWN.out (by omega) hw1
   refine hsort.mono ?_
   rintro e w' ⟨rfl, m, hp, hs, hom, hbm⟩
   have HOM := Lib.hid hom
   have HF := Lib.hid (Came.sorted HALL.out.1 HALL.out.2 hp hs)
   have HBM := Lib.hid (HB.out.trans (hbm.mono HB1.out.size))
   clear hp hs hom hbm hsort
   go_wp2_with fail
   go_ret
   exact ⟨A, n, c, m, rfl, HOM.out.from_ HB1.out.size, HF.out, HBM.out⟩
  ·intro x p kl yd w2 cnt2 hkey hlk hv hat hrg2 hlt hg2 hs2 hen
   obtain ⟨s', ex, rfl, hsm⟩ := Maps.keyOf_str Tryz.underlying9 hkey
   obtain ⟨ka, kb⟩ := p
   obtain rfl := encStr_inj ex
   have hyd : yd = (pairD ka kb, []) := by rw [pairElem_mk] at hv; exact (Option.some.inj hv).symm
   subst hyd
   have hkl : Lit.string x = keyL ⟨x.toArray⟩ := by unfold keyL; simp
   rw [hkl] at hlk hat hrg2
   have HCM2 := Lib.hid (HCM.out.step HR.out hlk hat)
   have hrg3k := Lib.hid hrg2
   have hiter : ∀ k, some k = (Value.slice A n c).ownBlock → k ≠ b ∧ k ≠ w.heap.size := by
    intro k hk
    have := (HOWN.out.1.lt k hk.symm).1
    have := HS1.out
    omega
   have HITER := Lib.hid hiter
   have hsz2 : w1.heap.size ≤ w2.heap.size := by rw [hs2]; exact hw1
   have hown2 : OwnK 2 pairC w2 w1.heap.size 60 A n c l := by
    have := HOWN.out
    refine ⟨⟨this.1.1, ?_⟩, this.2⟩
    rcases this.1.2 with h0 | ⟨g, cap, cur, hv2, hg, hh, r⟩
    ·exact .inl h0
    ·refine .inr ⟨g, cap, cur, hv2, hg, (hg2.block g (Array.getElem?_eq_some_iff.1 hh).1 (fun e => ?_)).trans hh, r⟩
     have h1 : some g = (Value.slice A n c).ownBlock := by rw [hv2]; rfl
     injection e with e
     exact (HITER.out g h1).2 e
   have HOWN2 := Lib.hid (hown2.alloc (.cells #[.string ka, .string kb] 60))
   have hb2 : Below w.heap.size w w2 := HB.out.grown hg2 HB.out.size (fun k hk => by cases hk; exact Nat.le_refl _)
   have HB2 := Lib.hid (hb2.alloc hb2.size (.cells #[.string ka, .string kb] 60))
   have HLT : Hid (l.length + 1 + cnt2 ≤ N) := Lib.hid (by omega)
   have HL2 : Hid (wr.rangeLeft b w.heap.size = cnt) := Lib.hid hleft
   have HCL : Hid (cnt2 < cnt) := Lib.hid hlt
   have HSZ2 := Lib.hid hsz2
   clear hkey hlk hv hat hrg2 hlt hg2 hs2 hiter hown2 hb2 hkl hsz2 ex hleft
   unfold pairV at hen ⊢
   go_wp2_with ((with_reducible show wpList _ _ _ (⟨some 15, _, _, _, _, _⟩ :: _) _ _); refine holdK ?_)
   refine heldK (wpList_append_k (k := 2) (f := pairC) rfl (.tmp 12) (.tmp 14) 33 rfl Tryz.underlying33 info_pair rfl (by omega) (by omega) w1.heap.size A n c l rfl (HOWN2.out.alloc _) (w2.heap.size + 1) 0 (ka, kb) rfl (by
    intro j v hv
    rw [Nat.zero_add, cell_of_row _ (w2.heap.size + 1) j _ _ (0, 0) (by have := heap_alloc_new (w2.alloc (.cells #[.string ka, .string kb] 60)) (.cells #[.string ka, .string kb] 60); rwa [World.size_alloc] at this)]
    unfold pairC at hv
    simpa [List.getElem?_toArray] using hv) (pairC_one _) (by omega) (by have := HSZ2.out; simp; omega) ?_)
   intro A2 c2 w4 hown4 hb4 hg4
   have HOWN4 := Lib.hid hown4
   have hg24 : w2.grownBy w4 (Value.slice A n c).ownBlock := grownK_trans ((World.grownBy_alloc w2 _ none).but _) (grownK_trans ((World.grownBy_alloc _ _ none).but _) hg4)
   have HRG4 := Lib.hid (hrg3k.out.kept hg24 (fun e => (HITER.out _ e).1 rfl) (fun e => (HITER.out _ e).2 rfl))
   have hw4 : w1.heap.size ≤ w4.heap.size := Nat.le_trans HSZ2.out hg24.size
   have hb24 : Below w.heap.size w w4 := ((HB2.out.alloc HB2.out.size (.cells #[.string ka, .string kb] 60))).trans (hb4.mono HB1.out.size)
   have HB4 := Lib.hid hb24
   have HW4 := Lib.hid hw4
   have hleft4 := HRG4.out.left_eq
   have HLF4 : Hid (w4.rangeLeft b w.heap.size < wr.rangeLeft b w.heap.size) := Lib.hid (by rw [hleft4, HL2.out]; exact HCL.out)
   clear hown4 hb4 hg4 hg24 hw4 hb24 hleft4 hen
   go_wp2_with fail
   go_roundw
   case rel => exact ⟨_, cnt2, l ++ [(ka, kb)], A2, n + 1, c2, rfl, HRG4.out, HCM2.out, HOWN4.out, by rw [List.length_append]; exact HLT.out, HB4.out, HW4.out⟩
   case measure => exact HLF4.out
def putsF (f : Fn) (l : List Pr) : Fn := l.foldl (fun f p => updF f p.1 (some p.2)) f
theorem putsF_snoc (f : Fn) {l : List Pr} {k : Nat} {p : Pr} (h : l.take (k + 1) = l.take k ++ [p]) : putsF f (l.take (k + 1)) = updF (putsF f (l.take k)) p.1 (some p.2) := by
 unfold putsF; rw [h, List.foldl_append]; rfl
theorem col_ne {α : Type} {k : Nat} {f : α → List Value} {w : World} {B n b : Nat} {A : Option Addr} {l : List α} (h : ColK k f w B A n l) (hb : B ≤ b) : 0 < n → ∀ p, A = some p → p.block ≠ b := by
 intro h0 p hp
 obtain ⟨b', o, e, hb', _⟩ := h.2 h0
 rw [e] at hp
 cases hp
 show b' ≠ b
 omega
set_option maxRecDepth 20000 in
set_option maxHeartbeats 8000000 in
theorem do_any (A : Option Addr) (n c : Nat) (l : List Pr) (A' : Option Addr) (n' c' : Nat) (cs : List Chg) (w : World) (hl : ColK 2 pairC w w.heap.size A n l) (hcs : ColK 3 chgC w w.heap.size A' n' cs) (hs : ∀ x ∈ l, x.1.size ≤ 140737488355328) (hs' : ∀ x ∈ cs, x.1.size ≤ 140737488355328) (hn : n ≤ 400000) (hn' : n' ≤ 400000) :
 Calls Tryz.prog 21 #[.slice A n c, .slice A' n' c'] w (RisesTo (runF (putsF (fun _ => none) l) cs) w.heap.size w) := by
 have HL := Lib.hid hl
 have HCS := Lib.hid hcs
 have HS := Lib.hid hs
 have HS2 := Lib.hid hs'
 have hmm := @run_makeMap Tryz.prog
 have HMADE := Lib.hid (MapIs.made w)
 have HB0 : Hid (w.grownBy (w.alloc (.map #[] 0)) (some w.heap.size)) := Lib.hid ((World.grownBy_alloc w _ none).but _)
 have HLT0 : Hid (w.heap.size < (w.alloc (.map #[] 0)).heap.size) := Lib.hid (by simp)
 clear hl hcs hs hs'
 go_enter Tryz.func21, Tryz.ntmps21
 go_wp2_with fail
 clear hmm
 have hlB := HL.out.below ((Below.refl _ _).alloc (Nat.le_refl _) (.map #[] 0)) (Nat.le_refl _)
 have hcB := HCS.out.below ((Below.refl _ _).alloc (Nat.le_refl _) (.map #[] 0)) (Nat.le_refl _)
 have HLB := Lib.hid hlB
 have HCB := Lib.hid hcB
 have HNE1 := Lib.hid (col_ne hlB (Nat.le_refl _))
 have HNE2 := Lib.hid (col_ne hcB (Nat.le_refl _))
 have hbw : Below w.heap.size w (w.alloc (.map #[] 0)) := (Below.refl _ _).alloc (Nat.le_refl _) _
 have HBW := Lib.hid hbw
 clear hlB hcB hbw HL HCS
 generalize w.alloc (.map #[] 0) = w1 at *
 obtain ⟨b, hb⟩ : ∃ b, w.heap.size = b := ⟨_, rfl⟩
 rw [hb] at HMADE HB0 HLT0 HLB HCB HNE1 HNE2 HBW ⊢
 have HBE := Lib.hid hb
 clear hb
 go_loopw [11] (fun i wx => ∃ k : Nat, k ≤ n ∧ i = .int .i64 (k : Int) ∧ MapIs wx b k (putsF (fun _ => none) (l.take k)) ∧ w1.grownBy wx (some b)) (fun i _ => n - (intOf i).toNat)
 case atStart => exact ⟨0, Nat.zero_le _, rfl, HMADE.out, World.grownBy.refl _ _⟩
 case round =>
  obtain ⟨k, hk, rfl, hmr, hg⟩ := hrel
  have HG := Lib.hid hg
  have HMR := Lib.hid hmr
  clear hg hmr
  by_cases hlt : k < n
  ·obtain ⟨b', o, a, rfl, hbb, hla, htk, hrow⟩ := (HLB.out.grown HG.out (Nat.le_of_lt HLT0.out) HNE1.out).at_ hlt
   have hsz := HS.out a (List.mem_of_getElem? hla)
   have HRF := Lib.hid (putsF_snoc (fun _ => none) htk)
   have HROW := Lib.hid hrow
   have hk0 : (0 : Int) ≤ (k : Int) := by omega
   have hkn : (k : Int) < (n : Int) := by omega
   clear hla htk hrow
   go_wp2_with ((with_reducible show wpList _ _ _ (⟨some 14, _, _, _, _, _⟩ :: _) _ _); refine holdK ?_)
   refine heldK (wpList_load_mid rfl 60 (.tmp 13) rfl b' (o + k * 2) rfl (pairC a) _ HROW.out Tryz.underlying60 rfl (by kernel_rfl) ?_)
   obtain ⟨ck, cv⟩ := a
   unfold pairC
   simp only at hsz
   have hbn : wr.grownBy (wr.alloc (.cells #[.string ck, .string cv] 60)) none := World.grownBy_alloc _ _ _
   have hcc := fun (i : Nat) => cell_of_row (wr.alloc (.cells #[.string ck, .string cv] 60)) wr.heap.size i _ _ (0, 0) (heap_alloc_new wr _)
   have c0 := hcc 0
   have c1 := hcc 1
   have HM1 := Lib.hid (HMR.out.kept hbn (by simp))
   have HG1 := Lib.hid (grownK_trans HG.out (hbn.but (some b)))
   clear hcc hbn HMR
   go_wp2_with ((with_reducible show wpList _ _ _ (⟨none, Op.mapUpdate _ _ _ _, _, _, _, _⟩ :: _) _ _); refine holdK ?_)
   generalize wr.alloc (.cells #[.string ck, .string cv] 60) = W1 at *
   obtain ⟨D, hD, hR⟩ := HM1.out
   refine heldK (wpList_mapUpdate_own _ rfl _ _ _ 72 rfl 9 60 lawS Tryz.underlying72 _ b k D rfl hD (by unfold maxLen; omega) (.string ck) (pairV ck cv) (keyL ck) rfl rfl (keyOf_text (by unfold maxLen; omega)) (pairD ck cv) [] (pairElem_mk ck cv) ?_)
   intro W2 hown hg2
   have HM2 : Hid (MapIs W2 b (k + 1) (putsF (fun _ => none) (l.take (k + 1)))) := Lib.hid ⟨_, hown, by rw [HRF.out]; exact hR.put ck cv⟩
   have HG2 := Lib.hid (grownK_trans HG1.out hg2)
   clear hown hg2 hD hR c0 c1 HM1 HG1
   go_wp2_with fail
   go_roundw
   case rel => exact ⟨k + 1, by omega, by go_num, HM2.out, HG2.out⟩
   case measure => simp [intOf]; omega
  ·have hkn : ¬ (k : Int) < (n : Int) := by omega
   obtain rfl : k = n := by omega
   have hfull : l.take k = l := List.take_of_length_le (by rw [HLB.out.1]; exact Nat.le_refl _)
   have hmf := HMR.out
   rw [hfull] at hmf
   have hrs : b ≤ wr.heap.size := Nat.le_trans (Nat.le_of_lt HLT0.out) HG.out.size
   have hch := change_any b k (putsF (fun _ => none) l) A' n' c' cs wr hmf ((HCB.out.grown HG.out (Nat.le_of_lt HLT0.out) HNE2.out).more hrs) HNE2.out HS2.out (by omega) (by omega)
   have HCH := Lib.hid hch
   clear hch hfull hmf
   go_wp2_with fail
   refine HCH.out.mono ?_
   rintro e w3 ⟨rfl, hm3, hg3⟩
   have HM3 := Lib.hid hm3
   have hg13 := grownK_trans HG.out hg3
   have hb3 : Below b w w3 := HBW.out.grown hg13 (Nat.le_of_lt HLT0.out) (fun j hj => by cases hj; exact Nat.le_refl _)
   have HB3 := Lib.hid hb3
   have hr3 := rising_any b (k + n') _ w3 hm3 (by omega)
   have HR3 := Lib.hid hr3
   clear hm3 hg3 hg13 hb3 hr3 HCH
   go_wp2_with fail
   refine HR3.out.mono ?_
   rintro e w4 ⟨A4, n4, c4, l4, rfl, ho4, hl4, hb4⟩
   have hbs : b ≤ w3.heap.size := by have := HB3.out.size; have := HBE.out; omega
   have HO4 := Lib.hid (ho4.from_ hbs)
   have HL4 := Lib.hid hl4
   have HB4 := Lib.hid (HB3.out.trans (hb4.mono hbs))
   clear ho4 hl4 hb4 HR3
   go_wp2_with fail
   go_ret
   exact ⟨A4, n4, c4, l4, rfl, by rw [HBE.out]; exact HO4.out, HL4.out, by first | exact HB4.out | (rw [HBE.out]; exact HB4.out)⟩
end Go.Proofs.YtcdehejgnnnimaaGreatDoor
