/-
 A part of the proof: see the last text.
-/
import Derived.Test.YtcdehejgnnnimaaGreatDoorSSecWalksA
import Derived.Test.YtcdehejgnnnimaaGreatDoorSSecWords
namespace Go.Proofs.YtcdehejgnnnimaaGreatDoor
set_option linter.unusedVariables false
set_option linter.unusedSimpArgs false
open Go.RowKit Go.Shelf
attribute [local go_sem] Oper.semAt_some
def comeM {α : Type} (st : Nat → Bool) (xs : List α) (k : Nat) : List α :=
 (((xs.zipIdx).drop k).filter fun p => st p.2).reverse.map (·.1)
theorem comeM_all {α : Type} (st : Nat → Bool) (xs : List α) : comeM st xs xs.length = [] := by
 unfold comeM
 rw [List.drop_eq_nil_of_le (by simp)]
 rfl
theorem comeM_map {α β : Type} (f : α → β) (st : Nat → Bool) (xs : List α) (k : Nat) : (comeM st xs k).map f = comeM st (xs.map f) k := by
 unfold comeM
 have h : ∀ (l : List α) (m : Nat), (l.map f).zipIdx m = (l.zipIdx m).map fun p => (f p.1, p.2) := by
  intro l m
  rw [List.zipIdx_map]
  apply List.map_congr_left
  intro p _
  rfl
 rw [h, ← List.map_drop, List.filter_map, ← List.map_reverse, List.map_map, List.map_map]
 rfl
theorem comeM_step {α : Type} (st : Nat → Bool) (xs : List α) (k : Nat) (hk : k < xs.length) :
 comeM st xs k = comeM st xs (k + 1) ++ (if st k then [xs[k]] else []) := by
 unfold comeM
 rw [List.drop_eq_getElem_cons (by simpa using hk)]
 simp only [List.getElem_zipIdx, Nat.zero_add, List.filter_cons]
 split <;> simp
theorem comeM_length {α : Type} (st : Nat → Bool) (xs : List α) (k : Nat) : (comeM st xs k).length ≤ xs.length - k := by
 unfold comeM
 simp only [List.length_map, List.length_reverse]
 exact Nat.le_trans (List.length_filter_le _ _) (by simp)
theorem comeM_prefix {α : Type} (st : Nat → Bool) (xs : List α) : ∀ (m k : Nat), k + m = xs.length → ∀ j, j ≤ k → comeM st xs k <+: comeM st xs j := by
 intro m k hk j hj
 induction k generalizing m with
 | zero => obtain rfl : j = 0 := by omega
           exact List.prefix_refl _
 | succ k ih =>
   by_cases h : j = k + 1
   ·subst h; exact List.prefix_refl _
   ·have h1 : comeM st xs (k + 1) <+: comeM st xs k := by rw [comeM_step st xs k (by omega)]; exact List.prefix_append _ _
    exact h1.trans (ih (m + 1) (by omega) (by omega))
abbrev Wr (n : Nat) := { x : Int × List Int // thereB n x.1 = true ∧ x.2.length = 64 }
theorem wr_of {n : Nat} : ∀ {l : List (Int × List Int)}, looseB n l = true → (∀ x ∈ l, x.2.length = 64) → ∃ xs : List (Wr n), xs.map Subtype.val = l
 | [], _, _ => ⟨[], rfl⟩
 | x :: r, h, hl => by
   have h' : thereB n x.1 = true ∧ looseB n r = true := by simpa [looseB] using h
   obtain ⟨xs, hx⟩ := wr_of h'.2 (fun y hy => hl y (by simp [hy]))
   exact ⟨⟨x, h'.1, hl x (by simp)⟩ :: xs, by simp [hx]⟩
def Stays (F : Fence) (n : Nat) (S : Nat → Prop) (gst : Nat) (cap : Array Value) (w : World) (st : Nat → Bool) : Prop :=
 F.fn gst ∧ (∀ (args : Array Value) (w : World), (callFunc gst args).run Tryz.prog w = .ok (.enter gst args) w) ∧ ∀ (i : Nat) (W : World), i < 1000000 → Keeps S w W → CallsIn F n Tryz.prog gst (#[.int .i64 (i : Int)] ++ cap) W fun e W' => e = .returned (.bool (st i)) ∧ W = W'
set_option maxRecDepth 20000 in
set_option maxHeartbeats 400000 in
theorem every_in (F : Fence) (n : Nat) (hF : F.fn 86) (hro : F.round = none) (i : Int) (w : World) :
 CallsIn F n Tryz.prog 86 #[.int .i64 i] w fun e w' => e = .returned (.bool true) ∧ w = w' := by
 refine callsIn_of_wp Tryz.func86 rfl hF ?_ hro
 simp only [Tryz.ntmps86, List.size_toArray, List.length_cons, List.length_nil, Nat.reduceAdd, Nat.reduceSub, Array.replicate_succ, Array.replicate_zero, List.push_toArray, List.append_toArray, List.nil_append, List.cons_append]
 gi_wp2
 go_ret
 exact ⟨rfl, rfl⟩
theorem every_stays (n : Nat) (S : Nat → Prop) (w : World) : Stays Fence.wide n S 86 #[] w (fun _ => true) :=
 ⟨trivial, enters_of Tryz.func86 (by kernel_rfl) rfl, fun i W _ _ => every_in _ _ trivial rfl i W⟩
set_option maxRecDepth 20000 in
set_option maxHeartbeats 400000 in
theorem fromLast_in (F : Fence) (n : Nat) (hF : F.fn 104) (hro : F.round = none) (A : Option Addr) (len cp : Nat) (g : Nat) (cap : Array Value) (w : World) :
 CallsIn F n Tryz.prog 104 #[.slice A len cp, .func (.func g) #[] cap] w fun e w' => e = .returned (.func (.func 112) #[] #[.pointer (some ⟨w.heap.size, 0, none⟩), .pointer (some ⟨w.heap.size + 1, 0, none⟩)]) ∧
  w' = (w.alloc (.cells #[.slice A len cp] 25)).alloc (.cells #[.func (.func g) #[] cap] 113) := by
 refine callsIn_of_wp Tryz.func104 rfl hF ?_ hro
 simp only [Tryz.ntmps104, List.size_toArray, List.length_cons, List.length_nil, Nat.reduceAdd, Nat.reduceSub, Array.replicate_succ, Array.replicate_zero, List.push_toArray, List.append_toArray, List.nil_append, List.cons_append]
 gi_wp2
 go_ret
 exact ⟨rfl, rfl⟩
set_option maxRecDepth 100000 in
set_option maxHeartbeats 2000000 in
theorem last1_in {α : Type} (val : α → Int × List Int) (F : Fence) (n : Nat) (hF : F.fn 112) (hro : F.round = none) (hn : 1 ≤ n) (l Bs Bf n₀ : Nat) (S : Nat → Prop) (A : Option Addr) (len cp g : Nat) (cap : Array Value) (xs : List α) (st : Nat → Bool)
 (hlen : len ≤ 100001) (hxl : xs.length = len) (J Jx : List α → World → Prop)
 (hY : ∀ pre x W, J pre W → pre.length < len → YieldAt F (n - 1) Tryz.prog l #[.agg (wrv (val x)).toArray] W fun e W' =>
  (e = .returned (.bool true) ∧ J (pre ++ [x]) W' ∧ Keeps S W W') ∨ (e = .returned (.bool false) ∧ Jx (pre ++ [x]) W'))
 (W : World) (hBs : W.cell? ⟨Bs, 0, none⟩ = some (.slice A len cp)) (hBf : W.cell? ⟨Bf, 0, none⟩ = some (.func (.func g) #[] cap)) (hs0 : S Bs) (hf0 : S Bf) (hSn : ∀ b, b < n₀ → S b)
 (hA : Arr W n₀ 65 A len (xs.map fun x => wrv (val x))) (hSt : Stays F (n - 1) S g cap W st) (h0 : J [] W) :
 CallsIn F n Tryz.prog 112 #[.func (.yield l) #[] #[], .pointer (some ⟨Bs, 0, none⟩), .pointer (some ⟨Bf, 0, none⟩)] W fun e W' => (∃ v, e = .returned v) ∧
  ((∃ ys, ys = comeM st xs 0 ∧ J ys W') ∨ (∃ pre, pre <+: comeM st xs 0 ∧ Jx pre W')) := by
 have hrow : ∀ (k : Nat) (hk : k < xs.length), (wrv (val xs[k])).length = 65 := fun k hk => hA.2.1 _ (List.mem_map.2 ⟨_, List.getElem_mem hk, rfl⟩)
 refine callsIn_of_wp Tryz.func112 rfl hF ?_ hro
 simp only [Tryz.ntmps112, List.size_toArray, List.length_cons, List.length_nil, Nat.reduceAdd, Nat.reduceSub, Array.replicate_succ, Array.replicate_zero, List.push_toArray, List.append_toArray, List.nil_append, List.cons_append]
 gi_wp2
 gi_loopw [4] (fun i wr => ∃ k : Nat, k ≤ len ∧ i = .int .i64 ((k : Int) - 1) ∧ J (comeM st xs k) wr ∧ Keeps S W wr)
  (fun i _ => (intOf i + 1).toNat)
 case atStart => exact ⟨len, Nat.le_refl _, rfl, by rw [← hxl, comeM_all]; exact h0, Keeps.refl _ _⟩
 case round =>
  obtain ⟨k, hk, rfl, hJs, hnx⟩ := hrel
  have hBs' := (hnx.cell (p := ⟨Bs, 0, none⟩) hs0).trans hBs
  have hBf' := (hnx.cell (p := ⟨Bf, 0, none⟩) hf0).trans hBf
  cases k with
  | zero =>
    have e0 : ((0 : Nat) : Int) - 1 = -1 := by omega
    rw [e0]
    gi_wp2
    go_end0
    exact ⟨⟨_, rfl⟩, .inl ⟨_, rfl, hJs⟩⟩
  | succ k =>
    have e1 : ((k + 1 : Nat) : Int) - 1 = (k : Int) := by omega
    rw [e1]
    obtain ⟨bA, oA, rfl, hbA, hrA⟩ := hA.at_ (i := k) (by omega)
    have hkl : k < xs.length := by omega
    have hrA' : wr.rangeAt bA (oA + k * 65) (wrv (val xs[k])) := by
     have := rangeAt_keep hrA (w' := wr) (fun p hp => hnx.cell (by rw [hp]; exact hSn _ hbA))
     simpa [hkl] using this
    have HrA := Lib.hid hrA'
    clear hrA hrA' hA
    have hwl : (wrv (val xs[k])).length = 65 := hrow k hkl
    have hki : (k : Int) < (len : Int) := by omega
    obtain ⟨hg, eg, hSt'⟩ := hSt
    have hcall := Lib.hid (hSt' k wr (by omega) hnx)
    clear hSt'
    by_cases hs : st k = true
    ·gi_wp2_with fail
     refine hcall.out.mono ?_
     rintro e w' ⟨rfl, rfl⟩
     gi_wp2_with ((with_reducible show wpListIn _ _ _ _ _ (⟨some 20, _, _, _, _, _⟩ :: _) _ _); refine hold ?_)
     obtain ⟨fn, tmps, assign, body, hy, hR⟩ := hY _ xs[k] wr hJs (by have := comeM_length st xs (k + 1); omega)
     have HR := Lib.hid hR
     clear hR
     refine held (wpListIn_load_mid (by simp [Region.wanted, yielded]) 90 (.tmp 19) rfl bA (oA + k * 65) rfl (wrv (val xs[k])) (.struct (Tryz.prog.fieldsOf 90)) HrA.out Tryz.underlying90 rfl (by rw [hwl]; kernel_rfl) ?_)
     gi_wp2
     refine HR.out.mono ?_
     have hcm : comeM st xs k = comeM st xs (k + 1) ++ [xs[k]] := by rw [comeM_step st xs k hkl, if_pos hs]
     have Hcm := Lib.hid hcm
     clear hcm
     rintro e W3 (⟨rfl, hJ3, hk3⟩ | ⟨rfl, hJx3⟩)
     ·gi_wp2
      go_roundw
      case rel => exact ⟨k, by omega, by simp, by rw [Hcm.out]; exact hJ3, hnx.trans hk3⟩
      case measure => simp [intOf]
     ·gi_wp2
      refine bodyPost_ret (results_none rfl _ _ _) rfl ?_
      exact ⟨⟨_, rfl⟩, .inr ⟨_, by rw [← Hcm.out]; exact comeM_prefix st xs (xs.length - k) k (by omega) 0 (by omega), hJx3⟩⟩
    ·have hs' : st k = false := by simpa using hs
     have hcm : comeM st xs k = comeM st xs (k + 1) := by rw [comeM_step st xs k hkl, if_neg hs]; simp
     have Hcm := Lib.hid hcm
     clear hcm hs
     gi_wp2_with fail
     refine hcall.out.mono ?_
     rintro e w' ⟨rfl, rfl⟩
     gi_wp2
     refine ⟨fun _ h => (by cases h), ?_⟩
     gi_wp2
     go_roundw
     case rel => exact ⟨k, by omega, by simp, by rw [Hcm.out]; exact hJs, hnx⟩
     case measure => simp [intOf]
theorem fromLast_stops {α : Type} (val : α → Int × List Int) (F : Fence) (n : Nat) (hF : F.fn 112) (hro : F.round = none) (hn : 1 ≤ n) (Bs Bf n₀ : Nat) (S : Nat → Prop) (A : Option Addr) (len cp g : Nat) (cap : Array Value) (xs : List α) (st : Nat → Bool)
 (hlen : len ≤ 100001) (w : World) (hBs : w.cell? ⟨Bs, 0, none⟩ = some (.slice A len cp)) (hBf : w.cell? ⟨Bf, 0, none⟩ = some (.func (.func g) #[] cap)) (hs0 : S Bs) (hf0 : S Bf) (hSn : ∀ b, b < n₀ → S b) (hSw : ∀ b, S b → b < w.heap.size)
 (hA : Arr w n₀ 65 A len (xs.map fun x => wrv (val x))) (hSt : Stays F (n - 1) S g cap w st) :
 SeqStopsK F n Tryz.prog 112 #[.pointer (some ⟨Bs, 0, none⟩), .pointer (some ⟨Bf, 0, none⟩)] (fun x : α => #[.agg (wrv (val x)).toArray]) (Keeps S) (fun ys => ys = comeM st xs 0) (fun pre => pre <+: comeM st xs 0) len w :=
 fun l J Jx W hW _ _ hY h0 => by
  have hK : Keeps S w W := Keeps.of_below hW hSw
  exact last1_in val F n hF hro hn l Bs Bf n₀ S A len cp g cap xs st hlen (by simpa using hA.1) J Jx hY W ((hK.cell (p := ⟨Bs, 0, none⟩) hs0).trans hBs) ((hK.cell (p := ⟨Bf, 0, none⟩) hf0).trans hBf) hs0 hf0 hSn
   (hA.keep fun p hp => hK.cell (hSn _ hp)) ⟨hSt.1, hSt.2.1, fun i W' hi hW' => hSt.2.2 i W' hi (hK.trans hW')⟩ h0
end Go.Proofs.YtcdehejgnnnimaaGreatDoor
