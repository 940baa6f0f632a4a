/-
  Contracts over package pack: its reader, as the bytes that are left and the error.
-/
import Derived.Test.YtcajmigkpcjbcaaDoorQPackWalksA
namespace Go.Proofs.YtcajmigkpcjbcaaDoor
set_option linter.unusedVariables false
set_option linter.unusedSimpArgs false
open Go.RowKit

/-- the program's reader in block g -/
def RdP (w : World) (g : Nat) (l : List Nat) (e : Nat) : Prop := w.heap[g]? = some (.cells #[.string (strOf l), .int .i64 (e : Int)] 81)
section
variable {w w' : World} {g e : Nat} {l : List Nat}
theorem RdP.lt (h : RdP w g l e) : g < w.heap.size := (Array.getElem?_eq_some_iff.1 h).1
theorem RdP.c0 (h : RdP w g l e) : w.cell? ⟨g, 0, none⟩ = some (.string (strOf l)) := by rw [cell_of_row w g 0 _ _ (0, 0) h]; rfl
theorem RdP.c1 (h : RdP w g l e) : w.cell? ⟨g, 1, none⟩ = some (.int .i64 (e : Int)) := by rw [cell_of_row w g 1 _ _ (0, 0) h]; rfl
theorem RdP.f0 (h : RdP w g l e) : w.frozen? ⟨g, 0, none⟩ = false := frozen_of_row w g 0 _ _ h
theorem RdP.f1 (h : RdP w g l e) : w.frozen? ⟨g, 1, none⟩ = false := frozen_of_row w g 1 _ _ h
theorem RdP.grown (h : RdP w g l e) {row : Option Nat} (hg : w.grownBy w' row) (hr : some g ≠ row) : RdP w' g l e := (hg.block g h.lt hr).trans h
theorem RdP.below (h : RdP w g l e) {B : Nat} (hb : Below B w w') (hB : g < B) : RdP w' g l e := (hb.block g hB).trans h
theorem RdP.put0 (h : RdP w g l e) (l' : List Nat) : RdP (w.setCell ⟨g, 0, none⟩ (.string (strOf l'))) g l' e := by
  have := heap_setCell_same w g 0 _ _ (.string (strOf l')) h
  exact this
theorem RdP.put1 (h : RdP w g l e) (e' : Nat) : RdP (w.setCell ⟨g, 1, none⟩ (.int .i64 (e' : Int))) g l e' := by
  have := heap_setCell_same w g 1 _ _ (.int .i64 (e' : Int)) h
  exact this
theorem RdP.new (w : World) (l : List Nat) : RdP (w.alloc (.cells #[.string (strOf l), .int .i64 0] 81)) w.heap.size l 0 := heap_alloc_new w _
end
theorem grownBy_setCell (w : World) (b i : Nat) (v : Value) : w.grownBy (w.setCell ⟨b, i, none⟩ v) (some b) :=
  ⟨rfl, rfl, rfl, by simp, fun k _ hr => Below.heap_setCell w _ v k (fun e => hr (by rw [e]))⟩

/-- behind a call of a method: the reader stands so, and all else is as it was -/
def Stood (g : Nat) (l : List Nat) (e : Nat) (w w' : World) : Prop := RdP w' g l e ∧ w.grownBy w' (some g)
def Gave (v : Value) (g : Nat) (l : List Nat) (e : Nat) (w : World) (x : Ending) (w' : World) : Prop := x = .returned v ∧ Stood g l e w w'

/-- the error behind a note -/
def noteE (e k : Nat) : Nat := if e = 0 then k else e
theorem noteE_0 (k : Nat) : noteE 0 k = k := rfl
theorem noteE_ne {e : Nat} (k : Nat) (h : e ≠ 0) : noteE e k = e := if_neg h

set_option maxHeartbeats 400000 in
theorem note_any (g e k : Nat) (l : List Nat) (w : World) (h : RdP w g l e) :
    Calls Tryd.prog 57 #[.pointer (some ⟨g, 0, none⟩), .int .i64 (k : Int)] w (Gave (.tuple #[]) g l (noteE e k) w) := by
  have h1 := h.c1
  have h2 := h.f1
  have hp := h.put1 k
  by_cases he : e = 0
  · subst he
    rw [noteE_0]
    have H := hide h
    clear h
    go_enter Tryd.func57, Tryd.ntmps57
    go_wp2
    go_end0
    exact ⟨rfl, hp, grownBy_setCell _ _ _ _⟩
  · rw [noteE_ne k he]
    have heb : ((e : Int) == 0) = false := by simp; omega
    have H := hide h
    clear h
    go_enter Tryd.func57, Tryd.ntmps57
    go_wp2
    go_end0
    exact ⟨rfl, H.out, World.grownBy.refl _ _⟩

/-- a nil reader has nothing to note -/
theorem note_nil (k : Int) (w : World) : Calls Tryd.prog 57 #[.pointer none, .int .i64 k] w fun e w' => e = .returned (.tuple #[]) ∧ w = w' := by
  go_enter Tryd.func57, Tryd.ntmps57
  go_wp2
  go_end0
  exact ⟨rfl, rfl⟩

theorem takeV_ok {l : List Nat} {n : Nat} (h : n ≤ l.length) : takeV l 0 n = l.take n := if_pos ⟨rfl, h⟩
theorem takeL_ok {l : List Nat} {n : Nat} (h : n ≤ l.length) : takeL l 0 n = l.drop n := if_pos ⟨rfl, h⟩
theorem takeE_ok {l : List Nat} {n : Nat} (h : n ≤ l.length) : takeE l 0 n = 0 := if_neg (by omega)
theorem takeV_short {l : List Nat} {n : Nat} (h : l.length < n) : takeV l 0 n = [] := if_neg (by omega)
theorem takeL_short {l : List Nat} {n : Nat} (h : l.length < n) : takeL l 0 n = l := if_neg (by omega)
theorem takeE_short {l : List Nat} {n : Nat} (h : l.length < n) : takeE l 0 n = 2 := if_pos ⟨rfl, h⟩
theorem strOf_nil : strOf [] = ⟨#[]⟩ := rfl

set_option maxRecDepth 20000 in
set_option maxHeartbeats 400000 in
theorem ptake_any (g e n : Nat) (l : List Nat) (w : World) (h : RdP w g l e) (hl : l.length ≤ 140737488355328) (hn : n ≤ 18446744073709551615 / 2) :
    Calls Tryd.prog 69 #[.pointer (some ⟨g, 0, none⟩), .int .i64 (n : Int)] w (Gave (.string (strOf (takeV l e n))) g (takeL l e n) (takeE l e n) w) := by
  have h0 := h.c0
  have h1 := h.c1
  have h2 := h.f0
  have hsz := strOf_size l
  by_cases he : e = 0
  · subst he
    have HP := hide (h.put0 (l.drop n))
    have HT := hide (strOf_to l n)
    have HF := hide (strOf_from l n l.length (Nat.le_refl _))
    by_cases hlt : l.length < n
    · rw [takeV_short hlt, takeL_short hlt, takeE_short hlt, strOf_nil]
      have H := hide h
      clear h
      generalize strOf l = s at *
      go_enter Tryd.func69, Tryd.ntmps69
      go_wp2_with fail
      refine (note_any g 0 2 l w H.out).mono ?_
      rintro e' w1 ⟨rfl, hr1, hg1⟩
      rw [noteE_0] at hr1
      go_wp2
      go_ret
      exact ⟨rfl, hr1, hg1⟩
    · have hle : n ≤ l.length := by omega
      rw [takeV_ok hle, takeL_ok hle, takeE_ok hle]
      have H := hide h
      clear h
      generalize strOf l = s at *
      go_enter Tryd.func69, Tryd.ntmps69
      go_wp2
      rw [HT.out, HF.out]
      go_ret
      exact ⟨rfl, HP.out, grownBy_setCell _ _ _ _⟩
  · rw [takeV_stays he, takeL_stays he, takeE_stays he, strOf_nil]
    have heb : ((e : Int) == 0) = false := by simp; omega
    have H := hide h
    clear h
    generalize strOf l = s at *
    go_enter Tryd.func69, Tryd.ntmps69
    go_wp2
    go_ret
    exact ⟨rfl, H.out, World.grownBy.refl _ _⟩

theorem or8 (x y : Nat) (hx : x < 72057594037927936) (hy : y < 256) : bits .or .u64 ((x : Int) * 256) (y : Int) = ((x * 256 + y : Nat) : Int) := by
  have h := u64_or_nat (x * 256) y (by omega) (by omega)
  rw [nat_join 8 (x * 256) y (by omega) (by omega)] at h
  exact h
theorem pow256_le {k m : Nat} (h : k ≤ m) : 256 ^ k ≤ 256 ^ m := Nat.pow_le_pow_right (by omega) h

set_option maxRecDepth 20000 in
set_option maxHeartbeats 400000 in
theorem praw_any (g e n : Nat) (l : List Nat) (w : World) (h : RdP w g l e) (hl : l.length ≤ 140737488355328) (hb : ∀ x ∈ l, x < 256) (hn : n ≤ 8) :
    Calls Tryd.prog 56 #[.pointer (some ⟨g, 0, none⟩), .int .i64 (n : Int)] w (Gave (.int .u64 ((decB (takeV l e n) : Nat) : Int)) g (takeL l e n) (takeE l e n) w) := by
  have kc := fun W s => Lib.run_convert_string_bytes (P := Tryd.prog) W 9 24 5 s Tryd.underlying9 Tryd.underlying24 Tryd.underlying5
  go_enter Tryd.func56, Tryd.ntmps56
  go_wp2_with fail
  refine (ptake_any g e n l w h hl (by omega)).mono ?_
  rintro e' w1 ⟨rfl, hr1, hg1⟩
  have hv : ∀ x ∈ takeV l e n, x < 256 := takeV_lt hb
  have hvl : (takeV l e n).length ≤ n := takeV_len
  generalize takeV l e n = v at *
  generalize takeL l e n = l' at *
  generalize takeE l e n = e2 at *
  have hS : (strOf v).size = v.length := strOf_size v
  have HNS := hide (nats_strOf v hv)
  generalize strOf v = s at *
  go_wp2
  clear kc
  have hB := bytesWorld_bytes w1 5 s
  rw [HNS.out, hS] at hB
  have hgW := grownBy_trans hg1 (bytesWorld_grown w1 5 s (some g))
  have hrW := hr1.grown (bytesWorld_grown w1 5 s none) (by simp)
  generalize Lib.bytesWorld w1 5 s = W at *
  generalize w1.heap.size = bb at *
  clear hr1 hg1 hS HNS
  have HP := hide hrW
  clear hrW h
  go_loop [5, 13] (fun t i => ∃ k : Nat, k ≤ v.length ∧ i = .int .i64 k ∧ t = .int .u64 ((decB (v.take k) : Nat) : Int)) (fun _ i => v.length - (intOf i).toNat)
  case atStart => exact ⟨0, Nat.zero_le _, rfl, rfl⟩
  case round =>
    obtain ⟨k, hk, rfl, rfl⟩ := hrel
    by_cases hlt : k < v.length
    · obtain ⟨b, o, hA, _, hc⟩ := hB.at_ hlt
      injection hA with hA
      injection hA with hA1 hA2
      subst hA1; subst hA2
      rw [Nat.zero_add] at hc
      have hby := hB.lt k
      have hx : decB (v.take k) < 72057594037927936 := by
        have h1 := decB_lt (v.take k) (fun x hx => hv x (List.mem_of_mem_take hx))
        have h2 : 256 ^ (v.take k).length ≤ 256 ^ 7 := pow256_le (by rw [List.length_take]; omega)
        omega
      have HT := hide (decB_take v k hlt)
      have HO := fun hx => hide (or8 (decB (v.take k)) (byteAt v k) hx hby)
      have HO := HO hx
      generalize decB (v.take k) = x at *
      generalize byteAt v k = y at *
      go_wp2
      go_round
      case rel => exact ⟨k + 1, by omega, by go_num, by rw [HO.out, HT.out]⟩
      case measure => simp [intOf]; omega
    · have HK := hide (show v.take k = v from List.take_of_length_le (by omega))
      rw [HK.out]
      go_wp2
      go_ret
      exact ⟨rfl, HP.out, hgW⟩

theorem Stood.trans {g : Nat} {l l' : List Nat} {e e' : Nat} {w w' w'' : World} (h : Stood g l e w w') (h' : Stood g l' e' w' w'') : Stood g l' e' w w'' := ⟨h'.1, grownBy_trans h.2 h'.2⟩

set_option maxRecDepth 20000 in
set_option maxHeartbeats 400000 in
theorem pNum_any (g e : Nat) (l : List Nat) (w : World) (h : RdP w g l e) (hl : l.length ≤ 140737488355328) (hb : ∀ x ∈ l, x < 256) :
    Calls Tryd.prog 39 #[.pointer (some ⟨g, 0, none⟩)] w (Gave (.int .i64 ((numV l e : Nat) : Int)) g (takeL l e 8) (numE l e) w) := by
  have HV : Hid (numV l e = if 4611686018427387904 < decB (takeV l e 8) then 0 else decB (takeV l e 8)) := hide rfl
  have HE : Hid (numE l e = if 4611686018427387904 < decB (takeV l e 8) then 3 else takeE l e 8) := hide rfl
  have HX : Hid (takeE l e 8 ≠ 0 → takeV l e 8 = []) := hide takeV_err
  go_enter Tryd.func39, Tryd.ntmps39
  go_wp2_with fail
  refine (praw_any g e 8 l w h hl hb (by omega)).mono ?_
  rintro e' w1 ⟨rfl, hs1⟩
  generalize takeV l e 8 = v at *
  generalize takeE l e 8 = e1 at *
  generalize takeL l e 8 = l1 at *
  by_cases hg : 4611686018427387904 < decB v
  · have he : e1 = 0 := by
      rcases Nat.eq_zero_or_pos e1 with h0 | h0
      · exact h0
      · have := HX.out (by omega); subst this; rw [decB_nil] at hg; omega
    subst he
    have HV2 := hide (HV.out.trans (if_pos hg))
    have HE2 := hide (HE.out.trans (if_pos hg))
    have hgi : (4611686018427387904 : Int) < ((decB v : Nat) : Int) := by omega
    clear hg HV HE HX
    generalize decB v = x at *
    go_wp2_with fail
    refine (note_any g 0 3 l1 w1 hs1.1).mono ?_
    rintro e' w2 ⟨rfl, hs2⟩
    rw [noteE_0] at hs2
    go_wp2
    go_ret
    rw [HV2.out, HE2.out]
    exact ⟨rfl, hs1.trans hs2⟩
  · have HV2 := hide (HV.out.trans (if_neg hg))
    have HE2 := hide (HE.out.trans (if_neg hg))
    have hgi : ¬ (4611686018427387904 : Int) < ((decB v : Nat) : Int) := by omega
    clear hg HV HE HX
    generalize decB v = x at *
    go_wp2
    go_ret
    rw [HV2.out, HE2.out]
    exact ⟨rfl, hs1⟩

set_option maxRecDepth 20000 in
set_option maxHeartbeats 400000 in
theorem pText_any (g e : Nat) (l : List Nat) (w : World) (h : RdP w g l e) (hl : l.length ≤ 140737488355328) (hb : ∀ x ∈ l, x < 256) :
    Calls Tryd.prog 58 #[.pointer (some ⟨g, 0, none⟩)] w (Gave (.string (strOf (textV l e))) g (textL l e) (textE l e) w) := by
  have HV : Hid (textV l e = if 4096 < decB (takeV l e 4) then [] else takeV (takeL l e 4) (takeE l e 4) (decB (takeV l e 4))) := hide rfl
  have HL : Hid (textL l e = if 4096 < decB (takeV l e 4) then takeL l e 4 else takeL (takeL l e 4) (takeE l e 4) (decB (takeV l e 4))) := hide rfl
  have HE : Hid (textE l e = if 4096 < decB (takeV l e 4) then 4 else takeE (takeL l e 4) (takeE l e 4) (decB (takeV l e 4))) := hide rfl
  have HX : Hid (takeE l e 4 ≠ 0 → takeV l e 4 = []) := hide takeV_err
  have hl1 : (takeL l e 4).length ≤ 140737488355328 := Nat.le_trans takeL_len hl
  go_enter Tryd.func58, Tryd.ntmps58
  go_wp2_with fail
  refine (praw_any g e 4 l w h hl hb (by omega)).mono ?_
  rintro e' w1 ⟨rfl, hs1⟩
  generalize takeV l e 4 = v at *
  generalize takeE l e 4 = e1 at *
  generalize takeL l e 4 = l1 at *
  by_cases hg : 4096 < decB v
  · have he : e1 = 0 := by
      rcases Nat.eq_zero_or_pos e1 with h0 | h0
      · exact h0
      · have := HX.out (by omega); subst this; rw [decB_nil] at hg; omega
    subst he
    have HV2 := hide (HV.out.trans (if_pos hg))
    have HE2 := hide (HE.out.trans (if_pos hg))
    have HL2 := hide (HL.out.trans (if_pos hg))
    have hgi : (4096 : Int) < ((decB v : Nat) : Int) := by omega
    clear hg HV HE HX HL
    generalize decB v = x at *
    go_wp2_with fail
    refine (note_any g 0 4 l1 w1 hs1.1).mono ?_
    rintro e' w2 ⟨rfl, hs2⟩
    rw [noteE_0] at hs2
    go_wp2
    go_ret
    rw [HV2.out, HE2.out, HL2.out]
    exact ⟨rfl, hs1.trans hs2⟩
  · have HV2 := hide (HV.out.trans (if_neg hg))
    have HE2 := hide (HE.out.trans (if_neg hg))
    have HL2 := hide (HL.out.trans (if_neg hg))
    have hgi : ¬ (4096 : Int) < ((decB v : Nat) : Int) := by omega
    clear HV HE HX HL
    generalize decB v = x at *
    go_wp2_with fail
    refine (ptake_any g e1 x l1 w1 hs1.1 hl1 (by omega)).mono ?_
    rintro e' w2 ⟨rfl, hs2⟩
    go_wp2
    go_ret
    rw [HV2.out, HE2.out, HL2.out]
    exact ⟨rfl, hs1.trans hs2⟩

set_option maxRecDepth 20000 in
set_option maxHeartbeats 400000 in
theorem pCount_any (g e : Nat) (m : Nat) (l : List Nat) (w : World) (h : RdP w g l e) (hl : l.length ≤ 140737488355328) (hb : ∀ x ∈ l, x < 256) (hm : m ≤ 4611686018427387904) :
    Calls Tryd.prog 70 #[.pointer (some ⟨g, 0, none⟩), .int .i64 (m : Int)] w (Gave (.int .i64 ((countV l e m : Nat) : Int)) g (takeL l e 8) (countE l e m) w) := by
  have HV : Hid (countV l e m = if (m : Int) < (numV l e : Int) then 0 else numV l e) := hide rfl
  have HE : Hid (countE l e m = if numE l e = 0 ∧ (m : Int) < (numV l e : Int) then 4 else numE l e) := hide rfl
  have hle : numV l e ≤ 4611686018427387904 := by unfold numV; split <;> omega
  go_enter Tryd.func70, Tryd.ntmps70
  go_wp2_with fail
  refine (pNum_any g e l w h hl hb).mono ?_
  rintro e' w1 ⟨rfl, hs1⟩
  generalize numV l e = x at *
  generalize numE l e = e1 at *
  generalize takeL l e 8 = l1 at *
  by_cases hg : (m : Int) < (x : Int)
  · have HV2 := hide (HV.out.trans (if_pos hg))
    have HE2 : Hid (countE l e m = noteE e1 4) := hide (HE.out.trans (by simp [hg]; rfl))
    clear HV HE
    go_wp2_with fail
    refine (note_any g e1 4 l1 w1 hs1.1).mono ?_
    rintro e' w2 ⟨rfl, hs2⟩
    go_wp2
    go_ret
    rw [HV2.out, HE2.out]
    exact ⟨rfl, hs1.trans hs2⟩
  · have HV2 := hide (HV.out.trans (if_neg hg))
    have HE2 := hide (HE.out.trans (if_neg (fun h => hg h.2)))
    clear HV HE
    go_wp2
    go_ret
    rw [HV2.out, HE2.out]
    exact ⟨rfl, hs1⟩

set_option maxHeartbeats 400000 in
theorem pFail_any (g e : Nat) (b : Bool) (l : List Nat) (w : World) (h : RdP w g l e) :
    Calls Tryd.prog 40 #[.pointer (some ⟨g, 0, none⟩), .bool b] w (Gave (.tuple #[]) g l (failE e b) w) := by
  have HE : Hid (failE e b = if e = 0 ∧ b = true then 3 else e) := hide rfl
  cases b with
  | true =>
    have HI : Hid (failE e true = noteE e 3) := hide (by rw [HE.out]; simp; rfl)
    rw [HI.out]
    clear HI HE
    have HH := hide h
    clear h
    go_enter Tryd.func40, Tryd.ntmps40
    go_wp2_with fail
    refine (note_any g e 3 l w HH.out).mono ?_
    rintro e' w1 ⟨rfl, hs1⟩
    go_wp2
    go_end0
    exact ⟨rfl, hs1⟩
  | false =>
    have HI : Hid (failE e false = e) := hide (by rw [HE.out]; simp)
    rw [HI.out]
    clear HI HE
    go_enter Tryd.func40, Tryd.ntmps40
    go_wp2
    go_end0
    exact ⟨rfl, h, World.grownBy.refl _ _⟩

set_option maxHeartbeats 400000 in
theorem pDone_any (g e : Nat) (l : List Nat) (w : World) (h : RdP w g l e) (hb : ∀ x ∈ l, x < 256) :
    Calls Tryd.prog 42 #[.pointer (some ⟨g, 0, none⟩)] w fun x w' => x = .returned (.int .i64 ((doneE l e : Nat) : Int)) ∧ w = w' := by
  have h0 := h.c0
  have h1 := h.c1
  have HE : Hid (doneE l e = if e = 0 ∧ l ≠ [] then 3 else e) := hide rfl
  have hq := strOf_eqb l [] hb (by simp)
  by_cases he : e = 0
  · subst he
    by_cases hle : l = []
    · rw [HE.out, if_neg (by simp [hle])]
      have hq2 : ((strOf l).toList == (⟨#[]⟩ : ByteArray).toList) = true := by rw [← strOf_nil, hq]; simp [hle]
      have hq3 : (strOf l).toList = [] := by subst hle; rw [ByteArray.toList_eq]; rfl
      clear hq HE hle h
      generalize strOf l = s at *
      go_enter Tryd.func42, Tryd.ntmps42
      go_wp2
      go_ret
      exact ⟨rfl, rfl⟩
    · rw [HE.out, if_pos ⟨rfl, hle⟩]
      have hq2 : ((strOf l).toList == (⟨#[]⟩ : ByteArray).toList) = false := by rw [← strOf_nil, hq]; simp [hle]
      have hq3 : ¬ (strOf l).toList = [] := by intro h; simp [h] at hq2
      have hq4 : (!(strOf l).toList.isEmpty) = true := by simpa using hq3
      clear hq HE hle h
      generalize strOf l = s at *
      go_enter Tryd.func42, Tryd.ntmps42
      go_wp2
      go_ret
      exact ⟨rfl, rfl⟩
  · rw [HE.out, if_neg (fun h => he h.1)]
    have heb : ((e : Int) == 0) = false := by simp; omega
    clear hq HE
    generalize strOf l = s at *
    go_enter Tryd.func42, Tryd.ntmps42
    go_wp2
    go_ret
    exact ⟨rfl, rfl⟩
end Go.Proofs.YtcajmigkpcjbcaaDoor
