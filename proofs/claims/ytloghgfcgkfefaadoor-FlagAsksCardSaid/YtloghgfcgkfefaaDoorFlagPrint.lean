/-
  Contracts over package flag: what is told of flags.
-/
import Derived.Test.YtloghgfcgkfefaaDoorFlagCalls
import Derived.Test.YtloghgfcgkfefaaDoorFlagShelf
import Derived.Lib.Join
namespace Go.Proofs.YtloghgfcgkfefaaDoor
open Go.RowKit
set_option linter.unusedVariables false
set_option linter.unusedSimpArgs false

theorem info_str : (Tryd.prog.info? 9).map (fun i => (i.zero, i.size, i.bytes)) = some (some (.string ByteArray.empty), 1, 16) := by kernel_rfl
theorem strOf_append (a b : List Nat) : strOf a ++ strOf b = strOf (a ++ b) := by
  refine data_inj ?_
  rw [ByteArray.data_append, Array.toList_append, strOf_data, strOf_data, strOf_data, List.map_append]
/-- texts in cells: a slice of them -/
def Strs (w : World) (b o : Nat) (l : List (List Nat)) : Prop := ∀ i p, l[i]? = some p → w.cell? ⟨b, o + i, none⟩ = some (.string (strOf p))
theorem Strs.keep {w w' : World} {b o : Nat} {l : List (List Nat)} (h : Strs w b o l) (hk : ∀ i, w'.cell? ⟨b, i, none⟩ = w.cell? ⟨b, i, none⟩) : Strs w' b o l := fun i p hp => by rw [hk]; exact h i p hp
theorem Strs.below {w w' : World} {b o B : Nat} {l : List (List Nat)} (h : Strs w b o l) (hb : Below B w w') (hB : b < B) : Strs w' b o l := h.keep fun i => hb.cell (p := ⟨b, i, none⟩) hB
theorem Strs.tail {w : World} {b o : Nat} {p : List Nat} {l : List (List Nat)} (h : Strs w b o (p :: l)) : Strs w b (o + 1) l := fun i q hq => by
  rw [show o + 1 + i = o + (i + 1) by omega]
  exact h (i + 1) q hq
def sv (p : List Nat) : Value := .string (strOf p)
/-- an own slice of texts -/
def OwnS (w : World) (base : Nat) (A : Option Addr) (n c : Nat) (l : List (List Nat)) : Prop := OwnV w base 9 A n c (l.map sv)
section
variable {w w' : World} {base n c : Nat} {A : Option Addr} {l : List (List Nat)}
theorem OwnS.len (h : OwnS w base A n c l) : l.length = n := by have := OwnV.len h; simpa using this
theorem OwnS.below (h : OwnS w base A n c l) (hb : Below w.heap.size w w') : OwnS w' base A n c l := OwnV.below h hb
theorem OwnS.at_ (h : OwnS w base A n c l) (hn : 0 < n) : ∃ g, A = some ⟨g, 0, none⟩ ∧ base ≤ g ∧ g < w.heap.size ∧ Strs w g 0 l ∧ (∀ i, w.frozen? ⟨g, i, none⟩ = false) ∧
    ∀ i p, i < n → OwnS (w.setCell ⟨g, i, none⟩ (.string (strOf p))) base A n c (l.set i p) := by
  have hlen := h.len
  rcases h.2 with ⟨_, h0⟩ | ⟨g, cap, cur, hv, hg, hh, hnc, hcm, hcs, htk⟩
  · omega
  · injection hv with hA _ hc
    subst hA hc
    refine ⟨g, rfl, hg, (Array.getElem?_eq_some_iff.1 hh).1, fun i p hp => ?_, fun i => frozen_of_row w g i cur _ hh, fun i p hi => ?_⟩
    · have hil : i < l.length := (List.getElem?_eq_some_iff.1 hp).1
      rw [Nat.zero_add, cell_of_row w g i cur _ (0, 0) hh]
      have h2 := congrArg (·[i]?) htk
      simp only [List.getElem?_take, Nat.mul_one, List.getElem?_map, hp, Option.map_some] at h2
      rw [if_pos (by omega)] at h2
      have h3 : cur[i]? = some (sv p) := by simpa only [Array.getElem?_toList] using h2
      exact h3
    · refine ⟨by simp [hlen], .inr ⟨g, c, cur.setIfInBounds i (.string (strOf p)), rfl, hg, heap_setCell_same w g i cur _ _ hh, hnc, hcm, by simpa using hcs, ?_⟩⟩
      rw [Array.toList_setIfInBounds, List.take_set, htk, List.map_set]
      rfl
end

theorem joinTail_up : ∀ (x : List Nat) (r : List (List Nat)), x.map UInt8.ofNat ++ Lib.joinTail [32] (r.map fun p => p.map UInt8.ofNat) = (joinUp (x :: r)).map UInt8.ofNat
  | x, [] => by simp [Lib.joinTail, joinUp]
  | x, y :: r => by
    have := joinTail_up y r
    show _ = (x ++ 32 :: joinUp (y :: r)).map UInt8.ofNat
    rw [List.map_append, List.map_cons (l := joinUp (y :: r)), ← this]
    simp [Lib.joinTail]
theorem join_up (l : List (List Nat)) : (⟨(Lib.join ((l.map strOf).map (·.data.toList)) (⟨#[32]⟩ : ByteArray).data.toList).toArray⟩ : ByteArray) = strOf (joinUp l) := by
  refine data_inj ?_
  rw [strOf_data]
  have e : ((l.map strOf).map (·.data.toList)) = l.map fun p => p.map UInt8.ofNat := by
    rw [List.map_map]
    exact List.map_congr_left fun p _ => strOf_data p
  rw [e]
  show Lib.join _ [32] = _
  cases l with
  | nil => rfl
  | cons x r => rw [List.map_cons, Lib.join_cons, joinTail_up]

theorem told_len (f : Int) : (told f).length ≤ 5 := toldUp_len f 5
theorem told_join_len (f : Int) : (joinUp (told f)).length ≤ 50 := by
  have := joinUp_len (toldUp_mem f 5)
  have := told_len f
  unfold told at *
  omega
theorem join_any (f : Int) (A : Option Addr) (n c base : Nat) (w : World) (h : OwnS w base A n c (told f)) (hA0 : 0 < n → True) :
    Calls Tryd.prog 20 #[.slice A n c, .string ⟨#[32]⟩] w fun e w' => e = .returned (.string (strOf (joinUp (told f)))) ∧ Below w.heap.size w w' := by
  have hl := h.len
  have h5 := told_len f
  by_cases h0 : n = 0
  · subst h0
    have hn : told f = [] := List.eq_nil_of_length_eq_zero hl
    refine (Any.strings_Join_none fS156 fSBuilder_Extra_156 A c ⟨#[32]⟩ w).mono ?_
    rintro e w' ⟨rfl, rfl⟩
    refine ⟨?_, Below.refl _ _⟩
    rw [hn]; rfl
  · obtain ⟨g, rfl, _, hg, hst, _, _⟩ := h.at_ (by omega)
    have hcap : n ≤ c := by
      rcases h.2 with ⟨_, h0'⟩ | ⟨g', cap, cur, hv, _, _, hnc, _, _, _⟩
      · omega
      · injection hv with _ _ hc
        omega
    have hjl : (Lib.join (((told f).map strOf).map (·.data.toList)) (⟨#[32]⟩ : ByteArray).data.toList).length ≤ 140737488355328 := by
      have e := congrArg ByteArray.size (join_up (told f))
      have e2 : ∀ L : List UInt8, (⟨L.toArray⟩ : ByteArray).size = L.length := fun L => by simp [ByteArray.size]
      rw [strOf_size, e2] at e
      have := told_join_len f
      omega
    have hx := Any.strings_Join fS156 fSBuilder_Extra_156 g 0 c ((told f).map strOf) ⟨#[32]⟩ w (fun j x hj => by
        rw [List.getElem?_map] at hj
        obtain ⟨p, hp, rfl⟩ := Option.map_eq_some_iff.1 hj
        exact hst j p hp) hg (by rw [List.length_map]; omega) (by rw [List.length_map]; omega) hjl
    rw [List.length_map, hl, join_up] at hx
    exact hx

theorem toldUp_yes {f : Int} {k : Nat} (h : hasB f k = true) : toldUp f (k + 1) = toldUp f k ++ [flagS k] := by
  show _ ++ _ = _
  rw [if_pos h]
theorem toldUp_no {f : Int} {k : Nat} (h : hasB f k = false) : toldUp f (k + 1) = toldUp f k := by
  show _ ++ _ = _
  rw [h, if_neg (by decide), List.append_nil]
theorem tell_eq (f : Int) : (⟨#[40]⟩ : ByteArray) ++ strOf (joinUp (told f)) ++ ⟨#[41]⟩ = strOf (tellN f) := by
  unfold tellN
  have e1 : (⟨#[40]⟩ : ByteArray) = strOf [40] := rfl
  have e2 : (⟨#[41]⟩ : ByteArray) = strOf [41] := rfl
  rw [e1, e2, strOf_append, strOf_append]
  rfl

set_option maxRecDepth 20000 in
set_option maxHeartbeats 4000000 in
theorem print_any (f : Int) (w : World) (hA : All w) :
    Calls Tryd.prog 13 #[.int .i64 f] w fun e w' => e = .returned (.string (strOf (tellN f))) ∧ Below w.heap.size w w' := by
  have hAl := hA.below ((Below.refl w.heap.size w).alloc (Nat.le_refl _) (.cells #[] 9))
  have HA := Lib.hid hA
  have HRG := Lib.hid hAl
  clear hA hAl
  go_enter Tryd.func13, Tryd.ntmps13
  go_wp2_with ((with_reducible show wpList _ _ _ (⟨some 7, _, _, _, _, _⟩ :: _) _ _); refine hold ?_)
  refine held (wpList_load_mid rfl 39 (.global 0) rfl 0 0 rfl allC (.array 5 38) HRG.out Tryd.underlying39 rfl (by kernel_rfl) ?_)
  go_wp2_with fail
  go_loopw [3, 8] (fun o i wx => ∃ (k : Nat) (A : Option Addr) (n cp : Nat), k ≤ 5 ∧ i = .int .i64 (k : Int) ∧ o = .slice A n cp ∧ OwnS wx w.heap.size A n cp (toldUp f k) ∧ Below w.heap.size w wx) (fun _ i _ => 5 - (intOf i).toNat)
  case atStart =>
    refine ⟨0, _, _, _, Nat.zero_le _, rfl, rfl, ?_, (Below.refl _ _).alloc (Nat.le_refl _) _⟩
    exact ⟨rfl, .inr ⟨w.heap.size, 0, _, rfl, Nat.le_refl _, heap_alloc_new w _, Nat.le_refl _, by unfold maxLen; omega, rfl, rfl⟩⟩
  case round =>
    obtain ⟨k, A, n, cp, hk, rfl, rfl, hown, hb⟩ := hrel
    have HOWN := Lib.hid hown
    have HB := Lib.hid hb
    have hnl := hown.len
    have hn5 : n ≤ 5 := by
      have := toldUp_len f k
      omega
    clear hown hb
    by_cases hlt : k < 5
    · have hix := index_all k hlt wr
      cases hq : hasB f k
      · have hq' : (bits .and .i64 f (bitN k : Nat) != 0) = false := hq
        have HT := Lib.hid (toldUp_no hq)
        have HO2 := Lib.hid (OwnV.alloc HOWN.out (.cells #[.int .i64 (bitN k : Nat), .string (strOf (flagS k))] 38))
        clear hq
        go_wp2_with fail
        go_roundw
        case rel => exact ⟨k + 1, A, n, cp, by omega, by go_num, rfl, by rw [HT.out]; exact HO2.out, HB.out.alloc HB.out.size _⟩
        case measure => simp [intOf]; omega
      · have hq' : (bits .and .i64 f (bitN k : Nat) != 0) = true := hq
        have HT := Lib.hid (toldUp_yes hq)
        clear hq
        go_wp2_with ((with_reducible show wpList _ _ _ (⟨some 20, _, _, _, _, _⟩ :: _) _ _); refine hold ?_)
        refine held (wpList_append_one rfl (.tmp 16) (.tmp 19) 22 rfl Tryd.underlying22 info_str rfl (by omega) w.heap.size A n cp _ rfl (OwnV.alloc (OwnV.alloc HOWN.out _) _) (wr.heap.size + 1) 0 (.string (strOf (flagS k))) rfl
          (by rw [cell_of_row _ (wr.heap.size + 1) 0 _ _ (0, 0) (by have := heap_alloc_new (wr.alloc (.cells #[.int .i64 (bitN k : Nat), .string (strOf (flagS k))] 38)) (.cells #[.string (strOf (flagS k))] 9); rwa [World.size_alloc] at this)]; rfl) rfl (by omega) (by have := HB.out.size; simp; omega) ?_)
        intro A2 cp2 wx hown2 hb2
        have hown3 : OwnS wx w.heap.size A2 (n + 1) cp2 (toldUp f (k + 1)) := by
          rw [HT.out]
          unfold OwnS
          rw [List.map_append]
          exact hown2
        have HO3 := Lib.hid hown3
        have HB3 := Lib.hid (((HB.out.alloc HB.out.size _).alloc (by have := HB.out.size; simp; omega) _).trans hb2)
        clear hown2 hb2 hown3
        go_wp2_with fail
        go_roundw
        case rel => exact ⟨k + 1, A2, n + 1, cp2, by omega, by go_num, rfl, HO3.out, HB3.out⟩
        case measure => simp [intOf]; omega
    · have hown' : OwnS wr w.heap.size A n cp (told f) := by
        obtain rfl : k = 5 := by omega
        exact HOWN.out
      have HO := Lib.hid hown'
      have HTE := Lib.hid (tell_eq f)
      have hsz : (strOf (joinUp (told f))).size ≤ 50 := by rw [strOf_size]; exact told_join_len f
      clear hown'
      go_wp2_with fail
      refine (join_any f A n cp w.heap.size wr HO.out (fun _ => trivial)).mono ?_
      rintro e w' ⟨rfl, hb2⟩
      have HB2 := Lib.hid (HB.out.trans (hb2.mono HB.out.size))
      clear hb2
      go_wp2_with fail
      go_ret
      exact ⟨by rw [HTE.out] <;> rfl, HB2.out⟩
end Go.Proofs.YtloghgfcgkfefaaDoor
