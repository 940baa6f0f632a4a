/-
  The library's functions that package name calls: their contracts in the words of lists of bytes as numbers: IndexByte, Split, Cut, Contains; letters small or great.
-/
import Derived.Test.YtcajmigkpcjbcaaDoorQNameShelf
import Derived.Test.YtcajmigkpcjbcaaDoorQNameRefC
import Derived.Lib.IndexAny
import Derived.Deep.QuietTactic
namespace Go.Proofs.YtcajmigkpcjbcaaDoor
set_option linter.unusedVariables false
set_option linter.unusedSimpArgs false
open Go.RowKit
open Go.Lib hiding intOf
set_option linter.unusedVariables false
set_option linter.unusedSimpArgs false

def barredL : List UInt8 := [40, 41, 123, 37, 42, 34, 92]
theorem indexByte_any (s : ByteArray) (c : Int) (w : World) : Calls Tryd.prog 83 #[.string s, .int .u8 c] w fun e w' => e = .returned (.int .i64 (indexByte s.data.toList c.toNat.toUInt8)) ∧ w = w' :=
  (Any.strings_IndexByte nS137 s c w).mono fun _ _ h => ⟨h.1, h.2.symm⟩
theorem barred_ge (c : Nat) (h : c < 256) : (c = 40 ∨ c = 41 ∨ c = 123 ∨ c = 37 ∨ c = 42 ∨ c = 34 ∨ c = 92) ↔ 0 ≤ indexByte barredL (c.toUInt8) := by
  have h1 := contains_iff_indexByte barredL c.toUInt8
  have h2 : barredL.contains c.toUInt8 = decide (c = 40 ∨ c = 41 ∨ c = 123 ∨ c = 37 ∨ c = 42 ∨ c = 34 ∨ c = 92) := by
    have : ∀ c : Fin 256, barredL.contains c.val.toUInt8 = decide (c.val = 40 ∨ c.val = 41 ∨ c.val = 123 ∨ c.val = 37 ∨ c.val = 42 ∨ c.val = 34 ∨ c.val = 92) := by decide +kernel
    exact this ⟨c, h⟩
  rw [h2] at h1
  exact decide_eq_decide.1 h1

/-! splitting at / -/
theorem genSplit_one (s : ByteArray) (hs : s.size < 4294967281) (c : UInt8) (n : Int) (N : Nat) (hn0 : n ≠ 0) (hn63 : n ≤ 9223372036854775807) (hN : (N : Int) = min (if n < 0 then (countB s ⟨#[c]⟩ : Int) + 1 else n) ((s.size : Int) + 1)) (w : World) :
    Calls Tryd.prog 84 #[.string s, .string ⟨#[c]⟩, .int .i64 0, .int .i64 n] w fun e w' =>
      e = .returned (.slice (some ⟨w.heap.size, 0, none⟩) (splitB ⟨#[c]⟩ 0 (N - 1) s).length N) ∧ w' = w.alloc (.cells (cellsOf (splitB ⟨#[c]⟩ 0 (N - 1) s) N) 9) := by
  refine Any.strings_genSplit_core nS221 (by kernel_rfl) s ⟨#[c]⟩ 0 n N w hs (Nat.le_refl _) (Nat.zero_le _) ?_ ?_ hn0 hn63 hN
  · intro x cs hx
    refine (Any.strings_Index_one nS143 x c _).mono ?_
    rintro e w' ⟨rfl, rfl⟩
    exact ⟨by rw [show indexB x ⟨#[c]⟩ = indexByte x.data.toList c from index_one _ _], rfl⟩
  · refine (Any.strings_Count_one nS138 s c w).mono ?_
    rintro e w' ⟨rfl, rfl⟩
    refine ⟨?_, rfl⟩
    rw [show countB s ⟨#[c]⟩ = countByte s.data.toList c from count_one _ _]
theorem strs_new (w : World) (L : List ByteArray) (c : Array Value) (t : TypeId) (hc : ∀ (i : Nat) (s : ByteArray), L[i]? = some s → c[i]? = some (Value.string s)) : Strs (w.alloc (.cells c t)) w.heap.size 0 (L.map nats) := by
  intro i p hp
  rw [List.getElem?_map] at hp
  obtain ⟨s, hs, rfl⟩ := Option.map_eq_some_iff.1 hp
  rw [Nat.zero_add, strOf_nats, cell_of_row (w.alloc (.cells c t)) w.heap.size i c t (0, 0) (heap_alloc_new w _), hc i s hs]
set_option maxRecDepth 20000 in
set_option maxHeartbeats 400000 in
theorem split_any (s : ByteArray) (hs : s.size < 4294967281) (c : UInt8) (w : World) : Calls Tryd.prog 79 #[.string s, .string ⟨#[c]⟩] w fun e w' =>
    e = .returned (.slice (some ⟨w.heap.size, 0, none⟩) (splitL c.toNat (nats s)).length (splitL c.toNat (nats s)).length) ∧ Below w.heap.size w w' ∧ Strs w' w.heap.size 0 (splitL c.toNat (nats s)) ∧ w'.heap.size = w.heap.size + 1 := by
  obtain ⟨L, hL⟩ : ∃ L, splitB ⟨#[c]⟩ 0 (countB s ⟨#[c]⟩) s = L := ⟨_, rfl⟩
  have hm := splitB_all_one c (countB s ⟨#[c]⟩) s (Nat.le_refl _)
  have hlen := splitB_all ⟨#[c]⟩ (Nat.le_refl _) 0 _ s rfl
  have hle := countB_le ⟨#[c]⟩ (Nat.le_refl _) s.size s (Nat.le_refl _)
  have cg := genSplit_one s hs c (-1) (countB s ⟨#[c]⟩ + 1) (by decide) (by decide) (by rw [if_pos (by decide)]; omega) w
  rw [Nat.add_sub_cancel, hL] at cg
  rw [hL] at hm hlen
  rw [← hlen, cellsOf_full] at cg
  have hl2 : (splitL c.toNat (nats s)).length = L.length := by rw [← hm, List.length_map]
  have HL := Lib.hid hm
  have H2 := Lib.hid hl2
  clear hm hlen hle hL hl2
  go_enter Tryd.func79, Tryd.ntmps79
  go_wp2_with (go_at_call 84; refine cg.mono ?_; rintro e w' ⟨rfl, hw⟩; rw [hw])
  go_ret
  refine ⟨by rw [H2.out] <;> rfl, (Below.refl _ _).alloc (Nat.le_refl _) _, ?_, by simp⟩
  rw [← HL.out]
  exact strs_new w L _ _ (fun i x hx => by simp [hx])

/-! cutting at / -/
theorem slIndex_any (s : ByteArray) (c : UInt8) (w : World) : Calls Tryd.prog 86 #[.string s, .string ⟨#[c]⟩] w fun e w' => e = .returned (.int .i64 (Lib.indexB s ⟨#[c]⟩)) ∧ w = w' := by
  refine (Any.stringslite_Index_one nS219 s c w).mono ?_
  rintro e w' ⟨rfl, rfl⟩
  exact ⟨by rw [show indexB s ⟨#[c]⟩ = indexByte s.data.toList c from index_one _ _], rfl⟩
def CutIs (s p : ByteArray) : Prop := (p = s ∧ ∀ x ∈ nats s, x ≠ 47) ∨ ∃ q, nats s = nats p ++ 47 :: nats q ∧ ∀ x ∈ nats p, x ≠ 47
set_option maxRecDepth 20000 in
set_option maxHeartbeats 1000000 in
theorem slCut_any (s : ByteArray) (hs : s.size ≤ 140737488355328) (w : World) : Calls Tryd.prog 81 #[.string s, .string ⟨#[47]⟩] w fun e w' =>
    ∃ p q b, e = .returned (.tuple #[.string p, .string q, .bool b]) ∧ CutIs s p ∧ ∃ n, w' = w.drewN n := by
  have CI := Lib.hid (slIndex_any s 47 w)
  rcases indexB_cut s 47 with ⟨h1, h2⟩ | ⟨i, h1, h2, h3, h4⟩
  · have H1 := Lib.hid h1
    have H2 := Lib.hid h2
    clear h1 h2
    go_enter Tryd.func81, Tryd.ntmps81
    go_wp2_with fail
    refine CI.out.mono ?_
    rintro e w' ⟨rfl, rfl⟩
    rw [H2.out]
    go_wp2_with fail
    go_ret3
    exact ⟨_, _, _, rfl, .inl ⟨rfl, H1.out⟩, 0, rfl⟩
  · have H1 := Lib.hid h1
    have H3 := Lib.hid h3
    have H4 := Lib.hid h4
    have c1 : (0 : Int) ≤ (i : Int) := by omega
    have c2 : (i : Int) ≤ (s.size : Int) := by omega
    have c3 : (0 : Int) ≤ (i : Int) + 1 := by omega
    have c4 : (i : Int) + 1 ≤ (s.size : Int) := by omega
    have c5 : IntKind.i64.wrap ((i : Int) + 1) = (i : Int) + 1 := IntWalk.i64_in _ (by omega)
    have c6 : ((i : Int) + 1).toNat = i + 1 := by omega
    have HP : Hid (nats (s.extract 0 i) = (nats s).take i) := Lib.hid (by rw [nats_extract]; simp)
    have HQ : Hid (nats (s.extract (i + 1) s.size) = (nats s).drop (i + 1)) := Lib.hid (by rw [nats_extract, List.take_of_length_le]; rw [List.length_drop, nats_length]; exact Nat.le_refl _)
    clear h1 h3 h4
    go_enter Tryd.func81, Tryd.ntmps81
    go_wp2_with fail
    refine CI.out.mono ?_
    rintro e w' ⟨rfl, rfl⟩
    rw [H1.out]
    go_wp2_with fail
    go_quiet (fail)
    go_wp2_with fail
    go_ret3
    exact ⟨_, _, _, rfl, .inr ⟨s.extract (i + 1) s.size, by rw [HP.out, HQ.out]; exact H4.out, by rw [HP.out]; exact H3.out⟩, _, rfl⟩
theorem sCut_any (s : ByteArray) (hs : s.size ≤ 140737488355328) (w : World) : Calls Tryd.prog 74 #[.string s, .string ⟨#[47]⟩] w fun e w' =>
    ∃ p q b, e = .returned (.tuple #[.string p, .string q, .bool b]) ∧ CutIs s p ∧ ∃ n, w' = w.drewN n := by
  have CI := Lib.hid (slCut_any s hs w)
  go_enter Tryd.func74, Tryd.ntmps74
  go_wp2_with fail
  refine CI.out.mono ?_
  rintro e w' ⟨p, q, b, rfl, h, n, rfl⟩
  have H := Lib.hid h
  clear h CI
  go_wp2_with fail
  go_ret3
  exact ⟨_, _, _, rfl, H.out, n, rfl⟩

/-! is a text among texts? -/
def IdxRes (l : List (List Nat)) (t : ByteArray) (e : Ending) : Prop := ∃ z : Int, e = .returned (.int .i64 z) ∧ decide (0 ≤ z) = decide (nats t ∈ l)
set_option maxRecDepth 20000 in
set_option maxHeartbeats 1000000 in
theorem indexS_any (b o n c : Nat) (l : List (List Nat)) (t : ByteArray) (w : World) (hlen : l.length = n) (hst : 0 < n → Strs w b o l) (hlt : ∀ p ∈ l, ∀ x ∈ p, x < 256) (hn : n ≤ 140737488355328) (A : Option Addr) (hA : 0 < n → A = some ⟨b, o, none⟩) :
    Calls Tryd.prog 85 #[.slice A n c, .string t] w fun e w' => IdxRes l t e ∧ w = w' := by
  have HLT := Lib.hid hlt
  have HLEN := Lib.hid hlen
  have HST := Lib.hid hst
  have HA := Lib.hid hA
  clear hlt hlen hst hA
  go_enter Tryd.func85, Tryd.ntmps85
  go_wp2_with fail
  go_loop [8] (fun i => ∃ k : Nat, k ≤ n ∧ i = .int .i64 (k : Int) ∧ nats t ∉ l.take k) (fun i => n - (intOf i).toNat)
  case atStart => exact ⟨0, Nat.zero_le _, rfl, fun h => by simp at h⟩
  case round =>
    obtain ⟨k, hk, rfl, hm⟩ := hrel
    have HM := Lib.hid hm
    clear hm
    by_cases hlk : k < n
    · obtain ⟨p, hp⟩ : ∃ p, l[k]? = some p := ⟨_, List.getElem?_eq_getElem (by rw [HLEN.out]; exact hlk)⟩
      obtain rfl : A = some ⟨b, o, none⟩ := HA.out (by omega)
      have hcell := HST.out (by omega) k p hp
      have a0 : (0 : Int) ≤ (k : Int) := by omega
      have a1 : (k : Int) < (n : Int) := by omega
      have hq : (t.toList == (strOf p).toList) = decide (p = nats t) := by rw [Bool.beq_comm]; exact strOf_two t p (HLT.out p (List.mem_of_getElem? hp))
      have HP := Lib.hid hp
      clear hp
      by_cases he : p = nats t
      · have hq2 : (t.toList == (strOf p).toList) = true := by rw [hq]; exact decide_eq_true he
        have HR : Hid (decide (0 ≤ (k : Int)) = decide (nats t ∈ l)) := Lib.hid (by rw [decide_eq_true a0, decide_eq_true (he ▸ List.mem_of_getElem? HP.out)])
        clear hq he
        go_wp2_with fail
        go_ret
        exact ⟨⟨_, rfl, HR.out⟩, rfl⟩
      · have hq2 : (t.toList == (strOf p).toList) = false := by rw [hq]; exact decide_eq_false he
        have HM2 : Hid (nats t ∉ l.take (k + 1)) := Lib.hid (by
          rw [take_snoc_l _ _ _ HP.out]
          intro h
          rcases List.mem_append.1 h with h | h
          · exact HM.out h
          · exact he (List.mem_singleton.1 h).symm)
        clear hq he
        go_wp2_with fail
        go_round
        case rel => exact ⟨k + 1, by omega, by go_num, HM2.out⟩
        case measure => simp [intOf]; omega
    · have a1 : ¬ (k : Int) < (n : Int) := by omega
      have HR : Hid (decide (0 ≤ (-1 : Int)) = decide (nats t ∈ l)) := Lib.hid (by
        rw [decide_eq_false (by decide), eq_comm, decide_eq_false_iff_not]
        intro h
        exact HM.out (by rw [List.take_of_length_le (by rw [HLEN.out]; omega)]; exact h))
      go_wp2_with fail
      go_ret
      exact ⟨⟨_, rfl, HR.out⟩, rfl⟩
theorem containsS_any (b o n c : Nat) (l : List (List Nat)) (t : ByteArray) (w : World) (hlen : l.length = n) (hst : 0 < n → Strs w b o l) (hlt : ∀ p ∈ l, ∀ x ∈ p, x < 256) (hn : n ≤ 140737488355328) (A : Option Addr) (hA : 0 < n → A = some ⟨b, o, none⟩) :
    Calls Tryd.prog 80 #[.slice A n c, .string t] w fun e w' => e = .returned (.bool (decide (nats t ∈ l))) ∧ w = w' := by
  have CI := Lib.hid (indexS_any b o n c l t w hlen hst hlt hn A hA)
  clear hlen hst hlt hA
  go_enter Tryd.func80, Tryd.ntmps80
  go_wp2_with fail
  refine CI.out.mono ?_
  rintro e w' ⟨⟨z, rfl, hz⟩, rfl⟩
  have HZ := Lib.hid hz
  clear hz
  go_wp2_with fail
  go_ret
  exact ⟨by rw [HZ.out] <;> rfl, rfl⟩
end Go.Proofs.YtcajmigkpcjbcaaDoor
