/-
  Contracts over the document's own names: patterns, joining, what a name goes on, equal texts.
-/
import Derived.Test.YtbegklhbhafmeaaDoorQNameRefB
import Derived.Test.YtbegklhbhafmeaaDoorQCols
import Derived.StillTailTactics
namespace Go.Proofs.YtbegklhbhafmeaaDoor
set_option linter.unusedVariables false
set_option linter.unusedSimpArgs false
open Go.RowKit
set_option linter.unusedVariables false
set_option linter.unusedSimpArgs false

theorem strOf_two (s : ByteArray) (m : List Nat) (hm : ∀ x ∈ m, x < 256) : ((strOf m).toList == s.toList) = decide (m = nats s) := by
  rw [Bool.eq_iff_iff, beq_iff_eq, decide_eq_true_iff, ByteArray.toList_eq, ByteArray.toList_eq]
  constructor
  · intro e; rw [← nats_strOf m hm, data_inj e]
  · intro e; rw [e, strOf_nats]
def okP (c : Nat) : Prop := plainB c = true ∨ c = 42 ∨ c = 37
theorem pat_len {l : List Nat} (h : ∀ c ∈ l, okP c) : patB l = decide (l.length ≤ 80) := by
  unfold patB
  rw [Bool.eq_iff_iff, decide_eq_true_iff, decide_eq_true_iff]
  exact ⟨fun e => e.1, fun e => ⟨e, h⟩⟩
theorem pat_stop {l : List Nat} {k x : Nat} (hx : l[k]? = some x) (h : ¬ okP x) : patB l = false := decide_eq_false fun e => h (e.2 x (List.mem_of_getElem? hx))
theorem pat_long {l : List Nat} (h : 80 < l.length) : patB l = false := decide_eq_false fun e => by omega
theorem okP_snoc {l : List Nat} {k x : Nat} (h : ∀ c ∈ l.take k, okP c) (hx : l[k]? = some x) (h2 : okP x) : ∀ c ∈ l.take (k + 1), okP c := by
  rw [take_snoc_n _ _ _ hx]
  intro c hc
  rcases List.mem_append.1 hc with h1 | h1
  · exact h c h1
  · rw [List.mem_singleton.1 h1]; exact h2

set_option maxRecDepth 20000 in
set_option maxHeartbeats 4000000 in
theorem xaPattern_any (s : ByteArray) (hs : s.size ≤ 140737488355328) (w : World) : Calls Tryd.prog 27 #[.string s] w fun e w' => e = .returned (.bool (patB (nats s))) ∧ w = w' := by
  have HN := Lib.hid (nats_length s)
  go_enter Tryd.func27, Tryd.ntmps27
  go_wp2_with fail
  go_loop [3] (fun i => ∃ k : Nat, k ≤ s.size ∧ k ≤ 81 ∧ i = .int .i64 (k : Int) ∧ ∀ c ∈ (nats s).take k, okP c) (fun i => s.size - (intOf i).toNat)
  case atStart => exact ⟨0, Nat.zero_le _, by decide, rfl, fun c hc => by simp at hc⟩
  case round =>
    obtain ⟨k, hk, hk81, rfl, hok⟩ := hrel
    have HOK := Lib.hid hok
    clear hok
    by_cases hlt : k < s.size
    · have a1 : (k : Int) < (s.size : Int) := by omega
      have a0 : (0 : Int) ≤ (k : Int) := by omega
      by_cases h81 : k < 81
      · have a2 : (k : Int) < 81 := by omega
        have HX := Lib.hid (nats_byte s k hlt)
        have hxb : s[k].toNat < 256 := s[k].toNat_lt
        have CP : ∀ W, Calls Tryd.prog 34 #[.int .u8 (s[k].toNat : Int)] W fun e w' => e = .returned (.bool (plainB s[k].toNat)) ∧ W = w' := fun W => xaplain_any _ W
        cases hpl : plainB s[k].toNat
        · rw [hpl] at CP
          by_cases h1 : s[k].toNat = 42
          · have c1 : ((s[k].toNat : Int) != 42) = false := by simp; omega
            have HO2 := Lib.hid (okP_snoc HOK.out HX.out (.inr (.inl h1)))
            clear hpl h1
            go_wp2_with fail
            refine (CP _).mono ?_
            rintro e w' ⟨rfl, rfl⟩
            go_wp2_with fail
            go_round
            case rel => exact ⟨k + 1, by omega, by omega, by go_num, HO2.out⟩
            case measure => simp [intOf]; omega
          · have c1 : ((s[k].toNat : Int) != 42) = true := by simp; omega
            by_cases h2 : s[k].toNat = 37
            · have c2 : ((s[k].toNat : Int) != 37) = false := by simp; omega
              have HO2 := Lib.hid (okP_snoc HOK.out HX.out (.inr (.inr h2)))
              clear hpl h1 h2
              go_wp2_with fail
              refine (CP _).mono ?_
              rintro e w' ⟨rfl, rfl⟩
              go_wp2_with fail
              go_round
              case rel => exact ⟨k + 1, by omega, by omega, by go_num, HO2.out⟩
              case measure => simp [intOf]; omega
            · have c2 : ((s[k].toNat : Int) != 37) = true := by simp; omega
              have HR : Hid (patB (nats s) = false) := Lib.hid (pat_stop HX.out (by rintro (h | h | h); rw [h] at hpl; cases hpl; exact h1 h; exact h2 h))
              clear hpl h1 h2
              go_wp2_with fail
              refine (CP _).mono ?_
              rintro e w' ⟨rfl, rfl⟩
              go_wp2_with fail
              go_ret
              exact ⟨by rw [HR.out] <;> rfl, rfl⟩
        · rw [hpl] at CP
          have HO2 := Lib.hid (okP_snoc HOK.out HX.out (.inl hpl))
          clear hpl
          go_wp2_with fail
          refine (CP _).mono ?_
          rintro e w' ⟨rfl, rfl⟩
          go_wp2_with fail
          go_round
          case rel => exact ⟨k + 1, by omega, by omega, by go_num, HO2.out⟩
          case measure => simp [intOf]; omega
      · have a2 : ¬ (k : Int) < 81 := by omega
        have HR : Hid (patB (nats s) = false) := Lib.hid (pat_long (by rw [HN.out]; omega))
        have a3 : ¬ (s.size : Int) ≤ 80 := by omega
        go_wp2_with fail
        go_ret
        exact ⟨by rw [HR.out] <;> rfl, rfl⟩
    · have a1 : ¬ (k : Int) < (s.size : Int) := by omega
      have HR : Hid (patB (nats s) = decide ((s.size : Int) ≤ 80)) := Lib.hid (by
        have h := HOK.out
        rw [List.take_of_length_le (by rw [HN.out]; omega)] at h
        rw [pat_len h, HN.out, Bool.eq_iff_iff, decide_eq_true_iff, decide_eq_true_iff]
        omega)
      go_wp2_with fail
      go_ret
      exact ⟨by rw [HR.out] <;> rfl, rfl⟩

def joinE (b p : List Nat) : Int := if patB (b ++ p) = true then 0 else 3
def joinV (b p : List Nat) : List Nat := if patB (b ++ p) = true then b ++ p else []
set_option maxRecDepth 20000 in
set_option maxHeartbeats 4000000 in
theorem xaJoin_any (b p : ByteArray) (hb : b.size ≤ 140737488355328) (hp : p.size ≤ 140737488355328) (w : World) : Calls Tryd.prog 18 #[.string b, .string p] w fun e w' => e = .returned (.tuple #[.string (strOf (joinV (nats b) (nats p))), .int .i64 (joinE (nats b) (nats p))]) ∧ w = w' := by
  by_cases h1 : 80 < b.size
  · have a1 : (80 : Int) < (b.size : Int) := by omega
    have hf : patB (nats b ++ nats p) = false := pat_long (by rw [List.length_append, nats_length]; omega)
    have HV : Hid (strOf (joinV (nats b) (nats p)) = ⟨#[]⟩) := Lib.hid (by unfold joinV; rw [hf, if_neg Bool.false_ne_true]; rfl)
    have HE : Hid (joinE (nats b) (nats p) = 3) := Lib.hid (by unfold joinE; rw [hf, if_neg Bool.false_ne_true])
    clear hf h1
    go_enter Tryd.func18, Tryd.ntmps18
    go_wp2_with fail
    go_ret2
    exact ⟨by rw [HV.out, HE.out] <;> rfl, rfl⟩
  · have a1 : ¬ (80 : Int) < (b.size : Int) := by omega
    by_cases h2 : 80 < p.size
    · have a2 : (80 : Int) < (p.size : Int) := by omega
      have hf : patB (nats b ++ nats p) = false := pat_long (by rw [List.length_append, nats_length, nats_length]; omega)
      have HV : Hid (strOf (joinV (nats b) (nats p)) = ⟨#[]⟩) := Lib.hid (by unfold joinV; rw [hf, if_neg Bool.false_ne_true]; rfl)
      have HE : Hid (joinE (nats b) (nats p) = 3) := Lib.hid (by unfold joinE; rw [hf, if_neg Bool.false_ne_true])
      clear hf h1 h2
      go_enter Tryd.func18, Tryd.ntmps18
      go_wp2_with fail
      go_ret2
      exact ⟨by rw [HV.out, HE.out] <;> rfl, rfl⟩
    · have a2 : ¬ (80 : Int) < (p.size : Int) := by omega
      have ka : ∀ W, (Op.stringOp .add b p).run Tryd.prog W = .ok (.string (strOf (nats b ++ nats p))) W := fun W => add_str b p (nats b) (nats p) (strOf_nats b).symm (strOf_nats p).symm (by rw [nats_length, nats_length]; omega) W
      have hlt : ∀ x ∈ nats b ++ nats p, x < 256 := fun x hx => by rcases List.mem_append.1 hx with h | h; exact nats_lt b x h; exact nats_lt p x h
      have CP : Hid (∀ W, Calls Tryd.prog 27 #[.string (strOf (nats b ++ nats p))] W fun e w' => e = .returned (.bool (patB (nats b ++ nats p))) ∧ W = w') := Lib.hid fun W => by
        have := xaPattern_any (strOf (nats b ++ nats p)) (by rw [strOf_size, List.length_append, nats_length, nats_length]; omega) W
        rwa [nats_strOf _ hlt] at this
      cases hf : patB (nats b ++ nats p)
      · have HV : Hid (strOf (joinV (nats b) (nats p)) = ⟨#[]⟩) := Lib.hid (by unfold joinV; rw [hf, if_neg Bool.false_ne_true]; rfl)
        have HE : Hid (joinE (nats b) (nats p) = 3) := Lib.hid (by unfold joinE; rw [hf, if_neg Bool.false_ne_true])
        rw [hf] at CP
        clear hf h1 h2 hlt
        go_enter Tryd.func18, Tryd.ntmps18
        go_wp2_with fail
        refine (CP.out _).mono ?_
        rintro e w' ⟨rfl, rfl⟩
        go_wp2_with fail
        go_ret2
        exact ⟨by rw [HV.out, HE.out] <;> rfl, rfl⟩
      · have HV : Hid (joinV (nats b) (nats p) = nats b ++ nats p) := Lib.hid (by unfold joinV; rw [hf, if_pos rfl])
        have HE : Hid (joinE (nats b) (nats p) = 0) := Lib.hid (by unfold joinE; rw [hf, if_pos rfl])
        rw [hf] at CP
        clear hf h1 h2 hlt
        go_enter Tryd.func18, Tryd.ntmps18
        go_wp2_with fail
        refine (CP.out _).mono ?_
        rintro e w' ⟨rfl, rfl⟩
        go_wp2_with fail
        go_ret2
        exact ⟨by rw [HV.out, HE.out] <;> rfl, rfl⟩

/-! ### What a name goes on -/
def abvP (l : List Nat) (k : Nat) : List (List Nat) := (List.range k).filterMap fun i => if l[i]? = some 47 then some (l.take i) else none
theorem abv_snoc (l : List Nat) (k : Nat) : abvP l (k + 1) = abvP l k ++ (if l[k]? = some 47 then [l.take k] else []) := by
  unfold abvP
  rw [List.range_succ, List.filterMap_append]
  by_cases h : l[k]? = some 47 <;> simp [h]
theorem abv_len (l : List Nat) : ∀ k, (abvP l k).length ≤ k := fun k => by
  have := List.length_filterMap_le (fun i => if l[i]? = some 47 then some (l.take i) else none) (List.range k)
  rw [List.length_range] at this
  exact this
theorem abv_mem {l p : List Nat} {k : Nat} (h : p ∈ abvP l k) : ∃ i, i < k ∧ l[i]? = some 47 ∧ p = l.take i := by
  obtain ⟨i, hi, h2⟩ := List.mem_filterMap.1 h
  by_cases h3 : l[i]? = some 47
  · rw [if_pos h3] at h2
    exact ⟨i, List.mem_range.1 hi, h3, (Option.some.inj h2).symm⟩
  · rw [if_neg h3] at h2; cases h2
theorem extract_strOf (s : ByteArray) (k : Nat) : s.extract 0 k = strOf ((nats s).take k) := nats_inj (by
  rw [nats_strOf _ (fun x hx => nats_lt s x (List.mem_of_mem_take hx)), nats_extract, List.drop_zero, Nat.sub_zero])

def GiveS (w : World) (l : List (List Nat)) (e : Ending) (w' : World) : Prop := ∃ A n c, e = .returned (.slice A n c) ∧ OwnS w' w.heap.size A n c l ∧ Below w.heap.size w w'
set_option maxRecDepth 20000 in
set_option maxHeartbeats 4000000 in
theorem xaAbove_any (s : ByteArray) (hs : s.size ≤ 140737488355328) (w : World) : Calls Tryd.prog 14 #[.string s] w (GiveS w (aboveN (nats s))) := by
  have HN := Lib.hid (nats_length s)
  have CR : Hid (∀ W, Calls Tryd.prog 11 #[.string s] W fun e w' => e = .returned (.bool (rightN (nats s))) ∧ W = w') := Lib.hid fun W => xaRight_any s hs W
  cases hr : rightN (nats s)
  · have HV : Hid (aboveN (nats s) = []) := Lib.hid (by unfold aboveN; rw [hr, if_neg Bool.false_ne_true])
    rw [hr] at CR
    clear hr
    go_enter Tryd.func14, Tryd.ntmps14
    go_wp2_with fail
    refine (CR.out _).mono ?_
    rintro e w' ⟨rfl, rfl⟩
    go_wp2_with fail
    go_ret
    exact ⟨none, 0, 0, rfl, by rw [HV.out]; exact OwnV.nil, Below.refl _ _⟩
  · have h40 : s.size ≤ 40 := by have := (of_decide_eq_true (of_decide_eq_true hr).1).2.1; rw [HN.out] at this; exact this
    have HV : Hid (aboveN (nats s) = abvP (nats s) s.size) := Lib.hid (by unfold aboveN aboveR abvP; rw [hr, if_pos rfl, HN.out])
    rw [hr] at CR
    clear hr
    go_enter Tryd.func14, Tryd.ntmps14
    go_wp2_with fail
    refine (CR.out _).mono ?_
    rintro e w' ⟨rfl, rfl⟩
    go_wp2_with fail
    go_loopw [3, 4] (fun o i wx => ∃ (k : Nat) (A : Option Addr) (n cp : Nat), k ≤ s.size ∧ i = .int .i64 (k : Int) ∧ o = .slice A n cp ∧ n ≤ k ∧ OwnS wx w.heap.size A n cp (abvP (nats s) k) ∧ Below w.heap.size w wx) (fun _ i _ => s.size - (intOf i).toNat)
    case atStart => exact ⟨0, none, 0, 0, Nat.zero_le _, rfl, rfl, Nat.le_refl _, OwnV.nil, Below.refl _ _⟩
    case round =>
      obtain ⟨k, A, n, cp, hk, rfl, rfl, hnk, hown, hb⟩ := hrel
      have HOWN := Lib.hid hown
      have HB := Lib.hid hb
      clear hown hb
      by_cases hlt : k < s.size
      · have HX := Lib.hid (nats_byte s k hlt)
        have HT := Lib.hid (abv_snoc (nats s) k)
        have a0 : (0 : Int) ≤ (k : Int) := by omega
        have a1 : (k : Int) < (s.size : Int) := by omega
        have a2 : (k : Int) ≤ (s.size : Int) := by omega
        have hxb : s[k].toNat < 256 := s[k].toNat_lt
        by_cases h47 : s[k].toNat = 47
        · have c1 : ((s[k].toNat : Int) == 47) = true := by rw [h47]; rfl
          have HT2 : Hid (abvP (nats s) (k + 1) = abvP (nats s) k ++ [(nats s).take k]) := Lib.hid (by rw [HT.out, if_pos (by rw [HX.out, h47])])
          have HSE : Hid (s.extract 0 k = strOf ((nats s).take k)) := Lib.hid (extract_strOf s k)
          clear h47
          go_wp2_with ((with_reducible show wpList _ _ _ (⟨some 23, _, _, _, _, _⟩ :: _) _ _); refine hold ?_)
          refine held (wpList_append_one rfl (.tmp 18) (.tmp 22) 28 rfl Tryd.underlying28 info_str rfl (by omega) w.heap.size A n cp _ rfl (OwnV.alloc HOWN.out _) wr.heap.size 0 (.string (s.extract 0 k)) rfl
            (by rw [cell_of_row _ wr.heap.size 0 _ _ (0, 0) (heap_alloc_new wr _)]; rfl) rfl (by omega) (by have := HB.out.size; simp; omega) ?_)
          intro A2 cp2 wx hown2 hb2
          have hown3 : OwnS wx w.heap.size A2 (n + 1) cp2 (abvP (nats s) (k + 1)) := by
            rw [HT2.out]
            unfold OwnS
            rw [List.map_append, List.map_singleton]
            rw [HSE.out] at hown2
            exact hown2
          have HO3 := Lib.hid hown3
          have HB3 := Lib.hid ((HB.out.alloc HB.out.size _).trans hb2)
          clear hown2 hb2 hown3
          go_wp2_with fail
          go_roundw
          case rel => exact ⟨k + 1, A2, n + 1, cp2, by omega, by go_num, rfl, by omega, HO3.out, HB3.out⟩
          case measure => simp [intOf]; omega
        · have c1 : ((s[k].toNat : Int) == 47) = false := by simp; omega
          have HT2 : Hid (abvP (nats s) (k + 1) = abvP (nats s) k) := Lib.hid (by rw [HT.out, if_neg (by rw [HX.out]; exact fun e => h47 (Option.some.inj e)), List.append_nil])
          clear h47
          go_wp2_with fail
          go_roundw
          case rel => exact ⟨k + 1, A, n, cp, by omega, by go_num, rfl, by omega, by rw [HT2.out]; exact HOWN.out, HB.out⟩
          case measure => simp [intOf]; omega
      · have a1 : ¬ (k : Int) < (s.size : Int) := by omega
        have HK : Hid (abvP (nats s) k = aboveN (nats s)) := Lib.hid (by rw [HV.out, show k = s.size by omega])
        go_wp2_with fail
        go_ret
        exact ⟨A, n, cp, rfl, by rw [← HK.out]; exact HOWN.out, HB.out⟩
theorem above_len (l : List Nat) : (aboveN l).length ≤ l.length := by
  unfold aboveN
  split
  · exact abv_len l l.length
  · exact Nat.zero_le _
theorem above_lt {l p : List Nat} (hl : ∀ x ∈ l, x < 256) (h : p ∈ aboveN l) : ∀ x ∈ p, x < 256 := by
  unfold aboveN at h
  split at h
  · obtain ⟨i, _, _, rfl⟩ := abv_mem (k := l.length) h
    exact fun x hx => hl x (List.mem_of_mem_take hx)
  · cases h

set_option maxRecDepth 20000 in
set_option maxHeartbeats 4000000 in
theorem xaBelow_any (s t : ByteArray) (hs : s.size ≤ 140737488355328) (w : World) : Calls Tryd.prog 16 #[.string s, .string t] w fun e w' => e = .returned (.bool (belowN (nats s) (nats t))) ∧ Below w.heap.size w w' := by
  have HLT : Hid (∀ p ∈ aboveN (nats s), ∀ x ∈ p, x < 256) := Lib.hid fun p hp => above_lt (nats_lt s) hp
  go_enter Tryd.func16, Tryd.ntmps16
  go_wp2_with fail
  refine (xaAbove_any s hs w).mono ?_
  rintro e w1 ⟨A, n, c, rfl, hown, hb1⟩
  have HO := Lib.hid hown
  have HB := Lib.hid hb1
  have hn : n ≤ 140737488355328 := by rw [← hown.len]; exact Nat.le_trans (above_len (nats s)) (by rw [nats_length]; exact hs)
  clear hown hb1
  go_wp2_with fail
  go_loop [6] (fun i => ∃ k : Nat, k ≤ n ∧ i = .int .i64 (k : Int) ∧ nats t ∉ (aboveN (nats s)).take k) (fun i => n - (intOf i).toNat)
  case atStart => exact ⟨0, Nat.zero_le _, rfl, fun h => by simp at h⟩
  case round =>
    obtain ⟨k, hk, rfl, hm⟩ := hrel
    have HM := Lib.hid hm
    clear hm
    by_cases hlt : k < n
    · obtain ⟨g, rfl, hg1, hg2, hst, hfz, hput⟩ := HO.out.at_ (by omega)
      obtain ⟨p, hp⟩ : ∃ p, (aboveN (nats s))[k]? = some p := ⟨_, List.getElem?_eq_getElem (by rw [HO.out.len]; exact hlt)⟩
      have hcell := hst k p hp
      rw [Nat.zero_add] at hcell
      have a0 : (0 : Int) ≤ (k : Int) := by omega
      have a1 : (k : Int) < (n : Int) := by omega
      have hq := strOf_two t p (HLT.out p (List.mem_of_getElem? hp))
      have HP := Lib.hid hp
      clear hst hfz hput hp
      by_cases he : p = nats t
      · have hq2 : ((strOf p).toList == t.toList) = true := by rw [hq]; exact decide_eq_true he
        have HR : Hid (belowN (nats s) (nats t) = true) := Lib.hid (decide_eq_true (he ▸ List.mem_of_getElem? HP.out))
        clear hq he
        go_wp2_with fail
        go_ret
        exact ⟨by rw [HR.out] <;> rfl, HB.out⟩
      · have hq2 : ((strOf p).toList == t.toList) = false := by rw [hq]; exact decide_eq_false he
        have HM2 : Hid (nats t ∉ (aboveN (nats s)).take (k + 1)) := Lib.hid (by
          rw [take_snoc_l _ _ _ HP.out]
          intro h
          rcases List.mem_append.1 h with h | h
          · exact HM.out h
          · exact he (List.mem_singleton.1 h).symm)
        clear hq he
        go_wp2_with fail
        go_round
        case rel => exact ⟨k + 1, by omega, by go_num, HM2.out⟩
        case measure => simp [intOf]; omega
    · have a1 : ¬ (k : Int) < (n : Int) := by omega
      have HR : Hid (belowN (nats s) (nats t) = false) := Lib.hid (decide_eq_false fun h => HM.out (by rw [List.take_of_length_le (by rw [HO.out.len]; omega)]; exact h))
      go_wp2_with fail
      go_ret
      exact ⟨by rw [HR.out] <;> rfl, HB.out⟩

theorem ne_atB {l r : List ByteArray} {k : Nat} {x y : ByteArray} (hx : l[k]? = some x) (hy : r[k]? = some y) (h : x ≠ y) : l ≠ r := fun e => by
  rw [e, hy] at hx; exact h (Option.some.inj hx).symm
set_option maxRecDepth 20000 in
set_option maxHeartbeats 4000000 in
theorem xaTexts_any (A B : Option Addr) (n c m d : Nat) (l r : List ByteArray) (w : World) (hl : Col Value.string w w.heap.size A n l) (hr : Col Value.string w w.heap.size B m r) (hn : n ≤ 140737488355328) (hm : m ≤ 140737488355328) :
    Calls Tryd.prog 12 #[.slice A n c, .slice B m d] w fun e w' => e = .returned (.bool (decide (l = r))) ∧ ∃ q, w' = w.drewN q := by
  have HL := Lib.hid hl
  have HR := Lib.hid hr
  by_cases hnm : n = m
  · subst hnm
    have hne : ((n : Int) != (n : Int)) = false := by simp
    clear hl hr
    go_enter Tryd.func12, Tryd.ntmps12
    go_wp2_with fail
    go_loopw [5] (fun i wx => ∃ k q : Nat, k ≤ n ∧ i = .int .i64 (k : Int) ∧ l.take k = r.take k ∧ wx = w.drewN q) (fun i _ => n - (intOf i).toNat)
    case atStart => exact ⟨0, 0, Nat.zero_le _, rfl, rfl, rfl⟩
    case round =>
      obtain ⟨k, q, hk, rfl, hm, hw⟩ := hrel
      have HM := Lib.hid hm
      have HW := Lib.hid hw
      clear hm hw
      by_cases hlt : k < n
      · obtain ⟨b, o, x, rfl, hbb, hla, htk, hc⟩ := HL.out.at_ hlt
        obtain ⟨b2, o2, y, rfl, hbb2, hla2, htk2, hc2⟩ := HR.out.at_ hlt
        rw [show w.cell? ⟨b, o + k, none⟩ = wr.cell? ⟨b, o + k, none⟩ by rw [HW.out]; rfl] at hc
        rw [show w.cell? ⟨b2, o2 + k, none⟩ = wr.cell? ⟨b2, o2 + k, none⟩ by rw [HW.out]; rfl] at hc2
        have hk0 : (0 : Int) ≤ (k : Int) := by omega
        have hkn : (k : Int) < (n : Int) := by omega
        have HA1 := Lib.hid hla
        have HA2 := Lib.hid hla2
        have HT1 := Lib.hid htk
        have HT2 := Lib.hid htk2
        clear hla hla2 htk htk2
        by_cases he : x = y
        · subst he
          have hxy : (x.toList != x.toList) = false := by simp
          have HN : Hid (l.take (k + 1) = r.take (k + 1)) := Lib.hid (by rw [HT1.out, HT2.out, HM.out])
          go_wp2_with fail
          go_quiet (fail)
          go_wp2_with fail
          go_roundw
          case rel => exact ⟨k + 1, _, by omega, by go_num, HN.out, by rw [HW.out]; exact drewN_twice _ _ _⟩
          case measure => simp [intOf]; omega
        · have hxy : (x.toList == y.toList) = false := by
            rw [beq_eq_false_iff_ne]
            intro e
            rw [ByteArray.toList_eq, ByteArray.toList_eq] at e
            exact he (data_inj e)
          have HN : Hid (decide (l = r) = false) := Lib.hid (decide_eq_false (ne_atB HA1.out HA2.out he))
          go_wp2_with fail
          go_quiet (fail)
          go_wp2_with fail
          go_ret
          exact ⟨by rw [HN.out] <;> rfl, _, by rw [HW.out]; exact drewN_twice _ _ _⟩
      · have HN : Hid (decide (l = r) = true) := Lib.hid (decide_eq_true (by
          have h := HM.out
          rwa [List.take_of_length_le (by rw [HL.out.1]; omega), List.take_of_length_le (by rw [HR.out.1]; omega)] at h))
        go_wp2_with fail
        go_ret
        exact ⟨by rw [HN.out] <;> rfl, _, HW.out⟩
  · have hne : ((n : Int) != (m : Int)) = true := by simp; omega
    have HN : Hid (decide (l = r) = false) := Lib.hid (decide_eq_false (fun e => hnm (by rw [← hl.1, ← hr.1, e])))
    clear hl hr
    go_enter Tryd.func12, Tryd.ntmps12
    go_wp2_with fail
    go_ret
    exact ⟨by rw [HN.out] <;> rfl, 0, rfl⟩
end Go.Proofs.YtbegklhbhafmeaaDoor
