/-
  Contracts over the document's own sets: a text's parts; a number's text, read.
-/
import Derived.Test.YtiophifilikajaaDoorQUidsA
import Derived.Test.YtiophifilikajaaDoorQUidsE
import Derived.StillTailTactics
namespace Go.Proofs.YtiophifilikajaaDoor
set_option linter.unusedVariables false
set_option linter.unusedSimpArgs false
open Go.RowKit
set_option linter.unusedVariables false
set_option linter.unusedSimpArgs false

set_option maxRecDepth 20000 in
set_option maxHeartbeats 4000000 in
theorem x9split_any (s : ByteArray) (c : Nat) (hc : c < 256) (hs : s.size ≤ 100000) (w : World) :
    Calls Tryd.prog 26 #[.string s, .int .u8 (c : Int)] w fun e w' => ∃ A n k, e = .returned (.slice A n k) ∧ OwnS w' w.heap.size A n k (splitL c (nats s)) ∧ Below w.heap.size w w' := by
  have h64 : s.size ≤ 9223372036854775807 := by omega
  have HN := Lib.hid (nats_length s)
  go_enter Tryd.func26, Tryd.ntmps26
  go_wp2_with fail
  go_loopw [5, 6] (fun o i wx => ∃ (k : Nat) (A : Option Addr) (n cp : Nat), k ≤ s.size ∧ i = .int .i64 (k : Int) ∧ o = .slice A n cp ∧ OwnS wx w.heap.size A n cp (splitGo c [] ((nats s).take k)) ∧ Below w.heap.size w wx) (fun _ i _ => s.size - (intOf i).toNat)
  case atStart =>
    refine ⟨0, _, _, _, Nat.zero_le _, rfl, rfl, ?_, (Below.refl _ _).alloc (Nat.le_refl _) _⟩
    exact ⟨rfl, .inr ⟨w.heap.size, 1, _, rfl, Nat.le_refl _, heap_alloc_new w _, Nat.le_refl _, by unfold maxLen; omega, rfl, rfl⟩⟩
  case round =>
    obtain ⟨k, A, n, cp, hk, rfl, rfl, hown, hb⟩ := hrel
    have HOWN := Lib.hid hown
    have HB := Lib.hid hb
    have hnl := hown.len
    have hne := splitGo_ne c [] ((nats s).take k)
    have hn1 : 1 ≤ n := by rw [← hnl]; exact List.length_pos_iff.2 hne
    have hnk : n ≤ s.size + 1 := by
      have := splitL_sum c ((nats s).take k)
      unfold splitL at this
      rw [hnl, List.length_take, HN.out] at this
      omega
    by_cases hlt : k < s.size
    · have hx := nats_byte s k hlt
      have hxb : s[k].toNat < 256 := s[k].toNat_lt
      have HT := Lib.hid (splitGo_take (c := c) hx)
      by_cases hq : s[k].toNat = c
      · have hq' : ((s[k].toNat : Int) == (c : Int)) = true := by rw [hq]; simp
        have HQ := Lib.hid hq
        clear hq hx hnl hne hown hb
        go_wp2_with ((with_reducible show wpList _ _ _ (⟨some 21, _, _, _, _, _⟩ :: _) _ _); refine hold ?_)
        refine held (wpList_append_one rfl (.tmp 19) (.tmp 20) 49 rfl Tryd.underlying49 info_str rfl (by omega) w.heap.size A n cp _ rfl (OwnV.alloc HOWN.out _) wr.heap.size 0 (.string ⟨#[]⟩) rfl
          (by rw [cell_of_row _ wr.heap.size 0 _ _ (0, 0) (heap_alloc_new wr _)]; rfl) rfl (by omega) (by have := HB.out.size; simp; omega) ?_)
        intro A2 cp2 wx hown2 hb2
        have hown3 : OwnS wx w.heap.size A2 (n + 1) cp2 (splitGo c [] ((nats s).take (k + 1))) := by
          rw [HT.out, if_pos HQ.out]
          unfold OwnS
          rw [List.map_append]
          exact hown2
        have HO3 := Lib.hid hown3
        have HB3 := Lib.hid ((HB.out.alloc HB.out.size _).trans hb2)
        clear hown2 hb2 hown3
        go_wp2_with fail
        go_roundw
        case rel => exact ⟨k + 1, A2, n + 1, cp2, by omega, by go_num, rfl, HO3.out, HB3.out⟩
        case measure => simp [intOf]; omega
      · have hq' : ((s[k].toNat : Int) == (c : Int)) = false := by simp; omega
        obtain ⟨g, rfl, hg1, hg2, hst, hfz, hput⟩ := hown.at_ hn1
        have hlast := last_get _ hne
        rw [hnl] at hlast
        have hcell := hst (n - 1) _ hlast
        rw [Nat.zero_add] at hcell
        have hll : ((splitGo c [] ((nats s).take k)).getLastD []).length ≤ s.size := by
          have := splitL_small (c := c) (l := (nats s).take k) _ (List.mem_of_getElem? hlast)
          rw [List.length_take] at this
          omega
        have hset := hput (n - 1) ((splitGo c [] ((nats s).take k)).getLastD [] ++ [s[k].toNat]) (by omega)
        have hsplit : splitGo c [] ((nats s).take (k + 1)) = (splitGo c [] ((nats s).take k)).set (n - 1) ((splitGo c [] ((nats s).take k)).getLastD [] ++ [s[k].toNat]) := by
          rw [HT.out, if_neg hq, last_set _ _ hne, hnl]
        rw [← hsplit] at hset
        have HSET := Lib.hid hset
        have hfz' := hfz (n - 1)
        have hpc : s.extract k (k + 1) = strOf [s[k].toNat] := nats_inj (by
          rw [nats_strOf _ (by simpa using hxb), nats_extract, List.drop_eq_getElem_cons (by rw [HN.out]; exact hlt), Nat.add_sub_cancel_left]
          have : (nats s)[k]'(by rw [HN.out]; exact hlt) = s[k].toNat := by
            rw [List.getElem?_eq_getElem (by rw [HN.out]; exact hlt)] at hx
            exact Option.some.inj hx
          rw [this]; rfl)
        obtain ⟨lst, hlst⟩ : ∃ l, (splitGo c [] ((nats s).take k)).getLastD [] = l := ⟨_, rfl⟩
        rw [hlst] at hcell hll HSET
        have ka := fun W => add_str (strOf lst) (s.extract k (k + 1)) lst [s[k].toNat] rfl hpc (by simp; omega) W
        obtain ⟨m, rfl⟩ : ∃ m, n = m + 1 := ⟨n - 1, by omega⟩
        rw [Nat.add_sub_cancel] at hcell HSET hfz'
        have hm1 : (0 : Int) ≤ (m : Int) := by omega
        have hs1 : (k : Int) + 1 ≤ (s.size : Int) := by omega
        have hs2 : (k : Int) ≤ (k : Int) + 1 := by omega
        have hwm : IntKind.i64.wrap (m : Int) = (m : Int) := IntWalk.i64_in _ (by omega)
        have hwk : IntKind.i64.wrap ((k : Int) + 1) = (k : Int) + 1 := IntWalk.i64_in _ (by omega)
        have hkt : ((k : Int) + 1).toNat = k + 1 := by omega
        have hk0 : 0 ≤ (k : Int) + 1 := by omega
        have hml : (m : Int) < (m : Int) + 1 := by omega
        have HGG := Lib.hid hg1
        clear hst hfz hput hlast hset hsplit hpc hlst hx hnl hne hq hown hb
        go_wp2_with fail
        go_still_tail 17, (by kernel_rfl)
        change wpList _ _ _ _ _ wr.drew
        go_wp2_with fail
        go_roundw
        case rel => exact ⟨k + 1, some ⟨g, 0, none⟩, m + 1, cp, by omega, by go_num, rfl, HSET.out, (HB.out.setCell HGG.out _).drew⟩
        case measure => simp [intOf]; omega
    · have htk : (nats s).take k = nats s := List.take_of_length_le (by rw [HN.out]; omega)
      have hown' : OwnS wr w.heap.size A n cp (splitL c (nats s)) := by
        show OwnS wr w.heap.size A n cp (splitGo c [] (nats s))
        rw [htk] at hown
        exact hown
      have HO := Lib.hid hown'
      clear htk hown' hown hb hnl hne
      go_wp2_with fail
      go_ret
      exact ⟨A, n, cp, rfl, HO.out, HB.out⟩


/-- what the document's own answers for an end's text: below 0, where it is none -/
def numZ (l : List Nat) : Int := (numberN l).getD (-1)
theorem numZ_star : numZ [42] = 0 := rfl
theorem numZ_bad {l : List Nat} {k c : Nat} (h : l ≠ [42]) (hc : l[k]? = some c) (h2 : c < 48 ∨ 57 < c) : numZ l = -1 := by
  unfold numZ
  rw [numberN_of h, if_neg]; rfl
  intro e
  have := (of_decide_eq_true e).2.2.1 c (List.mem_of_getElem? hc)
  omega
theorem numZ_big {l : List Nat} (h : l ≠ [42]) (h2 : 4294967295 < uVal l) : numZ l = -1 := by
  unfold numZ
  rw [numberN_of h, if_neg]; rfl
  intro e
  have := (of_decide_eq_true e).2.2.2
  omega
theorem numZ_nil : numZ [] = -1 := rfl
theorem numZ_zero {l : List Nat} (h : l ≠ [42]) (h0 : l.head? = some 48) : numZ l = -1 := by
  unfold numZ
  rw [numberN_of h, if_neg]; rfl
  intro e
  exact (of_decide_eq_true e).2.1 h0
theorem numZ_good {l : List Nat} (h : l ≠ [42]) (h1 : l ≠ []) (h0 : l.head? ≠ some 48) (hd : ∀ c ∈ l, 48 ≤ c ∧ c ≤ 57) (hv : uVal l ≤ 4294967295) : numZ l = (uVal l : Nat) := by
  unfold numZ
  rw [numberN_of h, if_pos (show numOkB l = true from decide_eq_true ⟨h1, h0, hd, hv⟩)]; rfl
theorem uVal_take {l : List Nat} (k : Nat) : uVal (l.take k) ≤ uVal l := by
  have : uVal l = valF (uVal (l.take k)) (l.drop k) := by
    unfold uVal valF
    rw [← List.foldl_append, List.take_append_drop]
  rw [this]
  exact valF_le _ _
theorem digs_snoc {l : List Nat} {k c : Nat} (h : ∀ x ∈ l.take k, 48 ≤ x ∧ x ≤ 57) (ht : l.take (k + 1) = l.take k ++ [c]) (hc : 48 ≤ c ∧ c ≤ 57) : ∀ x ∈ l.take (k + 1), 48 ≤ x ∧ x ≤ 57 := by
  rw [ht]
  intro x hx
  rcases List.mem_append.1 hx with h1 | h1
  · exact h x h1
  · rw [List.mem_singleton.1 h1]; exact hc

set_option maxRecDepth 20000 in
set_option maxHeartbeats 4000000 in
theorem x9number_any (s : ByteArray) (hs : s.size ≤ 140737488355328) (w : World) : Calls Tryd.prog 27 #[.string s] w fun e w' => e = .returned (.int .i64 (numZ (nats s))) ∧ w = w' := by
  by_cases h42 : nats s = [42]
  · obtain rfl : s = ⟨#[42]⟩ := by rw [← strOf_nats s, h42]; rfl
    go_enter Tryd.func27, Tryd.ntmps27
    go_wp2_with fail
    go_ret
    exact ⟨rfl, rfl⟩
  · have hne : (s.toList == [42]) = false := by
      have := (strOf_one s [42] (by decide)).trans (decide_eq_false h42)
      rwa [show (strOf [42]).toList = [42] by rw [ByteArray.toList_eq]; rfl] at this
    have H42 := Lib.hid h42
    clear h42
    by_cases h0 : s.size = 0
    · have hnil : nats s = [] := List.eq_nil_of_length_eq_zero (by rw [nats_length]; exact h0)
      obtain rfl : s = ⟨#[]⟩ := by rw [← strOf_nats s, hnil]; rfl
      clear hne
      go_enter Tryd.func27, Tryd.ntmps27
      go_wp2_with fail
      go_ret
      exact ⟨rfl, rfl⟩
    · have hs0 : 0 < s.size := by omega
      have hs0' : (0 : Int) < (s.size : Int) := by omega
      have hne2 : (s.toList == []) = false := by
        have := (strOf_one s [] (by simp)).trans (decide_eq_false (fun e => h0 (by rw [← nats_length, e]; rfl)))
        rwa [show (strOf []).toList = [] by rw [ByteArray.toList_eq]; rfl] at this
      have hne3 : s.toList.isEmpty = false := by cases hq : s.toList.isEmpty; rfl; rw [List.isEmpty_iff.1 hq] at hne2; cases hne2
      have hne4 : ¬ s.toList = [] := fun e => by rw [e] at hne2; cases hne2
      have hx := nats_byte s 0 hs0
      by_cases h48 : s[0].toNat = 48
      · have hz : ((s[0].toNat : Int) == 48) = true := by rw [h48]; rfl
        have HR : Hid (numZ (nats s) = -1) := Lib.hid (numZ_zero H42.out (by rw [List.head?_eq_getElem?, hx, h48]))
        clear h48 hx h0
        go_enter Tryd.func27, Tryd.ntmps27
        go_wp2_with fail
        go_ret
        exact ⟨by rw [HR.out] <;> rfl, rfl⟩
      · have hz : ((s[0].toNat : Int) == 48) = false := by simp; omega
        have HH : Hid ((nats s).head? ≠ some 48) := Lib.hid (by rw [List.head?_eq_getElem?, hx]; intro e; exact h48 (Option.some.inj e))
        have HNE : Hid (nats s ≠ []) := Lib.hid (fun e => h0 (by rw [← nats_length, e]; rfl))
        have HN := Lib.hid (nats_length s)
        clear h48 hx h0
        go_enter Tryd.func27, Tryd.ntmps27
        go_wp2_with fail
        clear hz hne hne2 hne3 hne4
        go_loop [3, 4] (fun n i => ∃ k v : Nat, k ≤ s.size ∧ i = .int .i64 (k : Int) ∧ n = .int .i64 (v : Int) ∧ uVal ((nats s).take k) = v ∧ v ≤ 42949672969 ∧ ∀ x ∈ (nats s).take k, 48 ≤ x ∧ x ≤ 57) (fun _ i => s.size - (intOf i).toNat)
        case atStart => exact ⟨0, 0, Nat.zero_le _, rfl, rfl, rfl, by omega, fun x hx => by simp at hx⟩
        case round =>
          obtain ⟨k, v, hk, rfl, rfl, hv, hvb, hd⟩ := hrel
          have HV := Lib.hid hv
          have HD := Lib.hid hd
          clear hv hd
          by_cases hlt : k < s.size
          · have hx := nats_byte s k hlt
            have hxb : s[k].toNat < 256 := s[k].toNat_lt
            have hk0 : (0 : Int) ≤ (k : Int) := by omega
            have hkn : (k : Int) < (s.size : Int) := by omega
            have HTK := Lib.hid (take_snoc_n _ _ _ hx)
            have HX := Lib.hid hx
            clear hx
            by_cases hc1 : s[k].toNat < 48
            · have hc1' : (s[k].toNat : Int) < 48 := by omega
              have HR : Hid (numZ (nats s) = -1) := Lib.hid (numZ_bad H42.out HX.out (.inl hc1))
              go_wp2_with fail
              go_ret
              exact ⟨by rw [HR.out] <;> rfl, rfl⟩
            · have hc1' : ¬ (s[k].toNat : Int) < 48 := by omega
              by_cases hc2 : 57 < s[k].toNat
              · have hc2' : (57 : Int) < (s[k].toNat : Int) := by omega
                have HR : Hid (numZ (nats s) = -1) := Lib.hid (numZ_bad H42.out HX.out (.inr hc2))
                go_wp2_with fail
                go_ret
                exact ⟨by rw [HR.out] <;> rfl, rfl⟩
              · have hc2' : ¬ (57 : Int) < (s[k].toNat : Int) := by omega
                by_cases hv1 : 4294967296 < v
                · have hv1' : (4294967296 : Int) < (v : Int) := by omega
                  have HR : Hid (numZ (nats s) = -1) := Lib.hid (numZ_big H42.out (by have := uVal_take (l := nats s) k; rw [HV.out] at this; omega))
                  go_wp2_with fail
                  go_ret
                  exact ⟨by rw [HR.out] <;> rfl, rfl⟩
                · have hv1' : ¬ (4294967296 : Int) < (v : Int) := by omega
                  have HV2 : Hid (uVal ((nats s).take (k + 1)) = v * 10 + (s[k].toNat - 48)) := Lib.hid (by rw [HTK.out, uVal_snoc, HV.out])
                  have HD2 := Lib.hid (digs_snoc HD.out HTK.out ⟨by omega, by omega⟩)
                  have hu : IntKind.u8.wrap ((s[k].toNat : Int) - 48) = (s[k].toNat : Int) - 48 := by rw [IntWalk.u8_in _ (by omega)]
                  have hw1 : IntKind.i64.wrap ((s[k].toNat : Int) - 48) = (s[k].toNat : Int) - 48 := IntWalk.i64_in _ (by omega)
                  have hw2 : IntKind.i64.wrap ((v : Int) * 10) = (v : Int) * 10 := IntWalk.i64_in _ (by omega)
                  have hw3 : IntKind.i64.wrap ((v : Int) * 10 + ((s[k].toNat : Int) - 48)) = (v : Int) * 10 + ((s[k].toNat : Int) - 48) := IntWalk.i64_in _ (by omega)
                  go_wp2_with fail
                  go_round
                  case rel => exact ⟨k + 1, v * 10 + (s[k].toNat - 48), by omega, by go_num, by first | go_num | (congr 1; omega), HV2.out, by omega, HD2.out⟩
                  case measure => simp [intOf]; omega
          · have hall : (nats s).take k = nats s := List.take_of_length_le (by rw [HN.out]; omega)
            have hv := HV.out
            rw [hall] at hv
            by_cases hv1 : 4294967295 < v
            · have hv1' : (4294967295 : Int) < (v : Int) := by omega
              have HR : Hid (numZ (nats s) = -1) := Lib.hid (numZ_big H42.out (by omega))
              clear hv hall
              go_wp2_with fail
              go_ret
              exact ⟨by rw [HR.out] <;> rfl, rfl⟩
            · have hv1' : ¬ (4294967295 : Int) < (v : Int) := by omega
              have hd := HD.out
              rw [hall] at hd
              have HR : Hid (numZ (nats s) = (v : Int)) := Lib.hid (by rw [numZ_good H42.out HNE.out HH.out hd (by omega), hv])
              clear hv hall hd
              go_wp2_with fail
              go_ret
              exact ⟨by rw [HR.out] <;> rfl, rfl⟩
end Go.Proofs.YtiophifilikajaaDoor
