/-
  Contracts over the document's own dates: a text's words, a week's word.
-/
import Derived.Test.YtnhafpgeinghnaaDoorDateRefC
import Derived.Test.YtnhafpgeinghnaaDoorDateMail
namespace Go.Proofs.YtnhafpgeinghnaaDoor
open Go.RowKit
set_option linter.unusedVariables false
set_option linter.unusedSimpArgs false

theorem ne_empty {cur : List Nat} (h : cur ≠ []) : ((strOf cur).toList != []) = true ∧ (!(strOf cur).toList.isEmpty) = true := by
  have : (strOf cur).toList ≠ [] := by
    rw [ByteArray.toList_eq]
    intro e
    rw [strOf_data] at e
    exact h (List.map_eq_nil_iff.1 e)
  have h1 : ((strOf cur).toList != []) = true := by simp [this]
  refine ⟨h1, ?_⟩
  cases hq : (strOf cur).toList.isEmpty
  · rfl
  · exact absurd (List.isEmpty_iff.1 hq) this

set_option maxRecDepth 20000 in
set_option maxHeartbeats 8000000 in
theorem x7words_any (s : ByteArray) (hs : s.size ≤ 100000) (w : World) :
    Calls Tryd.prog 35 #[.string s] w fun e w' => ∃ A n k, e = .returned (.slice A n k) ∧ OwnS w' w.heap.size A n k (wordsL (nats s)) ∧ Below w.heap.size w w' := by
  have h64 : s.size ≤ 9223372036854775807 := by omega
  have HN := Lib.hid (nats_length s)
  go_enter Tryd.func35, Tryd.ntmps35
  go_wp2_with fail
  go_loopw [3, 4, 5] (fun o v i wx => ∃ (k : Nat) (A : Option Addr) (n cp : Nat) (out : List (List Nat)) (cur : List Nat), k ≤ s.size + 1 ∧ i = .int .i64 (k : Int) ∧ o = .slice A n cp ∧ v = .string (strOf cur) ∧ OwnS wx w.heap.size A n cp out ∧ Below w.heap.size w wx ∧
    out ++ wordsGo cur ((nats s).drop k) = wordsL (nats s) ∧ cur.length ≤ k ∧ n ≤ k ∧ (k = s.size + 1 → cur = [])) (fun _ _ i _ => s.size + 1 - (intOf i).toNat)
  case atStart => exact ⟨0, none, 0, 0, [], [], Nat.zero_le _, rfl, rfl, rfl, OwnV.nil, Below.refl _ _, rfl, Nat.le_refl _, Nat.le_refl _, fun h => by omega⟩
  case round =>
    obtain ⟨k, A, n, cp, out, cur, hk, rfl, rfl, rfl, hown, hb, hw, hcl, hnk, hce⟩ := hrel
    have HOWN := Lib.hid hown
    have HB := Lib.hid hb
    have HW := Lib.hid hw
    have HCE := Lib.hid hce
    clear hown hb hw hce
    by_cases hle : k ≤ s.size
    · have hle' : (k : Int) ≤ (s.size : Int) := by omega
      by_cases hgo : k < s.size ∧ ∃ x : Nat, (nats s)[k]? = some x ∧ blankB x = false
      · obtain ⟨hlt, x, hx, hxb⟩ := hgo
        have hxs := nats_byte s k hlt
        rw [hx] at hxs
        obtain rfl := Option.some.inj hxs
        have hlt' : (k : Int) < (s.size : Int) := by omega
        have hx1 : ((s[k].toNat : Int) != 32) = true := by unfold blankB at hxb; simp at hxb ⊢; omega
        have hx2 : ((s[k].toNat : Int) != 9) = true := by unfold blankB at hxb; simp at hxb ⊢; omega
        have HS := Lib.hid (words_step_n (cur := cur) hx hxb)
        have hpc : s.extract k (k + 1) = strOf [s[k].toNat] := nats_inj (by
          rw [nats_strOf _ (by simpa using s[k].toNat_lt), nats_extract, List.drop_eq_getElem_cons (by rw [HN.out]; exact hlt), Nat.add_sub_cancel_left]
          have : (nats s)[k]'(by rw [HN.out]; exact hlt) = s[k].toNat := by
            rw [List.getElem?_eq_getElem (by rw [HN.out]; exact hlt)] at hx
            exact Option.some.inj hx
          rw [this]; rfl)
        have ka := fun W => add_str (strOf cur) (s.extract k (k + 1)) cur [s[k].toNat] rfl hpc (by simp; omega) W
        have hkt : ((k : Int) + 1).toNat = k + 1 := by omega
        have hs1 : (k : Int) + 1 ≤ (s.size : Int) := by omega
        have hs2 : (k : Int) ≤ (k : Int) + 1 := by omega
        clear hx hxs hxb hpc
        go_wp2_with fail
        go_roundw
        case rel => exact ⟨k + 1, A, n, cp, out, cur ++ [s[k].toNat], by omega, by go_num, rfl, rfl, HOWN.out, HB.out, by rw [← HS.out]; exact HW.out, by simp; omega, by omega, fun h => by omega⟩
        case measure => simp [intOf]; omega
      · -- a blank, or the text's end
        have hstep : wordsGo cur ((nats s).drop k) = (if cur = [] then wordsGo [] ((nats s).drop (k + 1)) else cur :: wordsGo [] ((nats s).drop (k + 1))) := by
          by_cases hlt : k < s.size
          · have hxs := nats_byte s k hlt
            cases hbk : blankB s[k].toNat
            · exact absurd ⟨hlt, _, hxs, hbk⟩ hgo
            · exact words_step_b hxs hbk
          · have e1 : (nats s).drop k = [] := List.drop_of_length_le (by rw [HN.out]; omega)
            have e2 : (nats s).drop (k + 1) = [] := List.drop_of_length_le (by rw [HN.out]; omega)
            rw [e1, e2]
            by_cases hc : cur = []
            · rw [if_pos hc, hc]
            · rw [if_neg hc, wordsGo_end hc]; rfl
        have HST := Lib.hid hstep
        have htest : (k < s.size ∧ ∃ hlt : k < s.size, ((((s[k].toNat : Int) != 32) = false) ∨ (((s[k].toNat : Int) != 32) = true ∧ ((s[k].toNat : Int) != 9) = false))) ∨ ¬ k < s.size := by
          by_cases hlt : k < s.size
          · refine .inl ⟨hlt, hlt, ?_⟩
            have hxs := nats_byte s k hlt
            cases hbk : blankB s[k].toNat
            · exact absurd ⟨hlt, _, hxs, hbk⟩ hgo
            · unfold blankB at hbk
              simp at hbk ⊢
              omega
          · exact .inr hlt
        clear hstep hgo
        by_cases hc : cur = []
        · have HST2 : Hid (wordsGo cur ((nats s).drop k) = wordsGo [] ((nats s).drop (k + 1))) := Lib.hid (by rw [HST.out, if_pos hc])
          have he0 : strOf cur = ⟨#[]⟩ := by rw [hc]; rfl
          rw [he0]
          clear hc he0 HST
          rcases htest with ⟨hlt, _, h32 | ⟨h32, h9⟩⟩ | hlt
          · have hlt' : (k : Int) < (s.size : Int) := by omega
            go_wp2_with fail
            go_roundw
            case rel => exact ⟨k + 1, A, n, cp, out, [], by omega, by go_num, rfl, rfl, HOWN.out, HB.out, by rw [← HST2.out]; exact HW.out, Nat.zero_le _, by omega, fun _ => rfl⟩
            case measure => simp [intOf]; omega
          · have hlt' : (k : Int) < (s.size : Int) := by omega
            go_wp2_with fail
            go_roundw
            case rel => exact ⟨k + 1, A, n, cp, out, [], by omega, by go_num, rfl, rfl, HOWN.out, HB.out, by rw [← HST2.out]; exact HW.out, Nat.zero_le _, by omega, fun _ => rfl⟩
            case measure => simp [intOf]; omega
          · have hlt' : ¬ (k : Int) < (s.size : Int) := by omega
            go_wp2_with fail
            go_roundw
            case rel => exact ⟨k + 1, A, n, cp, out, [], by omega, by go_num, rfl, rfl, HOWN.out, HB.out, by rw [← HST2.out]; exact HW.out, Nat.zero_le _, by omega, fun _ => rfl⟩
            case measure => simp [intOf]; omega
        · have HST2 : Hid (wordsGo cur ((nats s).drop k) = cur :: wordsGo [] ((nats s).drop (k + 1))) := Lib.hid (by rw [HST.out, if_neg hc])
          obtain ⟨hn1, hn2⟩ := ne_empty hc
          clear hc HST
          rcases htest with ⟨hlt, _, h32 | ⟨h32, h9⟩⟩ | hlt
          all_goals
            first
              | (have hlt' : (k : Int) < (s.size : Int) := by omega)
              | (have hlt' : ¬ (k : Int) < (s.size : Int) := by omega)
            go_wp2_with ((with_reducible show wpList _ _ _ (⟨some 40, _, _, _, _, _⟩ :: _) _ _); refine hold ?_)
            refine held (wpList_append_one rfl (.tmp 37) (.tmp 39) 44 rfl Tryd.underlying44 info_str rfl (by omega) w.heap.size A n cp _ rfl (OwnV.alloc HOWN.out _) wr.heap.size 0 (.string (strOf cur)) rfl
              (by rw [cell_of_row _ wr.heap.size 0 _ _ (0, 0) (heap_alloc_new wr _)]; rfl) rfl (by omega) (by have := HB.out.size; simp; omega) ?_)
            intro A2 cp2 wx hown2 hb2
            have hown3 : OwnS wx w.heap.size A2 (n + 1) cp2 (out ++ [cur]) := by
              unfold OwnS
              rw [List.map_append]
              exact hown2
            have HO3 := Lib.hid hown3
            have HB3 := Lib.hid ((HB.out.alloc HB.out.size _).trans hb2)
            clear hown2 hb2 hown3
            go_wp2_with fail
            go_roundw
            case rel => exact ⟨k + 1, A2, n + 1, cp2, out ++ [cur], [], by omega, by go_num, rfl, rfl, HO3.out, HB3.out, by rw [List.append_assoc, List.singleton_append, ← HST2.out]; exact HW.out, Nat.zero_le _, by omega, fun _ => rfl⟩
            case measure => simp [intOf]; omega
    · have hks : k = s.size + 1 := by omega
      have hc := HCE.out hks
      have hfin : out = wordsL (nats s) := by
        have := HW.out
        rw [hc, hks, List.drop_of_length_le (by rw [HN.out]; omega)] at this
        simpa [wordsGo] using this
      have hown := HOWN.out
      rw [hfin] at hown
      have HO := Lib.hid hown
      have hle' : ¬ (k : Int) ≤ (s.size : Int) := by omega
      clear hfin hown hks hc
      go_wp2_with fail
      go_ret
      exact ⟨A, n, cp, rfl, HO.out, HB.out⟩
end Go.Proofs.YtnhafpgeinghnaaDoor
