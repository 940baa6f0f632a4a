/-
  Contracts over the document's own dates: a text's parts, a text's words.
-/
import Derived.Test.YtnhafpgeinghnaaDoorDateRefB
import Derived.Test.YtnhafpgeinghnaaDoorOwnV
import Derived.Test.YtnhafpgeinghnaaDoorDateClock
import Derived.StillTailTactics
namespace Go.Proofs.YtnhafpgeinghnaaDoor
open Go.RowKit
set_option linter.unusedVariables false
set_option linter.unusedSimpArgs false

def sv (p : List Nat) : Value := .string (strOf p)
/-- an own slice of texts -/
def OwnS (w : World) (base : Nat) (A : Option Addr) (n c : Nat) (l : List (List Nat)) : Prop := OwnV w base 9 A n c (l.map sv)
section
variable {w w' : World} {base n c : Nat} {A : Option Addr} {l : List (List Nat)}
theorem OwnS.len (h : OwnS w base A n c l) : l.length = n := by have := OwnV.len h; simpa using this
theorem OwnS.below (h : OwnS w base A n c l) (hb : Below w.heap.size w w') : OwnS w' base A n c l := OwnV.below h hb
theorem OwnS.at_ (h : OwnS w base A n c l) (hn : 0 < n) : ∃ g, A = some ⟨g, 0, none⟩ ∧ base ≤ g ∧ g < w.heap.size ∧ Strs w g 0 l ∧ (∀ i, w.frozen? ⟨g, i, none⟩ = false) ∧
    ∀ i p, i < n → OwnS (w.setCell ⟨g, i, none⟩ (.string (strOf p))) base A n c (l.set i p) := by
  have hlen := h.len
  rcases h.2 with ⟨_, h0⟩ | ⟨g, cap, cur, hv, hg, hh, hnc, hcm, hcs, htk⟩
  · omega
  · injection hv with hA _ hc
    subst hA hc
    refine ⟨g, rfl, hg, (Array.getElem?_eq_some_iff.1 hh).1, fun i p hp => ?_, fun i => frozen_of_row w g i cur _ hh, fun i p hi => ?_⟩
    · have hil : i < l.length := (List.getElem?_eq_some_iff.1 hp).1
      rw [Nat.zero_add, cell_of_row w g i cur _ (0, 0) hh]
      have h2 := congrArg (·[i]?) htk
      simp only [List.getElem?_take, Nat.mul_one, List.getElem?_map, hp, Option.map_some] at h2
      rw [if_pos (by omega)] at h2
      have h3 : cur[i]? = some (sv p) := by simpa only [Array.getElem?_toList] using h2
      exact h3
    · refine ⟨by simp [hlen], .inr ⟨g, c, cur.setIfInBounds i (.string (strOf p)), rfl, hg, heap_setCell_same w g i cur _ _ hh, hnc, hcm, by simpa using hcs, ?_⟩⟩
      rw [Array.toList_setIfInBounds, List.take_set, htk, List.map_set]
      rfl
end
theorem splitGo_take {c : Nat} {l : List Nat} {k x : Nat} (hx : l[k]? = some x) : splitGo c [] (l.take (k + 1)) = if x = c then splitGo c [] (l.take k) ++ [[]] else (splitGo c [] (l.take k)).dropLast ++ [(splitGo c [] (l.take k)).getLastD [] ++ [x]] := by
  rw [take_snoc_n l k x hx]
  exact splitGo_snoc _ _ _
theorem last_set {α : Type} (l : List α) (x : α) (h : l ≠ []) : l.dropLast ++ [x] = l.set (l.length - 1) x := by
  obtain ⟨a, b, rfl⟩ : ∃ a b, l = a ++ [b] := ⟨l.dropLast, l.getLast h, (List.dropLast_concat_getLast h).symm⟩
  simp
theorem last_get (l : List (List Nat)) (h : l ≠ []) : l[l.length - 1]? = some (l.getLastD []) := by
  obtain ⟨a, b, rfl⟩ : ∃ a b, l = a ++ [b] := ⟨l.dropLast, l.getLast h, (List.dropLast_concat_getLast h).symm⟩
  simp
theorem parts_small {c : Nat} {l : List Nat} : ∀ p ∈ splitGo c [] l, p.length ≤ l.length := splitL_len (c := c) (l := l)

set_option maxRecDepth 20000 in
set_option maxHeartbeats 4000000 in
theorem x7split_any (s : ByteArray) (c : Nat) (hc : c < 256) (hs : s.size ≤ 100000) (w : World) :
    Calls Tryd.prog 27 #[.string s, .int .u8 (c : Int)] w fun e w' => ∃ A n k, e = .returned (.slice A n k) ∧ OwnS w' w.heap.size A n k (splitL c (nats s)) ∧ Below w.heap.size w w' := by
  have h64 : s.size ≤ 9223372036854775807 := by omega
  have HN := Lib.hid (nats_length s)
  go_enter Tryd.func27, Tryd.ntmps27
  go_wp2_with fail
  go_loopw [5, 6] (fun o i wx => ∃ (k : Nat) (A : Option Addr) (n cp : Nat), k ≤ s.size ∧ i = .int .i64 (k : Int) ∧ o = .slice A n cp ∧ OwnS wx w.heap.size A n cp (splitGo c [] ((nats s).take k)) ∧ Below w.heap.size w wx) (fun _ i _ => s.size - (intOf i).toNat)
  case atStart =>
    refine ⟨0, _, _, _, Nat.zero_le _, rfl, rfl, ?_, (Below.refl _ _).alloc (Nat.le_refl _) _⟩
    exact ⟨rfl, .inr ⟨w.heap.size, 1, _, rfl, Nat.le_refl _, heap_alloc_new w _, Nat.le_refl _, by unfold maxLen; omega, rfl, rfl⟩⟩
  case round =>
    obtain ⟨k, A, n, cp, hk, rfl, rfl, hown, hb⟩ := hrel
    have HOWN := Lib.hid hown
    have HB := Lib.hid hb
    have hnl := hown.len
    have hne := splitGo_ne c [] ((nats s).take k)
    have hn1 : 1 ≤ n := by rw [← hnl]; exact List.length_pos_iff.2 hne
    have hnk : n ≤ s.size + 1 := by
      have := splitL_sum c ((nats s).take k)
      unfold splitL at this
      rw [hnl, List.length_take, HN.out] at this
      omega
    by_cases hlt : k < s.size
    · have hx := nats_byte s k hlt
      have hxb : s[k].toNat < 256 := s[k].toNat_lt
      have HT := Lib.hid (splitGo_take (c := c) hx)
      by_cases hq : s[k].toNat = c
      · have hq' : ((s[k].toNat : Int) == (c : Int)) = true := by rw [hq]; simp
        have HQ := Lib.hid hq
        clear hq hx hnl hne hown hb
        go_wp2_with ((with_reducible show wpList _ _ _ (⟨some 21, _, _, _, _, _⟩ :: _) _ _); refine hold ?_)
        refine held (wpList_append_one rfl (.tmp 19) (.tmp 20) 44 rfl Tryd.underlying44 info_str rfl (by omega) w.heap.size A n cp _ rfl (OwnV.alloc HOWN.out _) wr.heap.size 0 (.string ⟨#[]⟩) rfl
          (by rw [cell_of_row _ wr.heap.size 0 _ _ (0, 0) (heap_alloc_new wr _)]; rfl) rfl (by omega) (by have := HB.out.size; simp; omega) ?_)
        intro A2 cp2 wx hown2 hb2
        have hown3 : OwnS wx w.heap.size A2 (n + 1) cp2 (splitGo c [] ((nats s).take (k + 1))) := by
          rw [HT.out, if_pos HQ.out]
          unfold OwnS
          rw [List.map_append]
          exact hown2
        have HO3 := Lib.hid hown3
        have HB3 := Lib.hid ((HB.out.alloc HB.out.size _).trans hb2)
        clear hown2 hb2 hown3
        go_wp2_with fail
        go_roundw
        case rel => exact ⟨k + 1, A2, n + 1, cp2, by omega, by go_num, rfl, HO3.out, HB3.out⟩
        case measure => simp [intOf]; omega
      · have hq' : ((s[k].toNat : Int) == (c : Int)) = false := by simp; omega
        obtain ⟨g, rfl, hg1, hg2, hst, hfz, hput⟩ := hown.at_ hn1
        have hlast := last_get _ hne
        rw [hnl] at hlast
        have hcell := hst (n - 1) _ hlast
        rw [Nat.zero_add] at hcell
        have hll : ((splitGo c [] ((nats s).take k)).getLastD []).length ≤ s.size := by
          have := parts_small (c := c) (l := (nats s).take k) _ (List.mem_of_getElem? hlast)
          rw [List.length_take] at this
          omega
        have hset := hput (n - 1) ((splitGo c [] ((nats s).take k)).getLastD [] ++ [s[k].toNat]) (by omega)
        have hsplit : splitGo c [] ((nats s).take (k + 1)) = (splitGo c [] ((nats s).take k)).set (n - 1) ((splitGo c [] ((nats s).take k)).getLastD [] ++ [s[k].toNat]) := by
          rw [HT.out, if_neg hq, last_set _ _ hne, hnl]
        rw [← hsplit] at hset
        have HSET := Lib.hid hset
        have hfz' := hfz (n - 1)
        have hpc : s.extract k (k + 1) = strOf [s[k].toNat] := nats_inj (by
          rw [nats_strOf _ (by simpa using hxb), nats_extract, List.drop_eq_getElem_cons (by rw [HN.out]; exact hlt), Nat.add_sub_cancel_left]
          have : (nats s)[k]'(by rw [HN.out]; exact hlt) = s[k].toNat := by
            rw [List.getElem?_eq_getElem (by rw [HN.out]; exact hlt)] at hx
            exact Option.some.inj hx
          rw [this]; rfl)
        obtain ⟨lst, hlst⟩ : ∃ l, (splitGo c [] ((nats s).take k)).getLastD [] = l := ⟨_, rfl⟩
        rw [hlst] at hcell hll HSET
        have ka := fun W => add_str (strOf lst) (s.extract k (k + 1)) lst [s[k].toNat] rfl hpc (by simp; omega) W
        obtain ⟨m, rfl⟩ : ∃ m, n = m + 1 := ⟨n - 1, by omega⟩
        rw [Nat.add_sub_cancel] at hcell HSET hfz'
        have hm1 : (0 : Int) ≤ (m : Int) := by omega
        have hs1 : (k : Int) + 1 ≤ (s.size : Int) := by omega
        have hs2 : (k : Int) ≤ (k : Int) + 1 := by omega
        have hwm : IntKind.i64.wrap (m : Int) = (m : Int) := IntWalk.i64_in _ (by omega)
        have hwk : IntKind.i64.wrap ((k : Int) + 1) = (k : Int) + 1 := IntWalk.i64_in _ (by omega)
        have hkt : ((k : Int) + 1).toNat = k + 1 := by omega
        have hk0 : 0 ≤ (k : Int) + 1 := by omega
        have hml : (m : Int) < (m : Int) + 1 := by omega
        have HGG := Lib.hid hg1
        clear hst hfz hput hlast hset hsplit hpc hlst hx hnl hne hq hown hb
        go_wp2_with fail
        go_still_tail 17, (by kernel_rfl)
        change wpList _ _ _ _ _ wr.drew
        go_wp2_with fail
        go_roundw
        case rel => exact ⟨k + 1, some ⟨g, 0, none⟩, m + 1, cp, by omega, by go_num, rfl, HSET.out, (HB.out.setCell HGG.out _).drew⟩
        case measure => simp [intOf]; omega
    · have htk : (nats s).take k = nats s := List.take_of_length_le (by rw [HN.out]; omega)
      have hown' : OwnS wr w.heap.size A n cp (splitL c (nats s)) := by
        show OwnS wr w.heap.size A n cp (splitGo c [] (nats s))
        rw [htk] at hown
        exact hown
      have HO := Lib.hid hown'
      clear htk hown' hown hb hnl hne
      go_wp2_with fail
      go_ret
      exact ⟨A, n, cp, rfl, HO.out, HB.out⟩

/-! words -/
theorem words_step_b {cur l : List Nat} {k x : Nat} (hx : l[k]? = some x) (hb : blankB x = true) : wordsGo cur (l.drop k) = (if cur = [] then wordsGo [] (l.drop (k + 1)) else cur :: wordsGo [] (l.drop (k + 1))) := by
  have hk : k < l.length := (List.getElem?_eq_some_iff.1 hx).1
  have e : l.drop k = x :: l.drop (k + 1) := by
    rw [List.drop_eq_getElem_cons hk]
    rw [List.getElem?_eq_getElem hk] at hx
    rw [Option.some.inj hx]
  rw [e]
  by_cases hc : cur = []
  · rw [if_pos hc, hc, wordsGo_blank0 _ hb]
  · rw [if_neg hc, wordsGo_blank _ hb hc]
theorem words_step_n {cur l : List Nat} {k x : Nat} (hx : l[k]? = some x) (hb : blankB x = false) : wordsGo cur (l.drop k) = wordsGo (cur ++ [x]) (l.drop (k + 1)) := by
  have hk : k < l.length := (List.getElem?_eq_some_iff.1 hx).1
  have e : l.drop k = [x] ++ l.drop (k + 1) := by
    rw [List.drop_eq_getElem_cons hk]
    rw [List.getElem?_eq_getElem hk] at hx
    rw [Option.some.inj hx]; rfl
  rw [e, wordsGo_run _ _ _ (fun y hy => by rw [List.mem_singleton.1 hy]; exact hb)]
/-- what holds of the words' loop at place k: the words so far, the word that is begun -/
def WordsAt (l : List Nat) (k : Nat) (out : List (List Nat)) (cur : List Nat) : Prop := out ++ wordsGo cur (l.drop k) = wordsL l ∧ cur.length ≤ k ∧ out.length ≤ k ∧ (cur = [] → True)
end Go.Proofs.YtnhafpgeinghnaaDoor
