/-
  The law FlagBack of package flag, as a walk.
-/
import Derived.Test.YtloghgfcgkfefaaDoorFlagAlive
import Derived.StillTailTactics
namespace Go.Proofs.YtloghgfcgkfefaaDoor
open Go.RowKit
set_option linter.unusedVariables false
set_option linter.unusedSimpArgs false

theorem nats_inj {a b : ByteArray} (h : nats a = nats b) : a = b := by rw [← strOf_nats a, ← strOf_nats b, h]
theorem piece1 (s : ByteArray) (k : Nat) (h : k < s.size) : s.extract k (k + 1) = strOf [s[k].toNat] := by
  refine data_inj ?_
  rw [strOf_data, Lib.extract_data, List.drop_eq_getElem_cons (by rw [Array.length_toList]; exact h), Nat.add_sub_cancel_left]
  simp
  rfl
theorem add_str (x y : ByteArray) (a b : List Nat) (hx : x = strOf a) (hy : y = strOf b) (h : a.length + b.length ≤ 1000000000000) (W : World) : (Op.stringOp .add x y).run Tryd.prog W = .ok (.string (strOf (a ++ b))) W := by
  subst hx hy
  rw [run_string_add_sum _ _ _ (by rw [strOf_size, strOf_size]; omega), strOf_append]
theorem ne_empty {cur : List Nat} (h : cur ≠ []) : ((strOf cur).toList != []) = true ∧ (!(strOf cur).toList.isEmpty) = true := by
  have : (strOf cur).toList ≠ [] := by
    rw [ByteArray.toList_eq]
    intro e
    rw [strOf_data] at e
    exact h (List.map_eq_nil_iff.1 e)
  have h1 : ((strOf cur).toList != []) = true := by simp [this]
  refine ⟨h1, ?_⟩
  cases hq : (strOf cur).toList.isEmpty
  · rfl
  · exact absurd (List.isEmpty_iff.1 hq) this

/-- the law's own cutting of what is told into words -/
def cutS (y : List (List Nat) × List Nat) (x : Nat) : List (List Nat) × List Nat := if x = 32 ∨ x = 41 then (if y.2 = [] then (y.1, []) else (y.1 ++ [y.2], [])) else (y.1, y.2 ++ [x])
def cutN (L : List Nat) (p : Nat) : List (List Nat) × List Nat := ((L.take p).drop 1).foldl cutS ([], [])
theorem cutN_step {L : List Nat} {p x : Nat} (h1 : 1 ≤ p) (hx : L[p]? = some x) : cutN L (p + 1) = cutS (cutN L p) x := by
  unfold cutN
  have hp : p < L.length := (List.getElem?_eq_some_iff.1 hx).1
  rw [take_snoc_n L p x hx, List.drop_append_of_le_length (by rw [List.length_take]; omega), List.foldl_append]
  rfl
theorem cut_told : ∀ a : Nat, a < 32 → cutN (tellN (a : Int)) (tellN (a : Int)).length = (told (a : Int), []) := by decide +kernel
theorem par_told : ∀ a : Nat, a < 32 → parV (told (a : Int)) = a ∧ parE (told (a : Int)) = 0 := by decide +kernel
theorem tell_len : ∀ a : Nat, a < 32 → 2 ≤ (tellN (a : Int)).length ∧ (tellN (a : Int)).length ≤ 100 := by decide +kernel
theorem set_facts : ∀ a : Nat, a < 32 → ∀ b : Nat, b < 32 → appV (a : Int) 1 (b : Int) = ((a ||| b : Nat) : Int) ∧ appE (a : Int) 1 (b : Int) = 0 ∧ appV (a : Int) 0 (b : Int) = b ∧ appE (a : Int) 0 (b : Int) = 0 ∧
    bits .and .i64 ((a ||| b : Nat) : Int) (b : Int) = b ∧ bits .and .i64 ((a ||| b : Nat) : Int) (a : Int) = a ∧ appE ((a ||| b : Nat) : Int) 2 (b : Int) = 0 ∧ bits .and .i64 (appV ((a ||| b : Nat) : Int) 2 (b : Int)) (b : Int) = 0 ∧
    bits .andNot .i64 (a : Int) (b : Int) = appV ((a ||| b : Nat) : Int) 2 (b : Int) := by decide +kernel

theorem OwnS.col {w : World} {base n c : Nat} {A : Option Addr} {l : List (List Nat)} (h : OwnS w base A n c l) : Col Value.string w w.heap.size A n (l.map strOf) := by
  refine ⟨by rw [List.length_map]; exact h.len, fun hn => ?_⟩
  obtain ⟨g, rfl, _, hg, hst, _, _⟩ := h.at_ hn
  refine ⟨g, 0, rfl, hg, fun i s hs => ?_⟩
  rw [List.getElem?_map] at hs
  obtain ⟨p, hp, rfl⟩ := Option.map_eq_some_iff.1 hs
  exact hst i p hp
theorem map_nats_strOf {l : List (List Nat)} (h : ∀ p ∈ l, ∀ x ∈ p, x < 256) : (l.map strOf).map nats = l := by
  rw [List.map_map]
  conv => rhs; rw [← List.map_id l]
  exact List.map_congr_left fun p hp => nats_strOf p (h p hp)

set_option maxRecDepth 100000 in
set_option maxHeartbeats 8000000 in
theorem flagBack_walk (x0 y0 : Nat) (hx0 : x0 < 256) (hy0 : y0 < 256) (w : World) (hA : All w) :
    Calls Tryd.prog 4 #[.int .u8 (x0 : Int), .int .u8 (y0 : Int)] w fun e w' => e = .returned (.bool true) ∧ Below w.heap.size w w' := by
  have ta : ((x0 : Int)).tmod 32 = ((x0 % 32 : Nat) : Int) := by rw [Int.tmod_eq_emod_of_nonneg (by omega)]; omega
  have tb : ((y0 : Int)).tmod 32 = ((y0 % 32 : Nat) : Int) := by rw [Int.tmod_eq_emod_of_nonneg (by omega)]; omega
  have ha : x0 % 32 < 32 := Nat.mod_lt _ (by omega)
  have hb : y0 % 32 < 32 := Nat.mod_lt _ (by omega)
  have wa : IntKind.i64.wrap (x0 : Int) = (x0 : Int) := IntWalk.i64_in _ (by omega)
  have wb : IntKind.i64.wrap (y0 : Int) = (y0 : Int) := IntWalk.i64_in _ (by omega)
  obtain ⟨a, hae⟩ : ∃ a, x0 % 32 = a := ⟨_, rfl⟩
  obtain ⟨b, hbe⟩ : ∃ b, y0 % 32 = b := ⟨_, rfl⟩
  rw [hae] at ta ha
  rw [hbe] at tb hb
  have HA := Lib.hid hA
  clear hA hae hbe
  go_enter Tryd.func4, Tryd.ntmps4
  go_wp2_with fail
  refine (alive08_any _ HA.out).mono ?_
  rintro e w1 ⟨rfl, hb1⟩
  have HA1 := Lib.hid (HA.out.below hb1)
  have HB1 := Lib.hid hb1
  clear hb1 HA
  go_wp2_with fail
  refine (print_any (a : Int) w1 HA1.out).mono ?_
  rintro e w2 ⟨rfl, hb2⟩
  have HA2 := Lib.hid (HA1.out.below hb2)
  have HB2 := Lib.hid (HB1.out.trans (hb2.mono HB1.out.size))
  clear hb2 HB1 HA1
  clear ta tb wa wb
  have HL := Lib.hid (tell_len a ha)
  have HCT := Lib.hid (cut_told a ha)
  have HPT := Lib.hid (par_told a ha)
  have HSF := Lib.hid (set_facts a ha b hb)
  have HTM := Lib.hid (toldUp_mem (a : Int) 5)
  obtain ⟨s, hs⟩ : ∃ s, strOf (tellN (a : Int)) = s := ⟨_, rfl⟩
  have hsz : s.size ≤ 100 := by rw [← hs, strOf_size]; exact HL.out.2
  have hs2 : 2 ≤ s.size := by rw [← hs, strOf_size]; exact HL.out.1
  have HNS : Hid (nats s = tellN (a : Int)) := Lib.hid (by rw [← hs]; exact nats_strOf _ (tellN_lt _))
  rw [hs]
  clear hs
  go_wp2_with fail
  go_loopw [8, 9, 10] (fun o v i wx => ∃ (p : Nat) (A : Option Addr) (n cp : Nat) (cur : List Nat) (out : List (List Nat)), 1 ≤ p ∧ p ≤ s.size ∧ i = .int .i64 (p : Int) ∧ o = .slice A n cp ∧ v = .string (strOf cur) ∧ OwnS wx w2.heap.size A n cp out ∧ Below w2.heap.size w2 wx ∧
    cutN (nats s) p = (out, cur) ∧ cur.length ≤ p ∧ n ≤ p) (fun _ _ i _ => s.size - (intOf i).toNat)
  case atStart => exact ⟨1, none, 0, 0, [], [], Nat.le_refl _, by omega, rfl, rfl, rfl, OwnV.nil, Below.refl _ _, by unfold cutN; rw [List.drop_of_length_le (by rw [List.length_take]; omega)]; rfl, Nat.zero_le _, Nat.zero_le _⟩
  case round =>
    obtain ⟨p, A, n, cp, cur, out, h1, hp, rfl, rfl, rfl, hown, hbw, hcut, hcl, hnp⟩ := hrel
    have HOWN := Lib.hid hown
    have HBW := Lib.hid hbw
    have HC := Lib.hid hcut
    clear hown hbw hcut
    by_cases hlt : p < s.size
    · have hx := nats_byte s p hlt
      have HST := Lib.hid (cutN_step h1 hx)
      have hxb : s[p].toNat < 256 := s[p].toNat_lt
      by_cases hq : s[p].toNat = 32 ∨ s[p].toNat = 41
      · have hstep : cutN (nats s) (p + 1) = (if cur = [] then (out, []) else (out ++ [cur], [])) := by
          rw [HST.out, HC.out]
          unfold cutS
          rw [if_pos hq]
        have HSP := Lib.hid hstep
        clear hstep hx
        have htest : ((s[p].toNat : Int) == 32) = true ∨ (((s[p].toNat : Int) == 32) = false ∧ ((s[p].toNat : Int) == 41) = true) := by
          rcases hq with h | h
          · rw [h]; exact .inl rfl
          · rw [h]; exact .inr ⟨rfl, rfl⟩
        clear hq
        by_cases hc : cur = []
        · have HSP2 : Hid (cutN (nats s) (p + 1) = (out, [])) := Lib.hid (by rw [HSP.out, if_pos hc])
          have he0 : strOf cur = ⟨#[]⟩ := by rw [hc]; rfl
          rw [he0]
          clear hc he0 HSP
          rcases htest with e1 | ⟨e1, e2⟩
          all_goals
            go_wp2_with fail
            go_roundw
            case rel => exact ⟨p + 1, A, n, cp, [], out, by omega, by omega, by go_num, rfl, rfl, HOWN.out, HBW.out, HSP2.out, Nat.zero_le _, by omega⟩
            case measure => simp [intOf]; omega
        · have HSP2 : Hid (cutN (nats s) (p + 1) = (out ++ [cur], [])) := Lib.hid (by rw [HSP.out, if_neg hc])
          obtain ⟨hn1, hn2⟩ := ne_empty hc
          clear hc HSP
          rcases htest with e1 | ⟨e1, e2⟩
          all_goals
            go_wp2_with ((with_reducible show wpList _ _ _ (⟨some 50, _, _, _, _, _⟩ :: _) _ _); refine hold ?_)
            refine held (wpList_append_one rfl (.tmp 47) (.tmp 49) 22 rfl Tryd.underlying22 info_str rfl (by omega) w2.heap.size A n cp _ rfl (OwnV.alloc HOWN.out _) wr.heap.size 0 (.string (strOf cur)) rfl
              (by rw [cell_of_row _ wr.heap.size 0 _ _ (0, 0) (heap_alloc_new wr _)]; rfl) rfl (by omega) (by have := HBW.out.size; simp; omega) ?_)
            intro A2 cp2 wx hown2 hb2
            have hown3 : OwnS wx w2.heap.size A2 (n + 1) cp2 (out ++ [cur]) := by
              unfold OwnS
              rw [List.map_append]
              exact hown2
            have HO3 := Lib.hid hown3
            have HB3 := Lib.hid ((HBW.out.alloc HBW.out.size _).trans hb2)
            clear hown2 hb2 hown3
            go_wp2_with fail
            go_roundw
            case rel => exact ⟨p + 1, A2, n + 1, cp2, [], out ++ [cur], by omega, by omega, by go_num, rfl, rfl, HO3.out, HB3.out, HSP2.out, Nat.zero_le _, by omega⟩
            case measure => simp [intOf]; omega
      · have hstep : cutN (nats s) (p + 1) = (out, cur ++ [s[p].toNat]) := by
          rw [HST.out, HC.out]
          unfold cutS
          rw [if_neg hq]
        have HSP := Lib.hid hstep
        have e1 : ((s[p].toNat : Int) == 32) = false := by simp; omega
        have e2 : ((s[p].toNat : Int) == 41) = false := by simp; omega
        have hpc := piece1 s p hlt
        have ka := fun W => add_str (strOf cur) (s.extract p (p + 1)) cur [s[p].toNat] rfl hpc (by simp; omega) W
        have hkt : ((p : Int) + 1).toNat = p + 1 := by omega
        have hs1 : (p : Int) + 1 ≤ (s.size : Int) := by omega
        have hs3 : (p : Int) ≤ (p : Int) + 1 := by omega
        clear hstep hx hq hpc
        go_wp2_with fail
        go_roundw
        case rel => exact ⟨p + 1, A, n, cp, cur ++ [s[p].toNat], out, by omega, by omega, by go_num, rfl, rfl, HOWN.out, HBW.out, HSP.out, by simp; omega, by omega⟩
        case measure => simp [intOf]; omega
    · have hfin : out = told (a : Int) := by
        have hps : p = (tellN (a : Int)).length := by
          have := congrArg List.length HNS.out
          rw [nats_length] at this
          omega
        have := HC.out
        rw [HNS.out, hps, HCT.out] at this
        exact (Prod.mk.inj this).1.symm
      subst hfin
      have hbelow : Below w.heap.size w wr := HB2.out.trans (HBW.out.mono HB2.out.size)
      have cp1 := parse_any A n cp ((told (a : Int)).map strOf) wr (HA2.out.below HBW.out) HOWN.out.col (by
        intro z hz
        obtain ⟨q, hq, rfl⟩ := List.mem_map.1 hz
        obtain ⟨m, rfl⟩ := HTM.out q hq
        rw [strOf_size]
        have := flagS_le m
        omega) (by omega)
      rw [map_nats_strOf (fun q hq => by obtain ⟨m, rfl⟩ := HTM.out q hq; exact flagS_lt m), HPT.out.1, HPT.out.2] at cp1
      have CP1 := Lib.hid cp1
      have HBL := Lib.hid hbelow
      clear cp1 hbelow HOWN HBW HC HB2
      go_wp2_with fail
      refine CP1.out.mono ?_
      rintro e w3 ⟨z, d, rfl, rfl, rfl, hb3⟩
      have HB3 := Lib.hid (HBL.out.trans (hb3.mono HBL.out.size))
      clear hb3 CP1
      obtain ⟨q, hq⟩ : ∃ q, a ||| b = q := ⟨_, rfl⟩
      have hsf := HSF.out
      rw [hq] at hsf
      obtain ⟨f1, f2, f3, f4, f5, f6, f7, f8, f9⟩ := hsf
      obtain ⟨v, hv⟩ : ∃ v, appV (q : Int) 2 (b : Int) = v := ⟨_, rfl⟩
      rw [hv] at f8 f9
      clear hq
      go_wp2_with fail
      refine (apply_any (a : Int) 1 (b : Int) w3).mono ?_
      rintro e w4 ⟨z, d, rfl, hz, hd, rfl⟩
      rw [f1] at hz
      rw [f2] at hd
      subst hz hd
      go_wp2_with fail
      refine (apply_any (q : Int) 2 (b : Int) w3).mono ?_
      rintro e w4 ⟨z, d, rfl, hz, hd, rfl⟩
      rw [hv] at hz
      rw [f7] at hd
      subst hz hd
      go_wp2_with fail
      refine (apply_any (a : Int) 0 (b : Int) w3).mono ?_
      rintro e w4 ⟨z, d, rfl, hz, hd, rfl⟩
      rw [f3] at hz
      rw [f4] at hd
      subst hz hd
      clear f1 f2 f3 f4 f7
      go_wp2_with fail
      go_ret
      exact ⟨rfl, HB3.out⟩
end Go.Proofs.YtloghgfcgkfefaaDoor
