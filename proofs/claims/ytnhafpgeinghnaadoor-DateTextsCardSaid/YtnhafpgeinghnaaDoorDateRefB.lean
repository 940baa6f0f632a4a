/-
  Contracts over the document's own dates: small letters, months, the day of three texts.
-/
import Derived.Test.YtnhafpgeinghnaaDoorDateRefA
import Derived.Test.YtnhafpgeinghnaaDoorCols
namespace Go.Proofs.YtnhafpgeinghnaaDoor
open Go.RowKit
set_option linter.unusedVariables false
set_option linter.unusedSimpArgs false

theorem bytes_one (w : World) (c : Nat) (hc : c < 256) (t : TypeId) : Bytes (w.alloc (.cells #[.int .u8 (c : Int)] t)) (w.heap.size + 1) (some ⟨w.heap.size, 0, none⟩) 1 [c] := by
  refine ⟨rfl, by simpa using hc, fun _ => ⟨w.heap.size, 0, rfl, by omega, fun i hi => ?_⟩⟩
  obtain rfl : i = 0 := by omega
  rw [cell_of_row _ _ _ _ _ _ (heap_alloc_new w _)]
  rfl
theorem str_one (w : World) (c : Nat) (hc : c < 256) (t : TypeId) : (convert 36 9 (.slice (some ⟨w.heap.size, 0, none⟩) 1 1)).run Tryd.prog (w.alloc (.cells #[.int .u8 (c : Int)] t)) = .ok (.string (strOf [c])) (w.alloc (.cells #[.int .u8 (c : Int)] t)) :=
  run_str_of_bytes (P := Tryd.prog) (bytes_one w c hc t) Tryd.underlying36 Tryd.underlying5 Tryd.underlying9

set_option maxRecDepth 20000 in
set_option maxHeartbeats 2000000 in
theorem x7small_any (s : ByteArray) (hs : s.size ≤ 4294967296) (w : World) :
    Calls Tryd.prog 65 #[.string s] w fun e w' => e = .returned (.string (strOf ((nats s).map smallN))) ∧ Below w.heap.size w w' := by
  have h64 : s.size ≤ 9223372036854775807 := by omega
  have HN := Lib.hid (nats_length s)
  go_enter Tryd.func65, Tryd.ntmps65
  go_wp2_with fail
  go_loopw [3, 4] (fun o i wx => ∃ k : Nat, k ≤ s.size ∧ i = .int .i64 (k : Int) ∧ o = .string (strOf (((nats s).take k).map smallN)) ∧ Below w.heap.size w wx) (fun _ i _ => s.size - (intOf i).toNat)
  case atStart => exact ⟨0, Nat.zero_le _, rfl, by simp; rfl, Below.refl _ _⟩
  case round =>
    obtain ⟨k, hk, rfl, rfl, hb⟩ := hrel
    have HB := Lib.hid hb
    clear hb
    by_cases hlt : k < s.size
    · have hx := nats_byte s k hlt
      have hcb : s[k].toNat < 256 := s[k].toNat_lt
      have HS := Lib.hid (take_snoc_n (nats s) k _ hx)
      have hlk : (((nats s).take k).map smallN).length ≤ 4294967296 := by rw [List.length_map, List.length_take]; omega
      have kc := str_one wr (smallN s[k].toNat) (smallN_lt hcb) 5
      have ka := fun W => add_str (strOf (((nats s).take k).map smallN)) (strOf [smallN s[k].toNat]) (((nats s).take k).map smallN) [smallN s[k].toNat] rfl rfl (by simp at hlk ⊢; omega) W
      obtain ⟨acc, hacc⟩ : ∃ l, ((nats s).take k).map smallN = l := ⟨_, rfl⟩
      rw [hacc] at ka ⊢
      have HACC := Lib.hid hacc
      clear hx hlk hacc
      have hend : ((nats s).take (k + 1)).map smallN = acc ++ [smallN s[k].toNat] := by rw [HS.out, List.map_append, HACC.out]; rfl
      have HE := Lib.hid hend
      clear hend
      rcases (by omega : s[k].toNat < 65 ∨ (65 ≤ s[k].toNat ∧ s[k].toNat ≤ 90) ∨ (65 ≤ s[k].toNat ∧ 90 < s[k].toNat)) with hc1 | ⟨hc1, hc2⟩ | ⟨hc1, hc2⟩
      · rw [show smallN s[k].toNat = s[k].toNat from if_neg (by omega)] at kc ka HE
        go_wp2_with fail
        go_roundw
        case rel => exact ⟨k + 1, by omega, by go_num, by rw [HE.out], HB.out.alloc HB.out.size _⟩
        case measure => simp [intOf]; omega
      · rw [show smallN s[k].toNat = s[k].toNat + 32 from if_pos ⟨hc1, hc2⟩] at kc ka HE
        rw [show ((s[k].toNat + 32 : Nat) : Int) = (s[k].toNat : Int) + 32 from by omega] at kc
        go_wp2_with fail
        go_roundw
        case rel => exact ⟨k + 1, by omega, by go_num, by rw [HE.out], HB.out.alloc HB.out.size _⟩
        case measure => simp [intOf]; omega
      · rw [show smallN s[k].toNat = s[k].toNat from if_neg (by omega)] at kc ka HE
        go_wp2_with fail
        go_roundw
        case rel => exact ⟨k + 1, by omega, by go_num, by rw [HE.out], HB.out.alloc HB.out.size _⟩
        case measure => simp [intOf]; omega
    · have htk : (nats s).take k = nats s := List.take_of_length_le (by rw [HN.out]; omega)
      rw [htk]
      clear htk
      go_wp2_with fail
      go_ret
      exact ⟨rfl, HB.out⟩

/-- the months' names in one text -/
def monsL : List Nat := [74, 97, 110, 70, 101, 98, 77, 97, 114, 65, 112, 114, 77, 97, 121, 74, 117, 110, 74, 117, 108, 65, 117, 103, 83, 101, 112, 79, 99, 116, 78, 111, 118, 68, 101, 99]
def monsT : ByteArray := ⟨#[74, 97, 110, 70, 101, 98, 77, 97, 114, 65, 112, 114, 77, 97, 121, 74, 117, 110, 74, 117, 108, 65, 117, 103, 83, 101, 112, 79, 99, 116, 78, 111, 118, 68, 101, 99]⟩
theorem months_any (w : World) : Calls Tryd.prog 40 #[] w fun e w' => e = .returned (.string monsT) ∧ w = w' := by
  go_enter Tryd.func40, Tryd.ntmps40
  go_wp2
  go_ret
  exact ⟨rfl, rfl⟩
theorem mons_at (k : Nat) (hk : k < 12) : monsT.extract (3 * k) (3 * k + 3) = strOf (monS (k + 1)) := by
  rcases (by omega : k = 0 ∨ k = 1 ∨ k = 2 ∨ k = 3 ∨ k = 4 ∨ k = 5 ∨ k = 6 ∨ k = 7 ∨ k = 8 ∨ k = 9 ∨ k = 10 ∨ k = 11) with rfl | rfl | rfl | rfl | rfl | rfl | rfl | rfl | rfl | rfl | rfl | rfl <;> decide +kernel
theorem sameB_str (l m : List Nat) (hl : ∀ x ∈ l, x < 256) (hm : ∀ x ∈ m, x < 256) : ((strOf (l.map smallN)).toList == (strOf (m.map smallN)).toList) = sameB l m := by
  have f : ∀ (q : List Nat), (∀ x ∈ q, x < 256) → ∀ x ∈ q.map smallN, x < 256 := fun q hq x hx => by
    obtain ⟨y, hy, rfl⟩ := List.mem_map.1 hx
    exact smallN_lt (hq y hy)
  rw [strOf_eqb _ _ (f l hl) (f m hm)]
  rfl

set_option maxRecDepth 20000 in
set_option maxHeartbeats 2000000 in
theorem x7month_any (s : ByteArray) (hs : s.size ≤ 4294967296) (w : World) :
    Calls Tryd.prog 53 #[.string s] w fun e w' => e = .returned (.int .i64 (monN (nats s) : Nat)) ∧ Below w.heap.size w w' := by
  go_enter Tryd.func53, Tryd.ntmps53
  go_wp2_with fail
  go_loopw [3] (fun i wx => ∃ k : Nat, k ≤ 12 ∧ i = .int .i64 ((k : Int) + 1) ∧ monUp (nats s) k = 0 ∧ Below w.heap.size w wx) (fun i _ => 13 - (intOf i).toNat)
  case atStart => exact ⟨0, by omega, rfl, rfl, Below.refl _ _⟩
  case round =>
    obtain ⟨k, hk, rfl, hm, hb⟩ := hrel
    have HB := Lib.hid hb
    have HU := Lib.hid hm
    clear hb hm
    by_cases hlt : k < 12
    · have hsz : (strOf (monS (k + 1))).size ≤ 4294967296 := by rw [strOf_size, monS_len (by omega) (by omega)]; omega
      have HX := Lib.hid (mons_at k hlt)
      have HNS : Hid (nats (strOf (monS (k + 1))) = monS (k + 1)) := Lib.hid (nats_strOf _ (monS_lt _))
      have HEQ := Lib.hid (sameB_str (nats s) (monS (k + 1)) (nats_lt s) (monS_lt _))
      have hsz2 : monsT.size = 36 := rfl
      have hq1 : (3 * ((k : Int) + 1) - 3).toNat = 3 * k := by omega
      have hq2 : (3 * ((k : Int) + 1)).toNat = 3 * k + 3 := by omega
      have hb1 : 0 ≤ 3 * ((k : Int) + 1) - 3 := by omega
      have hb2 : 3 * ((k : Int) + 1) - 3 ≤ 3 * ((k : Int) + 1) := by omega
      have hb3 : 3 * ((k : Int) + 1) ≤ (monsT.size : Int) := by rw [hsz2]; omega
      clear hsz2
      go_wp2_with fail
      refine (x7small_any s hs wr).mono ?_
      rintro e w2 ⟨rfl, hbb⟩
      have HB2 := Lib.hid (HB.out.trans (hbb.mono HB.out.size))
      clear hbb
      go_wp2_with fail
      refine (months_any w2).mono ?_
      rintro e w' ⟨rfl, rfl⟩
      go_wp2_with fail
      rw [HX.out]
      refine (x7small_any (strOf (monS (k + 1))) hsz w2).mono ?_
      rintro e w3 ⟨rfl, hbb⟩
      rw [HNS.out]
      have HB3 := Lib.hid (HB2.out.trans (hbb.mono HB2.out.size))
      clear hbb hq1 hq2 hb1 hb2 hb3
      cases hsm : sameB (nats s) (monS (k + 1))
      · have HSM := Lib.hid hsm
        have heq := HEQ.out
        rw [hsm] at heq
        clear hsm
        go_wp2_with fail
        go_roundw
        case rel => exact ⟨k + 1, by omega, by go_num, monUp_miss HU.out HSM.out, HB3.out⟩
        case measure => simp [intOf]; omega
      · have HSM := Lib.hid hsm
        have heq := HEQ.out
        rw [hsm] at heq
        clear hsm
        go_wp2_with fail
        go_ret
        exact ⟨by rw [monN_hit hlt HU.out HSM.out] <;> rfl, HB3.out⟩
    · have hmn : monN (nats s) = 0 := by obtain rfl : k = 12 := by omega
                                         exact HU.out
      have HMN := Lib.hid hmn
      clear hmn
      go_wp2_with fail
      go_ret
      exact ⟨by rw [HMN.out] <;> rfl, HB.out⟩

/-- the document's day of three texts -/
def ymdR (d m y : List Nat) : Value := if ymdOk d m y = true then .tuple #[.int .i64 (ymdV d m y), .bool true] else .tuple #[.int .i64 0, .bool false]
set_option maxRecDepth 20000 in
set_option maxHeartbeats 2000000 in
theorem x7ymd_any (d m y : ByteArray) (hd : d.size ≤ 4294967296) (hm : m.size ≤ 4294967296) (hy : y.size ≤ 4294967296) (w : World) :
    Calls Tryd.prog 28 #[.string d, .string m, .string y] w fun e w' => e = .returned (ymdR (nats d) (nats m) (nats y)) ∧ Below w.heap.size w w' := by
  have cd := x7num_any d 1 2 w hd (by omega) (by omega)
  have cy := fun W => x7num_any y 4 4 W hy (by omega) (by omega)
  have cm := x7month_any m hm w
  obtain ⟨v2, hv2⟩ : ∃ v, monN (nats m) = v := ⟨_, rfl⟩
  have hl2 := monN_le (nats m)
  rw [hv2] at cm hl2
  have HR : Hid (ymdOk (nats d) (nats m) (nats y) = (numOk (nats d) 1 2 && decide (v2 ≠ 0) && numOk (nats y) 4 4 && thereB (valN (nats y)) v2 (valN (nats d)))) := Lib.hid (by unfold ymdOk; rw [hv2])
  have HV : Hid (ymdV (nats d) (nats m) (nats y) = dayN (valN (nats y)) v2 (valN (nats d))) := Lib.hid (by unfold ymdV; rw [hv2])
  clear hv2
  cases h1 : numOk (nats d) 1 2
  · have e1 : numI (nats d) 1 2 = -1 := by unfold numI; rw [h1]; rfl
    rw [e1] at cd
    have HF : Hid (ymdR (nats d) (nats m) (nats y) = .tuple #[.int .i64 0, .bool false]) := Lib.hid (by unfold ymdR; rw [HR.out, h1]; rfl)
    obtain ⟨q, hq⟩ : ∃ q, numI (nats y) 4 4 = q := ⟨_, rfl⟩
    rw [hq] at cy
    clear h1 e1 hq
    go_enter Tryd.func28, Tryd.ntmps28
    go_wp2_with fail
    refine cd.mono ?_
    rintro e w' ⟨rfl, rfl⟩
    go_wp2_with fail
    refine cm.mono ?_
    rintro e w2 ⟨rfl, hb⟩
    have HB := Lib.hid hb
    clear hb
    go_wp2_with fail
    refine (cy w2).mono ?_
    rintro e w' ⟨rfl, rfl⟩
    go_wp2_with fail
    go_ret2
    exact ⟨by rw [HF.out] <;> rfl, HB.out⟩
  · have hn1 := numOk_lt h1
    obtain ⟨v1, hv1⟩ : ∃ v, valN (nats d) = v := ⟨_, rfl⟩
    have e1 : numI (nats d) 1 2 = (v1 : Int) := by unfold numI; rw [h1, hv1]; rfl
    rw [e1] at cd
    rw [hv1] at HR HV hn1
    rw [h1] at HR
    clear h1 e1 hv1
    by_cases h2 : v2 = 0
    · have HF : Hid (ymdR (nats d) (nats m) (nats y) = .tuple #[.int .i64 0, .bool false]) := Lib.hid (by unfold ymdR; rw [HR.out, h2]; rfl)
      have f2 : ((v2 : Int) == 0) = true := by rw [h2]; rfl
      obtain ⟨q, hq⟩ : ∃ q, numI (nats y) 4 4 = q := ⟨_, rfl⟩
      rw [hq] at cy
      clear h2 hq
      go_enter Tryd.func28, Tryd.ntmps28
      go_wp2_with fail
      refine cd.mono ?_
      rintro e w' ⟨rfl, rfl⟩
      go_wp2_with fail
      refine cm.mono ?_
      rintro e w2 ⟨rfl, hb⟩
      have HB := Lib.hid hb
      clear hb
      go_wp2_with fail
      refine (cy w2).mono ?_
      rintro e w' ⟨rfl, rfl⟩
      go_wp2_with fail
      go_ret2
      exact ⟨by rw [HF.out] <;> rfl, HB.out⟩
    · have f2 : ((v2 : Int) == 0) = false := by simp; omega
      have HD2 : Hid (decide (v2 ≠ 0) = true) := Lib.hid (decide_eq_true h2)
      have h2p : 1 ≤ v2 := by omega
      cases h3 : numOk (nats y) 4 4
      · have e3 : numI (nats y) 4 4 = -1 := by unfold numI; rw [h3]; rfl
        rw [e3] at cy
        have HF : Hid (ymdR (nats d) (nats m) (nats y) = .tuple #[.int .i64 0, .bool false]) := Lib.hid (by unfold ymdR; rw [HR.out, h3, HD2.out]; rfl)
        clear h2 h3 e3
        go_enter Tryd.func28, Tryd.ntmps28
        go_wp2_with fail
        refine cd.mono ?_
        rintro e w' ⟨rfl, rfl⟩
        go_wp2_with fail
        refine cm.mono ?_
        rintro e w2 ⟨rfl, hb⟩
        have HB := Lib.hid hb
        clear hb
        go_wp2_with fail
        refine (cy w2).mono ?_
        rintro e w' ⟨rfl, rfl⟩
        go_wp2_with fail
        go_ret2
        exact ⟨by rw [HF.out] <;> rfl, HB.out⟩
      · have hn3 := numOk_lt h3
        obtain ⟨v3, hv3⟩ : ∃ v, valN (nats y) = v := ⟨_, rfl⟩
        have e3 : numI (nats y) 4 4 = (v3 : Int) := by unfold numI; rw [h3, hv3]; rfl
        rw [e3] at cy
        rw [hv3] at HR HV hn3
        rw [h3, HD2.out] at HR
        clear h2 h3 e3 hv3
        have htr : thereR (v3 : Int) (v2 : Int) (v1 : Int) = thereB v3 v2 v1 := by
          unfold thereR
          rw [Int.toNat_natCast, thereZ_nat, decide_eq_true (by omega), Bool.true_and]
        have ct := fun W => x7there_any (v3 : Int) (v2 : Int) (v1 : Int) W
        rw [htr] at ct
        cases ht : thereB v3 v2 v1
        · rw [ht] at ct
          have HF : Hid (ymdR (nats d) (nats m) (nats y) = .tuple #[.int .i64 0, .bool false]) := Lib.hid (by unfold ymdR; rw [HR.out, ht]; rfl)
          clear ht htr
          go_enter Tryd.func28, Tryd.ntmps28
          go_wp2_with fail
          refine cd.mono ?_
          rintro e w' ⟨rfl, rfl⟩
          go_wp2_with fail
          refine cm.mono ?_
          rintro e w2 ⟨rfl, hb⟩
          have HB := Lib.hid hb
          clear hb
          go_wp2_with fail
          refine (cy w2).mono ?_
          rintro e w' ⟨rfl, rfl⟩
          go_wp2_with fail
          refine (ct w2).mono ?_
          rintro e w' ⟨rfl, rfl⟩
          go_wp2_with fail
          go_ret2
          exact ⟨by rw [HF.out] <;> rfl, HB.out⟩
        · rw [ht] at ct
          have HF : Hid (ymdR (nats d) (nats m) (nats y) = .tuple #[.int .i64 (dayN v3 v2 v1), .bool true]) := Lib.hid (by unfold ymdR; rw [HR.out, ht, HV.out]; rfl)
          have hdd := (there_iff.1 ht).2.2.2
          have hmb := mDays_bd v3 v2
          have cn := fun W => x7number_any v3 v2 v1 (by omega) h2p hl2 (by omega) W
          clear ht htr hdd hmb
          go_enter Tryd.func28, Tryd.ntmps28
          go_wp2_with fail
          refine cd.mono ?_
          rintro e w' ⟨rfl, rfl⟩
          go_wp2_with fail
          refine cm.mono ?_
          rintro e w2 ⟨rfl, hb⟩
          have HB := Lib.hid hb
          clear hb
          go_wp2_with fail
          refine (cy w2).mono ?_
          rintro e w' ⟨rfl, rfl⟩
          go_wp2_with fail
          refine (ct w2).mono ?_
          rintro e w' ⟨rfl, rfl⟩
          go_wp2_with fail
          refine (cn w2).mono ?_
          rintro e w' ⟨rfl, rfl⟩
          go_wp2_with fail
          go_ret2
          exact ⟨by rw [HF.out] <;> rfl, HB.out⟩
end Go.Proofs.YtnhafpgeinghnaaDoor
