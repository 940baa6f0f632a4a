/-
  The fixed fact of layer 12's statements; the law Reads.
-/
import Derived.Test.YtcajmigkpcjbcaaDoorQEventO
import Derived.Test.YtcajmigkpcjbcaaDoorQEventJ
import Derived.Test.YtcajmigkpcjbcaaDoorQEventD
import Derived.Deep.DeepCutAuto
namespace Go.Proofs.YtcajmigkpcjbcaaDoor
set_option linter.unusedVariables false
set_option linter.unusedSimpArgs false
open Go.RowKit
set_option linter.unusedVariables false
set_option linter.unusedSimpArgs false

def relE : Ev := ⟨13, 7, noText, noText, [], [], 0, 0, 0, 3, []⟩
def relH : Eh := ⟨relE, none, 0, 0, none, 0, 0, none, 0, 0⟩
theorem relE_right : rightE relE = true := by decide +kernel
theorem relE_bytes : bytesE relE = [0, 0, 0, 0, 0, 0, 0, 13, 0, 0, 0, 0, 0, 0, 0, 7, 0, 0, 0, 0, 0, 0, 0, 3] := by decide +kernel
theorem relH_in (w : World) (B : Nat) : EvIn w B relH := ⟨Col.nil, ColK.nil, Bytes.nil, Nat.zero_le _, Nat.zero_le _, Nat.zero_le _, Nat.zero_le _, Nat.zero_le _⟩
/-- what an event's box holds, where the event is known -/
structure Boxd (w : World) (b : Nat) (E : Ev) (H : Eh) : Prop where
  bx : Bk w b 26 (evC H)
  val : H.e = E
  inn : EvIn w w.heap.size H
theorem Boxd.below {w w' : World} {b : Nat} {E : Ev} {H : Eh} (d : Boxd w b E H) (hb : Below w.heap.size w w') : Boxd w' b E H := ⟨d.bx.below hb d.bx.lt, d.val, d.inn.later hb⟩
theorem Boxd.new {w w' : World} {E : Ev} {H : Eh} (hv : H.e = E) (hin : EvIn w w.heap.size H) (hw : Hid (w' = (w.alloc (.cells (evC (bareH 0 0)) 26)).setRow w.heap.size (splice (evC (bareH 0 0)).toList 0 (evC H).toList).toArray)) : Boxd w' w.heap.size E H ∧ Below w.heap.size w w' := by
  have hw' := w_setRow_all hw (by rw [evC_size, evC_size])
  have hb : Below w.heap.size w w' := by rw [hw']; exact below_setRow ((Below.refl _ _).alloc (Nat.le_refl _) _) (Nat.le_refl _) _
  exact ⟨⟨by rw [hw']; exact (Bk.new w 26 (evC (bareH 0 0))).setRow_same _, hv, hin.later hb⟩, hb⟩
set_option maxRecDepth 20000 in
set_option maxHeartbeats 4000000 in
theorem alive12_any (w : World) (hK : Kinds w) : Calls Tryd.prog 7 #[] w fun e w' => e = .returned (.bool true) ∧ Below w.heap.size w w' := by
  have HK := Lib.hid hK
  clear hK
  have CE := Lib.hid (show Calls Tryd.prog 9 #[.agg #[.int .i64 13, .int .i64 7, .string ⟨#[]⟩, .string ⟨#[]⟩, .slice none 0 0, .slice none 0 0, .int .i64 0, .int .i64 0, .int .i64 0, .int .i64 3, .slice none 0 0]] w (EncIs relH w) from evEncode_any relH w (relH_in _ _) HK.out)
  have HEE : Hid (encE relH.e = 0) := Lib.hid (if_pos relE_right)
  have HEV : Hid (encV relH.e = bytesE relE) := Lib.hid (if_pos relE_right)
  go_enter Tryd.func7, Tryd.ntmps7
  go_wp2_with fail
  refine CE.out.mono ?_
  rintro e w1 ⟨A, N, c, rfl, ho, hb⟩
  rw [HEE.out]
  rw [HEV.out] at ho
  have hN : N = 24 := by have := ho.len; rw [relE_bytes] at this; exact this.symm
  subst hN
  have HO := Lib.hid ho
  have HB := Lib.hid hb
  clear ho hb CE HEE HEV
  have CD := Lib.hid (evDecode_any A 24 c (bytesE relE) w1 HO.out.bytes (by omega) (HK.out.below HB.out))
  have HDB := Lib.hid (dec_back relE_right (fun y hy => by cases hy))
  go_wp2_with fail
  refine CD.out.mono ?_
  rintro e w2 ⟨H, rfl, hv, hin, hb⟩
  rw [HDB.out.1]
  rw [HDB.out.2] at hv
  have HO2 := Lib.hid (HO.out.below hb)
  have HB2 := Lib.hid (HB.out.trans (hb.mono HB.out.size))
  have HV := Lib.hid hv
  have HI := Lib.hid hin
  clear hv hin hb HO HB CD HDB
  go_wp2_with ((with_reducible show wpList _ _ _ (⟨none, _, _, _, _, _⟩ :: _) _ _); refine hold ?_)
  refine held (wpList_store_wide rfl 26 (.tmp 3) (.tmp 13) rfl w2.heap.size 0 (evC H) rfl rfl 26 (evC (bareH 0 0)) (Bk.new w2 26 (evC (bareH 0 0))) (by rw [evC_size, evC_size]; decide) (by rw [evC_size]; exact info_ev) (evC_one _) ?_)
  intro w3 hw3
  obtain ⟨hd, hb3⟩ := Boxd.new HV.out HI.out hw3
  have HB3 := Lib.hid (HB2.out.trans (hb3.mono HB2.out.size))
  obtain ⟨g, hA, _, _, _, hcell⟩ := (HO2.out.below hb3).cells (by omega)
  subst hA
  have e7 := hcell 7 (by omega)
  have e15 := hcell 15 (by omega)
  have e23 := hcell 23 (by omega)
  rw [show byteAt (bytesE relE) 7 = 13 by rw [relE_bytes]; rfl] at e7
  rw [show byteAt (bytesE relE) 15 = 7 by rw [relE_bytes]; rfl] at e15
  rw [show byteAt (bytesE relE) 23 = 3 by rw [relE_bytes]; rfl] at e23
  have e9 : w3.cell? ⟨w2.heap.size, 9, none⟩ = some (.int .i64 3) := by
    have := hd.bx.cell 9
    rw [this]
    show some (Value.int .i64 H.e.n) = _
    rw [HV.out]
    rfl
  clear hw3 hb3 hd hcell HO2 HB2 HV HI
  go_wp2_with fail
  go_ret
  exact ⟨rfl, HB3.out⟩
set_option maxRecDepth 20000 in
set_option maxHeartbeats 4000000 in
theorem eventReads_walk (A : Option Addr) (n c : Nat) (b : List Nat) (w : World) (hb : Bytes w w.heap.size A n b) (hn : n ≤ 140737488355328) (hnc : n ≤ c) (hc : c ≤ maxLen) (hK : Kinds w) :
    Calls Tryd.prog 4 #[.slice A n c] w fun e w' => e = .returned (.bool true) ∧ Below w.heap.size w w' := by
  have HK := Lib.hid hK
  have HBY := Lib.hid hb
  have HNC := Lib.hid hnc
  have HCM := Lib.hid hc
  clear hK hb hnc hc
  go_enter Tryd.func4, Tryd.ntmps4
  go_wp2_with fail
  refine (alive12_any w HK.out).mono ?_
  rintro e w1 ⟨rfl, hb1⟩
  have H1 := Lib.hid hb1
  clear hb1
  by_cases h6 : (6000 : Int) < (n : Int)
  · go_wp2_with fail
    go_ret
    exact ⟨rfl, H1.out⟩
  have CD := Lib.hid (evDecode_any A n c b w1 (HBY.out.later H1.out) hn (HK.out.below H1.out))
  go_wp2_with fail
  refine CD.out.mono ?_
  rintro e w2 ⟨H, rfl, hv, hin, hb2⟩
  have HB2 := Lib.hid (H1.out.trans (hb2.mono H1.out.size))
  have HV := Lib.hid hv
  have HI := Lib.hid hin
  clear hv hin hb2 H1 CD
  go_wp2_with ((with_reducible show wpList _ _ _ (⟨none, _, _, _, _, _⟩ :: _) _ _); refine hold ?_)
  refine held (wpList_store_wide rfl 26 (.tmp 3) (.tmp 15) rfl w2.heap.size 0 (evC H) rfl rfl 26 (evC (bareH 0 0)) (Bk.new w2 26 (evC (bareH 0 0))) (by rw [evC_size, evC_size]; decide) (by rw [evC_size]; exact info_ev) (evC_one _) ?_)
  intro w3 hw3
  obtain ⟨hd, hb3⟩ := Boxd.new HV.out HI.out hw3
  have HB3 := Lib.hid (HB2.out.trans (hb3.mono HB2.out.size))
  have D1 := Lib.hid hd
  clear hw3 hb3 hd HB2 HV HI
  have CD := Lib.hid (xeDecode_any A n c b w3 (HBY.out.later HB3.out) hn HNC.out HCM.out)
  go_wp2_with fail
  refine CD.out.mono ?_
  rintro e w4 ⟨H', rfl, hv, hin, hb4⟩
  have HB4 := Lib.hid (HB3.out.trans (hb4.mono HB3.out.size))
  have D2 := Lib.hid (D1.out.below hb4)
  have HV := Lib.hid hv
  have HI := Lib.hid hin
  clear hv hin hb4 HB3 D1 CD
  go_wp2_with ((with_reducible show wpList _ _ _ (⟨none, _, _, _, _, _⟩ :: _) _ _); refine hold ?_)
  refine held (wpList_store_wide rfl 26 (.tmp 5) (.tmp 20) rfl w4.heap.size 0 (evC H') rfl rfl 26 (evC (bareH 0 0)) (Bk.new w4 26 (evC (bareH 0 0))) (by rw [evC_size, evC_size]; decide) (by rw [evC_size]; exact info_ev) (evC_one _) ?_)
  intro w5 hw5
  obtain ⟨hd, hb5⟩ := Boxd.new HV.out HI.out hw5
  have HB5 := Lib.hid (HB4.out.trans (hb5.mono HB4.out.size))
  have D3 := Lib.hid (D2.out.below hb5)
  have D4 := Lib.hid hd
  have HEQ : Hid (evEq H.e H'.e = true) := Lib.hid (by rw [D3.out.val, D4.out.val]; exact evEq_self _)
  clear hw5 hb5 hd HB4 D2 HV HI
  go_wp2_with ((with_reducible show wpList _ _ _ (⟨some 22, _, _, _, _, _⟩ :: _) _ _); refine hold ?_)
  refine held (wpList_load_mid rfl 26 (.tmp 3) rfl w2.heap.size 0 rfl _ _ D3.out.bx.range Tryd.underlying26 rfl (by kernel_rfl) ?_)
  refine wpList_load_mid rfl 26 (.tmp 5) rfl w4.heap.size 0 rfl _ _ D4.out.bx.range Tryd.underlying26 rfl (by kernel_rfl) ?_
  go_wp2_with fail
  refine (xeSame_any H H' w5 D3.out.inn D4.out.inn).mono ?_
  rintro e w6 ⟨rfl, hb6⟩
  rw [HEQ.out]
  have HB6 := Lib.hid (HB5.out.trans (hb6.mono HB5.out.size))
  clear hb6
  go_wp2_with fail
  go_ret
  exact ⟨rfl, HB6.out⟩
end Go.Proofs.YtcajmigkpcjbcaaDoor

/-
  The law Back of layer 12, as a walk.
-/
namespace Go.Proofs.YtcajmigkpcjbcaaDoor
set_option linter.unusedVariables false
set_option linter.unusedSimpArgs false
open Go.RowKit
set_option linter.unusedVariables false
set_option linter.unusedSimpArgs false

set_option maxRecDepth 20000 in
set_option maxHeartbeats 8000000 in
theorem eventBack_walk (h : Eh) (A : Option Addr) (n c : Nat) (b : List Nat) (w : World) (Hh : EvIn w w.heap.size h) (hb : Bytes w w.heap.size A n b) (hn : n ≤ 140737488355328) (hK : Kinds w) :
    Calls Tryd.prog 5 #[.agg (evC h), .slice A n c] w fun e w' => e = .returned (.bool true) ∧ Below w.heap.size w w' := by
  have HK := Lib.hid hK
  have HH := Lib.hid Hh
  have HBY := Lib.hid hb
  clear hK Hh hb
  go_enter Tryd.func5, Tryd.ntmps5
  go_wp2_with fail
  obtain ⟨b2, hb2⟩ : ∃ b, b = w.heap.size := ⟨_, rfl⟩
  refine calls_overE (fun W => Bk W b2 26 (evC h) ∧ Below w.heap.size w W) ⟨by rw [hb2]; exact Bk.new _ _ _, (Below.refl _ _).alloc (Nat.le_refl _) _⟩ ?_
  have N2 := Lib.hid hb2
  rw [← hb2]
  clear hb2
  rintro W ⟨k2, kb⟩
  have K2 := Lib.hid k2
  have KB := Lib.hid (show Below w.heap.size w W by rw [← N2.out]; exact kb)
  clear k2 kb
  refine (alive12_any W (HK.out.below KB.out)).mono ?_
  rintro e w1 ⟨rfl, hb1⟩
  have J2 := Lib.hid (K2.out.below hb1 K2.out.lt)
  have JB := Lib.hid (KB.out.trans (hb1.mono KB.out.size))
  clear hb1 K2 KB
  go_wp2_with ((with_reducible show wpList _ _ _ (⟨some 15, _, _, _, _, _⟩ :: _) _ _); refine hold ?_)
  refine held (wpList_load_mid rfl 26 (.tmp 2) rfl b2 0 rfl _ _ J2.out.range Tryd.underlying26 rfl (by kernel_rfl) ?_)
  go_wp2_with fail
  refine (xeGreat_any h w1).mono ?_
  rintro e w2 ⟨gr, rfl, hsm, hb2⟩
  have L2 := Lib.hid (J2.out.below hb2 J2.out.lt)
  have LB := Lib.hid (JB.out.trans (hb2.mono JB.out.size))
  have HSM := Lib.hid hsm
  clear hb2 hsm J2 JB
  cases gr
  case true =>
    go_wp2_with fail
    go_ret
    exact ⟨rfl, LB.out⟩
  by_cases h6 : (6000 : Int) < (n : Int)
  · go_wp2_with fail
    go_ret
    exact ⟨rfl, LB.out⟩
  go_wp2_with ((with_reducible show wpList _ _ _ (⟨some 23, _, _, _, _, _⟩ :: _) _ _); refine hold ?_)
  refine held (wpList_load_mid rfl 26 (.tmp 2) rfl b2 0 rfl _ _ L2.out.range Tryd.underlying26 rfl (by kernel_rfl) ?_)
  go_wp2_with fail
  refine (evEncode_any h w2 (HH.out.later LB.out) (HK.out.below LB.out)).mono ?_
  rintro e w3 ⟨A3, N3, c3, rfl, ho, hb3⟩
  have M2 := Lib.hid (L2.out.below hb3 L2.out.lt)
  have MB := Lib.hid (LB.out.trans (hb3.mono LB.out.size))
  have MO := Lib.hid ho
  obtain ⟨ez, hez⟩ : ∃ ez, encE h.e = ez := ⟨_, rfl⟩
  have HEZ := Lib.hid hez
  rw [hez]
  clear hb3 ho hez L2 LB
  obtain ⟨eb, heb⟩ : ∃ eb : Bool, ((ez : Int) == 0) = eb := ⟨_, rfl⟩
  have HEB := Lib.hid heb
  go_upto_if 28 with (fail)
  clear heb
  go_cut [] (fun wx => Bk wx b2 26 (evC h) ∧ Below w.heap.size w wx)
  case first =>
    cases eb
    · go_wp2_with fail
      go_meet
      exact ⟨M2.out, MB.out⟩
    · have hz0 : ez = 0 := by have := HEB.out; simpa using this
      have hright : rightE h.e = true := by
        have := HEZ.out
        rw [hz0] at this
        unfold encE at this
        cases hq : rightE h.e
        · rw [hq] at this; exact absurd this (by decide)
        · rfl
      have hv : encV h.e = bytesE h.e := if_pos hright
      have hlen := (bytesE_len hright).2
      have hN3 : N3 ≤ 20016 := by have := MO.out.len; rw [hv] at this; omega
      have HDB := Lib.hid (dec_back hright HH.out.2.2.1.2.1)
      have HO := Lib.hid (show OwnB w3 w2.heap.size 5 A3 N3 c3 (bytesE h.e) by rw [← hv]; exact MO.out)
      clear hz0 hright hv hlen
      have CD := Lib.hid (evDecode_any A3 N3 c3 (bytesE h.e) w3 HO.out.bytes (by omega) (HK.out.below MB.out))
      go_wp2_with fail
      refine CD.out.mono ?_
      rintro e w4 ⟨H, rfl, hv, hin, hb4⟩
      rw [HDB.out.1]
      have P2 := Lib.hid (M2.out.below hb4 M2.out.lt)
      have PB := Lib.hid (MB.out.trans (hb4.mono MB.out.size))
      have HV := Lib.hid (show H.e = h.e by rw [hv]; exact HDB.out.2)
      have HI := Lib.hid hin
      clear hv hin hb4 CD
      go_wp2_with ((with_reducible show wpList _ _ _ (⟨none, _, _, _, _, _⟩ :: _) _ _); refine hold ?_)
      refine held (wpList_store_wide rfl 26 (.tmp 7) (.tmp 32) rfl w4.heap.size 0 (evC H) rfl rfl 26 (evC (bareH 0 0)) (Bk.new w4 26 (evC (bareH 0 0))) (by rw [evC_size, evC_size]; decide) (by rw [evC_size]; exact info_ev) (evC_one _) ?_)
      intro w5 hw5
      obtain ⟨hd, hb5⟩ := Boxd.new HV.out HI.out hw5
      have Q2 := Lib.hid (P2.out.below hb5 P2.out.lt)
      have QB := Lib.hid (PB.out.trans (hb5.mono PB.out.size))
      have QD := Lib.hid hd
      have HEQ : Hid (evEq h.e H.e = true) := Lib.hid (by rw [QD.out.val]; exact evEq_self _)
      clear hw5 hb5 hd P2 PB HV HI
      go_wp2_with ((with_reducible show wpList _ _ _ (⟨some 37, _, _, _, _, _⟩ :: _) _ _); refine hold ?_)
      refine held (wpList_load_wanted (by rfl) 26 (.tmp 2) rfl b2 0 rfl _ _ Q2.out.range Tryd.underlying26 rfl (by kernel_rfl) ?_)
      refine wpList_load_wanted (by rfl) 26 (.tmp 7) rfl w4.heap.size 0 rfl _ _ QD.out.bx.range Tryd.underlying26 rfl (by kernel_rfl) ?_
      go_wp2_with fail
      refine (xeSame_any h H w5 (HH.out.later QB.out) QD.out.inn).mono ?_
      rintro e w6 ⟨rfl, hb6⟩
      rw [HEQ.out]
      have R2 := Lib.hid (Q2.out.below hb6 Q2.out.lt)
      have RB := Lib.hid (QB.out.trans (hb6.mono QB.out.size))
      clear hb6
      go_wp2_with fail
      go_meet
      exact ⟨R2.out, RB.out⟩
  case rest =>
  obtain ⟨_, hbl⟩ := hcut
  clear M2 MB MO
  generalize wc = W3 at *
  have MB := Lib.hid hbl
  clear hbl
  have CD := Lib.hid (evDecode_any A n c b W3 (HBY.out.later MB.out) hn (HK.out.below MB.out))
  go_wp2_with fail
  refine CD.out.mono ?_
  rintro e w4 ⟨H, rfl, hv, hin, hb4⟩
  have PB := Lib.hid (MB.out.trans (hb4.mono MB.out.size))
  have HV := Lib.hid hv
  have HI := Lib.hid hin
  obtain ⟨dz, hdz⟩ : ∃ dz, decE b = dz := ⟨_, rfl⟩
  have HDZ := Lib.hid hdz
  rw [hdz]
  clear hv hin hb4 CD hdz MB
  go_wp2_with ((with_reducible show wpList _ _ _ (⟨none, _, _, _, _, _⟩ :: _) _ _); refine hold ?_)
  refine held (wpList_store_wide rfl 26 (.tmp 9) (.tmp 45) rfl w4.heap.size 0 (evC H) rfl rfl 26 (evC (bareH 0 0)) (Bk.new w4 26 (evC (bareH 0 0))) (by rw [evC_size, evC_size]; decide) (by rw [evC_size]; exact info_ev) (evC_one _) ?_)
  intro w5 hw5
  obtain ⟨hd, hb5⟩ := Boxd.new HV.out HI.out hw5
  have QB := Lib.hid (PB.out.trans (hb5.mono PB.out.size))
  have QD := Lib.hid hd
  clear hw5 hb5 hd PB HV HI
  by_cases h0 : dz = 0
  · subst h0
    have HF := Lib.hid (dec_forth HBY.out.2.1 HDZ.out)
    have CE := Lib.hid (evEncode_any H w5 QD.out.inn (HK.out.below QB.out))
    have HEE : Hid (encE H.e = 0) := Lib.hid (by rw [QD.out.val]; exact if_pos HF.out.1)
    have HVV : Hid (encV H.e = b) := Lib.hid (by rw [QD.out.val]; exact (if_pos HF.out.1).trans HF.out.2)
    go_wp2_with ((with_reducible show wpList _ _ _ (⟨some 59, _, _, _, _, _⟩ :: _) _ _); refine hold ?_)
    refine held (wpList_load_mid rfl 26 (.tmp 9) rfl w4.heap.size 0 rfl _ _ QD.out.bx.range Tryd.underlying26 rfl (by kernel_rfl) ?_)
    go_wp2_with fail
    refine CE.out.mono ?_
    rintro e w6 ⟨A6, N6, c6, rfl, ho, hb6⟩
    rw [HEE.out]
    rw [HVV.out] at ho
    have RB := Lib.hid (QB.out.trans (hb6.mono QB.out.size))
    have CS := Lib.hid (evx3Same_any A6 N6 c6 _ _ A n c _ _ w6 ho.bytes (HBY.out.later RB.out))
    rw [decide_eq_true rfl] at CS
    clear ho hb6 CE
    go_wp2_with fail
    refine CS.out.mono ?_
    rintro e w' ⟨rfl, rfl⟩
    clear CS
    go_wp2_with fail
    go_ret
    exact ⟨rfl, RB.out⟩
  · have hne : (((dz : Nat) : Int) != 0) = true := by simpa using h0
    have HVB : Hid (H.e = bare 0 0) := Lib.hid (by rw [QD.out.val]; exact if_neg (by rw [HDZ.out]; exact h0))
    have hn3 : H.n3 = 0 := by
      have h1 := QD.out.inn.2.2.1.1
      rw [HVB.out] at h1
      exact h1.symm
    have k0 : w5.cell? ⟨w4.heap.size, 0, none⟩ = some (.int .i64 0) := by
      have := QD.out.bx.cell 0
      rw [this]
      show some (Value.int .i64 H.e.kind) = _
      rw [HVB.out]
      rfl
    have k10 : w5.cell? ⟨w4.heap.size, 10, none⟩ = some (.slice H.A3 0 H.c3) := by
      have := QD.out.bx.cell 10
      rw [this]
      show some (Value.slice H.A3 H.n3 H.c3) = _
      rw [hn3]
    clear h0 hn3
    go_wp2_with fail
    go_ret
    exact ⟨rfl, QB.out⟩
end Go.Proofs.YtcajmigkpcjbcaaDoor

/-
  The law Ends of layer 12, as a walk.
-/
namespace Go.Proofs.YtcajmigkpcjbcaaDoor
set_option linter.unusedVariables false
set_option linter.unusedSimpArgs false
open Go.RowKit
set_option linter.unusedVariables false
set_option linter.unusedSimpArgs false

set_option maxRecDepth 20000 in
set_option maxHeartbeats 8000000 in
theorem eventEnds_walk (h : Eh) (k x : Nat) (hx : x < 256) (hk : k < 65536) (w : World) (Hh : EvIn w w.heap.size h) (hK : Kinds w) :
    Calls Tryd.prog 6 #[.agg (evC h), .int .u16 (k : Int), .int .u8 (x : Int)] w fun e w' => e = .returned (.bool true) ∧ Below w.heap.size w w' := by
  have HK := Lib.hid hK
  have HH := Lib.hid Hh
  clear hK Hh
  go_enter Tryd.func6, Tryd.ntmps6
  go_wp2_with fail
  obtain ⟨b2, hb2⟩ : ∃ b, b = w.heap.size := ⟨_, rfl⟩
  refine calls_overE (fun W => Bk W b2 26 (evC h) ∧ Below w.heap.size w W) ⟨by rw [hb2]; exact Bk.new _ _ _, (Below.refl _ _).alloc (Nat.le_refl _) _⟩ ?_
  have N2 := Lib.hid hb2
  rw [← hb2]
  clear hb2
  rintro W ⟨k2, kb⟩
  have K2 := Lib.hid k2
  have KB := Lib.hid (show Below w.heap.size w W by rw [← N2.out]; exact kb)
  clear k2 kb
  refine (alive12_any W (HK.out.below KB.out)).mono ?_
  rintro e w1 ⟨rfl, hb1⟩
  have J2 := Lib.hid (K2.out.below hb1 K2.out.lt)
  have JB := Lib.hid (KB.out.trans (hb1.mono KB.out.size))
  clear hb1 K2 KB
  go_wp2_with ((with_reducible show wpList _ _ _ (⟨some 15, _, _, _, _, _⟩ :: _) _ _); refine hold ?_)
  refine held (wpList_load_mid rfl 26 (.tmp 3) rfl b2 0 rfl _ _ J2.out.range Tryd.underlying26 rfl (by kernel_rfl) ?_)
  go_wp2_with fail
  refine (xeGreat_any h w1).mono ?_
  rintro e w2 ⟨gr, rfl, hsm, hb2⟩
  have L2 := Lib.hid (J2.out.below hb2 J2.out.lt)
  have LB := Lib.hid (JB.out.trans (hb2.mono JB.out.size))
  clear hb2 hsm J2 JB
  cases gr
  case true =>
    go_wp2_with fail
    go_ret
    exact ⟨rfl, LB.out⟩
  go_wp2_with ((with_reducible show wpList _ _ _ (⟨some 18, _, _, _, _, _⟩ :: _) _ _); refine hold ?_)
  refine held (wpList_load_mid rfl 26 (.tmp 3) rfl b2 0 rfl _ _ L2.out.range Tryd.underlying26 rfl (by kernel_rfl) ?_)
  go_wp2_with fail
  refine (evEncode_any h w2 (HH.out.later LB.out) (HK.out.below LB.out)).mono ?_
  rintro e w3 ⟨A3, N3, c3, rfl, ho, hb3⟩
  have MB := Lib.hid (LB.out.trans (hb3.mono LB.out.size))
  cases hre : rightE h.e
  · have HEE : Hid (encE h.e = 1) := Lib.hid (by unfold encE; rw [hre]; rfl)
    have hv : encV h.e = [] := by unfold encV; rw [hre]; rfl
    have hN : N3 = 0 := by have := ho.len; rw [hv] at this; exact this.symm
    rw [HEE.out]
    subst hN
    clear ho hb3 hre hv
    go_wp2_with fail
    go_ret
    exact ⟨rfl, MB.out⟩
  have HEE : Hid (encE h.e = 0) := Lib.hid (if_pos hre)
  have hv : encV h.e = bytesE h.e := if_pos hre
  rw [hv] at ho
  have hlen := bytesE_len hre
  have hN16 : 16 ≤ N3 ∧ N3 ≤ 20016 := by have := ho.len; omega
  have MO := Lib.hid (ho.base_le LB.out.size)
  have HRE := Lib.hid hre
  have hbd := HH.out.2.2.1.2.1
  obtain ⟨hN16, hN20⟩ := hN16
  rw [HEE.out]
  have hne : ((N3 : Int) == 0) = false := by simp; omega
  have hn0 : (N3 : Int) ≠ 0 := by omega
  obtain ⟨r, hr⟩ : ∃ r, k % N3 = r := ⟨_, rfl⟩
  have hr0 : r < N3 := by rw [← hr]; exact Nat.mod_lt _ (by omega)
  have hmod : (k : Int) % (N3 : Int) = (r : Int) := by rw [← hr]; exact (Int.natCast_emod k N3).symm
  have hcap := MO.out.cap
  have HCUT := Lib.hid (dec_cut hre hbd (k := r) (by have := ho.len; omega))
  have HMORE := Lib.hid (dec_more hre hbd x)
  clear ho hb3 hre hv hlen hr hbd L2 LB
  have hr1 : (0 : Int) ≤ (r : Int) := by omega
  have hr2 : (r : Int) ≤ (c3 : Int) := by omega
  go_wp2_with fail
  refine (evDecode_any A3 r c3 ((bytesE h.e).take r) w3 (MO.out.bytes.to (by omega)) (by omega) (HK.out.below MB.out)).mono ?_
  rintro e w4 ⟨H, rfl, hv, hin, hb4⟩
  rw [HCUT.out]
  have PB := Lib.hid (MB.out.trans (hb4.mono MB.out.size))
  have PO := Lib.hid (MO.out.below hb4)
  have HV := Lib.hid hv
  have HI := Lib.hid hin
  clear hv hin hb4 hmod hne hn0 hr1 hr2 hcap MB MO
  go_wp2_with ((with_reducible show wpList _ _ _ (⟨none, _, _, _, _, _⟩ :: _) _ _); refine hold ?_)
  refine held (wpList_store_wide rfl 26 (.tmp 9) (.tmp 39) rfl w4.heap.size 0 (evC H) rfl rfl 26 (evC (bareH 0 0)) (Bk.new w4 26 (evC (bareH 0 0))) (by rw [evC_size, evC_size]; decide) (by rw [evC_size]; exact info_ev) (evC_one _) ?_)
  intro w5 hw5
  obtain ⟨hd, hb5⟩ := Boxd.new HV.out HI.out hw5
  have QB := Lib.hid (PB.out.trans (hb5.mono PB.out.size))
  have QO := Lib.hid (PO.out.below hb5)
  clear hw5 hd hb5 PB PO HV HI
  go_wp2_with ((with_reducible show wpList _ _ _ (⟨some 44, _, _, _, _, _⟩ :: _) _ _); refine hold ?_)
  have hbe : Below w5.heap.size w5 (w5.alloc (.cells #[] 5)) := (Below.refl _ _).alloc (Nat.le_refl _) _
  refine held (wpList_append_bytes rfl (.tmp 42) (.tmp 43) 24 rfl Tryd.underlying24 info_u8 w5.heap.size (some ⟨w5.heap.size, 0, none⟩) 0 0 [] rfl (OwnB.empty w5 5) _ A3 N3 c3 (bytesE h.e) rfl (QO.out.below hbe).bytes (by omega) (by simp) ?_)
  intro A6 c6 w6 ho6 hb6 hg6
  rw [Nat.zero_add, List.nil_append] at ho6
  rw [Nat.zero_add]
  have RB := Lib.hid (QB.out.trans ((hbe.trans hb6).mono QB.out.size))
  have RO := Lib.hid ho6
  have RZ : Hid (w5.heap.size ≤ w6.heap.size) := Lib.hid (hbe.trans hb6).size
  have RW : Hid (w.heap.size ≤ w5.heap.size) := Lib.hid QB.out.size
  clear hbe ho6 hb6 hg6 QB QO
  go_wp2_with ((with_reducible show wpList _ _ _ (⟨some 47, _, _, _, _, _⟩ :: _) _ _); refine hold ?_)
  have hbx : Below w6.heap.size w6 (w6.alloc (.cells #[.int .u8 (x : Int)] 5)) := (Below.refl _ _).alloc (Nat.le_refl _) _
  refine held (wpList_append_bytes rfl (.tmp 44) (.tmp 46) 24 rfl Tryd.underlying24 info_u8 w5.heap.size A6 N3 c6 (bytesE h.e) rfl (RO.out.below hbx) _ (some ⟨w6.heap.size, 0, none⟩) 1 1 [x] rfl (Bytes.one w6 hx 5) (by omega) (by have := RZ.out; simp; omega) ?_)
  intro A7 c7 w7 ho7 hb7 hg7
  have hb67 : Below w5.heap.size w6 w7 := (hbx.mono RZ.out).trans hb7
  have SB := Lib.hid (RB.out.trans (hb67.mono RW.out))
  have SO := Lib.hid ho7
  clear hbx ho7 hb7 hg7 hb67 RB RO
  have CD := Lib.hid (evDecode_any A7 (N3 + 1) c7 (bytesE h.e ++ [x]) w7 SO.out.bytes (by omega) (HK.out.below SB.out))
  go_wp2_with fail
  refine CD.out.mono ?_
  rintro e w8 ⟨H', rfl, hv, hin, hb8⟩
  rw [HMORE.out]
  have TB := Lib.hid (SB.out.trans (hb8.mono SB.out.size))
  have HV := Lib.hid hv
  have HI := Lib.hid hin
  clear hv hin hb8 CD
  go_wp2_with ((with_reducible show wpList _ _ _ (⟨none, _, _, _, _, _⟩ :: _) _ _); refine hold ?_)
  refine held (wpList_store_wide rfl 26 (.tmp 11) (.tmp 49) rfl w8.heap.size 0 (evC H') rfl rfl 26 (evC (bareH 0 0)) (Bk.new w8 26 (evC (bareH 0 0))) (by rw [evC_size, evC_size]; decide) (by rw [evC_size]; exact info_ev) (evC_one _) ?_)
  intro w9 hw9
  obtain ⟨hd, hb9⟩ := Boxd.new HV.out HI.out hw9
  have UB := Lib.hid (TB.out.trans (hb9.mono TB.out.size))
  clear hw9 hd hb9
  go_wp2_with fail
  go_ret
  exact ⟨rfl, UB.out⟩
end Go.Proofs.YtcajmigkpcjbcaaDoor
