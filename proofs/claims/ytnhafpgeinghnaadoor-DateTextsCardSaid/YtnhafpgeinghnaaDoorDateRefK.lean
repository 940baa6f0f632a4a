/-
  Contracts over the document's own dates: a time is parsed.
-/
import Derived.Test.YtnhafpgeinghnaaDoorDateRefJ
import Derived.Test.YtnhafpgeinghnaaDoorDateRefF
import Derived.Test.YtnhafpgeinghnaaDoorDateParse
namespace Go.Proofs.YtnhafpgeinghnaaDoor
open Go.RowKit
set_option linter.unusedVariables false
set_option linter.unusedSimpArgs false

/-- what the document answers of 26 bytes with two blanks -/
def parseY (P : List (List Nat)) (l : List Nat) : Int × Int :=
  match P with
  | [p0, p1, p2] => if p0.length = 2 ∧ ymdOk (trimB p0) p1 p2 = true ∧ clkOk false (clsL l) = true ∧ zoneOk (l.drop 21) = true then rangeR (ymdV (trimB p0) p1 p2 * 86400 + clkV (clsL l) - zoneV (l.drop 21)) else (0, 3)
  | _ => (0, 3)
def parseX (l : List Nat) : Int × Int :=
  if l.length = 26 ∧ l.getD 11 0 = 32 ∧ l.getD 20 0 = 32 then parseY (splitL 45 (l.take 11)) l else (0, 3)
theorem parseY_no {L : List (List Nat)} {l : List Nat} (h : L.length ≠ 3) : parseY L l = (0, 3) := by
  unfold parseY
  split
  · exact absurd rfl h
  · rfl

theorem below3 {w W2 w3 w4 : World} (h2 : Below w.heap.size w W2) (h3 : Below W2.heap.size W2 w3) (h4 : Below w3.heap.size w3 w4) : Below w.heap.size w w4 :=
  (h2.trans (h3.mono h2.size)).trans (h4.mono (Nat.le_trans h2.size h3.size))
theorem twoL {l : List Nat} (h : l.length = 2) : ∃ a b, l = [a, b] := by
  match l, h with
  | [a, b], _ => exact ⟨a, b, rfl⟩
theorem ymdR_three (d m y : List Nat) : ∃ z b, ymdR d m y = .tuple #[.int .i64 z, .bool b] ∧ ymdOk d m y = b ∧ -719528 ≤ z ∧ z ≤ 2932896 ∧ (b = true → ymdV d m y = z) := by
  cases h : ymdOk d m y
  · exact ⟨0, false, ymdR_F h, rfl, by omega, by omega, fun h => absurd h Bool.false_ne_true⟩
  · exact ⟨_, true, ymdR_T h, rfl, (ymdV_bd h).1, (ymdV_bd h).2, fun _ => rfl⟩
theorem zoneT_three (l : List Nat) : ∃ z b, zoneT l = .tuple #[.int .i64 z, .bool b] ∧ zoneOk l = b ∧ -360000 ≤ z ∧ z ≤ 360000 ∧ (b = true → zoneV l = z) := by
  cases h : zoneOk l
  · exact ⟨0, false, if_neg (by rw [h]; exact Bool.false_ne_true), rfl, by omega, by omega, fun h => absurd h Bool.false_ne_true⟩
  · have := zoneV_bd h
    exact ⟨_, true, if_pos h, rfl, by omega, by omega, fun _ => rfl⟩
theorem clkI_three (sh : Bool) (L : List (List Nat)) : ∃ c, clkI sh L = c ∧ -1 ≤ c ∧ c < 86400 ∧ (clkOk sh L = true ↔ 0 ≤ c) ∧ (0 ≤ c → (clkV L : Int) = c) := by
  cases h : clkOk sh L
  · exact ⟨-1, if_neg (by rw [h]; exact Bool.false_ne_true), by omega, by omega, ⟨fun h => absurd h Bool.false_ne_true, fun h => by omega⟩, fun h => by omega⟩
  · have := clkV_bd h
    exact ⟨_, if_pos h, by omega, by omega, ⟨fun _ => by omega, fun _ => rfl⟩, fun _ => rfl⟩
theorem parseY_three {p0 p1 p2 l : List Nat} {yz c zz : Int} {yb zb : Bool} (h2 : p0.length = 2) (hy : ymdOk (trimB p0) p1 p2 = yb) (hy' : yb = true → ymdV (trimB p0) p1 p2 = yz)
    (hc : clkOk false (clsL l) = true ↔ 0 ≤ c) (hc' : 0 ≤ c → (clkV (clsL l) : Int) = c) (hz : zoneOk (l.drop 21) = zb) (hz' : zb = true → zoneV (l.drop 21) = zz) :
    parseY [p0, p1, p2] l = if yb = true ∧ 0 ≤ c ∧ zb = true then rangeR (yz * 86400 + c - zz) else (0, 3) := by
  show (if p0.length = 2 ∧ _ then _ else _) = _
  rw [hy, hz]
  by_cases h : yb = true ∧ 0 ≤ c ∧ zb = true
  · rw [if_pos h, if_pos ⟨h2, h.1, hc.2 h.2.1, h.2.2⟩, hy' h.1, hc' h.2.1, hz' h.2.2]
  · rw [if_neg h, if_neg (fun h' => h ⟨h'.2.1, hc.1 h'.2.2.1, h'.2.2.2⟩)]

set_option maxRecDepth 20000 in
set_option maxHeartbeats 8000000 in
theorem x7parse_any (s : ByteArray) (hs : s.size ≤ 100000) (w : World) :
    Calls Tryd.prog 9 #[.string s] w fun e w' => e = .returned (resP (parseX (nats s))) ∧ Below w.heap.size w w' := by
  have hgd : ∀ (k : Nat) (hk : k < s.size), (nats s).getD k 0 = s[k].toNat := fun k hk => by rw [List.getD_eq_getElem?_getD, nats_byte s k hk]; rfl
  have hln := nats_length s
  rcases (Decidable.em (s.size = 26)).symm with h26 | h26
  · have HR : Hid (parseX (nats s) = (0, 3)) := Lib.hid (if_neg (fun h => h26 (hln ▸ h.1)))
    have h26' : ¬ (s.size : Int) = 26 := by omega
    clear hgd hln
    go_enter Tryd.func9, Tryd.ntmps9
    go_wp2_with fail
    go_ret2
    exact ⟨by rw [HR.out] <;> rfl, Below.refl _ _⟩
  have i11 : 11 < s.size := by omega
  have i20 : 20 < s.size := by omega
  have hg11 := hgd 11 i11
  have hg20 := hgd 20 i20
  have j11 : (11 : Int) < (s.size : Int) := by omega
  have j11' : (11 : Int) ≤ (s.size : Int) := by omega
  have j20 : (20 : Int) < (s.size : Int) := by omega
  have j20' : (20 : Int) ≤ (s.size : Int) := by omega
  have j21 : (21 : Int) ≤ (s.size : Int) := by omega
  have h26' : (s.size : Int) = 26 := by omega
  have hne : ((s.size : Int) != 26) = false := by rw [h26']; rfl
  rcases (Decidable.em (s[11].toNat = 32)).symm with k11 | k11
  · have HR : Hid (parseX (nats s) = (0, 3)) := Lib.hid (if_neg (fun h => k11 (hg11 ▸ h.2.1)))
    have k11' : ((s[11].toNat : Int) != 32) = true := by simp; omega
    clear hgd hln hg11 hg20
    go_enter Tryd.func9, Tryd.ntmps9
    go_wp2_with fail
    go_ret2
    exact ⟨by rw [HR.out] <;> rfl, Below.refl _ _⟩
  rcases (Decidable.em (s[20].toNat = 32)).symm with k20 | k20
  · have HR : Hid (parseX (nats s) = (0, 3)) := Lib.hid (if_neg (fun h => k20 (hg20 ▸ h.2.2)))
    have k11' : ((s[11].toNat : Int) != 32) = false := by simp; omega
    have k20' : ((s[20].toNat : Int) != 32) = true := by simp; omega
    clear hgd hln hg11 hg20
    go_enter Tryd.func9, Tryd.ntmps9
    go_wp2_with fail
    go_ret2
    exact ⟨by rw [HR.out] <;> rfl, Below.refl _ _⟩
  have k11' : ((s[11].toNat : Int) != 32) = false := by simp; omega
  have k20' : ((s[20].toNat : Int) != 32) = false := by simp; omega
  have HX0 : Hid (nats (s.extract 0 11) = (nats s).take 11) := Lib.hid (by rw [piece_eq, List.drop_zero])
  have HX3 : Hid (nats (s.extract 12 20) = ((nats s).take 20).drop 12) := Lib.hid (piece_eq s 12 20)
  have HX4 : Hid (nats (s.extract 21 s.size) = (nats s).drop 21) := Lib.hid (by rw [piece_eq, List.take_of_length_le (by rw [nats_length]; omega)])
  have hz3 : (s.extract 12 20).size ≤ 100000 := by rw [← nats_length, HX3.out]; simp; omega
  have hz4 : (s.extract 21 s.size).size ≤ 100000 := by rw [← nats_length, HX4.out, List.length_drop]; omega
  have hz0 : (s.extract 0 11).size ≤ 100000 := by rw [← nats_length, HX0.out]; simp; omega
  have csp := x7split_any (s.extract 0 11) 45 (by omega) hz0 w
  have hlt := splitL_lt (c := 45) (nats_lt (s.extract 0 11))
  have hlen := splitL_len (c := 45) (l := nats (s.extract 0 11))
  rw [nats_length] at hlen
  have cc := fun W => x7clock_any (s.extract 12 20) false hz3 W
  have cz := fun W => x7zone_any (s.extract 21 s.size) hz4 W
  rw [HX3.out] at cc
  rw [HX4.out, h26] at cz
  have HR : Hid (parseX (nats s) = parseY (splitL 45 (nats (s.extract 0 11))) (nats s)) := Lib.hid (by
    unfold parseX
    rw [if_pos ⟨by rw [hln, h26], by rw [hg11, k11], by rw [hg20, k20]⟩, HX0.out])
  obtain ⟨L, hL⟩ : ∃ L, splitL 45 (nats (s.extract 0 11)) = L := ⟨_, rfl⟩
  rw [hL] at csp hlt hlen HR
  have HKK := Lib.hid (And.intro k11 k20)
  clear hL hgd hln hg11 hg20 k11 k20 HX0 HX3 HX4
  rcases three_cases L with ⟨p0, p1, p2, rfl⟩ | h3
  · have hz0 : (strOf p0).size ≤ 4294967296 := size_small (Nat.le_trans (hlen p0 (by simp)) (by omega))
    have hz1 : (strOf p1).size ≤ 4294967296 := size_small (Nat.le_trans (hlen p1 (by simp)) (by omega))
    have hz2 : (strOf p2).size ≤ 4294967296 := size_small (Nat.le_trans (hlen p2 (by simp)) (by omega))
    have HN0 := Lib.hid (nats_strOf p0 (hlt p0 (by simp)))
    have HN1 := Lib.hid (nats_strOf p1 (hlt p1 (by simp)))
    have HN2 := Lib.hid (nats_strOf p2 (hlt p2 (by simp)))
    have HS0 := Lib.hid (strOf_size p0)
    rcases (Decidable.em (p0.length = 2)).symm with h2 | h2
    · have HT : Hid (parseY [p0, p1, p2] (nats s) = (0, 3)) := Lib.hid (if_neg (fun h => h2 h.1))
      have h2' : ¬ ((strOf p0).size : Int) = 2 := by rw [HS0.out]; omega
      clear hlt hlen cc cz
      go_enter Tryd.func9, Tryd.ntmps9
      go_wp2_with fail
      refine csp.mono ?_
      rintro e w1 ⟨A, n, k, rfl, hown, hb⟩
      obtain rfl : n = 3 := by have := hown.len; simpa using this.symm
      obtain ⟨g, rfl, hg1, hg2, hst, hfz, hput⟩ := hown.at_ (by omega)
      have HB := Lib.hid hb
      have hc0 := hst 0 p0 rfl
      have hc1 := hst 1 p1 rfl
      have hc2 := hst 2 p2 rfl
      simp only [Nat.zero_add] at hc0 hc1 hc2
      clear hown hb csp hst hfz hput
      go_wp2_with fail
      go_ret2
      exact ⟨by rw [HR.out, HT.out] <;> rfl, HB.out⟩
    · obtain ⟨yz, yb, cy0, hyb, hy1, hy2, hyv⟩ := ymdR_three (trimB p0) p1 p2
      obtain ⟨zz, zb, cz0, hzb, hz1', hz2', hzv⟩ := zoneT_three ((nats s).drop 21)
      obtain ⟨c, cc0, hc1', hc2', hcb, hcv⟩ := clkI_three false (splitL 58 (((nats s).take 20).drop 12))
      have HT : Hid (parseY [p0, p1, p2] (nats s) = _) := Lib.hid (parseY_three h2 hyb hyv hcb hcv hzb hzv)
      rw [cc0] at cc
      rw [cz0] at cz
      obtain ⟨a, b, rfl⟩ := twoL h2
      have hz0' : (strOf (trimB [a, b])).size ≤ 4294967296 := by rw [strOf_size]; unfold trimB; split <;> simp
      have ht0 : nats (strOf (trimB [a, b])) = trimB [a, b] := nats_strOf _ (fun x hx => hlt [a, b] (by simp) x (by unfold trimB at hx; split at hx; exact List.mem_of_mem_drop hx; exact hx))
      have cy := fun W => x7ymd_any (strOf (trimB [a, b])) (strOf p1) (strOf p2) hz0' hz1 hz2 W
      rw [ht0, HN1.out, HN2.out, cy0] at cy
      have i0 : 0 < (strOf [a, b]).size := by rw [strOf_size]; simp
      have hb0 : (strOf [a, b])[0].toNat = a := by
        have := nats_byte (strOf [a, b]) 0 i0
        rw [HN0.out] at this
        injection this with this
        exact this.symm
      have hm : Tryd.prog.follows .mixedOrders = true := by kernel_rfl
      have HE : Hid (nats (strOf [a, b]) = [a, b]) := Lib.hid (HN0.out)
      clear hyb hzb hcb hcv hyv hzv cy0 cz0 cc0 hz0' ht0 hlt hlen HN0 HN1 HN2 HS0 h2
      rcases (Decidable.em (a = 32)) with rfl | ha
      · have hex : (strOf [32, b]).extract 1 (strOf [32, b]).size = strOf (trimB [32, b]) := nats_inj (by
          rw [show (strOf [32, b]).size = 2 from strOf_size _, piece_eq, HE.out, nats_strOf _ (fun x hx => nats_lt (strOf [32, b]) x (by rw [HE.out]; exact List.mem_cons_of_mem _ hx))]
          rfl)
        go_enter Tryd.func9, Tryd.ntmps9
        go_wp2_with fail
        refine csp.mono ?_
        rintro e w1 ⟨A, n, k, rfl, hown, hb⟩
        obtain rfl : n = 3 := by have := hown.len; simpa using this.symm
        obtain ⟨g, rfl, hg1, hg2, hst, hfz, hput⟩ := hown.at_ (by omega)
        have HB := Lib.hid hb
        have hc0 := hst 0 _ rfl
        have hc1 := hst 1 p1 rfl
        have hc2 := hst 2 p2 rfl
        simp only [Nat.zero_add] at hc0 hc1 hc2
        have hcs := hput 0 (trimB [32, b]) (by omega)
        obtain ⟨g', e', _, _, hst', _, _⟩ := hcs.at_ (by omega)
        injection e' with e'
        injection e' with e' _ _
        subst e'
        have hd0 := hst' 0 (trimB [32, b]) rfl
        have hd1 := hst' 1 p1 rfl
        have hd2 := hst' 2 p2 rfl
        simp only [Nat.zero_add] at hd0 hd1 hd2
        have HD := Lib.hid (And.intro hd0 (And.intro hd1 hd2))
        have HBX : Hid (Below w.heap.size w (w1.setCell ⟨g, 0, none⟩ (.string (strOf (trimB [32, b]))))) := Lib.hid (hb.setCell (p := ⟨g, 0, none⟩) hg1 _)
        have hgx : g < (w1.setCell ⟨g, 0, none⟩ (.string (strOf (trimB [32, b])))).heap.size := by rw [World.size_setCell]; exact hg2
        clear hown hb csp hst hput hst' hcs hd0 hd1 hd2 hg2
        go_wp2_with fail
        try rw [hex]
        obtain ⟨wx, hwx⟩ : ∃ wx, w1.setCell ⟨g, 0, none⟩ (.string (strOf (trimB [32, b]))) = wx := ⟨_, rfl⟩
        rw [hwx] at HBX hgx ⊢
        rw [hwx] at HD
        clear hwx hex
        obtain ⟨q0, hq0⟩ : ∃ q, strOf (trimB [32, b]) = q := ⟨_, rfl⟩
        rw [hq0] at HD cy
        clear hq0
        refine wp_region_held_drew (S := fun W' => W'.cell? ⟨g, 0, none⟩ = some (.string q0) ∧ W'.cell? ⟨g, 1, none⟩ = some (.string (strOf p1)) ∧ W'.cell? ⟨g, 2, none⟩ = some (.string (strOf p2))) hm HD.out (fun hHeld => ?_)
        have hgw : g < wx.drew.heap.size := hgx
        have HBW := Lib.hid (HBX.out.trans ((Below.refl wx.heap.size wx).drew.mono HBX.out.size))
        clear HBX HD hgx HB
        generalize wx.drew = W at *
        simp only [List.size_toArray, List.length_cons, List.length_nil, Nat.reduceAdd]
        refine wpAnyH_take (i := 0) (v := .slice (some ⟨g, 0, none⟩) 3 k) rfl (by kernel_rfl) (by kernel_rfl) (by kernel_rfl) (fun _ _ _ h => h) (Or.inl ⟨by rfl, fun w0 hC => by simp [execOp, Act.eval, Act.put, go_sem]⟩) hHeld ?_
        try simp only [Act.put, List.setIfInBounds_toArray, List.set_cons_zero, List.set_cons_succ, List.getElem_toArray, List.getElem_cons_zero, List.getElem_cons_succ]
        refine wpAnyH_take (i := 1) (v := .pointer (some ⟨g, 0, none⟩)) rfl (by kernel_rfl) (by kernel_rfl) (by kernel_rfl) (fun _ _ _ h => h) (Or.inl ⟨by rfl, fun w0 hC => by simp [execOp, Act.eval, Act.put, go_sem]⟩) hHeld ?_
        try simp only [Act.put, List.setIfInBounds_toArray, List.set_cons_zero, List.set_cons_succ, List.getElem_toArray, List.getElem_cons_zero, List.getElem_cons_succ]
        refine wpAnyH_take (i := 2) (v := .string q0) rfl (by kernel_rfl) (by kernel_rfl) (by kernel_rfl) (fun _ _ _ h => h) (Or.inl ⟨by rfl, fun w0 hC => by simp [execOp, Act.eval, Act.put, go_sem, hC.1]⟩) hHeld ?_
        try simp only [Act.put, List.setIfInBounds_toArray, List.set_cons_zero, List.set_cons_succ, List.getElem_toArray, List.getElem_cons_zero, List.getElem_cons_succ]
        refine wpAnyH_take (i := 3) (v := .slice (some ⟨g, 0, none⟩) 3 k) rfl (by kernel_rfl) (by kernel_rfl) (by kernel_rfl) (fun _ _ _ h => h) (Or.inl ⟨by rfl, fun w0 hC => by simp [execOp, Act.eval, Act.put, go_sem]⟩) hHeld ?_
        try simp only [Act.put, List.setIfInBounds_toArray, List.set_cons_zero, List.set_cons_succ, List.getElem_toArray, List.getElem_cons_zero, List.getElem_cons_succ]
        refine wpAnyH_take (i := 4) (v := .pointer (some ⟨g, 1, none⟩)) rfl (by kernel_rfl) (by kernel_rfl) (by kernel_rfl) (fun _ _ _ h => h) (Or.inl ⟨by rfl, fun w0 hC => by simp [execOp, Act.eval, Act.put, go_sem]⟩) hHeld ?_
        try simp only [Act.put, List.setIfInBounds_toArray, List.set_cons_zero, List.set_cons_succ, List.getElem_toArray, List.getElem_cons_zero, List.getElem_cons_succ]
        refine wpAnyH_take (i := 5) (v := .string (strOf p1)) rfl (by kernel_rfl) (by kernel_rfl) (by kernel_rfl) (fun _ _ _ h => h) (Or.inl ⟨by rfl, fun w0 hC => by simp [execOp, Act.eval, Act.put, go_sem, hC.2.1]⟩) hHeld ?_
        try simp only [Act.put, List.setIfInBounds_toArray, List.set_cons_zero, List.set_cons_succ, List.getElem_toArray, List.getElem_cons_zero, List.getElem_cons_succ]
        refine wpAnyH_take (i := 6) (v := .slice (some ⟨g, 0, none⟩) 3 k) rfl (by kernel_rfl) (by kernel_rfl) (by kernel_rfl) (fun _ _ _ h => h) (Or.inl ⟨by rfl, fun w0 hC => by simp [execOp, Act.eval, Act.put, go_sem]⟩) hHeld ?_
        try simp only [Act.put, List.setIfInBounds_toArray, List.set_cons_zero, List.set_cons_succ, List.getElem_toArray, List.getElem_cons_zero, List.getElem_cons_succ]
        refine wpAnyH_take (i := 7) (v := .pointer (some ⟨g, 2, none⟩)) rfl (by kernel_rfl) (by kernel_rfl) (by kernel_rfl) (fun _ _ _ h => h) (Or.inl ⟨by rfl, fun w0 hC => by simp [execOp, Act.eval, Act.put, go_sem]⟩) hHeld ?_
        try simp only [Act.put, List.setIfInBounds_toArray, List.set_cons_zero, List.set_cons_succ, List.getElem_toArray, List.getElem_cons_zero, List.getElem_cons_succ]
        refine wpAnyH_take (i := 8) (v := .string (strOf p2)) rfl (by kernel_rfl) (by kernel_rfl) (by kernel_rfl) (fun _ _ _ h => h) (Or.inl ⟨by rfl, fun w0 hC => by simp [execOp, Act.eval, Act.put, go_sem, hC.2.2]⟩) hHeld ?_
        try simp only [Act.put, List.setIfInBounds_toArray, List.set_cons_zero, List.set_cons_succ, List.getElem_toArray, List.getElem_cons_zero, List.getElem_cons_succ]
        refine wpAnyH_ready (rs := [9]) (by kernel_rfl) (by simp) (AllReadyH.cons rfl (fun K hK => ?_) AllReadyH.nil)
        rw [if_pos (by rfl)]
        go_wp2_with fail
        refine (cy W).mono ?_
        rintro e W2 ⟨rfl, hb2⟩
        have hS : _ ∧ _ ∧ _ := And.intro ((hb2.cell (p := ⟨g, 0, none⟩) hgw).trans hHeld.1) (And.intro ((hb2.cell (p := ⟨g, 1, none⟩) hgw).trans hHeld.2.1) ((hb2.cell (p := ⟨g, 2, none⟩) hgw).trans hHeld.2.2))
        have HB2 := Lib.hid (HBW.out.trans (hb2.mono HBW.out.size))
        clear hb2 HBW hHeld cy
        refine hK.out _ _ hS (fun hHeld => ?_)
        clear hK K
        try simp only [Act.put, List.setIfInBounds_toArray, List.set_cons_zero, List.set_cons_succ, List.getElem_toArray, List.getElem_cons_zero, List.getElem_cons_succ]
        clear hS
        refine wpAnyH_take (i := 10) (v := .tuple #[.int .i64 yz, .bool yb]) rfl (by kernel_rfl) (by kernel_rfl) (by kernel_rfl) (fun _ _ _ h => h) (Or.inl ⟨by rfl, fun w0 hC => by simp [execOp, Act.eval, Act.put, go_sem]⟩) hHeld ?_
        try simp only [Act.put, List.setIfInBounds_toArray, List.set_cons_zero, List.set_cons_succ, List.getElem_toArray, List.getElem_cons_zero, List.getElem_cons_succ]
        refine wpAnyH_take (i := 11) (v := .int .i64 yz) rfl (by kernel_rfl) (by kernel_rfl) (by kernel_rfl) (fun _ _ _ h => h) (Or.inl ⟨by rfl, fun w0 hC => by simp [execOp, Act.eval, Act.put, go_sem]⟩) hHeld ?_
        try simp only [Act.put, List.setIfInBounds_toArray, List.set_cons_zero, List.set_cons_succ, List.getElem_toArray, List.getElem_cons_zero, List.getElem_cons_succ]
        refine wpAnyH_take (i := 12) (v := .bool yb) rfl (by kernel_rfl) (by kernel_rfl) (by kernel_rfl) (fun _ _ _ h => h) (Or.inl ⟨by rfl, fun w0 hC => by simp [execOp, Act.eval, Act.put, go_sem]⟩) hHeld ?_
        try simp only [Act.put, List.setIfInBounds_toArray, List.set_cons_zero, List.set_cons_succ, List.getElem_toArray, List.getElem_cons_zero, List.getElem_cons_succ]
        refine wpAnyH_take (i := 13) (v := .int .i64 yz) rfl (by kernel_rfl) (by kernel_rfl) (by kernel_rfl) (fun _ _ _ h => h) (Or.inl ⟨by rfl, fun w0 hC => by simp [execOp, Act.eval, Act.put, go_sem]⟩) hHeld ?_
        try simp only [Act.put, List.setIfInBounds_toArray, List.set_cons_zero, List.set_cons_succ, List.getElem_toArray, List.getElem_cons_zero, List.getElem_cons_succ]
        refine wpAnyH_take (i := 14) (v := .bool yb) rfl (by kernel_rfl) (by kernel_rfl) (by kernel_rfl) (fun _ _ _ h => h) (Or.inl ⟨by rfl, fun w0 hC => by simp [execOp, Act.eval, Act.put, go_sem]⟩) hHeld ?_
        try simp only [Act.put, List.setIfInBounds_toArray, List.set_cons_zero, List.set_cons_succ, List.getElem_toArray, List.getElem_cons_zero, List.getElem_cons_succ]
        refine wpAnyH_done (by kernel_rfl) ?_ _
        clear hHeld
        cases yb
        · go_wp2_with (first
            | (go_at_call 29; with_reducible refine (cc _).mono ?_; rintro e w3 ⟨rfl, hb3⟩)
            | (go_at_call 30; with_reducible refine (cz _).mono ?_; rintro e w4 ⟨rfl, hb4⟩))
          go_ret2
          exact ⟨by rw [HR.out, HT.out, if_neg (fun h => Bool.false_ne_true h.1)] <;> rfl, below3 HB2.out hb3 hb4⟩
        · rcases (Decidable.em (c < 0)) with hcn | hcn
          · go_wp2_with (first
              | (go_at_call 29; with_reducible refine (cc _).mono ?_; rintro e w3 ⟨rfl, hb3⟩)
              | (go_at_call 30; with_reducible refine (cz _).mono ?_; rintro e w4 ⟨rfl, hb4⟩))
            go_ret2
            exact ⟨by rw [HR.out, HT.out, if_neg (fun h => absurd h.2.1 (by omega))] <;> rfl, below3 HB2.out hb3 hb4⟩
          · cases zb
            · go_wp2_with (first
                | (go_at_call 29; with_reducible refine (cc _).mono ?_; rintro e w3 ⟨rfl, hb3⟩)
                | (go_at_call 30; with_reducible refine (cz _).mono ?_; rintro e w4 ⟨rfl, hb4⟩))
              go_ret2
              exact ⟨by rw [HR.out, HT.out, if_neg (fun h => Bool.false_ne_true h.2.2)] <;> rfl, below3 HB2.out hb3 hb4⟩
            · have hcp : 0 ≤ c := by omega
              have HT2 : Hid (parseY [[32, b], p1, p2] (nats s) = rangeR (yz * 86400 + c - zz)) := Lib.hid (by rw [HT.out, if_pos ⟨rfl, hcp, rfl⟩])
              clear HT
              have hw1 : IntKind.i64.wrap (yz * 86400) = yz * 86400 := IntWalk.i64_in _ (by omega)
              have hw2 : IntKind.i64.wrap (yz * 86400 + c) = yz * 86400 + c := IntWalk.i64_in _ (by omega)
              have hw3 : IntKind.i64.wrap (yz * 86400 + c - zz) = yz * 86400 + c - zz := IntWalk.i64_in _ (by omega)
              obtain ⟨t, ht⟩ : ∃ t, yz * 86400 + c - zz = t := ⟨_, rfl⟩
              rw [ht] at hw3 HT2
              rcases (Decidable.em (t < 0)) with htn | htn
              · have HT3 : Hid (rangeR t = (0, 15)) := Lib.hid (if_pos (.inl htn))
                go_wp2_with (first
                  | (go_at_call 29; with_reducible refine (cc _).mono ?_; rintro e w3 ⟨rfl, hb3⟩)
                  | (go_at_call 30; with_reducible refine (cz _).mono ?_; rintro e w4 ⟨rfl, hb4⟩))
                go_ret2
                exact ⟨by rw [HR.out, HT2.out, HT3.out] <;> rfl, below3 HB2.out hb3 hb4⟩
              · rcases (Decidable.em (253402300799 < t)) with hth | hth
                · have HT3 : Hid (rangeR t = (0, 15)) := Lib.hid (if_pos (.inr hth))
                  go_wp2_with (first
                    | (go_at_call 29; with_reducible refine (cc _).mono ?_; rintro e w3 ⟨rfl, hb3⟩)
                    | (go_at_call 30; with_reducible refine (cz _).mono ?_; rintro e w4 ⟨rfl, hb4⟩))
                  go_ret2
                  exact ⟨by rw [HR.out, HT2.out, HT3.out] <;> rfl, below3 HB2.out hb3 hb4⟩
                · have HT3 : Hid (rangeR t = (t, 0)) := Lib.hid (if_neg (fun h => h.elim htn hth))
                  go_wp2_with (first
                    | (go_at_call 29; with_reducible refine (cc _).mono ?_; rintro e w3 ⟨rfl, hb3⟩)
                    | (go_at_call 30; with_reducible refine (cz _).mono ?_; rintro e w4 ⟨rfl, hb4⟩))
                  go_ret2
                  exact ⟨by rw [HR.out, HT2.out, HT3.out] <;> rfl, below3 HB2.out hb3 hb4⟩
      · have htr : trimB [a, b] = [a, b] := if_neg (fun h => ha (by injection h))
        rw [htr] at cy
        have ha' : ¬ (a : Int) = 32 := by omega
        go_enter Tryd.func9, Tryd.ntmps9
        go_wp2_with fail
        refine csp.mono ?_
        rintro e w1 ⟨A, n, k, rfl, hown, hb⟩
        obtain rfl : n = 3 := by have := hown.len; simpa using this.symm
        obtain ⟨g, rfl, hg1, hg2, hst, hfz, hput⟩ := hown.at_ (by omega)
        have HB := Lib.hid hb
        have hc0 := hst 0 _ rfl
        have hc1 := hst 1 p1 rfl
        have hc2 := hst 2 p2 rfl
        simp only [Nat.zero_add] at hc0 hc1 hc2
        have HD := Lib.hid (And.intro hc0 (And.intro hc1 hc2))
        have HBX := HB
        have hgx := hg2
        clear hown hb csp hst hfz hput hg2
        go_wp2_with fail
        obtain ⟨q0, hq0⟩ : ∃ q, strOf [a, b] = q := ⟨_, rfl⟩
        rw [hq0] at HD cy ⊢
        clear hq0
        obtain ⟨wx, hwx⟩ : ∃ wx, w1 = wx := ⟨_, rfl⟩
        rw [hwx] at HD HBX hgx ⊢
        clear hwx
        refine wp_region_held_drew (S := fun W' => W'.cell? ⟨g, 0, none⟩ = some (.string q0) ∧ W'.cell? ⟨g, 1, none⟩ = some (.string (strOf p1)) ∧ W'.cell? ⟨g, 2, none⟩ = some (.string (strOf p2))) hm HD.out (fun hHeld => ?_)
        have hgw : g < wx.drew.heap.size := hgx
        have HBW := Lib.hid (HBX.out.trans ((Below.refl wx.heap.size wx).drew.mono HBX.out.size))
        clear HBX HD hgx HB
        generalize wx.drew = W at *
        simp only [List.size_toArray, List.length_cons, List.length_nil, Nat.reduceAdd]
        refine wpAnyH_take (i := 0) (v := .slice (some ⟨g, 0, none⟩) 3 k) rfl (by kernel_rfl) (by kernel_rfl) (by kernel_rfl) (fun _ _ _ h => h) (Or.inl ⟨by rfl, fun w0 hC => by simp [execOp, Act.eval, Act.put, go_sem]⟩) hHeld ?_
        try simp only [Act.put, List.setIfInBounds_toArray, List.set_cons_zero, List.set_cons_succ, List.getElem_toArray, List.getElem_cons_zero, List.getElem_cons_succ]
        refine wpAnyH_take (i := 1) (v := .pointer (some ⟨g, 0, none⟩)) rfl (by kernel_rfl) (by kernel_rfl) (by kernel_rfl) (fun _ _ _ h => h) (Or.inl ⟨by rfl, fun w0 hC => by simp [execOp, Act.eval, Act.put, go_sem]⟩) hHeld ?_
        try simp only [Act.put, List.setIfInBounds_toArray, List.set_cons_zero, List.set_cons_succ, List.getElem_toArray, List.getElem_cons_zero, List.getElem_cons_succ]
        refine wpAnyH_take (i := 2) (v := .string q0) rfl (by kernel_rfl) (by kernel_rfl) (by kernel_rfl) (fun _ _ _ h => h) (Or.inl ⟨by rfl, fun w0 hC => by simp [execOp, Act.eval, Act.put, go_sem, hC.1]⟩) hHeld ?_
        try simp only [Act.put, List.setIfInBounds_toArray, List.set_cons_zero, List.set_cons_succ, List.getElem_toArray, List.getElem_cons_zero, List.getElem_cons_succ]
        refine wpAnyH_take (i := 3) (v := .slice (some ⟨g, 0, none⟩) 3 k) rfl (by kernel_rfl) (by kernel_rfl) (by kernel_rfl) (fun _ _ _ h => h) (Or.inl ⟨by rfl, fun w0 hC => by simp [execOp, Act.eval, Act.put, go_sem]⟩) hHeld ?_
        try simp only [Act.put, List.setIfInBounds_toArray, List.set_cons_zero, List.set_cons_succ, List.getElem_toArray, List.getElem_cons_zero, List.getElem_cons_succ]
        refine wpAnyH_take (i := 4) (v := .pointer (some ⟨g, 1, none⟩)) rfl (by kernel_rfl) (by kernel_rfl) (by kernel_rfl) (fun _ _ _ h => h) (Or.inl ⟨by rfl, fun w0 hC => by simp [execOp, Act.eval, Act.put, go_sem]⟩) hHeld ?_
        try simp only [Act.put, List.setIfInBounds_toArray, List.set_cons_zero, List.set_cons_succ, List.getElem_toArray, List.getElem_cons_zero, List.getElem_cons_succ]
        refine wpAnyH_take (i := 5) (v := .string (strOf p1)) rfl (by kernel_rfl) (by kernel_rfl) (by kernel_rfl) (fun _ _ _ h => h) (Or.inl ⟨by rfl, fun w0 hC => by simp [execOp, Act.eval, Act.put, go_sem, hC.2.1]⟩) hHeld ?_
        try simp only [Act.put, List.setIfInBounds_toArray, List.set_cons_zero, List.set_cons_succ, List.getElem_toArray, List.getElem_cons_zero, List.getElem_cons_succ]
        refine wpAnyH_take (i := 6) (v := .slice (some ⟨g, 0, none⟩) 3 k) rfl (by kernel_rfl) (by kernel_rfl) (by kernel_rfl) (fun _ _ _ h => h) (Or.inl ⟨by rfl, fun w0 hC => by simp [execOp, Act.eval, Act.put, go_sem]⟩) hHeld ?_
        try simp only [Act.put, List.setIfInBounds_toArray, List.set_cons_zero, List.set_cons_succ, List.getElem_toArray, List.getElem_cons_zero, List.getElem_cons_succ]
        refine wpAnyH_take (i := 7) (v := .pointer (some ⟨g, 2, none⟩)) rfl (by kernel_rfl) (by kernel_rfl) (by kernel_rfl) (fun _ _ _ h => h) (Or.inl ⟨by rfl, fun w0 hC => by simp [execOp, Act.eval, Act.put, go_sem]⟩) hHeld ?_
        try simp only [Act.put, List.setIfInBounds_toArray, List.set_cons_zero, List.set_cons_succ, List.getElem_toArray, List.getElem_cons_zero, List.getElem_cons_succ]
        refine wpAnyH_take (i := 8) (v := .string (strOf p2)) rfl (by kernel_rfl) (by kernel_rfl) (by kernel_rfl) (fun _ _ _ h => h) (Or.inl ⟨by rfl, fun w0 hC => by simp [execOp, Act.eval, Act.put, go_sem, hC.2.2]⟩) hHeld ?_
        try simp only [Act.put, List.setIfInBounds_toArray, List.set_cons_zero, List.set_cons_succ, List.getElem_toArray, List.getElem_cons_zero, List.getElem_cons_succ]
        refine wpAnyH_ready (rs := [9]) (by kernel_rfl) (by simp) (AllReadyH.cons rfl (fun K hK => ?_) AllReadyH.nil)
        rw [if_pos (by rfl)]
        go_wp2_with fail
        refine (cy W).mono ?_
        rintro e W2 ⟨rfl, hb2⟩
        have hS : _ ∧ _ ∧ _ := And.intro ((hb2.cell (p := ⟨g, 0, none⟩) hgw).trans hHeld.1) (And.intro ((hb2.cell (p := ⟨g, 1, none⟩) hgw).trans hHeld.2.1) ((hb2.cell (p := ⟨g, 2, none⟩) hgw).trans hHeld.2.2))
        have HB2 := Lib.hid (HBW.out.trans (hb2.mono HBW.out.size))
        clear hb2 HBW hHeld cy
        refine hK.out _ _ hS (fun hHeld => ?_)
        clear hK K
        try simp only [Act.put, List.setIfInBounds_toArray, List.set_cons_zero, List.set_cons_succ, List.getElem_toArray, List.getElem_cons_zero, List.getElem_cons_succ]
        clear hS
        refine wpAnyH_take (i := 10) (v := .tuple #[.int .i64 yz, .bool yb]) rfl (by kernel_rfl) (by kernel_rfl) (by kernel_rfl) (fun _ _ _ h => h) (Or.inl ⟨by rfl, fun w0 hC => by simp [execOp, Act.eval, Act.put, go_sem]⟩) hHeld ?_
        try simp only [Act.put, List.setIfInBounds_toArray, List.set_cons_zero, List.set_cons_succ, List.getElem_toArray, List.getElem_cons_zero, List.getElem_cons_succ]
        refine wpAnyH_take (i := 11) (v := .int .i64 yz) rfl (by kernel_rfl) (by kernel_rfl) (by kernel_rfl) (fun _ _ _ h => h) (Or.inl ⟨by rfl, fun w0 hC => by simp [execOp, Act.eval, Act.put, go_sem]⟩) hHeld ?_
        try simp only [Act.put, List.setIfInBounds_toArray, List.set_cons_zero, List.set_cons_succ, List.getElem_toArray, List.getElem_cons_zero, List.getElem_cons_succ]
        refine wpAnyH_take (i := 12) (v := .bool yb) rfl (by kernel_rfl) (by kernel_rfl) (by kernel_rfl) (fun _ _ _ h => h) (Or.inl ⟨by rfl, fun w0 hC => by simp [execOp, Act.eval, Act.put, go_sem]⟩) hHeld ?_
        try simp only [Act.put, List.setIfInBounds_toArray, List.set_cons_zero, List.set_cons_succ, List.getElem_toArray, List.getElem_cons_zero, List.getElem_cons_succ]
        refine wpAnyH_take (i := 13) (v := .int .i64 yz) rfl (by kernel_rfl) (by kernel_rfl) (by kernel_rfl) (fun _ _ _ h => h) (Or.inl ⟨by rfl, fun w0 hC => by simp [execOp, Act.eval, Act.put, go_sem]⟩) hHeld ?_
        try simp only [Act.put, List.setIfInBounds_toArray, List.set_cons_zero, List.set_cons_succ, List.getElem_toArray, List.getElem_cons_zero, List.getElem_cons_succ]
        refine wpAnyH_take (i := 14) (v := .bool yb) rfl (by kernel_rfl) (by kernel_rfl) (by kernel_rfl) (fun _ _ _ h => h) (Or.inl ⟨by rfl, fun w0 hC => by simp [execOp, Act.eval, Act.put, go_sem]⟩) hHeld ?_
        try simp only [Act.put, List.setIfInBounds_toArray, List.set_cons_zero, List.set_cons_succ, List.getElem_toArray, List.getElem_cons_zero, List.getElem_cons_succ]
        refine wpAnyH_done (by kernel_rfl) ?_ _
        clear hHeld
        cases yb
        · go_wp2_with (first
            | (go_at_call 29; with_reducible refine (cc _).mono ?_; rintro e w3 ⟨rfl, hb3⟩)
            | (go_at_call 30; with_reducible refine (cz _).mono ?_; rintro e w4 ⟨rfl, hb4⟩))
          go_ret2
          exact ⟨by rw [HR.out, HT.out, if_neg (fun h => Bool.false_ne_true h.1)] <;> rfl, below3 HB2.out hb3 hb4⟩
        · rcases (Decidable.em (c < 0)) with hcn | hcn
          · go_wp2_with (first
              | (go_at_call 29; with_reducible refine (cc _).mono ?_; rintro e w3 ⟨rfl, hb3⟩)
              | (go_at_call 30; with_reducible refine (cz _).mono ?_; rintro e w4 ⟨rfl, hb4⟩))
            go_ret2
            exact ⟨by rw [HR.out, HT.out, if_neg (fun h => absurd h.2.1 (by omega))] <;> rfl, below3 HB2.out hb3 hb4⟩
          · cases zb
            · go_wp2_with (first
                | (go_at_call 29; with_reducible refine (cc _).mono ?_; rintro e w3 ⟨rfl, hb3⟩)
                | (go_at_call 30; with_reducible refine (cz _).mono ?_; rintro e w4 ⟨rfl, hb4⟩))
              go_ret2
              exact ⟨by rw [HR.out, HT.out, if_neg (fun h => Bool.false_ne_true h.2.2)] <;> rfl, below3 HB2.out hb3 hb4⟩
            · have hcp : 0 ≤ c := by omega
              have HT2 : Hid (parseY [[a, b], p1, p2] (nats s) = rangeR (yz * 86400 + c - zz)) := Lib.hid (by rw [HT.out, if_pos ⟨rfl, hcp, rfl⟩])
              clear HT
              have hw1 : IntKind.i64.wrap (yz * 86400) = yz * 86400 := IntWalk.i64_in _ (by omega)
              have hw2 : IntKind.i64.wrap (yz * 86400 + c) = yz * 86400 + c := IntWalk.i64_in _ (by omega)
              have hw3 : IntKind.i64.wrap (yz * 86400 + c - zz) = yz * 86400 + c - zz := IntWalk.i64_in _ (by omega)
              obtain ⟨t, ht⟩ : ∃ t, yz * 86400 + c - zz = t := ⟨_, rfl⟩
              rw [ht] at hw3 HT2
              rcases (Decidable.em (t < 0)) with htn | htn
              · have HT3 : Hid (rangeR t = (0, 15)) := Lib.hid (if_pos (.inl htn))
                go_wp2_with (first
                  | (go_at_call 29; with_reducible refine (cc _).mono ?_; rintro e w3 ⟨rfl, hb3⟩)
                  | (go_at_call 30; with_reducible refine (cz _).mono ?_; rintro e w4 ⟨rfl, hb4⟩))
                go_ret2
                exact ⟨by rw [HR.out, HT2.out, HT3.out] <;> rfl, below3 HB2.out hb3 hb4⟩
              · rcases (Decidable.em (253402300799 < t)) with hth | hth
                · have HT3 : Hid (rangeR t = (0, 15)) := Lib.hid (if_pos (.inr hth))
                  go_wp2_with (first
                    | (go_at_call 29; with_reducible refine (cc _).mono ?_; rintro e w3 ⟨rfl, hb3⟩)
                    | (go_at_call 30; with_reducible refine (cz _).mono ?_; rintro e w4 ⟨rfl, hb4⟩))
                  go_ret2
                  exact ⟨by rw [HR.out, HT2.out, HT3.out] <;> rfl, below3 HB2.out hb3 hb4⟩
                · have HT3 : Hid (rangeR t = (t, 0)) := Lib.hid (if_neg (fun h => h.elim htn hth))
                  go_wp2_with (first
                    | (go_at_call 29; with_reducible refine (cc _).mono ?_; rintro e w3 ⟨rfl, hb3⟩)
                    | (go_at_call 30; with_reducible refine (cz _).mono ?_; rintro e w4 ⟨rfl, hb4⟩))
                  go_ret2
                  exact ⟨by rw [HR.out, HT2.out, HT3.out] <;> rfl, below3 HB2.out hb3 hb4⟩
  · have HT : Hid (parseY L (nats s) = (0, 3)) := Lib.hid (parseY_no h3)
    clear cc cz hlt hlen
    go_enter Tryd.func9, Tryd.ntmps9
    go_wp2_with fail
    refine csp.mono ?_
    rintro e w1 ⟨A, n, k, rfl, hown, hb⟩
    have hn3 : ¬ (n : Int) = 3 := by have := hown.len; omega
    have HB := Lib.hid hb
    clear hown hb csp
    go_wp2_with fail
    go_ret2
    exact ⟨by rw [HR.out, HT.out] <;> rfl, HB.out⟩
end Go.Proofs.YtnhafpgeinghnaaDoor
