/-
  A part of the proof: see the last text.
-/
import Derived.Test.YthflljlilcmcnaaGreatDoorSKvOpnM
import Derived.Test.YthflljlilcmcnaaGreatDoorSKvForm
import Derived.Test.YthflljlilcmcnaaGreatDoorSKvGet
namespace Go.Proofs.YthflljlilcmcnaaGreatDoor
set_option linter.unusedVariables false
set_option linter.unusedSimpArgs false
open Go.RowKit Go.Maps
set_option linter.unusedVariables false
set_option linter.unusedSimpArgs false
def NoStr (cs : Array Value) : Prop := ∀ (i : Nat) (s : ByteArray), cs[i]? ≠ some (.string s)
theorem noStr4 {a b : Option Addr} {n c n' c' : Nat} {z : Int} {d : Bool} : NoStr #[.slice a n c, .slice b n' c', .int .i64 z, .bool d] := by
  intro i s
  rcases i with _ | _ | _ | _ | i <;> simp
theorem noStr5 {a : Option Addr} {n c : Nat} {z0 z1 z2 z3 : Int} : NoStr #[.int .i64 z0, .int .i64 z1, .int .i64 z2, .int .i64 z3, .slice a n c] := by
  intro i s
  rcases i with _ | _ | _ | _ | _ | i <;> simp
theorem col_apart {w : World} {B n b : Nat} {A : Option Addr} {l : List Pr} {t : TypeId} {cs : Array Value} (h : ColK 2 pairC w B A n l) (hb : Bk w b t cs) (hs : NoStr cs) : 0 < n → ∀ p, A = some p → p.block ≠ b := by
  intro h0 p hp e
  obtain ⟨b', o, a, e', _, _, _, hrow⟩ := h.at_ h0
  rw [e'] at hp
  cases hp
  have hc := hrow 0 _ rfl
  rw [show (⟨b', o + 0 * 2 + 0, none⟩ : Addr) = ⟨b', o, none⟩ by simp, show b' = b from e, hb.cell] at hc
  exact hs o _ hc
structure AlK (w : World) (x : Dk) (A A' : Option Addr) (n c n' c' b1 b3 : Nat) (z0 z1 z2 z3 : Int) (A5 : Option Addr) (n5 c5 : Nat) (m : List Pr) (W : World) : Prop where
  k1 : Bk W b1 45 #[.slice A n c, .slice A' n' c', .int .i64 x.fuse, .bool x.down]
  k3 : Bk W b3 31 #[.int .i64 z0, .int .i64 z1, .int .i64 z2, .int .i64 z3, .slice A5 n5 c5]
  hd : DkAt W W.heap.size (.agg #[.slice A n c, .slice A' n' c', .int .i64 x.fuse, .bool x.down]) x
  hc : ColK 2 pairC W W.heap.size A5 n5 m
  hb : Below w.heap.size w W
theorem AlK.below {w W W' : World} {x : Dk} {A A' : Option Addr} {n c n' c' b1 b3 : Nat} {z0 z1 z2 z3 : Int} {A5 : Option Addr} {n5 c5 : Nat} {m : List Pr} (H : AlK w x A A' n c n' c' b1 b3 z0 z1 z2 z3 A5 n5 c5 m W) (hb : Below W.heap.size W W') : AlK w x A A' n c n' c' b1 b3 z0 z1 z2 z3 A5 n5 c5 m W' :=
  ⟨H.k1.below hb H.k1.lt, H.k3.below hb H.k3.lt, H.hd.later hb, H.hc.later hb, H.hb.trans (hb.mono H.hb.size)⟩
theorem al_stored {w W : World} {x : Dk} {A A' : Option Addr} {n c n' c' b1 b3 : Nat} {z0 z1 z2 z3 : Int} {A5 : Option Addr} {n5 c5 : Nat} {m : List Pr} {a0 a1 a2 a3 e0 e1 e2 e3 e4 : Value}
    (k1 : Bk W b1 45 #[a0, a1, a2, a3]) (k3 : Bk W b3 31 #[e0, e1, e2, e3, e4]) (s1 : NoStr #[a0, a1, a2, a3]) (s3 : NoStr #[e0, e1, e2, e3, e4]) (hne : b3 ≠ b1)
    (hd : DkAt W W.heap.size (.agg #[.slice A n c, .slice A' n' c', .int .i64 x.fuse, .bool x.down]) x) (hc : ColK 2 pairC W W.heap.size A5 n5 m) (hb : Below w.heap.size w W) (h1 : w.heap.size ≤ b1) (h3 : w.heap.size ≤ b3) :
    AlK w x A A' n c n' c' b1 b3 z0 z1 z2 z3 A5 n5 c5 m (stored5 (stored4 W b1 (.slice A n c) (.slice A' n' c') (.int .i64 x.fuse) (.bool x.down)) b3 (.int .i64 z0) (.int .i64 z1) (.int .i64 z2) (.int .i64 z3) (.slice A5 n5 c5)) := by
  have hl : LiesS w b1 b3 A A' n c n' c' x z0 z1 z2 z3 A5 n5 c5 _ := two_boxesS z0 z1 z2 z3 A5 n5 c5 k1 k3 hne hd hb h1 h3
  exact ⟨hl.1, hl.2.1, hl.2.2.1, col_stored5 (col_stored4 hc b1 (col_apart hc k1 s1) _ _ _ _) b3 (col_apart hc k3 s3) _ _ _ _ _, hl.2.2.2⟩
theorem chgs_fresh (w : World) (t : TypeId) (l : List Chg) : ColK 3 chgC (w.alloc (.cells (l.flatMap chgC).toArray t)) (w.alloc (.cells (l.flatMap chgC).toArray t)).heap.size (some ⟨w.heap.size, 0, none⟩) l.length l := by
  refine ⟨rfl, fun _ => ⟨w.heap.size, 0, rfl, by simp, fun i a hi j v hv => ?_⟩⟩
  rw [cell_of_row _ _ _ _ _ _ (heap_alloc_new w _), List.getElem?_toArray, Nat.zero_add]
  exact flat_get (f := chgC) chgC_len l i a hi j v hv
set_option maxRecDepth 100000 in
set_option maxHeartbeats 8000000 in
theorem alive06_any (w : World) (ht : Tab w) : Calls Tryz.prog 5 #[] w fun e w' => e = .returned (.bool true) ∧ Below w.heap.size w w' := by
  have HT := Lib.hid ht
  clear ht
  go_enter Tryz.func5, Tryz.ntmps5
  go_wp2_with fail
  have hnew := rnew_any 40 w
  rw [show newM 40 = (freshD 40, 0) from newM_fresh (n := 40) (by omega)] at hnew
  have hF0 := fresh_fine (n := 40) (by omega)
  obtain ⟨x0, hx0⟩ : ∃ x, freshD 40 = x := ⟨_, rfl⟩
  rw [hx0] at hnew hF0
  have HF0 := Lib.hid hF0
  clear hx0 hF0
  refine hnew.mono ?_
  clear hnew
  intro e w1 hres
  obtain ⟨A0, n0, c0, A0', n0', c0', rfl, hd1, hb1⟩ := hres.zero
  simp only at hd1
  have HB1 := Lib.hid hb1
  have HD1 := Lib.hid hd1
  clear hres hb1 hd1
  simp only
  go_wp2_with fail
  obtain ⟨b1, hb1⟩ : ∃ b, b = w1.heap.size := ⟨_, rfl⟩
  have hl1 : w.heap.size ≤ b1 := by have := HB1.out.size; omega
  refine calls_over (fun W => Bk W b1 45 #[.slice A0 n0 c0, .slice A0' n0' c0', .int .i64 x0.fuse, .bool x0.down] ∧ DkAt W W.heap.size (.agg #[.slice A0 n0 c0, .slice A0' n0' c0', .int .i64 x0.fuse, .bool x0.down]) x0 ∧ Below w.heap.size w W) ⟨by rw [hb1]; exact Bk.new w1 _ _, HD1.out.later ((Below.refl _ _).alloc (Nat.le_refl _) _), HB1.out.alloc HB1.out.size _⟩ ?_
  rw [← hb1]
  clear hb1 HB1 HD1
  rintro W2 ⟨k1, hd2, hbw⟩
  refine (kformat_fine _ x0 W2 hd2 HF0.out (by omega) (HT.out.below hbw HT.out.pos)).mono ?_
  rintro e W3 ⟨x1, hF1, hZ1, v3, rfl, hd3, hb3⟩
  obtain ⟨A1, n1, c1, A1', n1', c1', rfl, hx3⟩ := hd3
  have hd3 : DkAt W3 W3.heap.size (.agg #[.slice A1 n1 c1, .slice A1' n1' c1', .int .i64 x1.fuse, .bool x1.down]) x1 := ⟨A1, n1, c1, A1', n1', c1', rfl, hx3⟩
  have HK1 := Lib.hid (k1.below hb3 k1.lt)
  have HD3 := Lib.hid hd3
  have HBW := Lib.hid (hbw.trans (hb3.mono hbw.size))
  have HF1 := Lib.hid hF1
  have HZ1 := Lib.hid hZ1
  clear hx3 hd3 k1 hd2 hbw hb3 hF1 hZ1 HF0
  go_wp2_with ((with_reducible show wpList _ _ _ (⟨none, .store 45 _ _, _, _, _, _⟩ :: _) _ _); refine hold ?_)
  obtain ⟨b3, hb3⟩ : ∃ b, b = W3.heap.size := ⟨_, rfl⟩
  have hl3 : w.heap.size ≤ b3 := by have := HBW.out.size; omega
  have hn31 : b3 ≠ b1 := by have := HK1.out.lt; omega
  have hba : Below W3.heap.size W3 (W3.alloc (.cells #[.int .i64 0, .int .i64 0, .int .i64 0, .int .i64 0, .slice none 0 0] 31)) := (Below.refl _ _).alloc (Nat.le_refl _) _
  refine list_over (fun W => Bk W b1 45 #[.slice A0 n0 c0, .slice A0' n0' c0', .int .i64 x0.fuse, .bool x0.down] ∧ Bk W b3 31 #[.int .i64 0, .int .i64 0, .int .i64 0, .int .i64 0, .slice none 0 0] ∧ DkAt W W.heap.size (.agg #[.slice A1 n1 c1, .slice A1' n1' c1', .int .i64 x1.fuse, .bool x1.down]) x1 ∧ Below w.heap.size w W) ⟨HK1.out.below hba HK1.out.lt, by rw [hb3]; exact Bk.new W3 _ _, HD3.out.later hba, HBW.out.trans (hba.mono HBW.out.size)⟩ ?_
  rw [← hb3]
  clear hb3 hba HK1 HD3 HBW
  rintro W4 ⟨k1, k3, hd4, hbw⟩
  have HS := Lib.hid (al_stored (z0 := 0) (z1 := 1) (z2 := 2) (z3 := 1) (A5 := none) (c5 := 0) k1 k3 noStr4 noStr5 hn31 hd4 ColK.nil hbw hl1 hl3)
  unfold stored5 stored4 at HS
  obtain ⟨⟨p0, p1, p2, p3⟩, q0, q1, q2, q3⟩ := k1.four
  obtain ⟨⟨v0, v1, v2, v3, v4⟩, y0, y1, y2, y3, y4⟩ := k3.five
  clear k1 k3 hd4 hbw
  refine held ?_
  go_wp2_with ((with_reducible show wpList _ _ _ (⟨some 23, _, _, _, _, _⟩ :: _) _ _); refine hold ?_)
  refine list_over _ HS.out ?_
  clear HS p0 p1 p2 p3 q0 q1 q2 q3 v0 v1 v2 v3 v4 y0 y1 y2 y3 y4
  intro W5 h5
  have H5 := Lib.hid h5
  obtain ⟨⟨p0, p1, p2, p3⟩, q0, q1, q2, q3⟩ := h5.k1.four
  obtain ⟨⟨v0, v1, v2, v3, v4⟩, y0, y1, y2, y3, y4⟩ := h5.k3.five
  clear h5
  refine held ?_
  go_wp2_with fail
  refine calls_over (fun W => AlK w x1 A1 A1' n1 c1 n1' c1' b1 b3 0 1 2 1 none 0 0 [] W ∧ ColK 3 chgC W W.heap.size (some ⟨W5.heap.size, 0, none⟩) 2 cs1) ⟨H5.out.below ((Below.refl _ _).alloc (Nat.le_refl _) _), chgs_fresh W5 _ cs1⟩ ?_
  clear p0 p1 p2 p3 q0 q1 q2 q3 v0 v1 v2 v3 v4 y0 y1 y2 y3 y4 H5
  rintro Va ⟨h6, hcs⟩
  have hcm := kcommit_any (n := 40) _ x1 0 1 (snapL []) none 0 0 [] _ 2 2 cs1 Va h6.hd HF1.out.rest HZ1.out (by omega) (HT.out.below h6.hb HT.out.pos) h6.hc ok0 hcs (by omega) (by decide)
  rw [sum0.1, sum0.2] at hcm
  rw [show ((0 : Nat) : Int) = 0 from rfl, show ((1 : Nat) : Int) = 1 from rfl, show ((2 : Nat) : Int) = 2 from rfl] at hcm
  refine hcm.mono ?_
  clear hcm hcs
  intro e Vb hways
  rcases hways with ⟨hno, _⟩ | ⟨x2, h2, g2, L2, A8, n8, c8, m, hR2, hfx, hZ2, hg2, _, hPm, hLm, hL2, hcol, hres⟩ | ⟨hfd, _⟩
  · exact absurd hno goes1
  rotate_left
  · exact absurd HF1.out.2.2.2.1 hfd
  obtain rfl : m = ps1 := hLm.unique lists1
  obtain ⟨v5, rfl, hd5, hb5⟩ := hres
  obtain ⟨A2, n2, c2, A2', n2', c2', rfl, hx5⟩ := hd5
  have hd5 : DkAt Vb Vb.heap.size (.agg #[.slice A2 n2 c2, .slice A2' n2' c2', .int .i64 x2.fuse, .bool x2.down]) x2 := ⟨A2, n2, c2, A2', n2', c2', rfl, hx5⟩
  have HF2 := Lib.hid (hR2.fine (hfx HF1.out.2.2.2.1))
  have HZ2 := Lib.hid hZ2
  have HG2 := Lib.hid hg2
  have HP2 : Hid (PlayOk L2 ps1) := Lib.hid (play_step play0 chg1 ok1 lists1 hL2)
  have HL2 := Lib.hid hL2
  have HN2 : Hid (n8 = ps1.length) := Lib.hid hcol.1.symm
  have h6b := h6.below hb5
  have HS := Lib.hid (al_stored (z0 := (h2 : Int)) (z1 := (g2 : Int)) (z2 := ((sumT L2 : Nat) : Int)) (z3 := ((L2.length : Nat) : Int)) (c5 := c8) h6b.k1 h6b.k3 noStr4 noStr5 hn31 hd5 hcol h6b.hb hl1 hl3)
  unfold stored5 stored4 at HS
  obtain ⟨⟨p0, p1, p2, p3⟩, q0, q1, q2, q3⟩ := h6b.k1.four
  obtain ⟨⟨v0, v1, v2, v3, v4⟩, y0, y1, y2, y3, y4⟩ := h6b.k3.five
  clear h6 h6b hR2 hfx hZ2 hg2 hPm hLm hL2 hcol hx5 hd5 hb5 HF1 HZ1
  go_wp2_with ((with_reducible show wpList _ _ _ (⟨some 33, _, _, _, _, _⟩ :: _) _ _); refine hold ?_)
  refine list_over _ HS.out ?_
  clear HS p0 p1 p2 p3 q0 q1 q2 q3 v0 v1 v2 v3 v4 y0 y1 y2 y3 y4
  intro Vc h5
  have H2 := Lib.hid h5
  obtain ⟨⟨p0, p1, p2, p3⟩, q0, q1, q2, q3⟩ := h5.k1.four
  obtain ⟨⟨v0, v1, v2, v3, v4⟩, y0, y1, y2, y3, y4⟩ := h5.k3.five
  clear h5
  refine held ?_
  go_wp2_with fail
  refine calls_over (fun W => AlK w x2 A2 A2' n2 c2 n2' c2' b1 b3 (h2 : Int) (g2 : Int) ((sumT L2 : Nat) : Int) ((L2.length : Nat) : Int) A8 n8 c8 ps1 W ∧ ColK 3 chgC W W.heap.size (some ⟨Vc.heap.size, 0, none⟩) 1 cs2) ⟨H2.out.below ((Below.refl _ _).alloc (Nat.le_refl _) _), chgs_fresh Vc _ cs2⟩ ?_
  clear p0 p1 p2 p3 q0 q1 q2 q3 v0 v1 v2 v3 v4 y0 y1 y2 y3 y4 H2
  rintro Ua ⟨h6, hcs⟩
  have hcm := kcommit_any (n := 40) _ x2 h2 g2 L2 A8 n8 c8 ps1 _ 1 1 cs2 Ua h6.hd HF2.out.rest HZ2.out (by have := HG2.out; omega) (HT.out.below h6.hb HT.out.pos) h6.hc ok1 hcs (by omega) (by decide)
  skip
  refine hcm.mono ?_
  clear hcm hcs
  intro e Ub hways
  rcases hways with ⟨hno, _⟩ | ⟨x3, h3, g3, L3, A9, n9, c9, m, hR2, hfx, hZ2, hg2, _, hPm, hLm, hL2, hcol, hres⟩ | ⟨hfd, _⟩
  · exact absurd hno (goes2 HL2.out)
  rotate_left
  · exact absurd HF2.out.2.2.2.1 hfd
  obtain rfl : m = ps2 := hLm.unique lists2
  obtain ⟨v5, rfl, hd5, hb5⟩ := hres
  obtain ⟨A3, n3, c3, A3', n3', c3', rfl, hx5⟩ := hd5
  have hd5 : DkAt Ub Ub.heap.size (.agg #[.slice A3 n3 c3, .slice A3' n3' c3', .int .i64 x3.fuse, .bool x3.down]) x3 := ⟨A3, n3, c3, A3', n3', c3', rfl, hx5⟩
  have HF3 := Lib.hid (hR2.fine (hfx HF2.out.2.2.2.1))
  have HZ3 := Lib.hid hZ2
  have HG3 := Lib.hid hg2
  have HP3 : Hid (PlayOk L3 ps2) := Lib.hid (play_step HP2.out chg2 ok2 lists2 hL2)
  have HL3 := Lib.hid hL2
  have HN3 : Hid (n9 = ps2.length) := Lib.hid hcol.1.symm
  have h6b := h6.below hb5
  have HS := Lib.hid (al_stored (z0 := (h3 : Int)) (z1 := (g3 : Int)) (z2 := ((sumT L3 : Nat) : Int)) (z3 := ((L3.length : Nat) : Int)) (c5 := c9) h6b.k1 h6b.k3 noStr4 noStr5 hn31 hd5 hcol h6b.hb hl1 hl3)
  unfold stored5 stored4 at HS
  obtain ⟨⟨p0, p1, p2, p3⟩, q0, q1, q2, q3⟩ := h6b.k1.four
  obtain ⟨⟨v0, v1, v2, v3, v4⟩, y0, y1, y2, y3, y4⟩ := h6b.k3.five
  clear h6 h6b hR2 hfx hZ2 hg2 hPm hLm hL2 hcol hx5 hd5 hb5 HF2 HZ2
  go_wp2_with ((with_reducible show wpList _ _ _ (⟨some 42, _, _, _, _, _⟩ :: _) _ _); refine hold ?_)
  refine list_over _ HS.out ?_
  clear HS p0 p1 p2 p3 q0 q1 q2 q3 v0 v1 v2 v3 v4 y0 y1 y2 y3 y4
  intro Uc h5
  have H3 := Lib.hid h5
  obtain ⟨⟨p0, p1, p2, p3⟩, q0, q1, q2, q3⟩ := h5.k1.four
  obtain ⟨⟨v0, v1, v2, v3, v4⟩, y0, y1, y2, y3, y4⟩ := h5.k3.five
  clear h5
  refine held ?_
  go_wp2_with fail
  refine (kopen_any (n := 40) _ x3 h3 g3 L3 ps2 Uc H3.out.hd HF3.out.rest HZ3.out.holds (by have h1 := HG3.out; have h2 := HG2.out; omega) (HT.out.below H3.out.hb HT.out.pos) HP3.out (HZ3.out.holds.len HF3.out.2.1 HF3.out.1)).mono ?_
  intro e T1 hways
  rcases hways with ⟨x4, A7, n7, c7, hR4, hfx, hZ4, hcol, hres⟩ | ⟨hfd, _⟩
  rotate_left
  · exact absurd HF3.out.2.2.2.1 hfd
  obtain ⟨v6, rfl, hd6, hb6⟩ := hres
  obtain ⟨A4, n4, c4, A4', n4', c4', rfl, hx6⟩ := hd6
  have hd6 : DkAt T1 T1.heap.size (.agg #[.slice A4 n4 c4, .slice A4' n4' c4', .int .i64 x4.fuse, .bool x4.down]) x4 := ⟨A4, n4, c4, A4', n4', c4', rfl, hx6⟩
  have HO := Lib.hid (H3.out.below hb6)
  have HD6 := Lib.hid hd6
  have HCOL := Lib.hid hcol
  have HN7 : Hid (n7 = 1) := Lib.hid hcol.1.symm
  clear hx6 hd6 hb6 hcol hR4 hfx hZ4 p0 p1 p2 p3 q0 q1 q2 q3 v0 v1 v2 v3 v4 y0 y1 y2 y3 y4 H3
  go_wp2_with ((with_reducible show wpList _ _ _ (⟨none, .store 45 _ _, _, _, _, _⟩ :: _) _ _); refine hold ?_)
  obtain ⟨b7, hb7⟩ : ∃ b, b = T1.heap.size := ⟨_, rfl⟩
  obtain ⟨b8, hb8⟩ : ∃ b, b = T1.heap.size + 1 := ⟨_, rfl⟩
  have hl7 : w.heap.size ≤ b7 := by have := HO.out.hb.size; omega
  have hl8 : w.heap.size ≤ b8 := by omega
  have hn87 : b8 ≠ b7 := by omega
  have h37 : b3 ≠ b7 := by have := HO.out.k3.lt; omega
  have h38 : b3 ≠ b8 := by have := HO.out.k3.lt; omega
  have hba : Below T1.heap.size T1 ((T1.alloc (.cells #[.slice none 0 0, .slice none 0 0, .int .i64 0, .bool false] 45)).alloc (.cells #[.int .i64 0, .int .i64 0, .int .i64 0, .int .i64 0, .slice none 0 0] 31)) := ((Below.refl _ _).alloc (Nat.le_refl _) _).alloc (by simp) _
  refine list_over (fun W => Bk W b3 31 #[.int .i64 (h3 : Int), .int .i64 (g3 : Int), .int .i64 ((sumT L3 : Nat) : Int), .int .i64 ((L3.length : Nat) : Int), .slice A9 n9 c9] ∧ Bk W b7 45 #[.slice none 0 0, .slice none 0 0, .int .i64 0, .bool false] ∧ Bk W b8 31 #[.int .i64 0, .int .i64 0, .int .i64 0, .int .i64 0, .slice none 0 0] ∧ DkAt W W.heap.size (.agg #[.slice A4 n4 c4, .slice A4' n4' c4', .int .i64 x4.fuse, .bool x4.down]) x4 ∧ ColK 2 pairC W W.heap.size A7 n7 ps2 ∧ Below w.heap.size w W) ⟨HO.out.k3.below hba HO.out.k3.lt, by rw [hb7]; exact (Bk.new T1 _ _).alloc _, by rw [hb8]; exact Bk.new2 T1 _ _ _, HD6.out.later hba, HCOL.out.later hba, HO.out.hb.trans (hba.mono HO.out.hb.size)⟩ ?_
  rw [← hb8, ← hb7]
  clear hb7 hb8 hba HO HD6 HCOL
  rintro T2 ⟨k3, k7, k8, hd6, hcol, hbw⟩
  have hf7 := stored4_facts k7 (.slice A4 n4 c4) (.slice A4' n4' c4') (.int .i64 x4.fuse) (.bool x4.down)
  have hf8 := stored5_facts (hf7.2.2.2 _ _ _ hn87 k8) (.int .i64 ((1 - h3 : Nat) : Int)) (.int .i64 ((g3 + 1 : Nat) : Int)) (.int .i64 ((sumT L3 : Nat) : Int)) (.int .i64 ((L3.length : Nat) : Int)) (.slice A7 n7 c7)
  have HS : Hid ((fun W => AlK w x4 A4 A4' n4 c4 n4' c4' b7 b8 ((1 - h3 : Nat) : Int) ((g3 + 1 : Nat) : Int) ((sumT L3 : Nat) : Int) ((L3.length : Nat) : Int) A7 n7 c7 ps2 W ∧ Bk W b3 31 #[.int .i64 (h3 : Int), .int .i64 (g3 : Int), .int .i64 ((sumT L3 : Nat) : Int), .int .i64 ((L3.length : Nat) : Int), .slice A9 n9 c9]) (stored5 (stored4 T2 b7 (.slice A4 n4 c4) (.slice A4' n4' c4') (.int .i64 x4.fuse) (.bool x4.down)) b8 (.int .i64 ((1 - h3 : Nat) : Int)) (.int .i64 ((g3 + 1 : Nat) : Int)) (.int .i64 ((sumT L3 : Nat) : Int)) (.int .i64 ((L3.length : Nat) : Int)) (.slice A7 n7 c7))) := Lib.hid ⟨al_stored k7 k8 noStr4 noStr5 hn87 hd6 hcol hbw hl7 hl8, hf8.2.2.2 _ _ _ h38 (hf7.2.2.2 _ _ _ h37 k3)⟩
  unfold stored5 stored4 at HS
  obtain ⟨⟨p0, p1, p2, p3⟩, q0, q1, q2, q3⟩ := k7.four
  obtain ⟨⟨v0, v1, v2, v3, v4⟩, y0, y1, y2, y3, y4⟩ := k8.five
  clear k3 k7 k8 hd6 hcol hbw hf7 hf8
  refine held ?_
  go_wp2_with ((with_reducible show wpList _ _ _ (⟨some 48, _, _, _, _, _⟩ :: _) _ _); refine hold ?_)
  refine list_over (fun W => AlK w x4 A4 A4' n4 c4 n4' c4' b7 b8 ((1 - h3 : Nat) : Int) ((g3 + 1 : Nat) : Int) ((sumT L3 : Nat) : Int) ((L3.length : Nat) : Int) A7 n7 c7 ps2 W ∧ Bk W b3 31 #[.int .i64 (h3 : Int), .int .i64 (g3 : Int), .int .i64 ((sumT L3 : Nat) : Int), .int .i64 ((L3.length : Nat) : Int), .slice A9 n9 c9]) HS.out ?_
  clear HS p0 p1 p2 p3 q0 q1 q2 q3 v0 v1 v2 v3 v4 y0 y1 y2 y3 y4
  rintro T3 ⟨h7, k3⟩
  have H7 := Lib.hid h7
  have HK3 := Lib.hid k3
  obtain ⟨⟨v0, v1, v2, v3, v4⟩, _⟩ := h7.k3.five
  clear h7 k3
  refine held ?_
  go_wp2_with fail
  have hget := get_any (.int .i64 ((1 - h3 : Nat) : Int)) (.int .i64 ((g3 + 1 : Nat) : Int)) (.int .i64 ((sumT L3 : Nat) : Int)) (.int .i64 ((L3.length : Nat) : Int)) A7 n7 c7 ps2 ⟨#[98]⟩ T3 rfl rfl rfl rfl H7.out.hc (by rw [HN7.out]; omega)
  rw [show getR (fnOf ps2) ⟨#[98]⟩ = .tuple #[.string ⟨#[50]⟩, .bool true] from rfl] at hget
  refine hget.mono ?_
  clear hget v0 v1 v2 v3 v4
  rintro e T4 ⟨rfl, hb9⟩
  have z8 := (H7.out.k3.below hb9 H7.out.k3.lt).cell 4
  have z3 := (HK3.out.below hb9 HK3.out.lt).cell 4
  have HBE := Lib.hid (H7.out.hb.trans (hb9.mono H7.out.hb.size))
  have e9 : ((n9 : Int) == 1) = true := by rw [HN3.out]; rfl
  have e7 : ((n7 : Int) == 1) = true := by rw [HN7.out]; rfl
  clear hb9 H7 HK3
  go_wp2_with fail
  go_ret
  exact ⟨rfl, HBE.out⟩
end Go.Proofs.YthflljlilcmcnaaGreatDoor
