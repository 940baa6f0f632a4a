/-
  A part of the proof: see the last text.
-/
import Derived.Test.YtbogjfbfgbhdbaaGreatDoorSBoxDr
import Derived.Test.YtbogjfbfgbhdbaaGreatDoorSBoxF
import Derived.BigRegion
namespace Go.Proofs.YtbogjfbfgbhdbaaGreatDoor
set_option linter.unusedVariables false
set_option linter.unusedSimpArgs false
open Go.RowKit
set_option linter.unusedVariables false
set_option linter.unusedSimpArgs false
theorem results_cell2 {P : Program} {fn : Func} {p q : Tmp} {t1 : TypeId} (h : fn.results = #[.cell p t1, .tmp q]) (tmps : Array Value) (w : World) (a1 : Addr) (v1 v2 : Value)
    (hp : tmps.getD p undef = .pointer (some a1)) (hq : tmps.getD q undef = v2) (h1 : (loadVar t1 a1).run P w = .ok v1 w) :
    (results fn tmps).run P w = .ok (.tuple #[v1, v2]) w := by
  have hp' : tmps[p]?.getD undef = .pointer (some a1) := by simpa using hp
  have hq' : tmps[q]?.getD undef = v2 := by simpa using hq
  simp [results, h, hp', hq', asAddr, h1]
theorem results_cell3 {P : Program} {fn : Func} {p q r : Tmp} {t1 : TypeId} (h : fn.results = #[.cell p t1, .tmp q, .tmp r]) (tmps : Array Value) (w : World) (a1 : Addr) (v1 v2 v3 : Value)
    (hp : tmps.getD p undef = .pointer (some a1)) (hq : tmps.getD q undef = v2) (hr : tmps.getD r undef = v3) (h1 : (loadVar t1 a1).run P w = .ok v1 w) :
    (results fn tmps).run P w = .ok (.tuple #[v1, v2, v3]) w := by
  have hp' : tmps[p]?.getD undef = .pointer (some a1) := by simpa using hp
  have hq' : tmps[q]?.getD undef = v2 := by simpa using hq
  have hr' : tmps[r]?.getD undef = v3 := by simpa using hr
  simp [results, h, hp', hq', hr', asAddr, h1]
theorem Bk.keptM {w w' : World} {base b n c : Nat} {A : Option Addr} {l : List Mg} {t : TypeId} {cs : Array Value} (h : Bk w b t cs) (ho : OwnM w base A n c l) (ht : 49 ≠ t) (hg : w.grownBy w' (Value.slice A n c).ownBlock) : Bk w' b t cs := by
  obtain ⟨hs, h1, _, _⟩ := ho
  exact (hg.block b h.lt (fun e => ownsB_type h1.1 ht b cs (0, 0) e.symm h)).trans h
def AddIs (b : Bx) (m : Mg) (w : World) (e : Ending) (w' : World) : Prop :=
  ∃ (A' : Option Addr) (n' c' : Nat), e = .returned (.tuple #[.agg #[.string (addB b m).name, .int .i64 (addB b m).valid, .int .i64 (addB b m).next, .slice A' n' c'], .int .i64 (addN b m), .int .i64 (addE b m)]) ∧ MsgsIn w' w'.heap.size A' n' (addB b m).msgs ∧ Below w.heap.size w w'
theorem AddIs.no {b : Bx} {m : Mg} {w w' : World} {A' : Option Addr} {n' c' : Nat} {z : Int} (h : addE b m = z) (hz : z ≠ 0) (hm : MsgsIn w' w'.heap.size A' n' b.msgs) (hb : Below w.heap.size w w') : AddIs b m w (.returned (.tuple #[.agg #[.string b.name, .int .i64 b.valid, .int .i64 b.next, .slice A' n' c'], .int .i64 0, .int .i64 z])) w' := by
  have hn := addB_no (b := b) (m := m) (by rw [h]; exact hz)
  refine ⟨A', n', c', ?_, by rw [hn.1]; exact hm, hb⟩
  rw [hn.1, hn.2, h]
theorem AddIs.yes {b : Bx} {m : Mg} {w w' : World} {A' : Option Addr} {n' c' : Nat} (h : addE b m = 0) (hm : MsgsIn w' w'.heap.size A' n' (b.msgs ++ [{ m with uid := b.next }])) (hb : Below w.heap.size w w') : AddIs b m w (.returned (.tuple #[.agg #[.string b.name, .int .i64 b.valid, .int .i64 (b.next + 1), .slice A' n' c'], .int .i64 b.next, .int .i64 0])) w' := by
  have hn := addB_ok (b := b) (m := m) h
  refine ⟨A', n', c', ?_, by rw [hn.1]; exact hm, hb⟩
  rw [hn.1, hn.2, h]
def AddO (b : Bx) (m : Mg) (w : World) (e : Ending) (w' : World) : Prop :=
  ∃ (A' : Option Addr) (n' c' : Nat), e = .returned (.tuple #[.agg #[.string (addB b m).name, .int .i64 (addB b m).valid, .int .i64 (addB b m).next, .slice A' n' c'], .int .i64 (addN b m), .int .i64 (addE b m)]) ∧ MsgsIn w' w'.heap.size A' n' (addB b m).msgs ∧ Below w.heap.size w w' ∧ (addE b m = 0 → OwnM w' w.heap.size A' n' c' (addB b m).msgs)
theorem AddO.is {b : Bx} {m : Mg} {w w' : World} {e : Ending} (h : AddO b m w e w') : AddIs b m w e w' := by
  obtain ⟨A', n', c', h1, h2, h3, _⟩ := h
  exact ⟨A', n', c', h1, h2, h3⟩
theorem AddO.no {b : Bx} {m : Mg} {w w' : World} {A' : Option Addr} {n' c' : Nat} {z : Int} (h : addE b m = z) (hz : z ≠ 0) (hm : MsgsIn w' w'.heap.size A' n' b.msgs) (hb : Below w.heap.size w w') : AddO b m w (.returned (.tuple #[.agg #[.string b.name, .int .i64 b.valid, .int .i64 b.next, .slice A' n' c'], .int .i64 0, .int .i64 z])) w' := by
  have hn := addB_no (b := b) (m := m) (by rw [h]; exact hz)
  refine ⟨A', n', c', ?_, by rw [hn.1]; exact hm, hb, fun h0 => absurd (h.symm.trans h0) hz⟩
  rw [hn.1, hn.2, h]
theorem AddO.yes {b : Bx} {m : Mg} {w w' : World} {A' : Option Addr} {n' c' : Nat} (h : addE b m = 0) (hm : OwnM w' w.heap.size A' n' c' (b.msgs ++ [{ m with uid := b.next }])) (hs : ∀ x ∈ b.msgs ++ [{ m with uid := b.next }], x.body.length ≤ 140737488355328) (hb : Below w.heap.size w w') : AddO b m w (.returned (.tuple #[.agg #[.string b.name, .int .i64 b.valid, .int .i64 (b.next + 1), .slice A' n' c'], .int .i64 b.next, .int .i64 0])) w' := by
  have hn := addB_ok (b := b) (m := m) h
  refine ⟨A', n', c', ?_, by rw [hn.1]; exact hm.msgs hs, hb, fun _ => by rw [hn.1]; exact hm⟩
  rw [hn.1, hn.2, h]
def AddAt (w : World) (nm : ByteArray) (v nx : Int) (A : Option Addr) (n c : Nat) (u f d : Int) (xA : Option Addr) (xn xc : Nat) (wx : World) : Prop :=
  Bk wx w.heap.size 44 #[.string nm, .int .i64 v, .int .i64 nx, .slice A n c] ∧ Bk wx (w.heap.size + 1) 49 #[.int .i64 u, .int .i64 f, .int .i64 d, .slice xA xn xc] ∧ Bk wx (w.heap.size + 1 + 1) 44 #[.string ⟨#[]⟩, .int .i64 0, .int .i64 0, .slice none 0 0] ∧ Below w.heap.size w wx ∧ w.heap.size + 3 ≤ wx.heap.size
theorem AddAt.below {w wx W : World} {nm : ByteArray} {v nx : Int} {A : Option Addr} {n c : Nat} {u f d : Int} {xA : Option Addr} {xn xc : Nat} (h : AddAt w nm v nx A n c u f d xA xn xc wx) (hb : Below wx.heap.size wx W) : AddAt w nm v nx A n c u f d xA xn xc W := by
  obtain ⟨h1, h2, h3, h4, h5⟩ := h
  exact ⟨h1.below hb h1.lt, h2.below hb h2.lt, h3.below hb h3.lt, h4.trans (hb.mono h4.size), Nat.le_trans h5 hb.size⟩
theorem AddAt.uid {w wx : World} {nm : ByteArray} {v nx : Int} {A : Option Addr} {n c : Nat} {u f d : Int} {xA : Option Addr} {xn xc : Nat} (h : AddAt w nm v nx A n c u f d xA xn xc wx) (z : Int) : AddAt w nm v nx A n c z f d xA xn xc (wx.setCell ⟨w.heap.size + 1, 0, none⟩ (.int .i64 z)) := by
  obtain ⟨h1, h2, h3, h4, h5⟩ := h
  exact ⟨h1.far (show w.heap.size ≠ w.heap.size + 1 by omega) _, by simpa using h2.put 0 (.int .i64 z), h3.far (show w.heap.size + 1 + 1 ≠ w.heap.size + 1 by omega) _, h4.setCell (show w.heap.size ≤ w.heap.size + 1 by omega) _, by simpa [World.setCell] using h5⟩
theorem AddAt.put {w wx : World} {nm : ByteArray} {v nx : Int} {A : Option Addr} {n c : Nat} {u f d : Int} {xA : Option Addr} {xn xc : Nat} (h : AddAt w nm v nx A n c u f d xA xn xc wx) (z z' : Int) (yA : Option Addr) (yn yc : Nat) :
    AddAt w nm v nx A n c z' f d yA yn yc (((((wx.setCell ⟨w.heap.size + 1, 0, none⟩ (.int .i64 z)).setCell ⟨w.heap.size + 1, 1, none⟩ (.int .i64 f)).setCell ⟨w.heap.size + 1, 2, none⟩ (.int .i64 d)).setCell ⟨w.heap.size + 1, 3, none⟩ (.slice yA yn yc)).setCell ⟨w.heap.size + 1, 0, none⟩ (.int .i64 z')) := by
  obtain ⟨h1, h2, h3, h4, h5⟩ := h
  have hg := grown_trans (grown_put4 wx (w.heap.size + 1) (.int .i64 z) (.int .i64 f) (.int .i64 d) (.slice yA yn yc)) (grownBy_cell _ (w.heap.size + 1) 0 (.int .i64 z'))
  exact ⟨h1.grown hg (by omega), by simpa using (h2.put4 (.int .i64 z) (.int .i64 f) (.int .i64 d) (.slice yA yn yc)).put 0 (.int .i64 z'), h3.grown hg (by omega), (below_put4 h4 (by omega) _ _ _ _).setCell (show w.heap.size ≤ w.heap.size + 1 by omega) _, by simpa [World.setCell] using h5⟩
theorem AddAt.below3 {w wx W : World} {nm : ByteArray} {v nx : Int} {A : Option Addr} {n c : Nat} {u f d : Int} {xA : Option Addr} {xn xc : Nat} (h : AddAt w nm v nx A n c u f d xA xn xc wx) (hb : Below (w.heap.size + 3) wx W) : AddAt w nm v nx A n c u f d xA xn xc W := by
  obtain ⟨h1, h2, h3, h4, h5⟩ := h
  exact ⟨h1.below hb (by omega), h2.below hb (by omega), h3.below hb (by omega), h4.trans (hb.mono (by omega)), Nat.le_trans h5 hb.size⟩
theorem below_cell {B : Nat} {w : World} {b : Nat} (hb : B ≤ b) (i : Nat) (v : Value) : Below B w (w.setCell ⟨b, i, none⟩ v) := (Below.refl B w).setCell hb v
set_option maxRecDepth 20000 in
set_option maxHeartbeats 8000000 in
theorem add_anyO (nm : ByteArray) (v nx : Int) (A : Option Addr) (n c : Nat) (l : List Mg) (u f d : Int) (xA : Option Addr) (xn xc : Nat) (bl : List Nat) (w : World) (hl : MsgsIn w w.heap.size A n l) (hn : n ≤ 1000000) (hsm : ∀ m ∈ l, m.body.length ≤ 1000000) (hx : Bytes w w.heap.size xA xn bl) (hxn : xn ≤ 140737488355328) :
    Calls Tryz.prog 167 #[.agg #[.string nm, .int .i64 v, .int .i64 nx, .slice A n c], .agg #[.int .i64 u, .int .i64 f, .int .i64 d, .slice xA xn xc]] w (AddO ⟨nm, v, nx, l⟩ ⟨u, f, d, bl⟩ w) := by
  have hB : Below w.heap.size w (((w.alloc (.cells #[.string nm, .int .i64 v, .int .i64 nx, .slice A n c] 44)).alloc (.cells #[.int .i64 u, .int .i64 f, .int .i64 d, .slice xA xn xc] 49)).alloc (.cells #[.string ⟨#[]⟩, .int .i64 0, .int .i64 0, .slice none 0 0] 44)) := (((Below.refl _ _).alloc (Nat.le_refl _) _).alloc (by simp) _).alloc (by simp; omega) _
  have hat : AddAt w nm v nx A n c u f d xA xn xc (((w.alloc (.cells #[.string nm, .int .i64 v, .int .i64 nx, .slice A n c] 44)).alloc (.cells #[.int .i64 u, .int .i64 f, .int .i64 d, .slice xA xn xc] 49)).alloc (.cells #[.string ⟨#[]⟩, .int .i64 0, .int .i64 0, .slice none 0 0] 44)) := ⟨((Bk.new _ _ _).alloc _).alloc _, (Bk.new2 _ _ _ _).alloc _, Bk.new3 _ _ _ _ _, hB, by simp⟩
  have HL := Lib.hid hl
  have HSM := Lib.hid hsm
  have HX := Lib.hid hx
  have HXL := Lib.hid hx.1
  have HZ : Hid ((((w.alloc (.cells #[.string nm, .int .i64 v, .int .i64 nx, .slice A n c] 44)).alloc (.cells #[.int .i64 u, .int .i64 f, .int .i64 d, .slice xA xn xc] 49)).alloc (.cells #[.string ⟨#[]⟩, .int .i64 0, .int .i64 0, .slice none 0 0] 44)).heap.size = w.heap.size + 3) := Lib.hid (by simp)
  have CC := Lib.hid (copy_any nm v nx A n c l _ (hl.later hB) hn hsm)
  have HAT := Lib.hid hat
  obtain ⟨⟨c0, c1, c2, c3⟩, -, -, -, -⟩ := hat.1.four
  clear hat hB hl hsm hx
  cases hok : okBx ⟨nm, v, nx, l⟩
  · have HE : Hid (addE ⟨nm, v, nx, l⟩ ⟨u, f, d, bl⟩ = 1) := Lib.hid (addE_arg (fun h => by rw [okBx_yes h.1] at hok; cases hok))
    have HOK := Lib.hid hok
    clear hok
    go_enter Tryz.func167, Tryz.ntmps167
    go_wp2_with fail
    refine CC.out.mono ?_
    rintro e w2 ⟨A', c', rfl, ho, hb⟩
    have hba : Below w2.heap.size w2 (w2.alloc (.cells #[.string nm, .int .i64 v, .int .i64 nx, .slice A' n c'] 44)) := (Below.refl _ _).alloc (Nat.le_refl _) _
    have hat2 := (HAT.out.below hb).below hba
    have HO2 := Lib.hid (((ho.from_ (show w.heap.size + 3 ≤ _ by rw [HZ.out]; exact Nat.le_refl _)).below hba).far (grownBy_cell _ (w.heap.size + 1) 0 (.int .i64 1)) (by omega))
    obtain ⟨bo, hbo⟩ : ∃ bo, w2.heap.size = bo := ⟨_, rfl⟩
    have hbl : w.heap.size + 3 ≤ bo := by have := hb.size; rw [HZ.out] at this; omega
    have HK2 : Hid (Bk ((w2.alloc (.cells #[.string nm, .int .i64 v, .int .i64 nx, .slice A' n c'] 44)).setCell ⟨w.heap.size + 1, 0, none⟩ (.int .i64 1)) bo 44 #[.string nm, .int .i64 v, .int .i64 nx, .slice A' n c']) := Lib.hid (by rw [← hbo] at hbl ⊢; exact (Bk.new _ _ _).far (show w2.heap.size ≠ w.heap.size + 1 by omega) _)
    have HAT2 := Lib.hid (hat2.uid 1)
    obtain ⟨⟨d0, d1, d2, d3⟩, -, -, -, -⟩ := hat2.1.four
    obtain ⟨⟨m0, m1, m2, m3⟩, n0, n1, n2, n3⟩ := hat2.2.1.four
    clear hat2 ho hb hba c0 c1 c2 c3 HAT CC HZ
    go_wp2_with fail
    try rw [hbo]
    clear hbo d0 d1 d2 d3 m0 m1 m2 m3 n0 n1 n2 n3
    generalize (w2.alloc (.cells #[.string nm, .int .i64 v, .int .i64 nx, .slice A' n c'] 44)).setCell ⟨w.heap.size + 1, 0, none⟩ (.int .i64 1) = W2 at *
    have hR := right_any nm v nx A n c l W2 (HL.out.later HAT2.out.2.2.2.1) (by omega)
    rw [HOK.out] at hR
    refine hR.mono ?_
    rintro e w3 ⟨rfl, hb3⟩
    have HAT3 := Lib.hid (HAT2.out.below hb3)
    have HO3 := Lib.hid (HO2.out.below hb3)
    have HK3 := Lib.hid (HK2.out.below hb3 HK2.out.lt)
    clear hb3 HAT2 hR HO2 HK2
    obtain ⟨⟨k0, k1, k2, k3⟩, -, -, -, -⟩ := HK3.out.four
    obtain ⟨⟨b0, b1, b2, b3⟩, -, -, -, -⟩ := HAT3.out.1.four
    obtain ⟨⟨r0, r1, r2, r3⟩, s0, s1, s2, s3⟩ := HAT3.out.2.2.1.four
    go_wp2_with fail
    refine bodyPost_ret (results_cell3 rfl _ _ ⟨w.heap.size + 1 + 1, 0, none⟩ _ _ _ rfl rfl rfl (Bk.box_ (Bk.put4 HAT3.out.2.2.1 _ _ _ _))) rfl (AddO.no (z := 1) HE.out (by omega) ?_ ?_)
    · exact (HO3.out.far (grown_put4 _ _ _ _ _ _) (by omega)).msgs (fun m hm => Nat.le_trans (HSM.out m hm) (by omega))
    · exact below_put4 HAT3.out.2.2.2.1 (by omega) _ _ _ _
  have HOKB := Lib.hid (okBx_iff.1 hok)
  have HOK := Lib.hid hok
  clear hok
  cases hmk : okMg ⟨1, f, d, bl⟩
  · have HE : Hid (addE ⟨nm, v, nx, l⟩ ⟨u, f, d, bl⟩ = 1) := Lib.hid (addE_arg (fun h => by have h2 := h.2; simp only at h2; rw [hmk] at h2; cases h2))
    have HMK := Lib.hid hmk
    clear hmk
    go_enter Tryz.func167, Tryz.ntmps167
    go_wp2_with fail
    refine CC.out.mono ?_
    rintro e w2 ⟨A', c', rfl, ho, hb⟩
    have hba : Below w2.heap.size w2 (w2.alloc (.cells #[.string nm, .int .i64 v, .int .i64 nx, .slice A' n c'] 44)) := (Below.refl _ _).alloc (Nat.le_refl _) _
    have hat2 := (HAT.out.below hb).below hba
    have HO2 := Lib.hid (((ho.from_ (show w.heap.size + 3 ≤ _ by rw [HZ.out]; exact Nat.le_refl _)).below hba).far (grownBy_cell _ (w.heap.size + 1) 0 (.int .i64 1)) (by omega))
    obtain ⟨bo, hbo⟩ : ∃ bo, w2.heap.size = bo := ⟨_, rfl⟩
    have hbl : w.heap.size + 3 ≤ bo := by have := hb.size; rw [HZ.out] at this; omega
    have HK2 : Hid (Bk ((w2.alloc (.cells #[.string nm, .int .i64 v, .int .i64 nx, .slice A' n c'] 44)).setCell ⟨w.heap.size + 1, 0, none⟩ (.int .i64 1)) bo 44 #[.string nm, .int .i64 v, .int .i64 nx, .slice A' n c']) := Lib.hid (by rw [← hbo] at hbl ⊢; exact (Bk.new _ _ _).far (show w2.heap.size ≠ w.heap.size + 1 by omega) _)
    have HAT2 := Lib.hid (hat2.uid 1)
    obtain ⟨⟨d0, d1, d2, d3⟩, -, -, -, -⟩ := hat2.1.four
    obtain ⟨⟨m0, m1, m2, m3⟩, n0, n1, n2, n3⟩ := hat2.2.1.four
    clear hat2 ho hb hba c0 c1 c2 c3 HAT CC HZ
    go_wp2_with fail
    try rw [hbo]
    clear hbo d0 d1 d2 d3 m0 m1 m2 m3 n0 n1 n2 n3
    generalize (w2.alloc (.cells #[.string nm, .int .i64 v, .int .i64 nx, .slice A' n c'] 44)).setCell ⟨w.heap.size + 1, 0, none⟩ (.int .i64 1) = W2 at *
    have hR := right_any nm v nx A n c l W2 (HL.out.later HAT2.out.2.2.2.1) (by omega)
    rw [HOK.out] at hR
    refine hR.mono ?_
    rintro e w3 ⟨rfl, hb3⟩
    have HAT3 := Lib.hid (HAT2.out.below hb3)
    have HO3 := Lib.hid (HO2.out.below hb3)
    have HK3 := Lib.hid (HK2.out.below hb3 HK2.out.lt)
    clear hb3 HAT2 hR HO2 HK2
    obtain ⟨⟨m0, m1, m2, m3⟩, -, -, -, -⟩ := HAT3.out.2.1.four
    go_wp2_with fail
    have hM := mayBe_any 1 f d xA xn xc bl w3 HXL.out hxn
    rw [HMK.out] at hM
    refine hM.mono ?_
    rintro e w4 ⟨rfl, hw4⟩
    have hb4 : Below w3.heap.size w3 w4 := by rw [hw4]; exact (Below.refl _ _).alloc (Nat.le_refl _) _
    have HAT4 := Lib.hid (HAT3.out.below hb4)
    have HO4 := Lib.hid (HO3.out.below hb4)
    have HK4 := Lib.hid (HK3.out.below hb4 HK3.out.lt)
    clear hb4 hw4 hM m0 m1 m2 m3 HAT3 HO3 HK3
    obtain ⟨⟨k0, k1, k2, k3⟩, -, -, -, -⟩ := HK4.out.four
    obtain ⟨⟨b0, b1, b2, b3⟩, -, -, -, -⟩ := HAT4.out.1.four
    obtain ⟨⟨r0, r1, r2, r3⟩, s0, s1, s2, s3⟩ := HAT4.out.2.2.1.four
    go_wp2_with fail
    refine bodyPost_ret (results_cell3 rfl _ _ ⟨w.heap.size + 1 + 1, 0, none⟩ _ _ _ rfl rfl rfl (Bk.box_ (Bk.put4 HAT4.out.2.2.1 _ _ _ _))) rfl (AddO.no (z := 1) HE.out (by omega) ?_ ?_)
    · exact (HO4.out.far (grown_put4 _ _ _ _ _ _) (by omega)).msgs (fun m hm => Nat.le_trans (HSM.out m hm) (by omega))
    · exact below_put4 HAT4.out.2.2.2.1 (by omega) _ _ _ _
  have HMK := Lib.hid hmk
  clear hmk
  by_cases hnx : 4294967295 < nx
  · have HE : Hid (addE ⟨nm, v, nx, l⟩ ⟨u, f, d, bl⟩ = 13) := Lib.hid (addE_used HOKB.out HMK.out hnx)
    go_enter Tryz.func167, Tryz.ntmps167
    go_wp2_with fail
    refine CC.out.mono ?_
    rintro e w2 ⟨A', c', rfl, ho, hb⟩
    have hba : Below w2.heap.size w2 (w2.alloc (.cells #[.string nm, .int .i64 v, .int .i64 nx, .slice A' n c'] 44)) := (Below.refl _ _).alloc (Nat.le_refl _) _
    have hat2 := (HAT.out.below hb).below hba
    have HO2 := Lib.hid (((ho.from_ (show w.heap.size + 3 ≤ _ by rw [HZ.out]; exact Nat.le_refl _)).below hba).far (grownBy_cell _ (w.heap.size + 1) 0 (.int .i64 1)) (by omega))
    obtain ⟨bo, hbo⟩ : ∃ bo, w2.heap.size = bo := ⟨_, rfl⟩
    have hbl : w.heap.size + 3 ≤ bo := by have := hb.size; rw [HZ.out] at this; omega
    have HK2 : Hid (Bk ((w2.alloc (.cells #[.string nm, .int .i64 v, .int .i64 nx, .slice A' n c'] 44)).setCell ⟨w.heap.size + 1, 0, none⟩ (.int .i64 1)) bo 44 #[.string nm, .int .i64 v, .int .i64 nx, .slice A' n c']) := Lib.hid (by rw [← hbo] at hbl ⊢; exact (Bk.new _ _ _).far (show w2.heap.size ≠ w.heap.size + 1 by omega) _)
    have HAT2 := Lib.hid (hat2.uid 1)
    obtain ⟨⟨d0, d1, d2, d3⟩, -, -, -, -⟩ := hat2.1.four
    obtain ⟨⟨m0, m1, m2, m3⟩, n0, n1, n2, n3⟩ := hat2.2.1.four
    clear hat2 ho hb hba c0 c1 c2 c3 HAT CC HZ
    go_wp2_with fail
    try rw [hbo]
    clear hbo d0 d1 d2 d3 m0 m1 m2 m3 n0 n1 n2 n3
    generalize (w2.alloc (.cells #[.string nm, .int .i64 v, .int .i64 nx, .slice A' n c'] 44)).setCell ⟨w.heap.size + 1, 0, none⟩ (.int .i64 1) = W2 at *
    have hR := right_any nm v nx A n c l W2 (HL.out.later HAT2.out.2.2.2.1) (by omega)
    rw [HOK.out] at hR
    refine hR.mono ?_
    rintro e w3 ⟨rfl, hb3⟩
    have HAT3 := Lib.hid (HAT2.out.below hb3)
    have HO3 := Lib.hid (HO2.out.below hb3)
    have HK3 := Lib.hid (HK2.out.below hb3 HK2.out.lt)
    clear hb3 HAT2 hR HO2 HK2
    obtain ⟨⟨m0, m1, m2, m3⟩, -, -, -, -⟩ := HAT3.out.2.1.four
    go_wp2_with fail
    have hM := mayBe_any 1 f d xA xn xc bl w3 HXL.out hxn
    rw [HMK.out] at hM
    refine hM.mono ?_
    rintro e w4 ⟨rfl, hw4⟩
    have hb4 : Below w3.heap.size w3 w4 := by rw [hw4]; exact (Below.refl _ _).alloc (Nat.le_refl _) _
    have HAT4 := Lib.hid (HAT3.out.below hb4)
    have HO4 := Lib.hid (HO3.out.below hb4)
    have HK4 := Lib.hid (HK3.out.below hb4 HK3.out.lt)
    clear hb4 hw4 hM m0 m1 m2 m3 HAT3 HO3 HK3
    obtain ⟨⟨k0, k1, k2, k3⟩, -, -, -, -⟩ := HK4.out.four
    obtain ⟨⟨b0, b1, b2, b3⟩, -, -, -, -⟩ := HAT4.out.1.four
    obtain ⟨⟨r0, r1, r2, r3⟩, s0, s1, s2, s3⟩ := HAT4.out.2.2.1.four
    go_wp2_with fail
    refine bodyPost_ret (results_cell3 rfl _ _ ⟨w.heap.size + 1 + 1, 0, none⟩ _ _ _ rfl rfl rfl (Bk.box_ (Bk.put4 HAT4.out.2.2.1 _ _ _ _))) rfl (AddO.no (z := 13) HE.out (by omega) ?_ ?_)
    · exact (HO4.out.far (grown_put4 _ _ _ _ _ _) (by omega)).msgs (fun m hm => Nat.le_trans (HSM.out m hm) (by omega))
    · exact below_put4 HAT4.out.2.2.2.1 (by omega) _ _ _ _
  by_cases h40 : n = 40
  · have HE : Hid (addE ⟨nm, v, nx, l⟩ ⟨u, f, d, bl⟩ = 8) := Lib.hid (addE_full HOKB.out HMK.out hnx (by show l.length = 40; rw [HL.out.len]; exact h40))
    have h40b : ((n : Int) == 40) = true := by simp; omega
    clear h40
    go_enter Tryz.func167, Tryz.ntmps167
    go_wp2_with fail
    refine CC.out.mono ?_
    rintro e w2 ⟨A', c', rfl, ho, hb⟩
    have hba : Below w2.heap.size w2 (w2.alloc (.cells #[.string nm, .int .i64 v, .int .i64 nx, .slice A' n c'] 44)) := (Below.refl _ _).alloc (Nat.le_refl _) _
    have hat2 := (HAT.out.below hb).below hba
    have HO2 := Lib.hid (((ho.from_ (show w.heap.size + 3 ≤ _ by rw [HZ.out]; exact Nat.le_refl _)).below hba).far (grownBy_cell _ (w.heap.size + 1) 0 (.int .i64 1)) (by omega))
    obtain ⟨bo, hbo⟩ : ∃ bo, w2.heap.size = bo := ⟨_, rfl⟩
    have hbl : w.heap.size + 3 ≤ bo := by have := hb.size; rw [HZ.out] at this; omega
    have HK2 : Hid (Bk ((w2.alloc (.cells #[.string nm, .int .i64 v, .int .i64 nx, .slice A' n c'] 44)).setCell ⟨w.heap.size + 1, 0, none⟩ (.int .i64 1)) bo 44 #[.string nm, .int .i64 v, .int .i64 nx, .slice A' n c']) := Lib.hid (by rw [← hbo] at hbl ⊢; exact (Bk.new _ _ _).far (show w2.heap.size ≠ w.heap.size + 1 by omega) _)
    have HAT2 := Lib.hid (hat2.uid 1)
    obtain ⟨⟨d0, d1, d2, d3⟩, -, -, -, -⟩ := hat2.1.four
    obtain ⟨⟨m0, m1, m2, m3⟩, n0, n1, n2, n3⟩ := hat2.2.1.four
    clear hat2 ho hb hba c0 c1 c2 c3 HAT CC HZ
    go_wp2_with fail
    try rw [hbo]
    clear hbo d0 d1 d2 d3 m0 m1 m2 m3 n0 n1 n2 n3
    generalize (w2.alloc (.cells #[.string nm, .int .i64 v, .int .i64 nx, .slice A' n c'] 44)).setCell ⟨w.heap.size + 1, 0, none⟩ (.int .i64 1) = W2 at *
    have hR := right_any nm v nx A n c l W2 (HL.out.later HAT2.out.2.2.2.1) (by omega)
    rw [HOK.out] at hR
    refine hR.mono ?_
    rintro e w3 ⟨rfl, hb3⟩
    have HAT3 := Lib.hid (HAT2.out.below hb3)
    have HO3 := Lib.hid (HO2.out.below hb3)
    have HK3 := Lib.hid (HK2.out.below hb3 HK2.out.lt)
    clear hb3 HAT2 hR HO2 HK2
    obtain ⟨⟨m0, m1, m2, m3⟩, -, -, -, -⟩ := HAT3.out.2.1.four
    go_wp2_with fail
    have hM := mayBe_any 1 f d xA xn xc bl w3 HXL.out hxn
    rw [HMK.out] at hM
    refine hM.mono ?_
    rintro e w4 ⟨rfl, hw4⟩
    have hb4 : Below w3.heap.size w3 w4 := by rw [hw4]; exact (Below.refl _ _).alloc (Nat.le_refl _) _
    have HAT4 := Lib.hid (HAT3.out.below hb4)
    have HO4 := Lib.hid (HO3.out.below hb4)
    have HK4 := Lib.hid (HK3.out.below hb4 HK3.out.lt)
    clear hb4 hw4 hM m0 m1 m2 m3 HAT3 HO3 HK3
    obtain ⟨⟨k0, k1, k2, k3⟩, -, -, -, -⟩ := HK4.out.four
    obtain ⟨⟨b0, b1, b2, b3⟩, -, -, -, -⟩ := HAT4.out.1.four
    obtain ⟨⟨r0, r1, r2, r3⟩, s0, s1, s2, s3⟩ := HAT4.out.2.2.1.four
    go_wp2_with fail
    refine bodyPost_ret (results_cell3 rfl _ _ ⟨w.heap.size + 1 + 1, 0, none⟩ _ _ _ rfl rfl rfl (Bk.box_ (Bk.put4 HAT4.out.2.2.1 _ _ _ _))) rfl (AddO.no (z := 8) HE.out (by omega) ?_ ?_)
    · exact (HO4.out.far (grown_put4 _ _ _ _ _ _) (by omega)).msgs (fun m hm => Nat.le_trans (HSM.out m hm) (by omega))
    · exact below_put4 HAT4.out.2.2.2.1 (by omega) _ _ _ _
  have HE : Hid (addE ⟨nm, v, nx, l⟩ ⟨u, f, d, bl⟩ = 0) := Lib.hid (addE_ok HOKB.out HMK.out hnx (by show ¬ l.length = 40; rw [HL.out.len]; exact h40))
  have hn1 : 1 ≤ nx := HOKB.out.2.2.1
  have h40b : ((n : Int) == 40) = false := by simp; omega
  have hxs : xn ≤ 2000 := by have := (okMg_of HMK.out).2.2.2.2.2; simp only at this; rw [HXL.out] at this; exact this
  go_enter Tryz.func167, Tryz.ntmps167
  go_wp2_with fail
  refine CC.out.mono ?_
  rintro e w2 ⟨A', c', rfl, ho, hb⟩
  have hba : Below w2.heap.size w2 (w2.alloc (.cells #[.string nm, .int .i64 v, .int .i64 nx, .slice A' n c'] 44)) := (Below.refl _ _).alloc (Nat.le_refl _) _
  have hat2 := (HAT.out.below hb).below hba
  have HO2 := Lib.hid (((ho.from_ (show w.heap.size + 3 ≤ _ by rw [HZ.out]; exact Nat.le_refl _)).below hba).far (grownBy_cell _ (w.heap.size + 1) 0 (.int .i64 1)) (by omega))
  obtain ⟨bo, hbo⟩ : ∃ bo, w2.heap.size = bo := ⟨_, rfl⟩
  have hbl : w.heap.size + 3 ≤ bo := by have := hb.size; rw [HZ.out] at this; omega
  have HK2 : Hid (Bk ((w2.alloc (.cells #[.string nm, .int .i64 v, .int .i64 nx, .slice A' n c'] 44)).setCell ⟨w.heap.size + 1, 0, none⟩ (.int .i64 1)) bo 44 #[.string nm, .int .i64 v, .int .i64 nx, .slice A' n c']) := Lib.hid (by rw [← hbo] at hbl ⊢; exact (Bk.new _ _ _).far (show w2.heap.size ≠ w.heap.size + 1 by omega) _)
  have HAT2 := Lib.hid (hat2.uid 1)
  obtain ⟨⟨d0, d1, d2, d3⟩, -, -, -, -⟩ := hat2.1.four
  obtain ⟨⟨m0, m1, m2, m3⟩, n0, n1, n2, n3⟩ := hat2.2.1.four
  clear hat2 ho hb hba c0 c1 c2 c3 HAT CC HZ
  go_wp2_with fail
  try rw [hbo]
  clear hbo d0 d1 d2 d3 m0 m1 m2 m3 n0 n1 n2 n3
  generalize (w2.alloc (.cells #[.string nm, .int .i64 v, .int .i64 nx, .slice A' n c'] 44)).setCell ⟨w.heap.size + 1, 0, none⟩ (.int .i64 1) = W2 at *
  have hR := right_any nm v nx A n c l W2 (HL.out.later HAT2.out.2.2.2.1) (by omega)
  rw [HOK.out] at hR
  refine hR.mono ?_
  rintro e w3 ⟨rfl, hb3⟩
  have HAT3 := Lib.hid (HAT2.out.below hb3)
  have HO3 := Lib.hid (HO2.out.below hb3)
  have HK3 := Lib.hid (HK2.out.below hb3 HK2.out.lt)
  clear hb3 HAT2 hR HO2 HK2
  obtain ⟨⟨m0, m1, m2, m3⟩, -, -, -, -⟩ := HAT3.out.2.1.four
  go_wp2_with fail
  have hM := mayBe_any 1 f d xA xn xc bl w3 HXL.out hxn
  rw [HMK.out] at hM
  refine hM.mono ?_
  rintro e w4 ⟨rfl, hw4⟩
  have hb4 : Below w3.heap.size w3 w4 := by rw [hw4]; exact (Below.refl _ _).alloc (Nat.le_refl _) _
  have HAT4 := Lib.hid (HAT3.out.below hb4)
  have HO4 := Lib.hid (HO3.out.below hb4)
  have HK4 := Lib.hid (HK3.out.below hb4 HK3.out.lt)
  clear hb4 hw4 hM m0 m1 m2 m3 HAT3 HO3 HK3
  obtain ⟨⟨b0, b1, b2, b3⟩, -, -, -, -⟩ := HAT4.out.1.four
  obtain ⟨⟨m0, m1, m2, m3⟩, -, -, -, -⟩ := HAT4.out.2.1.four
  go_wp2_with fail
  have hxW := HX.out.later HAT4.out.2.2.2.1
  refine (ownMsg_any 1 f d xA xn xc bl w4 hxW (by omega)).mono ?_
  rintro e w6 ⟨yA, yc, rfl, hy, hb6⟩
  have hat6 := HAT4.out.below hb6
  have hk6 := HK4.out.below hb6 HK4.out.lt
  have HO6 := Lib.hid (HO4.out.below hb6)
  have HY6 := Lib.hid (hy.base_le HAT4.out.2.2.2.2)
  obtain ⟨⟨b0, b1, b2, b3⟩, -, -, -, -⟩ := hat6.1.four
  obtain ⟨⟨m0, m1, m2, m3⟩, n0, n1, n2, n3⟩ := hat6.2.1.four
  obtain ⟨⟨k0, k1, k2, k3⟩, -, -, -, -⟩ := hk6.four
  have HAT6 := Lib.hid hat6
  have HK6 := Lib.hid hk6
  have hbne : bo ≠ w.heap.size + 1 := by omega
  have hbne2 : w.heap.size + 1 ≠ bo := by omega
  clear hy hb6 hat6 hk6 hxW HAT4 HK4 HO4
  go_wp2_with ((with_reducible show wpList _ _ _ (⟨some 41, _, _, _, _, _⟩ :: _) _ _); refine hold ?_)
  have hg := grown_trans (grown_put4 w6 (w.heap.size + 1) (.int .i64 1) (.int .i64 f) (.int .i64 d) (.slice yA xn yc)) (grownBy_cell _ (w.heap.size + 1) 0 (.int .i64 nx))
  have hsz : (((((w6.setCell ⟨w.heap.size + 1, 0, none⟩ (.int .i64 1)).setCell ⟨w.heap.size + 1, 1, none⟩ (.int .i64 f)).setCell ⟨w.heap.size + 1, 2, none⟩ (.int .i64 d)).setCell ⟨w.heap.size + 1, 3, none⟩ (.slice yA xn yc)).setCell ⟨w.heap.size + 1, 0, none⟩ (.int .i64 nx)).heap.size = w6.heap.size := by simp
  have hal : Below (((((w6.setCell ⟨w.heap.size + 1, 0, none⟩ (.int .i64 1)).setCell ⟨w.heap.size + 1, 1, none⟩ (.int .i64 f)).setCell ⟨w.heap.size + 1, 2, none⟩ (.int .i64 d)).setCell ⟨w.heap.size + 1, 3, none⟩ (.slice yA xn yc)).setCell ⟨w.heap.size + 1, 0, none⟩ (.int .i64 nx)).heap.size (((((w6.setCell ⟨w.heap.size + 1, 0, none⟩ (.int .i64 1)).setCell ⟨w.heap.size + 1, 1, none⟩ (.int .i64 f)).setCell ⟨w.heap.size + 1, 2, none⟩ (.int .i64 d)).setCell ⟨w.heap.size + 1, 3, none⟩ (.slice yA xn yc)).setCell ⟨w.heap.size + 1, 0, none⟩ (.int .i64 nx)) ((((((w6.setCell ⟨w.heap.size + 1, 0, none⟩ (.int .i64 1)).setCell ⟨w.heap.size + 1, 1, none⟩ (.int .i64 f)).setCell ⟨w.heap.size + 1, 2, none⟩ (.int .i64 d)).setCell ⟨w.heap.size + 1, 3, none⟩ (.slice yA xn yc)).setCell ⟨w.heap.size + 1, 0, none⟩ (.int .i64 nx)).alloc (.cells #[.int .i64 nx, .int .i64 f, .int .i64 d, .slice yA xn yc] 49)) := (Below.refl _ _).alloc (Nat.le_refl _) _
  have HATB := Lib.hid ((HAT6.out.put 1 nx yA xn yc).below hal)
  have HOB := Lib.hid ((HO6.out.far hg (by omega)).below hal)
  have HYB := Lib.hid ((HY6.out.farG hg (by omega)).below hal)
  have HKB := Lib.hid ((HK6.out.grown hg hbne).alloc (.cells #[.int .i64 nx, .int .i64 f, .int .i64 d, .slice yA xn yc] 49))
  have HNB : Hid (((((((w6.setCell ⟨w.heap.size + 1, 0, none⟩ (.int .i64 1)).setCell ⟨w.heap.size + 1, 1, none⟩ (.int .i64 f)).setCell ⟨w.heap.size + 1, 2, none⟩ (.int .i64 d)).setCell ⟨w.heap.size + 1, 3, none⟩ (.slice yA xn yc)).setCell ⟨w.heap.size + 1, 0, none⟩ (.int .i64 nx)).alloc (.cells #[.int .i64 nx, .int .i64 f, .int .i64 d, .slice yA xn yc] 49)).rangeAt w6.heap.size 0 (hdC ⟨⟨nx, f, d, bl⟩, yA, xn, yc⟩)) := Lib.hid (by have := (Bk.new (((((w6.setCell ⟨w.heap.size + 1, 0, none⟩ (.int .i64 1)).setCell ⟨w.heap.size + 1, 1, none⟩ (.int .i64 f)).setCell ⟨w.heap.size + 1, 2, none⟩ (.int .i64 d)).setCell ⟨w.heap.size + 1, 3, none⟩ (.slice yA xn yc)).setCell ⟨w.heap.size + 1, 0, none⟩ (.int .i64 nx)) 49 #[.int .i64 nx, .int .i64 f, .int .i64 d, .slice yA xn yc]).range; rwa [hsz] at this)
  clear hg hsz hal b0 b1 b2 b3 m0 m1 m2 m3 n0 n1 n2 n3 k0 k1 k2 k3 HAT6 HO6 HY6 HK6
  generalize (((((w6.setCell ⟨w.heap.size + 1, 0, none⟩ (.int .i64 1)).setCell ⟨w.heap.size + 1, 1, none⟩ (.int .i64 f)).setCell ⟨w.heap.size + 1, 2, none⟩ (.int .i64 d)).setCell ⟨w.heap.size + 1, 3, none⟩ (.slice yA xn yc)).setCell ⟨w.heap.size + 1, 0, none⟩ (.int .i64 nx)).alloc (.cells #[.int .i64 nx, .int .i64 f, .int .i64 d, .slice yA xn yc] 49) = WB at *
  refine held (wpList_append_m rfl (.tmp 38) (.tmp 40) rfl (w.heap.size + 3) A' n c' l rfl HOB.out w6.heap.size 0 ⟨⟨nx, f, d, bl⟩, yA, xn, yc⟩ rfl HNB.out HYB.out (by omega) HATB.out.2.2.2.2 ?_)
  intro A2 c2 w7 ho7 hb7 hg7
  have hk7 := HKB.out.keptM HOB.out (show 49 ≠ 44 by decide) hg7
  have hat7 := HATB.out.below3 hb7
  have HO8 := Lib.hid ((ho7.boxed (grownBy_cell w7 bo 3 (.slice A2 (n + 1) c2)) hk7 (by decide)).boxed (grownBy_cell _ bo 2 (.int .i64 (nx + 1))) (hk7.put 3 _) (by decide))
  have hat8 := (hat7.below3 (below_cell hbl 3 (.slice A2 (n + 1) c2))).below3 (below_cell hbl 2 (.int .i64 (nx + 1)))
  have hk8 : Bk ((w7.setCell ⟨bo, 3, none⟩ (.slice A2 (n + 1) c2)).setCell ⟨bo, 2, none⟩ (.int .i64 (nx + 1))) bo 44 #[.string nm, .int .i64 v, .int .i64 (nx + 1), .slice A2 (n + 1) c2] := by simpa using (hk7.put 3 (.slice A2 (n + 1) c2)).put 2 (.int .i64 (nx + 1))
  obtain ⟨⟨k0, k1, k2, k3⟩, l0, l1, l2, l3⟩ := hk7.four
  have HK8 := Lib.hid hk8.four
  have HM8 := Lib.hid hat8.2.1.four
  have HR8 := Lib.hid hat8.2.2.1.four
  have HAT8 := Lib.hid hat8
  clear hk7 hat7 ho7 hb7 hg7 hk8 hat8 HATB HOB HYB HKB HNB
  go_wp2_with fail
  obtain ⟨⟨p0, p1, p2, p3⟩, -, -, -, -⟩ := HK8.out
  obtain ⟨⟨m0, m1, m2, m3⟩, -, -, -, -⟩ := HM8.out
  obtain ⟨⟨r0, r1, r2, r3⟩, s0, s1, s2, s3⟩ := HR8.out
  clear k0 k1 k2 k3 l0 l1 l2 l3 HK8 HM8 HR8
  generalize (w7.setCell ⟨bo, 3, none⟩ (.slice A2 (n + 1) c2)).setCell ⟨bo, 2, none⟩ (.int .i64 (nx + 1)) = W8 at *
  go_region
  go_wp2_with fail
  refine bodyPost_ret (results_cell3 rfl _ _ ⟨w.heap.size + 1 + 1, 0, none⟩ _ _ _ rfl rfl rfl (Bk.box_ (Bk.drew (Bk.put4 HAT8.out.2.2.1 _ _ _ _)))) rfl (AddO.yes HE.out ?_ (fun m hm => ?_) ?_)
  · exact ((HO8.out.far (grown_put4 _ _ _ _ _ _) (by omega)).below (Below.refl _ _).drew).from_ (by omega)
  · rcases List.mem_append.1 hm with hm | hm
    · exact Nat.le_trans (HSM.out m hm) (by omega)
    · rw [List.mem_singleton.1 hm]; show bl.length ≤ _; rw [HXL.out]; omega
  · exact (below_put4 HAT8.out.2.2.2.1 (by omega) _ _ _ _).drew
end Go.Proofs.YtbogjfbfgbhdbaaGreatDoor
