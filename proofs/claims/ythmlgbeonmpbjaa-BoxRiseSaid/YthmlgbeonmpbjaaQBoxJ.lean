/-
  Contracts over package box: flags stored, by the program.
-/
import Derived.Test.YthmlgbeonmpbjaaQBoxI
import Derived.Test.YthmlgbeonmpbjaaQBoxH
namespace Go.Proofs.Ythmlgbeonmpbjaa
set_option linter.unusedVariables false
set_option linter.unusedSimpArgs false
open Go.RowKit
set_option linter.unusedVariables false
set_option linter.unusedSimpArgs false

/-- what flags are stored in is answered -/
def StoreIs (b : Bx) (ids : List Int) (mode flags : Int) (w : World) (e : Ending) (w' : World) : Prop :=
  ∃ (A' : Option Addr) (n' c' : Nat), e = .returned (.tuple #[.agg #[.string (storeB b ids mode flags).name, .int .i64 (storeB b ids mode flags).valid, .int .i64 (storeB b ids mode flags).next, .slice A' n' c'], .int .i64 (storeE b ids mode flags)]) ∧ MsgsIn w' w'.heap.size A' n' (storeB b ids mode flags).msgs ∧ Below w.heap.size w w'
theorem StoreIs.no {b : Bx} {ids : List Int} {mode flags : Int} {w w' : World} {A' : Option Addr} {n' c' : Nat} {z : Int} (h : storeE b ids mode flags = z) (hz : z ≠ 0) (hm : MsgsIn w' w'.heap.size A' n' b.msgs) (hb : Below w.heap.size w w') : StoreIs b ids mode flags w (.returned (.tuple #[.agg #[.string b.name, .int .i64 b.valid, .int .i64 b.next, .slice A' n' c'], .int .i64 z])) w' := by
  have hn := storeB_no (b := b) (ids := ids) (mode := mode) (flags := flags) (by rw [h]; exact hz)
  refine ⟨A', n', c', ?_, by rw [hn]; exact hm, hb⟩
  rw [hn, h]
theorem StoreIs.yes {b : Bx} {ids : List Int} {mode flags : Int} {w w' : World} {A' : Option Addr} {n' c' : Nat} (h : storeE b ids mode flags = 0) (hm : MsgsIn w' w'.heap.size A' n' (storeL b.msgs ids mode flags)) (hb : Below w.heap.size w w') : StoreIs b ids mode flags w (.returned (.tuple #[.agg #[.string b.name, .int .i64 b.valid, .int .i64 b.next, .slice A' n' c'], .int .i64 0])) w' := by
  have hn := storeB_ok (b := b) (ids := ids) (mode := mode) (flags := flags) h
  refine ⟨A', n', c', ?_, by rw [hn]; exact hm, hb⟩
  rw [hn, h]
/-- the boxes of Store, and its own messages -/
def StoAt (w : World) (nm : ByteArray) (v nx : Int) (A : Option Addr) (n c : Nat) (A' : Option Addr) (c' bo : Nat) (L : List Mg) (wx : World) : Prop :=
  TwoAt w nm v nx A n c (w.heap.size + 2) wx ∧ Bk wx bo 24 #[.string nm, .int .i64 v, .int .i64 nx, .slice A' n c'] ∧ OwnM wx (w.heap.size + 2) A' n c' L ∧ w.heap.size + 2 ≤ bo
theorem StoAt.below {w wx W : World} {nm : ByteArray} {v nx : Int} {A A' : Option Addr} {n c c' bo : Nat} {L : List Mg} (h : StoAt w nm v nx A n c A' c' bo L wx) (hb : Below wx.heap.size wx W) : StoAt w nm v nx A n c A' c' bo L W :=
  ⟨h.1.below hb, h.2.1.below hb h.2.1.lt, h.2.2.1.below hb, h.2.2.2⟩
theorem StoAt.put {w wx : World} {nm : ByteArray} {v nx : Int} {A : Option Addr} {n c c' bo g i : Nat} {L : List Mg} {a : Mg} (h : StoAt w nm v nx A n c (some ⟨g, 0, none⟩) c' bo L wx) (hi : L[i]? = some a) (z : Int) :
    StoAt w nm v nx A n c (some ⟨g, 0, none⟩) c' bo (L.set i { a with flags := z }) (wx.setCell ⟨g, i * 4 + 1, none⟩ (.int .i64 z)) := by
  obtain ⟨h1, h2, h3, h4⟩ := h
  obtain ⟨hg, hl, _, _, ho⟩ := h3.putF hi z
  exact ⟨h1.below2 (Nat.le_refl _) (below_cell hg _ _), h2.keptM h3 (show 27 ≠ 24 by decide) (grownBy_cell wx g _ _), ho, h4⟩
theorem small_store {l : List Mg} {ids : List Int} {mode flags : Int} (h : ∀ m ∈ l, m.body.length ≤ 1000000) : ∀ m ∈ storeL l ids mode flags, m.body.length ≤ 140737488355328 := by
  intro m hm
  obtain ⟨x, hx, rfl⟩ := List.mem_map.1 hm
  have := h x hx
  split
  · show x.body.length ≤ _; omega
  · omega

set_option maxRecDepth 20000 in
set_option maxHeartbeats 8000000 in
theorem store_any (nm : ByteArray) (v nx : Int) (A : Option Addr) (n c : Nat) (l : List Mg) (B : Option Addr) (m d0 : Nat) (ids : List Int) (mode flags : Int) (w : World) (hl : MsgsIn w w.heap.size A n l) (hn : n ≤ 1000000) (hsm : ∀ m ∈ l, m.body.length ≤ 1000000) (hi : Col ints w w.heap.size B m ids) (hm : m ≤ 140737488355328) :
    Calls Try.prog 17 #[.agg #[.string nm, .int .i64 v, .int .i64 nx, .slice A n c], .slice B m d0, .int .i64 mode, .int .i64 flags] w (StoreIs ⟨nm, v, nx, l⟩ ids mode flags w) := by
  have hB : Below w.heap.size w ((w.alloc (.cells #[.string nm, .int .i64 v, .int .i64 nx, .slice A n c] 24)).alloc (.cells #[.string ⟨#[]⟩, .int .i64 0, .int .i64 0, .slice none 0 0] 24)) := ((Below.refl _ _).alloc (Nat.le_refl _) _).alloc (by simp) _
  have hat : TwoAt w nm v nx A n c (w.heap.size + 2) ((w.alloc (.cells #[.string nm, .int .i64 v, .int .i64 nx, .slice A n c] 24)).alloc (.cells #[.string ⟨#[]⟩, .int .i64 0, .int .i64 0, .slice none 0 0] 24)) := ⟨(Bk.new _ _ _).alloc _, Bk.new2 _ _ _ _, hB, by simp, by simp⟩
  have HL := Lib.hid hl
  have HSM := Lib.hid hsm
  have HI := Lib.hid hi
  have hmx : Try.prog.follows .mixedOrders = true := by kernel_rfl
  have HZ : Hid (((w.alloc (.cells #[.string nm, .int .i64 v, .int .i64 nx, .slice A n c] 24)).alloc (.cells #[.string ⟨#[]⟩, .int .i64 0, .int .i64 0, .slice none 0 0] 24)).heap.size = w.heap.size + 2) := Lib.hid (by simp)
  have HAT := Lib.hid hat
  obtain ⟨⟨c0, c1, c2, c3⟩, -, -, -, -⟩ := hat.1.four
  have CC := Lib.hid (copy_any nm v nx A n c l _ (hl.later hB) hn hsm)
  clear hat hB hl hsm hi
  cases hok : okBx ⟨nm, v, nx, l⟩
  · have HE : Hid (storeE ⟨nm, v, nx, l⟩ ids mode flags = 1) := Lib.hid (storeE_arg (fun h => by rw [okBx_yes h.1] at hok; cases hok))
    have HOK := Lib.hid hok
    clear hok
    go_enter Try.func17, Try.ntmps17
    go_wp2_with fail
    refine CC.out.mono ?_
    rintro e w2 ⟨A', c', rfl, ho, hb⟩
    have hba : Below w2.heap.size w2 (w2.alloc (.cells #[.string nm, .int .i64 v, .int .i64 nx, .slice A' n c'] 24)) := (Below.refl _ _).alloc (Nat.le_refl _) _
    obtain ⟨bo, hbo⟩ : ∃ bo, w2.heap.size = bo := ⟨_, rfl⟩
    have hbl : w.heap.size + 2 ≤ bo := by have := hb.size; rw [HZ.out] at this; omega
    have HST2 : Hid (StoAt w nm v nx A n c A' c' bo l (w2.alloc (.cells #[.string nm, .int .i64 v, .int .i64 nx, .slice A' n c'] 24))) := Lib.hid ⟨(HAT.out.below hb).below hba, by rw [← hbo]; exact Bk.new _ _ _, (ho.from_ (show w.heap.size + 2 ≤ _ by rw [HZ.out]; exact Nat.le_refl _)).below hba, hbl⟩
    clear ho hb hba c0 c1 c2 c3 HAT CC HZ
    obtain ⟨⟨b0, b1, b2, b3⟩, -, -, -, -⟩ := HST2.out.1.1.four
    go_wp2_with fail
    try rw [hbo]
    clear hbo b0 b1 b2 b3
    generalize w2.alloc (.cells #[.string nm, .int .i64 v, .int .i64 nx, .slice A' n c'] 24) = W2 at *
    have hR := right_any nm v nx A n c l W2 (HL.out.later HST2.out.1.2.2.1) (by omega)
    rw [HOK.out] at hR
    refine hR.mono ?_
    rintro e w3 ⟨rfl, hb3⟩
    have HST3 := Lib.hid (HST2.out.below hb3)
    clear hb3 hR HST2
    obtain ⟨⟨k0, k1, k2, k3⟩, -, -, -, -⟩ := HST3.out.2.1.four
    obtain ⟨⟨r0, r1, r2, r3⟩, s0, s1, s2, s3⟩ := HST3.out.1.2.1.four
    go_wp2_with fail
    refine bodyPost_ret (results_cell2 rfl _ _ ⟨w.heap.size + 1, 0, none⟩ _ _ rfl rfl (Bk.box_ (Bk.put4 HST3.out.1.2.1 _ _ _ _))) rfl (StoreIs.no (z := 1) HE.out (by omega) ?_ ?_)
    · exact (HST3.out.2.2.1.far (grown_put4 _ _ _ _ _ _) (by omega)).msgs (fun m hm => Nat.le_trans (HSM.out m hm) (by omega))
    · exact below_put4 HST3.out.1.2.2.1 (by omega) _ _ _ _
  have HOKB := Lib.hid (okBx_iff.1 hok)
  have HOK := Lib.hid hok
  clear hok
  by_cases hap : apE 0 mode flags ≠ 0
  · have HE : Hid (storeE ⟨nm, v, nx, l⟩ ids mode flags = 1) := Lib.hid (storeE_arg (fun h => hap h.2))
    have HAP := Lib.hid (apE_one hap)
    clear hap
    go_enter Try.func17, Try.ntmps17
    go_wp2_with fail
    refine CC.out.mono ?_
    rintro e w2 ⟨A', c', rfl, ho, hb⟩
    have hba : Below w2.heap.size w2 (w2.alloc (.cells #[.string nm, .int .i64 v, .int .i64 nx, .slice A' n c'] 24)) := (Below.refl _ _).alloc (Nat.le_refl _) _
    obtain ⟨bo, hbo⟩ : ∃ bo, w2.heap.size = bo := ⟨_, rfl⟩
    have hbl : w.heap.size + 2 ≤ bo := by have := hb.size; rw [HZ.out] at this; omega
    have HST2 : Hid (StoAt w nm v nx A n c A' c' bo l (w2.alloc (.cells #[.string nm, .int .i64 v, .int .i64 nx, .slice A' n c'] 24))) := Lib.hid ⟨(HAT.out.below hb).below hba, by rw [← hbo]; exact Bk.new _ _ _, (ho.from_ (show w.heap.size + 2 ≤ _ by rw [HZ.out]; exact Nat.le_refl _)).below hba, hbl⟩
    clear ho hb hba c0 c1 c2 c3 HAT CC HZ
    obtain ⟨⟨b0, b1, b2, b3⟩, -, -, -, -⟩ := HST2.out.1.1.four
    go_wp2_with fail
    try rw [hbo]
    clear hbo b0 b1 b2 b3
    generalize w2.alloc (.cells #[.string nm, .int .i64 v, .int .i64 nx, .slice A' n c'] 24) = W2 at *
    have hR := right_any nm v nx A n c l W2 (HL.out.later HST2.out.1.2.2.1) (by omega)
    rw [HOK.out] at hR
    refine hR.mono ?_
    rintro e w3 ⟨rfl, hb3⟩
    have HST3 := Lib.hid (HST2.out.below hb3)
    clear hb3 hR HST2
    go_wp2_with fail
    refine (fapply_any 0 mode flags w3).mono ?_
    rintro e w3' ⟨z, dd, rfl, hz, hdd, rfl⟩
    rw [HAP.out] at hdd
    subst hdd
    clear hz
    obtain ⟨⟨k0, k1, k2, k3⟩, -, -, -, -⟩ := HST3.out.2.1.four
    obtain ⟨⟨r0, r1, r2, r3⟩, s0, s1, s2, s3⟩ := HST3.out.1.2.1.four
    go_wp2_with fail
    refine bodyPost_ret (results_cell2 rfl _ _ ⟨w.heap.size + 1, 0, none⟩ _ _ rfl rfl (Bk.box_ (Bk.put4 HST3.out.1.2.1 _ _ _ _))) rfl (StoreIs.no (z := 1) HE.out (by omega) ?_ ?_)
    · exact (HST3.out.2.2.1.far (grown_put4 _ _ _ _ _ _) (by omega)).msgs (fun m hm => Nat.le_trans (HSM.out m hm) (by omega))
    · exact below_put4 HST3.out.1.2.2.1 (by omega) _ _ _ _
  have HAP : Hid (apE 0 mode flags = 0) := Lib.hid (by omega)
  clear hap
  cases hth : thereU l ids
  · have HE : Hid (storeE ⟨nm, v, nx, l⟩ ids mode flags = 6) := Lib.hid (storeE_none HOKB.out HAP.out hth)
    have HTH := Lib.hid hth
    clear hth
    go_enter Try.func17, Try.ntmps17
    go_wp2_with fail
    refine CC.out.mono ?_
    rintro e w2 ⟨A', c', rfl, ho, hb⟩
    have hba : Below w2.heap.size w2 (w2.alloc (.cells #[.string nm, .int .i64 v, .int .i64 nx, .slice A' n c'] 24)) := (Below.refl _ _).alloc (Nat.le_refl _) _
    obtain ⟨bo, hbo⟩ : ∃ bo, w2.heap.size = bo := ⟨_, rfl⟩
    have hbl : w.heap.size + 2 ≤ bo := by have := hb.size; rw [HZ.out] at this; omega
    have HST2 : Hid (StoAt w nm v nx A n c A' c' bo l (w2.alloc (.cells #[.string nm, .int .i64 v, .int .i64 nx, .slice A' n c'] 24))) := Lib.hid ⟨(HAT.out.below hb).below hba, by rw [← hbo]; exact Bk.new _ _ _, (ho.from_ (show w.heap.size + 2 ≤ _ by rw [HZ.out]; exact Nat.le_refl _)).below hba, hbl⟩
    clear ho hb hba c0 c1 c2 c3 HAT CC HZ
    obtain ⟨⟨b0, b1, b2, b3⟩, -, -, -, -⟩ := HST2.out.1.1.four
    go_wp2_with fail
    try rw [hbo]
    clear hbo b0 b1 b2 b3
    generalize w2.alloc (.cells #[.string nm, .int .i64 v, .int .i64 nx, .slice A' n c'] 24) = W2 at *
    have hR := right_any nm v nx A n c l W2 (HL.out.later HST2.out.1.2.2.1) (by omega)
    rw [HOK.out] at hR
    refine hR.mono ?_
    rintro e w3 ⟨rfl, hb3⟩
    have HST3 := Lib.hid (HST2.out.below hb3)
    clear hb3 hR HST2
    go_wp2_with fail
    refine (fapply_any 0 mode flags w3).mono ?_
    rintro e w3' ⟨z, dd, rfl, hz, hdd, rfl⟩
    rw [HAP.out] at hdd
    subst hdd
    clear hz
    obtain ⟨⟨b0, b1, b2, b3⟩, -, -, -, -⟩ := HST3.out.1.1.four
    go_wp2_with fail
    clear b0 b1 b2 b3
    have hM := meant_any nm v nx A n c l B m d0 ids w3 (HL.out.later HST3.out.1.2.2.1) hn ((HI.out.below HST3.out.1.2.2.1 (Nat.le_refl _)).more HST3.out.1.2.2.1.size) hm
    rw [HTH.out] at hM
    refine hM.mono ?_
    rintro e w4 ⟨fv, z4, rfl, hb4, hz⟩
    have HST4 := Lib.hid (HST3.out.below hb4)
    obtain rfl : z4 = 6 := by rcases hz with ⟨_, h⟩ | ⟨h, _⟩; exact h; cases h
    clear hb4 hM hz HST3
    obtain ⟨⟨k0, k1, k2, k3⟩, -, -, -, -⟩ := HST4.out.2.1.four
    obtain ⟨⟨r0, r1, r2, r3⟩, s0, s1, s2, s3⟩ := HST4.out.1.2.1.four
    go_wp2_with fail
    refine bodyPost_ret (results_cell2 rfl _ _ ⟨w.heap.size + 1, 0, none⟩ _ _ rfl rfl (Bk.box_ (Bk.put4 HST4.out.1.2.1 _ _ _ _))) rfl (StoreIs.no (z := 6) HE.out (by omega) ?_ ?_)
    · exact (HST4.out.2.2.1.far (grown_put4 _ _ _ _ _ _) (by omega)).msgs (fun m hm => Nat.le_trans (HSM.out m hm) (by omega))
    · exact below_put4 HST4.out.1.2.2.1 (by omega) _ _ _ _
  have HE : Hid (storeE ⟨nm, v, nx, l⟩ ids mode flags = 0) := Lib.hid (storeE_ok HOKB.out HAP.out hth)
  have HTH := Lib.hid hth
  clear hth
  go_enter Try.func17, Try.ntmps17
  go_wp2_with fail
  refine CC.out.mono ?_
  rintro e w2 ⟨A', c', rfl, ho, hb⟩
  have hba : Below w2.heap.size w2 (w2.alloc (.cells #[.string nm, .int .i64 v, .int .i64 nx, .slice A' n c'] 24)) := (Below.refl _ _).alloc (Nat.le_refl _) _
  obtain ⟨bo, hbo⟩ : ∃ bo, w2.heap.size = bo := ⟨_, rfl⟩
  have hbl : w.heap.size + 2 ≤ bo := by have := hb.size; rw [HZ.out] at this; omega
  have HST2 : Hid (StoAt w nm v nx A n c A' c' bo l (w2.alloc (.cells #[.string nm, .int .i64 v, .int .i64 nx, .slice A' n c'] 24))) := Lib.hid ⟨(HAT.out.below hb).below hba, by rw [← hbo]; exact Bk.new _ _ _, (ho.from_ (show w.heap.size + 2 ≤ _ by rw [HZ.out]; exact Nat.le_refl _)).below hba, hbl⟩
  clear ho hb hba c0 c1 c2 c3 HAT CC HZ
  obtain ⟨⟨b0, b1, b2, b3⟩, -, -, -, -⟩ := HST2.out.1.1.four
  go_wp2_with fail
  try rw [hbo]
  clear hbo b0 b1 b2 b3
  generalize w2.alloc (.cells #[.string nm, .int .i64 v, .int .i64 nx, .slice A' n c'] 24) = W2 at *
  have hR := right_any nm v nx A n c l W2 (HL.out.later HST2.out.1.2.2.1) (by omega)
  rw [HOK.out] at hR
  refine hR.mono ?_
  rintro e w3 ⟨rfl, hb3⟩
  have HST3 := Lib.hid (HST2.out.below hb3)
  clear hb3 hR HST2
  go_wp2_with fail
  refine (fapply_any 0 mode flags w3).mono ?_
  rintro e w3' ⟨z, dd, rfl, hz, hdd, rfl⟩
  rw [HAP.out] at hdd
  subst hdd
  clear hz
  obtain ⟨⟨b0, b1, b2, b3⟩, -, -, -, -⟩ := HST3.out.1.1.four
  go_wp2_with fail
  clear b0 b1 b2 b3
  have hM := meant_any nm v nx A n c l B m d0 ids w3 (HL.out.later HST3.out.1.2.2.1) hn ((HI.out.below HST3.out.1.2.2.1 (Nat.le_refl _)).more HST3.out.1.2.2.1.size) hm
  rw [HTH.out] at hM
  refine hM.mono ?_
  rintro e w4 ⟨fv, z4, rfl, hb4, hz⟩
  have HST4 := Lib.hid (HST3.out.below hb4)
  obtain ⟨_, rfl, bi, hbi, rfl, hki⟩ : True ∧ z4 = 0 ∧ ∃ bi, w3.heap.size ≤ bi ∧ fv = .func (.func 52) #[] #[.pointer (some ⟨bi, 0, none⟩)] ∧ Bk w4 bi 36 #[.slice B m d0] := by rcases hz with ⟨h, _⟩ | ⟨_, h⟩; cases h; exact ⟨trivial, h⟩
  have HKI := Lib.hid hki
  have x3 := HST4.out.2.1.cell 3
  clear hb4 hM hz HST3 hbi hki
  go_wp2_with fail
  go_loopw [46] (fun i wx => ∃ k : Nat, k ≤ n ∧ i = .int .i64 (k : Int) ∧ StoAt w nm v nx A n c A' c' bo (stoTo l ids mode flags k) wx ∧ Bk wx bi 36 #[.slice B m d0]) (fun i _ => n - (intOf i).toNat)
  case atStart => exact ⟨0, Nat.zero_le _, rfl, by rw [stoTo_0]; exact HST4.out, HKI.out⟩
  case round =>
    obtain ⟨k, hk, rfl, hst, hki⟩ := hrel
    have HST := Lib.hid hst
    have HKIR := Lib.hid hki
    clear hst hki x3
    by_cases hlt : k < n
    · obtain ⟨a, ha⟩ : ∃ a, l[k]? = some a := ⟨_, List.getElem?_eq_getElem (by rw [HL.out.len]; exact hlt)⟩
      obtain ⟨g, x, rfl, hgb, hgl, hla, _, hrow, _⟩ := HST.out.2.2.1.at_ hlt
      have hxa : x.m = a := Option.some.inj (hla.symm.trans (stoTo_get ha))
      have HLA := Lib.hid ha
      have HROW := Lib.hid hrow
      have hk0 : (0 : Int) ≤ (k : Int) := by omega
      have hkn : (k : Int) < (n : Int) := by omega
      obtain ⟨xm, xA, xn, xc⟩ := x
      replace hxa : xm = a := hxa
      subst hxa
      obtain ⟨u, f, d, bl⟩ := xm
      have hb1 : Below wr.heap.size wr (wr.alloc (.cells #[.int .i64 u, .int .i64 f, .int .i64 d, .slice xA xn xc] 27)) := (Below.refl _ _).alloc (Nat.le_refl _) _
      have hb2 : Below wr.heap.size wr ((wr.alloc (.cells #[.int .i64 u, .int .i64 f, .int .i64 d, .slice xA xn xc] 27)).alloc (.cells #[.int .i64 u, .int .i64 f, .int .i64 d, .slice xA xn xc] 27)) := hb1.alloc (by simp) _
      have hws := HST.out.1.2.2.1.size
      have hbw := HST.out.1.2.2.1.trans (hb1.mono hws)
      have CM := Lib.hid (meant1_any bi u f d xA xn xc B m d0 ids (wr.alloc (.cells #[.int .i64 u, .int .i64 f, .int .i64 d, .slice xA xn xc] 27)) ((HKIR.out.below hb1 HKIR.out.lt).cell 0) ((HI.out.below hbw (Nat.le_refl _)).more hbw.size) hm)
      have hm1 : Bk (wr.alloc (.cells #[.int .i64 u, .int .i64 f, .int .i64 d, .slice xA xn xc] 27)) wr.heap.size 27 #[.int .i64 u, .int .i64 f, .int .i64 d, .slice xA xn xc] := Bk.new _ _ _
      have HM1 := Lib.hid hm1.four
      have HM2 := Lib.hid (hm1.alloc (.cells #[.int .i64 u, .int .i64 f, .int .i64 d, .slice xA xn xc] 27)).four
      have HST2 := Lib.hid (HST.out.below hb2)
      have HKI2 := Lib.hid (HKIR.out.below hb2 HKIR.out.lt)
      have HGL := Lib.hid (Nat.lt_of_lt_of_le hgl hb2.size)
      clear hla hrow hb1 hb2 hws hbw hm1
      by_cases hq : u ∈ ids
      · have HQ : Hid (decide (u ∈ ids) = true) := Lib.hid (decide_eq_true hq)
        have HGS := Lib.hid (stoTo_set (mode := mode) (flags := flags) HLA.out hq)
        have HGT := Lib.hid (stoTo_get (ids := ids) (mode := mode) (flags := flags) HLA.out)
        clear hq ha
        go_wp2_with ((with_reducible show wpList _ _ _ (⟨some 50, _, _, _, _, _⟩ :: _) _ _); refine hold ?_)
        refine held (wpList_load_mid rfl 27 (.tmp 49) rfl g (k * 4) rfl _ _ HROW.out Try.underlying27 rfl (by kernel_rfl) ?_)
        unfold hdC
        obtain ⟨⟨m0, m1, m2, m3⟩, -, -, -, -⟩ := HM1.out
        go_wp2_with fail
        refine CM.out.mono ?_
        rintro e w6 ⟨rfl, rfl⟩
        rw [HQ.out]
        clear m0 m1 m2 m3
        obtain ⟨⟨m0, m1, m2, m3⟩, -, -, -, -⟩ := HM2.out
        go_wp2_with fail
        obtain ⟨bm, hbm⟩ : ∃ bm, wr.heap.size = bm := ⟨_, rfl⟩
        have HBG := Lib.hid (show bm ≠ g by omega)
        try rw [hbm]
        rw [hbm] at m0 m1 m2 m3
        clear hbm m0 m2 m3 HM1 HM2 CM
        generalize (wr.alloc (.cells #[.int .i64 u, .int .i64 f, .int .i64 d, .slice xA xn xc] 27)).alloc (.cells #[.int .i64 u, .int .i64 f, .int .i64 d, .slice xA xn xc] 27) = W6 at *
        have hS0 : W6.drew.cell? ⟨bo, 3, none⟩ = some (.slice (some ⟨g, 0, none⟩) n c') ∧ W6.drew.cell? ⟨bm, 1, none⟩ = some (.int .i64 f) := ⟨HST2.out.2.1.cell 3, m1⟩
        clear m1
        refine wp_region_held_drew (S := fun W' => W'.cell? ⟨bo, 3, none⟩ = some (.slice (some ⟨g, 0, none⟩) n c') ∧ W'.cell? ⟨bm, 1, none⟩ = some (.int .i64 f)) hmx hS0 (fun hHeld => ?_)
        have HST6 := Lib.hid (HST2.out.below (Below.refl _ _).drew)
        have HKI6 := Lib.hid (HKI2.out.below (Below.refl _ _).drew HKI2.out.lt)
        have HGL6 := Lib.hid (show g < W6.drew.heap.size from HGL.out)
        clear hS0 HST2 HKI2 HGL
        generalize W6.drew = W at *
        simp only [List.size_toArray, List.length_cons, List.length_nil, Nat.reduceAdd]
        refine wpAnyH_take (i := 0) (v := .pointer (some ⟨bo, 3, none⟩)) rfl (by kernel_rfl) (by kernel_rfl) (by kernel_rfl) (fun _ _ _ h => h) (Or.inl ⟨by rfl, fun w0 hC => by simp [execOp, Act.eval, Act.put, go_sem]⟩) hHeld ?_
        try simp only [Act.put, List.setIfInBounds_toArray, List.set_cons_zero, List.set_cons_succ, List.getElem_toArray, List.getElem_cons_zero, List.getElem_cons_succ]
        refine wpAnyH_take (i := 1) (v := .slice (some ⟨g, 0, none⟩) n c') rfl (by kernel_rfl) (by kernel_rfl) (by kernel_rfl) (fun _ _ _ h => h) (Or.inl ⟨by rfl, fun w0 hC => by simp [execOp, Act.eval, Act.put, go_sem, hC.1]⟩) hHeld ?_
        try simp only [Act.put, List.setIfInBounds_toArray, List.set_cons_zero, List.set_cons_succ, List.getElem_toArray, List.getElem_cons_zero, List.getElem_cons_succ]
        refine wpAnyH_take (i := 2) (v := .int .i64 (k : Int)) rfl (by kernel_rfl) (by kernel_rfl) (by kernel_rfl) (fun _ _ _ h => h) (Or.inl ⟨by rfl, fun w0 hC => by simp [execOp, Act.eval, Act.put, go_sem]⟩) hHeld ?_
        try simp only [Act.put, List.setIfInBounds_toArray, List.set_cons_zero, List.set_cons_succ, List.getElem_toArray, List.getElem_cons_zero, List.getElem_cons_succ]
        refine wpAnyH_take (i := 3) (v := .pointer (some ⟨bm, 1, none⟩)) rfl (by kernel_rfl) (by kernel_rfl) (by kernel_rfl) (fun _ _ _ h => h) (Or.inl ⟨by rfl, fun w0 hC => by simp [execOp, Act.eval, Act.put, go_sem]⟩) hHeld ?_
        try simp only [Act.put, List.setIfInBounds_toArray, List.set_cons_zero, List.set_cons_succ, List.getElem_toArray, List.getElem_cons_zero, List.getElem_cons_succ]
        refine wpAnyH_take (i := 4) (v := .int .i64 f) rfl (by kernel_rfl) (by kernel_rfl) (by kernel_rfl) (fun _ _ _ h => h) (Or.inl ⟨by rfl, fun w0 hC => by simp [execOp, Act.eval, Act.put, go_sem, hC.2]⟩) hHeld ?_
        try simp only [Act.put, List.setIfInBounds_toArray, List.set_cons_zero, List.set_cons_succ, List.getElem_toArray, List.getElem_cons_zero, List.getElem_cons_succ]
        refine wpAnyH_take (i := 5) (v := .int .i64 mode) rfl (by kernel_rfl) (by kernel_rfl) (by kernel_rfl) (fun _ _ _ h => h) (Or.inl ⟨by rfl, fun w0 hC => by simp [execOp, Act.eval, Act.put, go_sem]⟩) hHeld ?_
        try simp only [Act.put, List.setIfInBounds_toArray, List.set_cons_zero, List.set_cons_succ, List.getElem_toArray, List.getElem_cons_zero, List.getElem_cons_succ]
        refine wpAnyH_take (i := 6) (v := .int .i64 flags) rfl (by kernel_rfl) (by kernel_rfl) (by kernel_rfl) (fun _ _ _ h => h) (Or.inl ⟨by rfl, fun w0 hC => by simp [execOp, Act.eval, Act.put, go_sem]⟩) hHeld ?_
        try simp only [Act.put, List.setIfInBounds_toArray, List.set_cons_zero, List.set_cons_succ, List.getElem_toArray, List.getElem_cons_zero, List.getElem_cons_succ]
        refine wpAnyH_ready (rs := [7]) (by kernel_rfl) (by simp) (AllReadyH.cons rfl (fun K hK => ?_) AllReadyH.nil)
        rw [if_pos (by rfl)]
        go_wp2_with fail
        refine (fapply_any f mode flags W).mono ?_
        rintro e W3 ⟨z, dd, rfl, hz, hdd, rfl⟩
        have HZZ := Lib.hid hz
        clear hz hdd
        have hS := hHeld
        clear hHeld
        refine hK.out _ _ hS (fun hHeld => ?_)
        clear hK K
        try simp only [Act.put, List.setIfInBounds_toArray, List.set_cons_zero, List.set_cons_succ, List.getElem_toArray, List.getElem_cons_zero, List.getElem_cons_succ]
        have HS := Lib.hid hS
        clear hS
        refine wpAnyH_take (i := 8) (v := .tuple #[.int .i64 z, .int .i64 dd]) rfl (by kernel_rfl) (by kernel_rfl) (by kernel_rfl) (fun _ _ _ h => h) (Or.inl ⟨by rfl, fun w0 hC => by simp [execOp, Act.eval, Act.put, go_sem]⟩) hHeld ?_
        try simp only [Act.put, List.setIfInBounds_toArray, List.set_cons_zero, List.set_cons_succ, List.getElem_toArray, List.getElem_cons_zero, List.getElem_cons_succ]
        refine wpAnyH_take (i := 9) (v := .int .i64 z) rfl (by kernel_rfl) (by kernel_rfl) (by kernel_rfl) (fun _ _ _ h => h) (Or.inl ⟨by rfl, fun w0 hC => by simp [execOp, Act.eval, Act.put, go_sem]⟩) hHeld ?_
        try simp only [Act.put, List.setIfInBounds_toArray, List.set_cons_zero, List.set_cons_succ, List.getElem_toArray, List.getElem_cons_zero, List.getElem_cons_succ]
        refine wpAnyH_take (i := 10) (v := .int .i64 dd) rfl (by kernel_rfl) (by kernel_rfl) (by kernel_rfl) (fun _ _ _ h => h) (Or.inl ⟨by rfl, fun w0 hC => by simp [execOp, Act.eval, Act.put, go_sem]⟩) hHeld ?_
        try simp only [Act.put, List.setIfInBounds_toArray, List.set_cons_zero, List.set_cons_succ, List.getElem_toArray, List.getElem_cons_zero, List.getElem_cons_succ]
        refine wpAnyH_take (i := 11) (v := .pointer (some ⟨g, k * 4, none⟩)) rfl (by kernel_rfl) (by kernel_rfl) (by kernel_rfl) (fun _ _ _ h => h) (Or.inl ⟨by rfl, fun w0 hC => by simp [execOp, Act.eval, Act.put, go_sem, hk0, hkn, hlt]⟩) hHeld ?_
        try simp only [Act.put, List.setIfInBounds_toArray, List.set_cons_zero, List.set_cons_succ, List.getElem_toArray, List.getElem_cons_zero, List.getElem_cons_succ]
        refine wpAnyH_take (i := 12) (v := .pointer (some ⟨g, k * 4 + 1, none⟩)) rfl (by kernel_rfl) (by kernel_rfl) (by kernel_rfl) (fun _ _ _ h => h) (Or.inl ⟨by rfl, fun w0 hC => by simp [execOp, Act.eval, Act.put, go_sem]⟩) hHeld ?_
        try simp only [Act.put, List.setIfInBounds_toArray, List.set_cons_zero, List.set_cons_succ, List.getElem_toArray, List.getElem_cons_zero, List.getElem_cons_succ]
        obtain ⟨hgb6, _, f1, e1, _⟩ := HST6.out.2.2.1.putF HGT.out z
        simp only at e1
        refine wpAnyH_ready (rs := [13]) (by kernel_rfl) (by simp) (AllReadyH.cons rfl (fun K hK => ?_) AllReadyH.nil)
        rw [if_pos (by rfl)]
        go_wp2_with fail
        have hS : (W.setCell ⟨g, k * 4 + 1, none⟩ (.int .i64 z)).cell? ⟨bo, 3, none⟩ = some (.slice (some ⟨g, 0, none⟩) n c') ∧ (W.setCell ⟨g, k * 4 + 1, none⟩ (.int .i64 z)).cell? ⟨bm, 1, none⟩ = some (.int .i64 f) :=
          ⟨(HST6.out.put HGT.out z).2.1.cell 3, (cell_setCell_ne _ _ _ _ _ _ (fun q => HBG.out q.1.symm)).trans HS.out.2⟩
        refine hK.out _ _ hS (fun hHeld => ?_)
        clear hK K
        try simp only [Act.put, List.setIfInBounds_toArray, List.set_cons_zero, List.set_cons_succ, List.getElem_toArray, List.getElem_cons_zero, List.getElem_cons_succ]
        refine wpAnyH_done (by kernel_rfl) ?_ _
        have HST7 : Hid (StoAt w nm v nx A n c (some ⟨g, 0, none⟩) c' bo (stoTo l ids mode flags (k + 1)) (W.setCell ⟨g, k * 4 + 1, none⟩ (.int .i64 z))) := Lib.hid (by
          rw [← HGS.out, HZZ.out]
          exact HST6.out.put HGT.out _)
        have HKI7 := Lib.hid (HKI6.out.keptM HST6.out.2.2.1 (show 27 ≠ 36 by decide) (grownBy_cell W g (k * 4 + 1) (.int .i64 z)))
        clear hHeld hS HS HST6 HKI6 f1 e1
        go_wp2_with fail
        go_roundw
        case rel => exact ⟨k + 1, by omega, by go_num, HST7.out, HKI7.out⟩
        case measure => simp [intOf]; omega
      · have HQ : Hid (decide (u ∈ ids) = false) := Lib.hid (decide_eq_false hq)
        have HGS := Lib.hid (stoTo_skip (mode := mode) (flags := flags) HLA.out hq)
        clear hq ha
        go_wp2_with ((with_reducible show wpList _ _ _ (⟨some 50, _, _, _, _, _⟩ :: _) _ _); refine hold ?_)
        refine held (wpList_load_mid rfl 27 (.tmp 49) rfl g (k * 4) rfl _ _ HROW.out Try.underlying27 rfl (by kernel_rfl) ?_)
        unfold hdC
        obtain ⟨⟨m0, m1, m2, m3⟩, -, -, -, -⟩ := HM1.out
        go_wp2_with fail
        refine CM.out.mono ?_
        rintro e w6 ⟨rfl, rfl⟩
        rw [HQ.out]
        clear m0 m1 m2 m3
        go_wp2_with fail
        go_roundw
        case rel => exact ⟨k + 1, by omega, by go_num, by rw [HGS.out]; exact HST2.out, HKI2.out⟩
        case measure => simp [intOf]; omega
    · have hkn : ¬ (k : Int) < (n : Int) := by omega
      obtain rfl : n = k := by omega
      have hall : stoTo l ids mode flags n = storeL l ids mode flags := stoTo_all (by rw [HL.out.len]; exact Nat.le_refl _)
      have HST5 : Hid (StoAt w nm v nx A n c A' c' bo (storeL l ids mode flags) wr) := Lib.hid (by rw [← hall]; exact HST.out)
      clear hall HST HKIR
      obtain ⟨⟨k0, k1, k2, k3⟩, -, -, -, -⟩ := HST5.out.2.1.four
      obtain ⟨⟨r0, r1, r2, r3⟩, s0, s1, s2, s3⟩ := HST5.out.1.2.1.four
      go_wp2_with fail
      refine bodyPost_ret (results_cell2 rfl _ _ ⟨w.heap.size + 1, 0, none⟩ _ _ rfl rfl (Bk.box_ (Bk.put4 HST5.out.1.2.1 _ _ _ _))) rfl (StoreIs.yes HE.out ?_ ?_)
      · exact (HST5.out.2.2.1.far (grown_put4 _ _ _ _ _ _) (by omega)).msgs (small_store HSM.out)
      · exact below_put4 HST5.out.1.2.2.1 (by omega) _ _ _ _
end Go.Proofs.Ythmlgbeonmpbjaa
