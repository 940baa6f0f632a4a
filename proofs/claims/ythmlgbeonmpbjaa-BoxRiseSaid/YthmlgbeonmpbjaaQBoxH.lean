/-
  Contracts over package box and the document's own: messages taken out.
-/
import Derived.Test.YthmlgbeonmpbjaaQBoxG
namespace Go.Proofs.Ythmlgbeonmpbjaa
set_option linter.unusedVariables false
set_option linter.unusedSimpArgs false
open Go.RowKit
set_option linter.unusedVariables false
set_option linter.unusedSimpArgs false

/-- what is taken from is answered -/
def TakeIs (b : Bx) (ids : List Int) (w : World) (e : Ending) (w' : World) : Prop :=
  ∃ (A' : Option Addr) (n' c' : Nat) (A2 : Option Addr) (n2 c2 : Nat), e = .returned (.tuple #[.agg #[.string (tkB b ids).name, .int .i64 (tkB b ids).valid, .int .i64 (tkB b ids).next, .slice A' n' c'], .slice A2 n2 c2, .int .i64 (tkE b ids)]) ∧
    MsgsIn w' w'.heap.size A' n' (tkB b ids).msgs ∧ MsgsIn w' w'.heap.size A2 n2 (tkM b ids) ∧ Below w.heap.size w w'
theorem TakeIs.no {b : Bx} {ids : List Int} {w w' : World} {A' : Option Addr} {n' c' : Nat} {z : Int} (h : tkE b ids = z) (hz : z ≠ 0) (hm : MsgsIn w' w'.heap.size A' n' b.msgs) (hb : Below w.heap.size w w') : TakeIs b ids w (.returned (.tuple #[.agg #[.string b.name, .int .i64 b.valid, .int .i64 b.next, .slice A' n' c'], .slice none 0 0, .int .i64 z])) w' := by
  have hn := tkB_no (b := b) (ids := ids) (by rw [h]; exact hz)
  refine ⟨A', n', c', none, 0, 0, ?_, by rw [hn.1]; exact hm, by rw [hn.2]; exact MsgsIn.nil, hb⟩
  rw [hn.1, h]
theorem TakeIs.yes {b : Bx} {ids : List Int} {w w' : World} {A' A2 : Option Addr} {n' c' n2 c2 : Nat} (h : tkE b ids = 0) (hm : MsgsIn w' w'.heap.size A' n' (leftL b.msgs ids)) (h2 : MsgsIn w' w'.heap.size A2 n2 (goneL b.msgs ids)) (hb : Below w.heap.size w w') : TakeIs b ids w (.returned (.tuple #[.agg #[.string b.name, .int .i64 b.valid, .int .i64 b.next, .slice A' n' c'], .slice A2 n2 c2, .int .i64 0])) w' := by
  have hn := tkB_ok (b := b) (ids := ids) h
  refine ⟨A', n', c', A2, n2, c2, ?_, by rw [hn.1]; exact hm, by rw [hn.2]; exact h2, hb⟩
  rw [hn.1, h]
/-- the boxes of Take, of Store -/
def TwoAt (w : World) (nm : ByteArray) (v nx : Int) (A : Option Addr) (n c : Nat) (B1 : Nat) (wx : World) : Prop :=
  Bk wx w.heap.size 24 #[.string nm, .int .i64 v, .int .i64 nx, .slice A n c] ∧ Bk wx (w.heap.size + 1) 24 #[.string ⟨#[]⟩, .int .i64 0, .int .i64 0, .slice none 0 0] ∧ Below w.heap.size w wx ∧ w.heap.size + 2 ≤ wx.heap.size ∧ B1 ≤ wx.heap.size
theorem TwoAt.below {w wx W : World} {nm : ByteArray} {v nx : Int} {A : Option Addr} {n c B1 : Nat} (h : TwoAt w nm v nx A n c B1 wx) (hb : Below wx.heap.size wx W) : TwoAt w nm v nx A n c B1 W := by
  obtain ⟨h1, h2, h3, h4, h5⟩ := h
  exact ⟨h1.below hb h1.lt, h2.below hb h2.lt, h3.trans (hb.mono h3.size), Nat.le_trans h4 hb.size, Nat.le_trans h5 hb.size⟩
theorem TwoAt.below2 {w wx W : World} {nm : ByteArray} {v nx : Int} {A : Option Addr} {n c B1 : Nat} (h : TwoAt w nm v nx A n c B1 wx) {B : Nat} (hB : w.heap.size + 2 ≤ B) (hb : Below B wx W) : TwoAt w nm v nx A n c B1 W := by
  obtain ⟨h1, h2, h3, h4, h5⟩ := h
  exact ⟨h1.below hb (by omega), h2.below hb (by omega), h3.trans (hb.mono (by omega)), Nat.le_trans h4 hb.size, Nat.le_trans h5 hb.size⟩
theorem cell_setCell_ne (w : World) (b i b' i' : Nat) (v : Value) (h : ¬ (b = b' ∧ i = i')) : (w.setCell ⟨b, i, none⟩ v).cell? ⟨b', i', none⟩ = w.cell? ⟨b', i', none⟩ :=
  World.cell?_setCell_other _ _ _ _ (by intro e; injection e with e1 e2; first | exact h ⟨e1, e2⟩ | exact h ⟨e1.symm, e2.symm⟩)
/-- two slices do not lie in one block -/
def ApartM (v v' : Value) : Prop := ∀ g, v.ownBlock = some g → v'.ownBlock ≠ some g
theorem ApartM.symm {v v' : Value} (h : ApartM v v') : ApartM v' v := fun g h1 h2 => h g h2 h1
theorem ApartM.row {v v' : Value} (h : ApartM v v') : v'.ownBlock = none ∨ v'.ownBlock ≠ v.ownBlock := by
  cases hv : v'.ownBlock with
  | none => exact .inl rfl
  | some g => exact .inr fun e => h g e.symm hv
theorem ApartM.next {w : World} {base size n : Nat} {e : TypeId} {v v' v2 : Value} {xs : List Value} (h : ApartM v v') (h' : w.ownsRow base e size v' n xs) (hat : v2.ownBlock = v.ownBlock ∨ v2.ownBlock = some w.heap.size) : ApartM v2 v' := by
  intro g hg hv
  rcases hat with ha | ha
  · exact h g (by rw [← ha]; exact hg) hv
  · rw [ha] at hg
    injection hg with hg
    have := (h'.lt g hv).2
    omega
/-- messages whose rows are one's own, from block base on, their bytes below it -/
def OwnR (w : World) (base : Nat) (A : Option Addr) (n c : Nat) (l : List Mg) : Prop := ∃ hs : List Hd, OwnK 4 hdC w base 27 A n c hs ∧ (∀ h ∈ hs, HdIn w base h) ∧ hs.map Hd.m = l
section
variable {w w' : World} {base n c : Nat} {A : Option Addr} {l : List Mg}
theorem Bytes.boxed {w : World} {B n b i : Nat} {A : Option Addr} {l : List Nat} {x : Value} (h : Bytes w B A n l) (hx : w.cell? ⟨b, i, none⟩ = some x) (hne : ∀ z, x ≠ .int .u8 z) (v : Value) : Bytes (w.setCell ⟨b, i, none⟩ v) B A n l := by
  refine ⟨h.1, h.2.1, fun hn => ?_⟩
  obtain ⟨b0, o, e, hb, hc⟩ := h.2.2 hn
  refine ⟨b0, o, e, hb, fun k hk => ?_⟩
  have hk' := hc k hk
  by_cases hq : b0 = b ∧ o + k = i
  · obtain ⟨rfl, rfl⟩ := hq
    rw [hx] at hk'
    injection hk' with hk'
    exact absurd hk' (hne _)
  · rw [← hk']
    exact cell_setCell_ne w b i b0 (o + k) v (fun e1 => hq ⟨e1.1.symm, e1.2.symm⟩)
theorem OwnR.nil : OwnR w base none 0 0 [] := ⟨[], OwnK.nil hdC_len, fun h hh => (by cases hh), rfl⟩
theorem OwnR.len (h : OwnR w base A n c l) : l.length = n := by
  obtain ⟨hs, h1, _, h3⟩ := h
  rw [← h3, List.length_map, h1.len]
theorem OwnR.below (h : OwnR w base A n c l) (hb : Below w.heap.size w w') (hB : base ≤ w.heap.size) : OwnR w' base A n c l := by
  obtain ⟨hs, h1, h2, h3⟩ := h
  exact ⟨hs, h1.below hb, fun x hx => (h2 x hx).below hb hB, h3⟩
theorem OwnR.other (h : OwnR w base A n c l) {v : Value} (hg : w.grownBy w' v.ownBlock) (ha : ApartM v (.slice A n c)) (hb : Below base w w') : OwnR w' base A n c l := by
  obtain ⟨hs, h1, h2, h3⟩ := h
  exact ⟨hs, ⟨h1.1.kept hg ha.row, h1.2⟩, fun x hx => (h2 x hx).below hb (Nat.le_refl _), h3⟩
theorem OwnR.far {b i : Nat} {x : Value} (h : OwnR w base A n c l) (hx : w.cell? ⟨b, i, none⟩ = some x) (hne : ∀ z, x ≠ .int .u8 z) (v : Value) (hb : b < base) : OwnR (w.setCell ⟨b, i, none⟩ v) base A n c l := by
  obtain ⟨hs, h1, h2, h3⟩ := h
  exact ⟨hs, ⟨ownsB_kept h1.1 (grownBy_cell w b i v) (fun b' cs fr q hb' => by injection q with q; omega), h1.2⟩, fun y hy => ⟨(h2 y hy).1.boxed hx hne v, (h2 y hy).2⟩, h3⟩
theorem OwnR.msgs (h : OwnR w base A n c l) (hB : base ≤ w.heap.size) : MsgsIn w w.heap.size A n l := by
  obtain ⟨hs, h1, h2, h3⟩ := h
  exact ⟨hs, h1.col, fun x hx => (h2 x hx).more hB, h3⟩
end
theorem wpList_append_r {ops : Array Oper} {rest : List Oper} {o : Oper} {a : Act} {w : World} {Q : Exit → Act → World → Prop} (hgd : o.guard = none) (s x : Operand)
    (ho : o.op = .call { callee := .builtin .append, args := #[s, x], argTypes := #[22, 22] })
    (base : Nat) (A : Option Addr) (n c : Nat) (l : List Mg) (hs : a.eval s = .slice A n c) (hown : OwnR w base A n c l)
    (b off : Nat) (v : Hd) (hx : a.eval x = .slice (some ⟨b, off, none⟩) 1 1) (hc : w.rangeAt b off (hdC v)) (hv : HdIn w base v) (hn : n ≤ 1000000) (hbase : base ≤ w.heap.size)
    (h : ∀ A2 c2 w', OwnR w' base A2 (n + 1) c2 (l ++ [v.m]) → Below base w w' → w.grownBy w' (Value.slice A n c).ownBlock → ((Value.slice A2 (n + 1) c2).ownBlock = (Value.slice A n c).ownBlock ∨ (Value.slice A2 (n + 1) c2).ownBlock = some w.heap.size) → wpList Try.prog ops Q rest (a.put o.dst (.slice A2 (n + 1) c2)) w') : wpList Try.prog ops Q (o :: rest) a w := by
  obtain ⟨us, h1, h2, rfl⟩ := hown
  refine wpList_append_at (k := 4) (f := hdC) hgd s x 22 ho Try.underlying22 info_msg rfl (by omega) (by omega) base A n c us hs h1 b off v hx hc (hdC_one v) hn hbase ?_
  intro A2 c2 w' ho2 hb2 hg2 hat
  refine h A2 c2 w' ⟨us ++ [v], ho2, fun y hy => ?_, by rw [List.map_append]; rfl⟩ hb2 hg2 hat
  rcases List.mem_append.1 hy with hy | hy
  · exact (h2 y hy).below hb2 (Nat.le_refl _)
  · rw [List.mem_singleton.1 hy]; exact hv.below hb2 (Nat.le_refl _)
set_option maxRecDepth 20000 in
set_option maxHeartbeats 8000000 in
theorem take_any (nm : ByteArray) (v nx : Int) (A : Option Addr) (n c : Nat) (l : List Mg) (B : Option Addr) (m d0 : Nat) (ids : List Int) (w : World) (hl : MsgsIn w w.heap.size A n l) (hn : n ≤ 1000000) (hsm : ∀ m ∈ l, m.body.length ≤ 1000000) (hi : Col ints w w.heap.size B m ids) (hm : m ≤ 140737488355328) :
    Calls Try.prog 19 #[.agg #[.string nm, .int .i64 v, .int .i64 nx, .slice A n c], .slice B m d0] w (TakeIs ⟨nm, v, nx, l⟩ ids w) := by
  have hB : Below w.heap.size w ((w.alloc (.cells #[.string nm, .int .i64 v, .int .i64 nx, .slice A n c] 24)).alloc (.cells #[.string ⟨#[]⟩, .int .i64 0, .int .i64 0, .slice none 0 0] 24)) := ((Below.refl _ _).alloc (Nat.le_refl _) _).alloc (by simp) _
  have hat : TwoAt w nm v nx A n c (w.heap.size + 2) ((w.alloc (.cells #[.string nm, .int .i64 v, .int .i64 nx, .slice A n c] 24)).alloc (.cells #[.string ⟨#[]⟩, .int .i64 0, .int .i64 0, .slice none 0 0] 24)) := ⟨(Bk.new _ _ _).alloc _, Bk.new2 _ _ _ _, hB, by simp, by simp⟩
  have HL := Lib.hid hl
  have HSM := Lib.hid hsm
  have HI := Lib.hid hi
  have HZ : Hid (((w.alloc (.cells #[.string nm, .int .i64 v, .int .i64 nx, .slice A n c] 24)).alloc (.cells #[.string ⟨#[]⟩, .int .i64 0, .int .i64 0, .slice none 0 0] 24)).heap.size = w.heap.size + 2) := Lib.hid (by simp)
  have HAT := Lib.hid hat
  obtain ⟨⟨c0, c1, c2, c3⟩, -, -, -, -⟩ := hat.1.four
  have CC := Lib.hid (copy_any nm v nx A n c l _ (hl.later hB) hn hsm)
  clear hat hB hl hsm hi
  cases hok : okBx ⟨nm, v, nx, l⟩
  · have HE : Hid (tkE ⟨nm, v, nx, l⟩ ids = 1) := Lib.hid (tkE_arg (fun h => by rw [okBx_yes h] at hok; cases hok))
    have HOK := Lib.hid hok
    clear hok
    go_enter Try.func19, Try.ntmps19
    go_wp2_with fail
    refine CC.out.mono ?_
    rintro e w2 ⟨A', c', rfl, ho, hb⟩
    have hba : Below w2.heap.size w2 (w2.alloc (.cells #[.string nm, .int .i64 v, .int .i64 nx, .slice A' n c'] 24)) := (Below.refl _ _).alloc (Nat.le_refl _) _
    have HAT2 := Lib.hid ((HAT.out.below hb).below hba)
    have HO2 := Lib.hid ((ho.from_ (show w.heap.size + 2 ≤ _ by rw [HZ.out]; exact Nat.le_refl _)).below hba)
    obtain ⟨bo, hbo⟩ : ∃ bo, w2.heap.size = bo := ⟨_, rfl⟩
    have hbl : w.heap.size + 2 ≤ bo := by have := hb.size; rw [HZ.out] at this; omega
    have HK2 : Hid (Bk (w2.alloc (.cells #[.string nm, .int .i64 v, .int .i64 nx, .slice A' n c'] 24)) bo 24 #[.string nm, .int .i64 v, .int .i64 nx, .slice A' n c']) := Lib.hid (by rw [← hbo]; exact Bk.new _ _ _)
    clear ho hb hba c0 c1 c2 c3 HAT CC HZ
    obtain ⟨⟨b0, b1, b2, b3⟩, -, -, -, -⟩ := HAT2.out.1.four
    go_wp2_with fail
    try rw [hbo]
    clear hbo b0 b1 b2 b3
    generalize w2.alloc (.cells #[.string nm, .int .i64 v, .int .i64 nx, .slice A' n c'] 24) = W2 at *
    have hR := right_any nm v nx A n c l W2 (HL.out.later HAT2.out.2.2.1) (by omega)
    rw [HOK.out] at hR
    refine hR.mono ?_
    rintro e w3 ⟨rfl, hb3⟩
    have HAT3 := Lib.hid (HAT2.out.below hb3)
    have HO3 := Lib.hid (HO2.out.below hb3)
    have HK3 := Lib.hid (HK2.out.below hb3 HK2.out.lt)
    clear hb3 HAT2 hR HO2 HK2
    obtain ⟨⟨b0, b1, b2, b3⟩, -, -, -, -⟩ := HAT3.out.1.four
    obtain ⟨⟨r0, r1, r2, r3⟩, s0, s1, s2, s3⟩ := HAT3.out.2.1.four
    obtain ⟨⟨k0, k1, k2, k3⟩, l0, l1, l2, l3⟩ := HK3.out.four
    go_wp2_with fail
    refine bodyPost_ret (results_cell3 rfl _ _ ⟨w.heap.size + 1, 0, none⟩ _ _ _ rfl rfl rfl (Bk.box_ (Bk.put4 HAT3.out.2.1 _ _ _ _))) rfl (TakeIs.no (z := 1) HE.out (by omega) ?_ ?_)
    · exact (HO3.out.far (grown_put4 _ _ _ _ _ _) (by omega)).msgs (fun m hm => Nat.le_trans (HSM.out m hm) (by omega))
    · exact below_put4 HAT3.out.2.2.1 (by omega) _ _ _ _
  have HOKB := Lib.hid (okBx_iff.1 hok)
  have HOK := Lib.hid hok
  clear hok
  cases hth : thereU l ids
  · have HE : Hid (tkE ⟨nm, v, nx, l⟩ ids = 6) := Lib.hid (tkE_none HOKB.out hth)
    have HTH := Lib.hid hth
    clear hth
    go_enter Try.func19, Try.ntmps19
    go_wp2_with fail
    refine CC.out.mono ?_
    rintro e w2 ⟨A', c', rfl, ho, hb⟩
    have hba : Below w2.heap.size w2 (w2.alloc (.cells #[.string nm, .int .i64 v, .int .i64 nx, .slice A' n c'] 24)) := (Below.refl _ _).alloc (Nat.le_refl _) _
    have HAT2 := Lib.hid ((HAT.out.below hb).below hba)
    have HO2 := Lib.hid ((ho.from_ (show w.heap.size + 2 ≤ _ by rw [HZ.out]; exact Nat.le_refl _)).below hba)
    obtain ⟨bo, hbo⟩ : ∃ bo, w2.heap.size = bo := ⟨_, rfl⟩
    have hbl : w.heap.size + 2 ≤ bo := by have := hb.size; rw [HZ.out] at this; omega
    have HK2 : Hid (Bk (w2.alloc (.cells #[.string nm, .int .i64 v, .int .i64 nx, .slice A' n c'] 24)) bo 24 #[.string nm, .int .i64 v, .int .i64 nx, .slice A' n c']) := Lib.hid (by rw [← hbo]; exact Bk.new _ _ _)
    clear ho hb hba c0 c1 c2 c3 HAT CC HZ
    obtain ⟨⟨b0, b1, b2, b3⟩, -, -, -, -⟩ := HAT2.out.1.four
    go_wp2_with fail
    try rw [hbo]
    clear hbo b0 b1 b2 b3
    generalize w2.alloc (.cells #[.string nm, .int .i64 v, .int .i64 nx, .slice A' n c'] 24) = W2 at *
    have hR := right_any nm v nx A n c l W2 (HL.out.later HAT2.out.2.2.1) (by omega)
    rw [HOK.out] at hR
    refine hR.mono ?_
    rintro e w3 ⟨rfl, hb3⟩
    have HAT3 := Lib.hid (HAT2.out.below hb3)
    have HO3 := Lib.hid (HO2.out.below hb3)
    have HK3 := Lib.hid (HK2.out.below hb3 HK2.out.lt)
    clear hb3 HAT2 hR HO2 HK2
    obtain ⟨⟨b0, b1, b2, b3⟩, -, -, -, -⟩ := HAT3.out.1.four
    go_wp2_with fail
    clear b0 b1 b2 b3
    have hM := meant_any nm v nx A n c l B m d0 ids w3 (HL.out.later HAT3.out.2.2.1) hn ((HI.out.below HAT3.out.2.2.1 (Nat.le_refl _)).more HAT3.out.2.2.1.size) hm
    rw [HTH.out] at hM
    refine hM.mono ?_
    rintro e w4 ⟨fv, z, rfl, hb4, hz⟩
    obtain rfl : z = 6 := by rcases hz with ⟨_, h⟩ | ⟨h, _⟩; exact h; cases h
    have HAT4 := Lib.hid (HAT3.out.below hb4)
    have HO4 := Lib.hid (HO3.out.below hb4)
    have HK4 := Lib.hid (HK3.out.below hb4 HK3.out.lt)
    clear hb4 hM hz HAT3 HO3 HK3
    obtain ⟨⟨b0, b1, b2, b3⟩, -, -, -, -⟩ := HAT4.out.1.four
    obtain ⟨⟨r0, r1, r2, r3⟩, s0, s1, s2, s3⟩ := HAT4.out.2.1.four
    obtain ⟨⟨k0, k1, k2, k3⟩, l0, l1, l2, l3⟩ := HK4.out.four
    go_wp2_with fail
    refine bodyPost_ret (results_cell3 rfl _ _ ⟨w.heap.size + 1, 0, none⟩ _ _ _ rfl rfl rfl (Bk.box_ (Bk.put4 HAT4.out.2.1 _ _ _ _))) rfl (TakeIs.no (z := 6) HE.out (by omega) ?_ ?_)
    · exact (HO4.out.far (grown_put4 _ _ _ _ _ _) (by omega)).msgs (fun m hm => Nat.le_trans (HSM.out m hm) (by omega))
    · exact below_put4 HAT4.out.2.2.1 (by omega) _ _ _ _
  have HE : Hid (tkE ⟨nm, v, nx, l⟩ ids = 0) := Lib.hid (tkE_ok HOKB.out hth)
  have HTH := Lib.hid hth
  clear hth
  go_enter Try.func19, Try.ntmps19
  go_wp2_with fail
  refine CC.out.mono ?_
  rintro e w2 ⟨A', c', rfl, ho, hb⟩
  have hba : Below w2.heap.size w2 (w2.alloc (.cells #[.string nm, .int .i64 v, .int .i64 nx, .slice A' n c'] 24)) := (Below.refl _ _).alloc (Nat.le_refl _) _
  have HAT2 := Lib.hid ((HAT.out.below hb).below hba)
  have HO2 := Lib.hid ((ho.from_ (show w.heap.size + 2 ≤ _ by rw [HZ.out]; exact Nat.le_refl _)).below hba)
  obtain ⟨bo, hbo⟩ : ∃ bo, w2.heap.size = bo := ⟨_, rfl⟩
  have hbl : w.heap.size + 2 ≤ bo := by have := hb.size; rw [HZ.out] at this; omega
  have HK2 : Hid (Bk (w2.alloc (.cells #[.string nm, .int .i64 v, .int .i64 nx, .slice A' n c'] 24)) bo 24 #[.string nm, .int .i64 v, .int .i64 nx, .slice A' n c']) := Lib.hid (by rw [← hbo]; exact Bk.new _ _ _)
  clear ho hb hba c0 c1 c2 c3 HAT CC HZ
  obtain ⟨⟨b0, b1, b2, b3⟩, -, -, -, -⟩ := HAT2.out.1.four
  go_wp2_with fail
  try rw [hbo]
  clear hbo b0 b1 b2 b3
  generalize w2.alloc (.cells #[.string nm, .int .i64 v, .int .i64 nx, .slice A' n c'] 24) = W2 at *
  have hR := right_any nm v nx A n c l W2 (HL.out.later HAT2.out.2.2.1) (by omega)
  rw [HOK.out] at hR
  refine hR.mono ?_
  rintro e w3 ⟨rfl, hb3⟩
  have HAT3 := Lib.hid (HAT2.out.below hb3)
  have HO3 := Lib.hid (HO2.out.below hb3)
  have HK3 := Lib.hid (HK2.out.below hb3 HK2.out.lt)
  clear hb3 HAT2 hR HO2 HK2
  obtain ⟨⟨b0, b1, b2, b3⟩, -, -, -, -⟩ := HAT3.out.1.four
  go_wp2_with fail
  clear b0 b1 b2 b3
  have hM := meant_any nm v nx A n c l B m d0 ids w3 (HL.out.later HAT3.out.2.2.1) hn ((HI.out.below HAT3.out.2.2.1 (Nat.le_refl _)).more HAT3.out.2.2.1.size) hm
  rw [HTH.out] at hM
  refine hM.mono ?_
  rintro e w4 ⟨fv, z, rfl, hb4, hz⟩
  obtain ⟨_, rfl, bi, hbi, rfl, hki⟩ : True ∧ z = 0 ∧ ∃ bi, w3.heap.size ≤ bi ∧ fv = .func (.func 52) #[] #[.pointer (some ⟨bi, 0, none⟩)] ∧ Bk w4 bi 36 #[.slice B m d0] := by rcases hz with ⟨h, _⟩ | ⟨_, h⟩; cases h; exact ⟨trivial, h⟩
  have hat4 := HAT3.out.below hb4
  have HK4 := Lib.hid (HK3.out.below hb4 HK3.out.lt)
  have hm4 := (HO3.out.below hb4).msgs (fun m hm => Nat.le_trans (HSM.out m hm) (by omega))
  have hbe : Below w4.heap.size w4 ((w4.alloc (.cells #[] 27)).alloc (.cells #[] 27)) := ((Below.refl _ _).alloc (Nat.le_refl _) _).alloc (by simp) _
  have HS4 := Lib.hid (show w.heap.size + 2 ≤ w4.heap.size from hat4.2.2.2.1)
  have HBO := Lib.hid (show bo < w4.heap.size from HK4.out.lt)
  have HBI := Lib.hid hki.lt
  have HKI := Lib.hid hki
  have HM4 := Lib.hid hm4
  have HI4 := Lib.hid ((HI.out.below hat4.2.2.1 (Nat.le_refl _)).more hat4.2.2.1.size)
  have HX4 : Hid (((w4.alloc (.cells #[] 27)).alloc (.cells #[] 27)).cell? ⟨bo, 3, none⟩ = some (.slice A' n c')) := Lib.hid ((hbe.cell (p := ⟨bo, 3, none⟩) HK4.out.lt).trans (HK4.out.cell 3))
  have HL1 : Hid (OwnR ((w4.alloc (.cells #[] 27)).alloc (.cells #[] 27)) w4.heap.size (some ⟨w4.heap.size, 0, none⟩) 0 0 []) := Lib.hid ⟨[], (OwnK.empty hdC_len w4 27).alloc _, fun h hh => (by cases hh), rfl⟩
  have HL2 : Hid (OwnR ((w4.alloc (.cells #[] 27)).alloc (.cells #[] 27)) w4.heap.size (some ⟨w4.heap.size + 1, 0, none⟩) 0 0 []) := Lib.hid ⟨[], by have := (OwnK.empty hdC_len (w4.alloc (.cells #[] 27)) 27).from_ (base' := w4.heap.size) (by simp); rwa [World.size_alloc] at this, fun h hh => (by cases hh), rfl⟩
  have HAP : Hid (ApartM (.slice (some ⟨w4.heap.size, 0, none⟩) 0 0) (.slice (some ⟨w4.heap.size + 1, 0, none⟩) 0 0)) := Lib.hid (fun g h1 h2 => by simp [Value.ownBlock] at h1 h2; omega)
  have HBE := Lib.hid hbe
  have HAT4 := Lib.hid hat4
  clear hb4 hM hz HAT3 HO3 HK3 hbi hki hat4 hm4 hbe
  have x3 := HX4.out
  have k3 := HK4.out.cell 3
  go_wp2_with fail
  clear x3 k3
  generalize ((w4.alloc (.cells #[] 27)).alloc (.cells #[] 27)) = W5 at *
  go_loopw [10, 11, 35] (fun t10 t11 i wx => ∃ (k n1 c1 n2 c2 : Nat) (A1 A2 : Option Addr), k ≤ n ∧ i = .int .i64 (k : Int) ∧ t10 = .slice A1 n1 c1 ∧ t11 = .slice A2 n2 c2 ∧ n1 ≤ k ∧ n2 ≤ k ∧ OwnR wx w4.heap.size A1 n1 c1 (leftL (l.take k) ids) ∧ OwnR wx w4.heap.size A2 n2 c2 (goneL (l.take k) ids) ∧ ApartM (.slice A1 n1 c1) (.slice A2 n2 c2) ∧ Below w4.heap.size w4 wx) (fun _ _ i _ => n - (intOf i).toNat)
  case atStart => exact ⟨0, 0, 0, 0, 0, _, _, Nat.zero_le _, rfl, rfl, rfl, Nat.le_refl _, Nat.le_refl _, HL1.out, HL2.out, HAP.out, HBE.out⟩
  case round =>
    obtain ⟨k, n1, c1, n2, c2, A1, A2, hk, rfl, rfl, rfl, hn1, hn2, ho1, ho2, hap, hb⟩ := hrel
    have HO1 := Lib.hid ho1
    have HO2 := Lib.hid ho2
    have HAPR := Lib.hid hap
    have HBR := Lib.hid hb
    clear ho1 ho2 hap hb HL1 HL2 HAP HBE
    by_cases hlt : k < n
    · obtain ⟨b, o, x, rfl, hbb, hla, htk, hrow, hin⟩ := (HM4.out.below HBR.out (Nat.le_refl _)).at_ hlt
      have HTK := Lib.hid htk
      have HROW := Lib.hid hrow
      have HIN := Lib.hid hin
      have hk0 : (0 : Int) ≤ (k : Int) := by omega
      have hkn : (k : Int) < (n : Int) := by omega
      obtain ⟨⟨u, f, d, bl⟩, xA, xn, xc⟩ := x
      have hws := HBR.out.size
      have hb1 : Below w4.heap.size w4 (wr.alloc (.cells #[.int .i64 u, .int .i64 f, .int .i64 d, .slice xA xn xc] 27)) := HBR.out.alloc hws _
      have CM := Lib.hid (meant1_any bi u f d xA xn xc B m d0 ids (wr.alloc (.cells #[.int .i64 u, .int .i64 f, .int .i64 d, .slice xA xn xc] 27)) ((HKI.out.below hb1 HBI.out).cell 0) ((HI4.out.below hb1 (Nat.le_refl _)).more hb1.size) hm)
      have hm1 : Bk (wr.alloc (.cells #[.int .i64 u, .int .i64 f, .int .i64 d, .slice xA xn xc] 27)) wr.heap.size 27 #[.int .i64 u, .int .i64 f, .int .i64 d, .slice xA xn xc] := Bk.new _ _ _
      have HM1 := Lib.hid hm1.four
      have HM2 := Lib.hid (hm1.alloc (.cells #[.int .i64 u, .int .i64 f, .int .i64 d, .slice xA xn xc] 27)).four
      have hw3 : Below wr.heap.size wr (((wr.alloc (.cells #[.int .i64 u, .int .i64 f, .int .i64 d, .slice xA xn xc] 27)).alloc (.cells #[.int .i64 u, .int .i64 f, .int .i64 d, .slice xA xn xc] 27)).alloc (.cells #[.int .i64 u, .int .i64 f, .int .i64 d, .slice xA xn xc] 27)) := (((Below.refl _ _).alloc (Nat.le_refl _) _).alloc (by simp) _).alloc (by simp; omega) _
      have HO13 := Lib.hid (HO1.out.below hw3 hws)
      have HO23 := Lib.hid (HO2.out.below hw3 hws)
      have HB3 := Lib.hid (HBR.out.trans (hw3.mono hws))
      have HN3 : Hid ((((wr.alloc (.cells #[.int .i64 u, .int .i64 f, .int .i64 d, .slice xA xn xc] 27)).alloc (.cells #[.int .i64 u, .int .i64 f, .int .i64 d, .slice xA xn xc] 27)).alloc (.cells #[.int .i64 u, .int .i64 f, .int .i64 d, .slice xA xn xc] 27)).rangeAt (wr.heap.size + 1 + 1) 0 (hdC ⟨⟨u, f, d, bl⟩, xA, xn, xc⟩)) := Lib.hid (Bk.new3 wr (.cells #[.int .i64 u, .int .i64 f, .int .i64 d, .slice xA xn xc] 27) (.cells #[.int .i64 u, .int .i64 f, .int .i64 d, .slice xA xn xc] 27) 27 #[.int .i64 u, .int .i64 f, .int .i64 d, .slice xA xn xc]).range
      have HIN3 : Hid (HdIn (((wr.alloc (.cells #[.int .i64 u, .int .i64 f, .int .i64 d, .slice xA xn xc] 27)).alloc (.cells #[.int .i64 u, .int .i64 f, .int .i64 d, .slice xA xn xc] 27)).alloc (.cells #[.int .i64 u, .int .i64 f, .int .i64 d, .slice xA xn xc] 27)) w4.heap.size ⟨⟨u, f, d, bl⟩, xA, xn, xc⟩) := Lib.hid (HIN.out.below (hw3.mono hws) (Nat.le_refl _))
      have HS3 := Lib.hid (show w4.heap.size ≤ (((wr.alloc (.cells #[.int .i64 u, .int .i64 f, .int .i64 d, .slice xA xn xc] 27)).alloc (.cells #[.int .i64 u, .int .i64 f, .int .i64 d, .slice xA xn xc] 27)).alloc (.cells #[.int .i64 u, .int .i64 f, .int .i64 d, .slice xA xn xc] 27)).heap.size by simp; omega)
      have HF1 := Lib.hid (hm1.alloc (.cells #[.int .i64 u, .int .i64 f, .int .i64 d, .slice xA xn xc] 27))
      clear hla htk hrow hin hb1 hm1 hw3 hws
      by_cases hq : u ∈ ids
      · have HQ : Hid (decide (u ∈ ids) = true) := Lib.hid (decide_eq_true hq)
        have HGS := Lib.hid (gone_snoc HTK.out hq)
        clear hq
        go_wp2_with ((with_reducible show wpList _ _ _ (⟨some 38, _, _, _, _, _⟩ :: _) _ _); refine hold ?_)
        refine held (wpList_load_mid rfl 27 (.tmp 37) rfl b (o + k * 4) rfl _ _ HROW.out Try.underlying27 rfl (by kernel_rfl) ?_)
        unfold hdC
        obtain ⟨⟨m0, m1, m2, m3⟩, -, -, -, -⟩ := HM1.out
        go_wp2_with fail
        refine CM.out.mono ?_
        rintro e w6 ⟨rfl, rfl⟩
        rw [HQ.out]
        clear m0 m1 m2 m3
        obtain ⟨⟨m0, m1, m2, m3⟩, -, -, -, -⟩ := HM2.out
        go_wp2_with ((with_reducible show wpList _ _ _ (⟨some 45, _, _, _, _, _⟩ :: _) _ _); refine hold ?_)
        clear m0 m1 m2 m3
        generalize ((wr.alloc (.cells #[.int .i64 u, .int .i64 f, .int .i64 d, .slice xA xn xc] 27)).alloc (.cells #[.int .i64 u, .int .i64 f, .int .i64 d, .slice xA xn xc] 27)).alloc (.cells #[.int .i64 u, .int .i64 f, .int .i64 d, .slice xA xn xc] 27) = W6 at *
        refine held (wpList_append_r rfl (.tmp 42) (.tmp 44) rfl w4.heap.size A2 n2 c2 _ rfl HO23.out (wr.heap.size + 1 + 1) 0 ⟨⟨u, f, d, bl⟩, xA, xn, xc⟩ rfl HN3.out HIN3.out (by omega) HS3.out ?_)
        intro A7 c7 w7 ho7 hb7 hg7 hat7
        have HO7 : Hid (OwnR w7 w4.heap.size A7 (n2 + 1) c7 (goneL (l.take (k + 1)) ids)) := Lib.hid (by rw [HGS.out.1]; exact ho7)
        have HO8 : Hid (OwnR w7 w4.heap.size A1 n1 c1 (leftL (l.take (k + 1)) ids)) := Lib.hid (by rw [HGS.out.2]; exact HO13.out.other hg7 HAPR.out.symm hb7)
        obtain ⟨us, q1, _, _⟩ := HO13.out
        have HAP7 := Lib.hid (ApartM.symm (HAPR.out.symm.next q1.1 hat7))
        have HB7 := Lib.hid (HB3.out.trans hb7)
        clear ho7 hb7 hg7 hat7 q1 HO13 HO23 HB3 HN3 HIN3 HS3 CM
        go_wp2_with fail
        go_roundw
        case rel => exact ⟨k + 1, n1, c1, n2 + 1, c7, A1, A7, by omega, by go_num, rfl, rfl, by omega, by omega, HO8.out, HO7.out, HAP7.out, HB7.out⟩
        case measure => simp [intOf]; omega
      · have HQ : Hid (decide (u ∈ ids) = false) := Lib.hid (decide_eq_false hq)
        have HGS := Lib.hid (left_snoc HTK.out hq)
        clear hq
        go_wp2_with ((with_reducible show wpList _ _ _ (⟨some 38, _, _, _, _, _⟩ :: _) _ _); refine hold ?_)
        refine held (wpList_load_mid rfl 27 (.tmp 37) rfl b (o + k * 4) rfl _ _ HROW.out Try.underlying27 rfl (by kernel_rfl) ?_)
        unfold hdC
        obtain ⟨⟨m0, m1, m2, m3⟩, -, -, -, -⟩ := HM1.out
        go_wp2_with fail
        refine CM.out.mono ?_
        rintro e w6 ⟨rfl, rfl⟩
        rw [HQ.out]
        clear m0 m1 m2 m3
        obtain ⟨⟨m0, m1, m2, m3⟩, -, -, -, -⟩ := HM2.out
        go_wp2_with ((with_reducible show wpList _ _ _ (⟨some 49, _, _, _, _, _⟩ :: _) _ _); refine hold ?_)
        clear m0 m1 m2 m3
        generalize ((wr.alloc (.cells #[.int .i64 u, .int .i64 f, .int .i64 d, .slice xA xn xc] 27)).alloc (.cells #[.int .i64 u, .int .i64 f, .int .i64 d, .slice xA xn xc] 27)).alloc (.cells #[.int .i64 u, .int .i64 f, .int .i64 d, .slice xA xn xc] 27) = W6 at *
        refine held (wpList_append_r rfl (.tmp 46) (.tmp 48) rfl w4.heap.size A1 n1 c1 _ rfl HO13.out (wr.heap.size + 1 + 1) 0 ⟨⟨u, f, d, bl⟩, xA, xn, xc⟩ rfl HN3.out HIN3.out (by omega) HS3.out ?_)
        intro A7 c7 w7 ho7 hb7 hg7 hat7
        have HO7 : Hid (OwnR w7 w4.heap.size A7 (n1 + 1) c7 (leftL (l.take (k + 1)) ids)) := Lib.hid (by rw [HGS.out.2]; exact ho7)
        have HO8 : Hid (OwnR w7 w4.heap.size A2 n2 c2 (goneL (l.take (k + 1)) ids)) := Lib.hid (by rw [HGS.out.1]; exact HO23.out.other hg7 HAPR.out hb7)
        obtain ⟨us, q1, _, _⟩ := HO23.out
        have HAP7 := Lib.hid (HAPR.out.next q1.1 hat7)
        have HB7 := Lib.hid (HB3.out.trans hb7)
        clear ho7 hb7 hg7 hat7 q1 HO13 HO23 HB3 HN3 HIN3 HS3 CM
        go_wp2_with fail
        go_roundw
        case rel => exact ⟨k + 1, n1 + 1, c7, n2, c2, A7, A2, by omega, by go_num, rfl, rfl, by omega, by omega, HO7.out, HO8.out, HAP7.out, HB7.out⟩
        case measure => simp [intOf]; omega
    · have hkn : ¬ (k : Int) < (n : Int) := by omega
      obtain rfl : n = k := by omega
      have htk : l.take n = l := List.take_of_length_le (by rw [HL.out.len]; exact Nat.le_refl _)
      have HO1E : Hid (OwnR wr w4.heap.size A1 n1 c1 (leftL l ids)) := Lib.hid (by have := HO1.out; rwa [htk] at this)
      have HO2E : Hid (OwnR wr w4.heap.size A2 n2 c2 (goneL l ids)) := Lib.hid (by have := HO2.out; rwa [htk] at this)
      have hk5 := HK4.out.below HBR.out HBO.out
      have hat5 := HAT4.out.below2 HS4.out HBR.out
      clear htk HO1 HO2
      have hk6 : Bk (wr.setCell ⟨bo, 3, none⟩ (.slice A1 n1 c1)) bo 24 #[.string nm, .int .i64 v, .int .i64 nx, .slice A1 n1 c1] := by simpa using hk5.put 3 (.slice A1 n1 c1)
      have hat6 := hat5.below2 (Nat.le_refl _) (below_cell hbl 3 (.slice A1 n1 c1))
      have e3 := hk5.cell 3
      have HO1F := Lib.hid (HO1E.out.far (hk5.cell 3) (by intro z h; cases h) (.slice A1 n1 c1) HBO.out)
      have HO2F := Lib.hid (HO2E.out.far (hk5.cell 3) (by intro z h; cases h) (.slice A1 n1 c1) HBO.out)
      have HSR := Lib.hid (show w4.heap.size ≤ (wr.setCell ⟨bo, 3, none⟩ (.slice A1 n1 c1)).heap.size by have := HBR.out.size; simp; omega)
      obtain ⟨⟨p0, p1, p2, p3⟩, t0, t1, t2, t3⟩ := hk5.four
      have HK6 := Lib.hid hk6
      have HAT6 := Lib.hid hat6
      clear hk5 hk6 hat5 hat6 HO1E HO2E e3
      obtain ⟨⟨k0, k1, k2, k3⟩, -, -, -, -⟩ := HK6.out.four
      obtain ⟨⟨r0, r1, r2, r3⟩, s0, s1, s2, s3⟩ := HAT6.out.2.1.four
      go_wp2_with fail
      refine bodyPost_ret (results_cell3 rfl _ _ ⟨w.heap.size + 1, 0, none⟩ _ _ _ rfl rfl rfl (Bk.box_ (Bk.put4 HAT6.out.2.1 _ _ _ _))) rfl (TakeIs.yes HE.out ?_ ?_ ?_)
      · refine ((((HO1F.out.far r0 (by intro z h; cases h) _ (by have := HS4.out; omega)).far (x := .int .i64 0) ?_ (by intro z h; cases h) _ (by have := HS4.out; omega)).far (x := .int .i64 0) ?_ (by intro z h; cases h) _ (by have := HS4.out; omega)).far (x := .slice none 0 0) ?_ (by intro z h; cases h) _ (by have := HS4.out; omega)).msgs (by have := HSR.out; simp at this ⊢; omega)
        · exact (cell_setCell_ne _ _ _ _ _ _ (by omega)).trans r1
        · exact (cell_setCell_ne _ _ _ _ _ _ (by omega)).trans ((cell_setCell_ne _ _ _ _ _ _ (by omega)).trans r2)
        · exact (cell_setCell_ne _ _ _ _ _ _ (by omega)).trans ((cell_setCell_ne _ _ _ _ _ _ (by omega)).trans ((cell_setCell_ne _ _ _ _ _ _ (by omega)).trans r3))
      · refine ((((HO2F.out.far r0 (by intro z h; cases h) _ (by have := HS4.out; omega)).far (x := .int .i64 0) ?_ (by intro z h; cases h) _ (by have := HS4.out; omega)).far (x := .int .i64 0) ?_ (by intro z h; cases h) _ (by have := HS4.out; omega)).far (x := .slice none 0 0) ?_ (by intro z h; cases h) _ (by have := HS4.out; omega)).msgs (by have := HSR.out; simp at this ⊢; omega)
        · exact (cell_setCell_ne _ _ _ _ _ _ (by omega)).trans r1
        · exact (cell_setCell_ne _ _ _ _ _ _ (by omega)).trans ((cell_setCell_ne _ _ _ _ _ _ (by omega)).trans r2)
        · exact (cell_setCell_ne _ _ _ _ _ _ (by omega)).trans ((cell_setCell_ne _ _ _ _ _ _ (by omega)).trans ((cell_setCell_ne _ _ _ _ _ _ (by omega)).trans r3))
      · exact below_put4 HAT6.out.2.2.1 (by omega) _ _ _ _
end Go.Proofs.Ythmlgbeonmpbjaa
