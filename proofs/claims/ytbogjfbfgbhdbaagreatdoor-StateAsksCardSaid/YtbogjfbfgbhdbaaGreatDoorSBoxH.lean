/-
  A part of the proof: see the last text.
-/
import Derived.Test.YtbogjfbfgbhdbaaGreatDoorSBoxG
namespace Go.Proofs.YtbogjfbfgbhdbaaGreatDoor
set_option linter.unusedVariables false
set_option linter.unusedSimpArgs false
open Go.RowKit
set_option linter.unusedVariables false
set_option linter.unusedSimpArgs false
def TakeIs (b : Bx) (ids : List Int) (w : World) (e : Ending) (w' : World) : Prop :=
  ∃ (A' : Option Addr) (n' c' : Nat) (A2 : Option Addr) (n2 c2 : Nat), e = .returned (.tuple #[.agg #[.string (tkB b ids).name, .int .i64 (tkB b ids).valid, .int .i64 (tkB b ids).next, .slice A' n' c'], .slice A2 n2 c2, .int .i64 (tkE b ids)]) ∧
    MsgsIn w' w'.heap.size A' n' (tkB b ids).msgs ∧ MsgsIn w' w'.heap.size A2 n2 (tkM b ids) ∧ Below w.heap.size w w'
theorem TakeIs.no {b : Bx} {ids : List Int} {w w' : World} {A' : Option Addr} {n' c' : Nat} {z : Int} (h : tkE b ids = z) (hz : z ≠ 0) (hm : MsgsIn w' w'.heap.size A' n' b.msgs) (hb : Below w.heap.size w w') : TakeIs b ids w (.returned (.tuple #[.agg #[.string b.name, .int .i64 b.valid, .int .i64 b.next, .slice A' n' c'], .slice none 0 0, .int .i64 z])) w' := by
  have hn := tkB_no (b := b) (ids := ids) (by rw [h]; exact hz)
  refine ⟨A', n', c', none, 0, 0, ?_, by rw [hn.1]; exact hm, by rw [hn.2]; exact MsgsIn.nil, hb⟩
  rw [hn.1, h]
theorem TakeIs.yes {b : Bx} {ids : List Int} {w w' : World} {A' A2 : Option Addr} {n' c' n2 c2 : Nat} (h : tkE b ids = 0) (hm : MsgsIn w' w'.heap.size A' n' (leftL b.msgs ids)) (h2 : MsgsIn w' w'.heap.size A2 n2 (goneL b.msgs ids)) (hb : Below w.heap.size w w') : TakeIs b ids w (.returned (.tuple #[.agg #[.string b.name, .int .i64 b.valid, .int .i64 b.next, .slice A' n' c'], .slice A2 n2 c2, .int .i64 0])) w' := by
  have hn := tkB_ok (b := b) (ids := ids) h
  refine ⟨A', n', c', A2, n2, c2, ?_, by rw [hn.1]; exact hm, by rw [hn.2]; exact h2, hb⟩
  rw [hn.1, h]
def TakeO (b : Bx) (ids : List Int) (w : World) (e : Ending) (w' : World) : Prop :=
  ∃ (A' : Option Addr) (n' c' : Nat) (A2 : Option Addr) (n2 c2 : Nat), e = .returned (.tuple #[.agg #[.string (tkB b ids).name, .int .i64 (tkB b ids).valid, .int .i64 (tkB b ids).next, .slice A' n' c'], .slice A2 n2 c2, .int .i64 (tkE b ids)]) ∧
    MsgsIn w' w'.heap.size A' n' (tkB b ids).msgs ∧ MsgsIn w' w'.heap.size A2 n2 (tkM b ids) ∧ Below w.heap.size w w' ∧ (tkE b ids = 0 → OwnM w' w.heap.size A' n' c' (tkB b ids).msgs ∧ OwnM w' w.heap.size A2 n2 c2 (tkM b ids))
theorem TakeO.is {b : Bx} {ids : List Int} {w w' : World} {e : Ending} (h : TakeO b ids w e w') : TakeIs b ids w e w' := by
  obtain ⟨A', n', c', A2, n2, c2, h1, h2, h3, h4, _⟩ := h
  exact ⟨A', n', c', A2, n2, c2, h1, h2, h3, h4⟩
theorem TakeO.no {b : Bx} {ids : List Int} {w w' : World} {A' : Option Addr} {n' c' : Nat} {z : Int} (h : tkE b ids = z) (hz : z ≠ 0) (hm : MsgsIn w' w'.heap.size A' n' b.msgs) (hb : Below w.heap.size w w') : TakeO b ids w (.returned (.tuple #[.agg #[.string b.name, .int .i64 b.valid, .int .i64 b.next, .slice A' n' c'], .slice none 0 0, .int .i64 z])) w' := by
  have hn := tkB_no (b := b) (ids := ids) (by rw [h]; exact hz)
  refine ⟨A', n', c', none, 0, 0, ?_, by rw [hn.1]; exact hm, by rw [hn.2]; exact MsgsIn.nil, hb, fun h0 => absurd (h.symm.trans h0) hz⟩
  rw [hn.1, h]
theorem TakeO.yes {b : Bx} {ids : List Int} {w w' : World} {A' A2 : Option Addr} {n' c' n2 c2 : Nat} (h : tkE b ids = 0) (hs : ∀ m ∈ b.msgs, m.body.length ≤ 140737488355328) (hm : OwnM w' w.heap.size A' n' c' (leftL b.msgs ids)) (h2 : OwnM w' w.heap.size A2 n2 c2 (goneL b.msgs ids)) (hb : Below w.heap.size w w') : TakeO b ids w (.returned (.tuple #[.agg #[.string b.name, .int .i64 b.valid, .int .i64 b.next, .slice A' n' c'], .slice A2 n2 c2, .int .i64 0])) w' := by
  have hn := tkB_ok (b := b) (ids := ids) h
  refine ⟨A', n', c', A2, n2, c2, ?_, by rw [hn.1]; exact hm.msgs fun m hm => hs m (List.mem_filter.1 hm).1, by rw [hn.2]; exact h2.msgs fun m hm => hs m (List.mem_filter.1 hm).1, hb, fun _ => ⟨by rw [hn.1]; exact hm, by rw [hn.2]; exact h2⟩⟩
  rw [hn.1, h]
def TwoAt (w : World) (nm : ByteArray) (v nx : Int) (A : Option Addr) (n c : Nat) (B1 : Nat) (wx : World) : Prop :=
  Bk wx w.heap.size 44 #[.string nm, .int .i64 v, .int .i64 nx, .slice A n c] ∧ Bk wx (w.heap.size + 1) 44 #[.string ⟨#[]⟩, .int .i64 0, .int .i64 0, .slice none 0 0] ∧ Below w.heap.size w wx ∧ w.heap.size + 2 ≤ wx.heap.size ∧ B1 ≤ wx.heap.size
theorem TwoAt.below {w wx W : World} {nm : ByteArray} {v nx : Int} {A : Option Addr} {n c B1 : Nat} (h : TwoAt w nm v nx A n c B1 wx) (hb : Below wx.heap.size wx W) : TwoAt w nm v nx A n c B1 W := by
  obtain ⟨h1, h2, h3, h4, h5⟩ := h
  exact ⟨h1.below hb h1.lt, h2.below hb h2.lt, h3.trans (hb.mono h3.size), Nat.le_trans h4 hb.size, Nat.le_trans h5 hb.size⟩
theorem TwoAt.below2 {w wx W : World} {nm : ByteArray} {v nx : Int} {A : Option Addr} {n c B1 : Nat} (h : TwoAt w nm v nx A n c B1 wx) {B : Nat} (hB : w.heap.size + 2 ≤ B) (hb : Below B wx W) : TwoAt w nm v nx A n c B1 W := by
  obtain ⟨h1, h2, h3, h4, h5⟩ := h
  exact ⟨h1.below hb (by omega), h2.below hb (by omega), h3.trans (hb.mono (by omega)), Nat.le_trans h4 hb.size, Nat.le_trans h5 hb.size⟩
theorem cell_setCell_ne (w : World) (b i b' i' : Nat) (v : Value) (h : ¬ (b = b' ∧ i = i')) : (w.setCell ⟨b, i, none⟩ v).cell? ⟨b', i', none⟩ = w.cell? ⟨b', i', none⟩ :=
  World.cell?_setCell_other _ _ _ _ (by intro e; injection e with e1 e2; first | exact h ⟨e1, e2⟩ | exact h ⟨e1.symm, e2.symm⟩)
def ApartM (v v' : Value) : Prop := ∀ g, v.ownBlock = some g → v'.ownBlock ≠ some g
theorem ApartM.symm {v v' : Value} (h : ApartM v v') : ApartM v' v := fun g h1 h2 => h g h2 h1
theorem ApartM.row {v v' : Value} (h : ApartM v v') : v'.ownBlock = none ∨ v'.ownBlock ≠ v.ownBlock := by
  cases hv : v'.ownBlock with
  | none => exact .inl rfl
  | some g => exact .inr fun e => h g e.symm hv
theorem ApartM.next {w : World} {base size n : Nat} {e : TypeId} {v v' v2 : Value} {xs : List Value} (h : ApartM v v') (h' : w.ownsRow base e size v' n xs) (hat : v2.ownBlock = v.ownBlock ∨ v2.ownBlock = some w.heap.size) : ApartM v2 v' := by
  intro g hg hv
  rcases hat with ha | ha
  · exact h g (by rw [← ha]; exact hg) hv
  · rw [ha] at hg
    injection hg with hg
    have := (h'.lt g hv).2
    omega
def HdO (w : World) (lo B : Nat) (h : Hd) : Prop := OwnB w lo 5 h.A h.n h.c h.m.body ∧ (∀ g, (Value.slice h.A h.n h.c).ownBlock = some g → g < B)
def MsgsO (w : World) (lo B : Nat) (A : Option Addr) (n : Nat) (l : List Mg) : Prop := ∃ hs : List Hd, ColK 4 hdC w B A n hs ∧ (∀ h ∈ hs, HdO w lo B h) ∧ hs.map Hd.m = l
def OwnR (w : World) (lo base : Nat) (A : Option Addr) (n c : Nat) (l : List Mg) : Prop := ∃ hs : List Hd, OwnK 4 hdC w base 49 A n c hs ∧ (∀ h ∈ hs, HdO w lo base h) ∧ hs.map Hd.m = l
section
variable {w w' : World} {base n c : Nat} {A : Option Addr} {l : List Mg}
theorem Bytes.boxed {w : World} {B n b i : Nat} {A : Option Addr} {l : List Nat} {x : Value} (h : Bytes w B A n l) (hx : w.cell? ⟨b, i, none⟩ = some x) (hne : ∀ z, x ≠ .int .u8 z) (v : Value) : Bytes (w.setCell ⟨b, i, none⟩ v) B A n l := by
  refine ⟨h.1, h.2.1, fun hn => ?_⟩
  obtain ⟨b0, o, e, hb, hc⟩ := h.2.2 hn
  refine ⟨b0, o, e, hb, fun k hk => ?_⟩
  have hk' := hc k hk
  by_cases hq : b0 = b ∧ o + k = i
  · obtain ⟨rfl, rfl⟩ := hq
    rw [hx] at hk'
    injection hk' with hk'
    exact absurd hk' (hne _)
  · rw [← hk']
    exact cell_setCell_ne w b i b0 (o + k) v (fun e1 => hq ⟨e1.1.symm, e1.2.symm⟩)
theorem owns_lt {w w' : World} {lo B : Nat} {e : TypeId} {k : Nat} {v : Value} {n : Nat} {xs : List Value} (h : w.ownsRow lo e k v n xs) (hg : ∀ g, v.ownBlock = some g → g < B) (hb : Below B w w') : w'.ownsRow lo e k v n xs := by
  refine ⟨h.1, ?_⟩
  rcases h.2 with h0 | ⟨g, cap, cur, hv, hg', hh, r⟩
  · exact .inl h0
  · refine .inr ⟨g, cap, cur, hv, hg', ?_, r⟩
    exact (show Bk w' g e cur from Bk.below (w := w) (show Bk w g e cur from hh) hb (hg g (by rw [hv]; rfl)))
theorem HdO.below {lo B B' : Nat} {h : Hd} (H : HdO w lo B h) (hb : Below B' w w') (hB : B ≤ B') : HdO w' lo B h :=
  ⟨⟨owns_lt H.1.1 (fun g hg => Nat.lt_of_lt_of_le (H.2 g hg) hB) hb, H.1.2⟩, H.2⟩
theorem MsgsO.below {lo B B' : Nat} (h : MsgsO w lo B A n l) (hb : Below B' w w') (hB : B ≤ B') : MsgsO w' lo B A n l := by
  obtain ⟨hs, h1, h2, h3⟩ := h
  exact ⟨hs, h1.below hb hB, fun x hx => (h2 x hx).below hb hB, h3⟩
theorem MsgsO.at_ {lo B j : Nat} (h : MsgsO w lo B A n l) (hj : j < n) : ∃ b o x, A = some ⟨b, o, none⟩ ∧ b < B ∧ l[j]? = some x.m ∧ l.take (j + 1) = l.take j ++ [x.m] ∧ w.rangeAt b (o + j * 4) (hdC x) ∧ HdO w lo B x := by
  obtain ⟨hs, h1, h2, rfl⟩ := h
  obtain ⟨b, o, x, rfl, hb, hx, ht, hr⟩ := h1.at_ hj
  have hx' : (hs.map Hd.m)[j]? = some x.m := by rw [List.getElem?_map, hx]; rfl
  exact ⟨b, o, x, rfl, hb, hx', by rw [← List.map_take, ht, List.map_append, List.map_take]; rfl, hr, h2 x (List.mem_of_getElem? hx)⟩
theorem OwnM.msgsO {lo : Nat} (h : OwnM w lo A n c l) : MsgsO w lo w.heap.size A n l := by
  obtain ⟨hs, h1, h2, h3⟩ := h
  exact ⟨hs, h1.col, fun x hx => ⟨h2 x hx, fun g hg => ((h2 x hx).1.lt g hg).2⟩, h3⟩
theorem OwnR.nil {lo : Nat} : OwnR w lo base none 0 0 [] := ⟨[], OwnK.nil hdC_len, fun h hh => (by cases hh), rfl⟩
theorem OwnR.len {lo : Nat} (h : OwnR w lo base A n c l) : l.length = n := by
  obtain ⟨hs, h1, _, h3⟩ := h
  rw [← h3, List.length_map, h1.len]
theorem OwnR.below {lo : Nat} (h : OwnR w lo base A n c l) (hb : Below w.heap.size w w') (hB : base ≤ w.heap.size) : OwnR w' lo base A n c l := by
  obtain ⟨hs, h1, h2, h3⟩ := h
  exact ⟨hs, h1.below hb, fun x hx => (h2 x hx).below hb hB, h3⟩
theorem OwnR.other {lo : Nat} (h : OwnR w lo base A n c l) {v : Value} (hg : w.grownBy w' v.ownBlock) (ha : ApartM v (.slice A n c)) (hb : Below base w w') : OwnR w' lo base A n c l := by
  obtain ⟨hs, h1, h2, h3⟩ := h
  exact ⟨hs, ⟨h1.1.kept hg ha.row, h1.2⟩, fun x hx => (h2 x hx).below hb (Nat.le_refl _), h3⟩
theorem OwnR.far {lo b : Nat} {cs : Array Value} (h : OwnR w lo base A n c l) (hk : Bk w b 44 cs) (hg : w.grownBy w' (some b)) (hb : b < base) : OwnR w' lo base A n c l := by
  obtain ⟨hs, h1, h2, h3⟩ := h
  refine ⟨hs, ⟨ownsB_kept h1.1 hg (fun b' cs fr q hb' => by injection q with q; omega), h1.2⟩, fun y hy => ⟨⟨ownsB_kept (h2 y hy).1.1 hg (fun b' cs' fr q hb' hh => ?_), (h2 y hy).1.2⟩, (h2 y hy).2⟩, h3⟩
  injection q with q
  subst q
  unfold Bk at hk
  rw [hk] at hh
  injection hh with hh
  injection hh with _ q2 _
  exact absurd q2 (by decide)
theorem OwnR.own {lo : Nat} (h : OwnR w lo base A n c l) (hB : lo ≤ base) : OwnM w lo A n c l := by
  obtain ⟨hs, h1, h2, h3⟩ := h
  exact ⟨hs, h1.from_ hB, fun x hx => (h2 x hx).1, h3⟩
end
theorem wpList_append_r {ops : Array Oper} {rest : List Oper} {o : Oper} {a : Act} {w : World} {Q : Exit → Act → World → Prop} (hgd : o.guard = none) (s x : Operand)
    (ho : o.op = .call { callee := .builtin .append, args := #[s, x], argTypes := #[42, 42] })
    (lo base : Nat) (A : Option Addr) (n c : Nat) (l : List Mg) (hs : a.eval s = .slice A n c) (hown : OwnR w lo base A n c l)
    (b off : Nat) (v : Hd) (hx : a.eval x = .slice (some ⟨b, off, none⟩) 1 1) (hc : w.rangeAt b off (hdC v)) (hv : HdO w lo base v) (hn : n ≤ 1000000) (hbase : base ≤ w.heap.size)
    (h : ∀ A2 c2 w', OwnR w' lo base A2 (n + 1) c2 (l ++ [v.m]) → Below base w w' → w.grownBy w' (Value.slice A n c).ownBlock → ((Value.slice A2 (n + 1) c2).ownBlock = (Value.slice A n c).ownBlock ∨ (Value.slice A2 (n + 1) c2).ownBlock = some w.heap.size) → wpList Tryz.prog ops Q rest (a.put o.dst (.slice A2 (n + 1) c2)) w') : wpList Tryz.prog ops Q (o :: rest) a w := by
  obtain ⟨us, h1, h2, rfl⟩ := hown
  refine wpList_append_at (k := 4) (f := hdC) hgd s x 42 ho Tryz.underlying42 info_msg rfl (by omega) (by omega) base A n c us hs h1 b off v hx hc (hdC_one v) hn hbase ?_
  intro A2 c2 w' ho2 hb2 hg2 hat
  refine h A2 c2 w' ⟨us ++ [v], ho2, fun y hy => ?_, by rw [List.map_append]; rfl⟩ hb2 hg2 hat
  rcases List.mem_append.1 hy with hy | hy
  · exact (h2 y hy).below hb2 (Nat.le_refl _)
  · rw [List.mem_singleton.1 hy]; exact hv.below hb2 (Nat.le_refl _)
set_option maxRecDepth 20000 in
set_option maxHeartbeats 8000000 in
theorem take_anyO (nm : ByteArray) (v nx : Int) (A : Option Addr) (n c : Nat) (l : List Mg) (B : Option Addr) (m d0 : Nat) (ids : List Int) (w : World) (hl : MsgsIn w w.heap.size A n l) (hn : n ≤ 1000000) (hsm : ∀ m ∈ l, m.body.length ≤ 1000000) (hi : Col ints w w.heap.size B m ids) (hm : m ≤ 140737488355328) :
    Calls Tryz.prog 170 #[.agg #[.string nm, .int .i64 v, .int .i64 nx, .slice A n c], .slice B m d0] w (TakeO ⟨nm, v, nx, l⟩ ids w) := by
  have hB : Below w.heap.size w ((w.alloc (.cells #[.string nm, .int .i64 v, .int .i64 nx, .slice A n c] 44)).alloc (.cells #[.string ⟨#[]⟩, .int .i64 0, .int .i64 0, .slice none 0 0] 44)) := ((Below.refl _ _).alloc (Nat.le_refl _) _).alloc (by simp) _
  have hat : TwoAt w nm v nx A n c (w.heap.size + 2) ((w.alloc (.cells #[.string nm, .int .i64 v, .int .i64 nx, .slice A n c] 44)).alloc (.cells #[.string ⟨#[]⟩, .int .i64 0, .int .i64 0, .slice none 0 0] 44)) := ⟨(Bk.new _ _ _).alloc _, Bk.new2 _ _ _ _, hB, by simp, by simp⟩
  have HL := Lib.hid hl
  have HSM := Lib.hid hsm
  have HI := Lib.hid hi
  have HZ : Hid (((w.alloc (.cells #[.string nm, .int .i64 v, .int .i64 nx, .slice A n c] 44)).alloc (.cells #[.string ⟨#[]⟩, .int .i64 0, .int .i64 0, .slice none 0 0] 44)).heap.size = w.heap.size + 2) := Lib.hid (by simp)
  have HAT := Lib.hid hat
  obtain ⟨⟨c0, c1, c2, c3⟩, -, -, -, -⟩ := hat.1.four
  have CC := Lib.hid (copy_any nm v nx A n c l _ (hl.later hB) hn hsm)
  clear hat hB hl hsm hi
  cases hok : okBx ⟨nm, v, nx, l⟩
  · have HE : Hid (tkE ⟨nm, v, nx, l⟩ ids = 1) := Lib.hid (tkE_arg (fun h => by rw [okBx_yes h] at hok; cases hok))
    have HOK := Lib.hid hok
    clear hok
    go_enter Tryz.func170, Tryz.ntmps170
    go_wp2_with fail
    refine CC.out.mono ?_
    rintro e w2 ⟨A', c', rfl, ho, hb⟩
    have hba : Below w2.heap.size w2 (w2.alloc (.cells #[.string nm, .int .i64 v, .int .i64 nx, .slice A' n c'] 44)) := (Below.refl _ _).alloc (Nat.le_refl _) _
    have HAT2 := Lib.hid ((HAT.out.below hb).below hba)
    have HO2 := Lib.hid ((ho.from_ (show w.heap.size + 2 ≤ _ by rw [HZ.out]; exact Nat.le_refl _)).below hba)
    obtain ⟨bo, hbo⟩ : ∃ bo, w2.heap.size = bo := ⟨_, rfl⟩
    have hbl : w.heap.size + 2 ≤ bo := by have := hb.size; rw [HZ.out] at this; omega
    have HK2 : Hid (Bk (w2.alloc (.cells #[.string nm, .int .i64 v, .int .i64 nx, .slice A' n c'] 44)) bo 44 #[.string nm, .int .i64 v, .int .i64 nx, .slice A' n c']) := Lib.hid (by rw [← hbo]; exact Bk.new _ _ _)
    clear ho hb hba c0 c1 c2 c3 HAT CC HZ
    obtain ⟨⟨b0, b1, b2, b3⟩, -, -, -, -⟩ := HAT2.out.1.four
    go_wp2_with fail
    try rw [hbo]
    clear hbo b0 b1 b2 b3
    generalize w2.alloc (.cells #[.string nm, .int .i64 v, .int .i64 nx, .slice A' n c'] 44) = W2 at *
    have hR := right_any nm v nx A n c l W2 (HL.out.later HAT2.out.2.2.1) (by omega)
    rw [HOK.out] at hR
    refine hR.mono ?_
    rintro e w3 ⟨rfl, hb3⟩
    have HAT3 := Lib.hid (HAT2.out.below hb3)
    have HO3 := Lib.hid (HO2.out.below hb3)
    have HK3 := Lib.hid (HK2.out.below hb3 HK2.out.lt)
    clear hb3 HAT2 hR HO2 HK2
    obtain ⟨⟨b0, b1, b2, b3⟩, -, -, -, -⟩ := HAT3.out.1.four
    obtain ⟨⟨r0, r1, r2, r3⟩, s0, s1, s2, s3⟩ := HAT3.out.2.1.four
    obtain ⟨⟨k0, k1, k2, k3⟩, l0, l1, l2, l3⟩ := HK3.out.four
    go_wp2_with fail
    refine bodyPost_ret (results_cell3 rfl _ _ ⟨w.heap.size + 1, 0, none⟩ _ _ _ rfl rfl rfl (Bk.box_ (Bk.put4 HAT3.out.2.1 _ _ _ _))) rfl (TakeO.no (z := 1) HE.out (by omega) ?_ ?_)
    · exact (HO3.out.far (grown_put4 _ _ _ _ _ _) (by omega)).msgs (fun m hm => Nat.le_trans (HSM.out m hm) (by omega))
    · exact below_put4 HAT3.out.2.2.1 (by omega) _ _ _ _
  have HOKB := Lib.hid (okBx_iff.1 hok)
  have HOK := Lib.hid hok
  clear hok
  cases hth : thereU l ids
  · have HE : Hid (tkE ⟨nm, v, nx, l⟩ ids = 6) := Lib.hid (tkE_none HOKB.out hth)
    have HTH := Lib.hid hth
    clear hth
    go_enter Tryz.func170, Tryz.ntmps170
    go_wp2_with fail
    refine CC.out.mono ?_
    rintro e w2 ⟨A', c', rfl, ho, hb⟩
    have hba : Below w2.heap.size w2 (w2.alloc (.cells #[.string nm, .int .i64 v, .int .i64 nx, .slice A' n c'] 44)) := (Below.refl _ _).alloc (Nat.le_refl _) _
    have HAT2 := Lib.hid ((HAT.out.below hb).below hba)
    have HO2 := Lib.hid ((ho.from_ (show w.heap.size + 2 ≤ _ by rw [HZ.out]; exact Nat.le_refl _)).below hba)
    obtain ⟨bo, hbo⟩ : ∃ bo, w2.heap.size = bo := ⟨_, rfl⟩
    have hbl : w.heap.size + 2 ≤ bo := by have := hb.size; rw [HZ.out] at this; omega
    have HK2 : Hid (Bk (w2.alloc (.cells #[.string nm, .int .i64 v, .int .i64 nx, .slice A' n c'] 44)) bo 44 #[.string nm, .int .i64 v, .int .i64 nx, .slice A' n c']) := Lib.hid (by rw [← hbo]; exact Bk.new _ _ _)
    clear ho hb hba c0 c1 c2 c3 HAT CC HZ
    obtain ⟨⟨b0, b1, b2, b3⟩, -, -, -, -⟩ := HAT2.out.1.four
    go_wp2_with fail
    try rw [hbo]
    clear hbo b0 b1 b2 b3
    generalize w2.alloc (.cells #[.string nm, .int .i64 v, .int .i64 nx, .slice A' n c'] 44) = W2 at *
    have hR := right_any nm v nx A n c l W2 (HL.out.later HAT2.out.2.2.1) (by omega)
    rw [HOK.out] at hR
    refine hR.mono ?_
    rintro e w3 ⟨rfl, hb3⟩
    have HAT3 := Lib.hid (HAT2.out.below hb3)
    have HO3 := Lib.hid (HO2.out.below hb3)
    have HK3 := Lib.hid (HK2.out.below hb3 HK2.out.lt)
    clear hb3 HAT2 hR HO2 HK2
    obtain ⟨⟨b0, b1, b2, b3⟩, -, -, -, -⟩ := HAT3.out.1.four
    go_wp2_with fail
    clear b0 b1 b2 b3
    have hM := meant_any nm v nx A n c l B m d0 ids w3 (HL.out.later HAT3.out.2.2.1) hn ((HI.out.below HAT3.out.2.2.1 (Nat.le_refl _)).more HAT3.out.2.2.1.size) hm
    rw [HTH.out] at hM
    refine hM.mono ?_
    rintro e w4 ⟨fv, z, rfl, hb4, hz⟩
    obtain rfl : z = 6 := by rcases hz with ⟨_, h⟩ | ⟨h, _⟩; exact h; cases h
    have HAT4 := Lib.hid (HAT3.out.below hb4)
    have HO4 := Lib.hid (HO3.out.below hb4)
    have HK4 := Lib.hid (HK3.out.below hb4 HK3.out.lt)
    clear hb4 hM hz HAT3 HO3 HK3
    obtain ⟨⟨b0, b1, b2, b3⟩, -, -, -, -⟩ := HAT4.out.1.four
    obtain ⟨⟨r0, r1, r2, r3⟩, s0, s1, s2, s3⟩ := HAT4.out.2.1.four
    obtain ⟨⟨k0, k1, k2, k3⟩, l0, l1, l2, l3⟩ := HK4.out.four
    go_wp2_with fail
    refine bodyPost_ret (results_cell3 rfl _ _ ⟨w.heap.size + 1, 0, none⟩ _ _ _ rfl rfl rfl (Bk.box_ (Bk.put4 HAT4.out.2.1 _ _ _ _))) rfl (TakeO.no (z := 6) HE.out (by omega) ?_ ?_)
    · exact (HO4.out.far (grown_put4 _ _ _ _ _ _) (by omega)).msgs (fun m hm => Nat.le_trans (HSM.out m hm) (by omega))
    · exact below_put4 HAT4.out.2.2.1 (by omega) _ _ _ _
  have HE : Hid (tkE ⟨nm, v, nx, l⟩ ids = 0) := Lib.hid (tkE_ok HOKB.out hth)
  have HTH := Lib.hid hth
  clear hth
  go_enter Tryz.func170, Tryz.ntmps170
  go_wp2_with fail
  refine CC.out.mono ?_
  rintro e w2 ⟨A', c', rfl, ho, hb⟩
  have hba : Below w2.heap.size w2 (w2.alloc (.cells #[.string nm, .int .i64 v, .int .i64 nx, .slice A' n c'] 44)) := (Below.refl _ _).alloc (Nat.le_refl _) _
  have HAT2 := Lib.hid ((HAT.out.below hb).below hba)
  have HO2 := Lib.hid ((ho.from_ (show w.heap.size + 2 ≤ _ by rw [HZ.out]; exact Nat.le_refl _)).below hba)
  obtain ⟨bo, hbo⟩ : ∃ bo, w2.heap.size = bo := ⟨_, rfl⟩
  have hbl : w.heap.size + 2 ≤ bo := by have := hb.size; rw [HZ.out] at this; omega
  have HK2 : Hid (Bk (w2.alloc (.cells #[.string nm, .int .i64 v, .int .i64 nx, .slice A' n c'] 44)) bo 44 #[.string nm, .int .i64 v, .int .i64 nx, .slice A' n c']) := Lib.hid (by rw [← hbo]; exact Bk.new _ _ _)
  clear ho hb hba c0 c1 c2 c3 HAT CC HZ
  obtain ⟨⟨b0, b1, b2, b3⟩, -, -, -, -⟩ := HAT2.out.1.four
  go_wp2_with fail
  try rw [hbo]
  clear hbo b0 b1 b2 b3
  generalize w2.alloc (.cells #[.string nm, .int .i64 v, .int .i64 nx, .slice A' n c'] 44) = W2 at *
  have hR := right_any nm v nx A n c l W2 (HL.out.later HAT2.out.2.2.1) (by omega)
  rw [HOK.out] at hR
  refine hR.mono ?_
  rintro e w3 ⟨rfl, hb3⟩
  have HAT3 := Lib.hid (HAT2.out.below hb3)
  have HO3 := Lib.hid (HO2.out.below hb3)
  have HK3 := Lib.hid (HK2.out.below hb3 HK2.out.lt)
  clear hb3 HAT2 hR HO2 HK2
  obtain ⟨⟨b0, b1, b2, b3⟩, -, -, -, -⟩ := HAT3.out.1.four
  go_wp2_with fail
  clear b0 b1 b2 b3
  have hM := meant_any nm v nx A n c l B m d0 ids w3 (HL.out.later HAT3.out.2.2.1) hn ((HI.out.below HAT3.out.2.2.1 (Nat.le_refl _)).more HAT3.out.2.2.1.size) hm
  rw [HTH.out] at hM
  refine hM.mono ?_
  rintro e w4 ⟨fv, z, rfl, hb4, hz⟩
  obtain ⟨_, rfl, bi, hbi, rfl, hki⟩ : True ∧ z = 0 ∧ ∃ bi, w3.heap.size ≤ bi ∧ fv = .func (.func 246) #[] #[.pointer (some ⟨bi, 0, none⟩)] ∧ Bk w4 bi 29 #[.slice B m d0] := by rcases hz with ⟨h, _⟩ | ⟨_, h⟩; cases h; exact ⟨trivial, h⟩
  have hat4 := HAT3.out.below hb4
  have HK4 := Lib.hid (HK3.out.below hb4 HK3.out.lt)
  have hm4 := (HO3.out.below hb4).msgsO
  have hbe : Below w4.heap.size w4 ((w4.alloc (.cells #[] 49)).alloc (.cells #[] 49)) := ((Below.refl _ _).alloc (Nat.le_refl _) _).alloc (by simp) _
  have HS4 := Lib.hid (show w.heap.size + 2 ≤ w4.heap.size from hat4.2.2.2.1)
  have HBO := Lib.hid (show bo < w4.heap.size from HK4.out.lt)
  have HBI := Lib.hid hki.lt
  have HKI := Lib.hid hki
  have HM4 := Lib.hid hm4
  have HI4 := Lib.hid ((HI.out.below hat4.2.2.1 (Nat.le_refl _)).more hat4.2.2.1.size)
  have HX4 : Hid (((w4.alloc (.cells #[] 49)).alloc (.cells #[] 49)).cell? ⟨bo, 3, none⟩ = some (.slice A' n c')) := Lib.hid ((hbe.cell (p := ⟨bo, 3, none⟩) HK4.out.lt).trans (HK4.out.cell 3))
  have HL1 : Hid (OwnR ((w4.alloc (.cells #[] 49)).alloc (.cells #[] 49)) (w.heap.size + 2) w4.heap.size (some ⟨w4.heap.size, 0, none⟩) 0 0 []) := Lib.hid ⟨[], (OwnK.empty hdC_len w4 49).alloc _, fun h hh => (by cases hh), rfl⟩
  have HL2 : Hid (OwnR ((w4.alloc (.cells #[] 49)).alloc (.cells #[] 49)) (w.heap.size + 2) w4.heap.size (some ⟨w4.heap.size + 1, 0, none⟩) 0 0 []) := Lib.hid ⟨[], by have := (OwnK.empty hdC_len (w4.alloc (.cells #[] 49)) 49).from_ (base' := w4.heap.size) (by simp); rwa [World.size_alloc] at this, fun h hh => (by cases hh), rfl⟩
  have HAP : Hid (ApartM (.slice (some ⟨w4.heap.size, 0, none⟩) 0 0) (.slice (some ⟨w4.heap.size + 1, 0, none⟩) 0 0)) := Lib.hid (fun g h1 h2 => by simp [Value.ownBlock] at h1 h2; omega)
  have HBE := Lib.hid hbe
  have HAT4 := Lib.hid hat4
  clear hb4 hM hz HAT3 HO3 HK3 hbi hki hat4 hm4 hbe
  have x3 := HX4.out
  have k3 := HK4.out.cell 3
  go_wp2_with fail
  clear x3 k3
  generalize ((w4.alloc (.cells #[] 49)).alloc (.cells #[] 49)) = W5 at *
  go_loopw [10, 11, 35] (fun t10 t11 i wx => ∃ (k n1 c1 n2 c2 : Nat) (A1 A2 : Option Addr), k ≤ n ∧ i = .int .i64 (k : Int) ∧ t10 = .slice A1 n1 c1 ∧ t11 = .slice A2 n2 c2 ∧ n1 ≤ k ∧ n2 ≤ k ∧ OwnR wx (w.heap.size + 2) w4.heap.size A1 n1 c1 (leftL (l.take k) ids) ∧ OwnR wx (w.heap.size + 2) w4.heap.size A2 n2 c2 (goneL (l.take k) ids) ∧ ApartM (.slice A1 n1 c1) (.slice A2 n2 c2) ∧ Below w4.heap.size w4 wx) (fun _ _ i _ => n - (intOf i).toNat)
  case atStart => exact ⟨0, 0, 0, 0, 0, _, _, Nat.zero_le _, rfl, rfl, rfl, Nat.le_refl _, Nat.le_refl _, HL1.out, HL2.out, HAP.out, HBE.out⟩
  case round =>
    obtain ⟨k, n1, c1, n2, c2, A1, A2, hk, rfl, rfl, rfl, hn1, hn2, ho1, ho2, hap, hb⟩ := hrel
    have HO1 := Lib.hid ho1
    have HO2 := Lib.hid ho2
    have HAPR := Lib.hid hap
    have HBR := Lib.hid hb
    clear ho1 ho2 hap hb HL1 HL2 HAP HBE
    by_cases hlt : k < n
    · obtain ⟨b, o, x, rfl, hbb, hla, htk, hrow, hin⟩ := (HM4.out.below HBR.out (Nat.le_refl _)).at_ hlt
      have HTK := Lib.hid htk
      have HROW := Lib.hid hrow
      have HIN := Lib.hid hin
      have hk0 : (0 : Int) ≤ (k : Int) := by omega
      have hkn : (k : Int) < (n : Int) := by omega
      obtain ⟨⟨u, f, d, bl⟩, xA, xn, xc⟩ := x
      have hws := HBR.out.size
      have hb1 : Below w4.heap.size w4 (wr.alloc (.cells #[.int .i64 u, .int .i64 f, .int .i64 d, .slice xA xn xc] 49)) := HBR.out.alloc hws _
      have CM := Lib.hid (meant1_any bi u f d xA xn xc B m d0 ids (wr.alloc (.cells #[.int .i64 u, .int .i64 f, .int .i64 d, .slice xA xn xc] 49)) ((HKI.out.below hb1 HBI.out).cell 0) ((HI4.out.below hb1 (Nat.le_refl _)).more hb1.size) hm)
      have hm1 : Bk (wr.alloc (.cells #[.int .i64 u, .int .i64 f, .int .i64 d, .slice xA xn xc] 49)) wr.heap.size 49 #[.int .i64 u, .int .i64 f, .int .i64 d, .slice xA xn xc] := Bk.new _ _ _
      have HM1 := Lib.hid hm1.four
      have HM2 := Lib.hid (hm1.alloc (.cells #[.int .i64 u, .int .i64 f, .int .i64 d, .slice xA xn xc] 49)).four
      have hw3 : Below wr.heap.size wr (((wr.alloc (.cells #[.int .i64 u, .int .i64 f, .int .i64 d, .slice xA xn xc] 49)).alloc (.cells #[.int .i64 u, .int .i64 f, .int .i64 d, .slice xA xn xc] 49)).alloc (.cells #[.int .i64 u, .int .i64 f, .int .i64 d, .slice xA xn xc] 49)) := (((Below.refl _ _).alloc (Nat.le_refl _) _).alloc (by simp) _).alloc (by simp; omega) _
      have HO13 := Lib.hid (HO1.out.below hw3 hws)
      have HO23 := Lib.hid (HO2.out.below hw3 hws)
      have HB3 := Lib.hid (HBR.out.trans (hw3.mono hws))
      have HN3 : Hid ((((wr.alloc (.cells #[.int .i64 u, .int .i64 f, .int .i64 d, .slice xA xn xc] 49)).alloc (.cells #[.int .i64 u, .int .i64 f, .int .i64 d, .slice xA xn xc] 49)).alloc (.cells #[.int .i64 u, .int .i64 f, .int .i64 d, .slice xA xn xc] 49)).rangeAt (wr.heap.size + 1 + 1) 0 (hdC ⟨⟨u, f, d, bl⟩, xA, xn, xc⟩)) := Lib.hid (Bk.new3 wr (.cells #[.int .i64 u, .int .i64 f, .int .i64 d, .slice xA xn xc] 49) (.cells #[.int .i64 u, .int .i64 f, .int .i64 d, .slice xA xn xc] 49) 49 #[.int .i64 u, .int .i64 f, .int .i64 d, .slice xA xn xc]).range
      have HIN3 : Hid (HdO (((wr.alloc (.cells #[.int .i64 u, .int .i64 f, .int .i64 d, .slice xA xn xc] 49)).alloc (.cells #[.int .i64 u, .int .i64 f, .int .i64 d, .slice xA xn xc] 49)).alloc (.cells #[.int .i64 u, .int .i64 f, .int .i64 d, .slice xA xn xc] 49)) (w.heap.size + 2) w4.heap.size ⟨⟨u, f, d, bl⟩, xA, xn, xc⟩) := Lib.hid (HIN.out.below (hw3.mono hws) (Nat.le_refl _))
      have HS3 := Lib.hid (show w4.heap.size ≤ (((wr.alloc (.cells #[.int .i64 u, .int .i64 f, .int .i64 d, .slice xA xn xc] 49)).alloc (.cells #[.int .i64 u, .int .i64 f, .int .i64 d, .slice xA xn xc] 49)).alloc (.cells #[.int .i64 u, .int .i64 f, .int .i64 d, .slice xA xn xc] 49)).heap.size by simp; omega)
      have HF1 := Lib.hid (hm1.alloc (.cells #[.int .i64 u, .int .i64 f, .int .i64 d, .slice xA xn xc] 49))
      clear hla htk hrow hin hb1 hm1 hw3 hws
      by_cases hq : u ∈ ids
      · have HQ : Hid (decide (u ∈ ids) = true) := Lib.hid (decide_eq_true hq)
        have HGS := Lib.hid (gone_snoc HTK.out hq)
        clear hq
        go_wp2_with ((with_reducible show wpList _ _ _ (⟨some 38, _, _, _, _, _⟩ :: _) _ _); refine hold ?_)
        refine held (wpList_load_mid rfl 49 (.tmp 37) rfl b (o + k * 4) rfl _ _ HROW.out Tryz.underlying49 rfl (by kernel_rfl) ?_)
        unfold hdC
        obtain ⟨⟨m0, m1, m2, m3⟩, -, -, -, -⟩ := HM1.out
        go_wp2_with fail
        refine CM.out.mono ?_
        rintro e w6 ⟨rfl, rfl⟩
        rw [HQ.out]
        clear m0 m1 m2 m3
        obtain ⟨⟨m0, m1, m2, m3⟩, -, -, -, -⟩ := HM2.out
        go_wp2_with ((with_reducible show wpList _ _ _ (⟨some 45, _, _, _, _, _⟩ :: _) _ _); refine hold ?_)
        clear m0 m1 m2 m3
        generalize ((wr.alloc (.cells #[.int .i64 u, .int .i64 f, .int .i64 d, .slice xA xn xc] 49)).alloc (.cells #[.int .i64 u, .int .i64 f, .int .i64 d, .slice xA xn xc] 49)).alloc (.cells #[.int .i64 u, .int .i64 f, .int .i64 d, .slice xA xn xc] 49) = W6 at *
        refine held (wpList_append_r rfl (.tmp 42) (.tmp 44) rfl (w.heap.size + 2) w4.heap.size A2 n2 c2 _ rfl HO23.out (wr.heap.size + 1 + 1) 0 ⟨⟨u, f, d, bl⟩, xA, xn, xc⟩ rfl HN3.out HIN3.out (by omega) HS3.out ?_)
        intro A7 c7 w7 ho7 hb7 hg7 hat7
        have HO7 : Hid (OwnR w7 (w.heap.size + 2) w4.heap.size A7 (n2 + 1) c7 (goneL (l.take (k + 1)) ids)) := Lib.hid (by rw [HGS.out.1]; exact ho7)
        have HO8 : Hid (OwnR w7 (w.heap.size + 2) w4.heap.size A1 n1 c1 (leftL (l.take (k + 1)) ids)) := Lib.hid (by rw [HGS.out.2]; exact HO13.out.other hg7 HAPR.out.symm hb7)
        obtain ⟨us, q1, _, _⟩ := HO13.out
        have HAP7 := Lib.hid (ApartM.symm (HAPR.out.symm.next q1.1 hat7))
        have HB7 := Lib.hid (HB3.out.trans hb7)
        clear ho7 hb7 hg7 hat7 q1 HO13 HO23 HB3 HN3 HIN3 HS3 CM
        go_wp2_with fail
        go_roundw
        case rel => exact ⟨k + 1, n1, c1, n2 + 1, c7, A1, A7, by omega, by go_num, rfl, rfl, by omega, by omega, HO8.out, HO7.out, HAP7.out, HB7.out⟩
        case measure => simp [intOf]; omega
      · have HQ : Hid (decide (u ∈ ids) = false) := Lib.hid (decide_eq_false hq)
        have HGS := Lib.hid (left_snoc HTK.out hq)
        clear hq
        go_wp2_with ((with_reducible show wpList _ _ _ (⟨some 38, _, _, _, _, _⟩ :: _) _ _); refine hold ?_)
        refine held (wpList_load_mid rfl 49 (.tmp 37) rfl b (o + k * 4) rfl _ _ HROW.out Tryz.underlying49 rfl (by kernel_rfl) ?_)
        unfold hdC
        obtain ⟨⟨m0, m1, m2, m3⟩, -, -, -, -⟩ := HM1.out
        go_wp2_with fail
        refine CM.out.mono ?_
        rintro e w6 ⟨rfl, rfl⟩
        rw [HQ.out]
        clear m0 m1 m2 m3
        obtain ⟨⟨m0, m1, m2, m3⟩, -, -, -, -⟩ := HM2.out
        go_wp2_with ((with_reducible show wpList _ _ _ (⟨some 49, _, _, _, _, _⟩ :: _) _ _); refine hold ?_)
        clear m0 m1 m2 m3
        generalize ((wr.alloc (.cells #[.int .i64 u, .int .i64 f, .int .i64 d, .slice xA xn xc] 49)).alloc (.cells #[.int .i64 u, .int .i64 f, .int .i64 d, .slice xA xn xc] 49)).alloc (.cells #[.int .i64 u, .int .i64 f, .int .i64 d, .slice xA xn xc] 49) = W6 at *
        refine held (wpList_append_r rfl (.tmp 46) (.tmp 48) rfl (w.heap.size + 2) w4.heap.size A1 n1 c1 _ rfl HO13.out (wr.heap.size + 1 + 1) 0 ⟨⟨u, f, d, bl⟩, xA, xn, xc⟩ rfl HN3.out HIN3.out (by omega) HS3.out ?_)
        intro A7 c7 w7 ho7 hb7 hg7 hat7
        have HO7 : Hid (OwnR w7 (w.heap.size + 2) w4.heap.size A7 (n1 + 1) c7 (leftL (l.take (k + 1)) ids)) := Lib.hid (by rw [HGS.out.2]; exact ho7)
        have HO8 : Hid (OwnR w7 (w.heap.size + 2) w4.heap.size A2 n2 c2 (goneL (l.take (k + 1)) ids)) := Lib.hid (by rw [HGS.out.1]; exact HO23.out.other hg7 HAPR.out hb7)
        obtain ⟨us, q1, _, _⟩ := HO23.out
        have HAP7 := Lib.hid (HAPR.out.next q1.1 hat7)
        have HB7 := Lib.hid (HB3.out.trans hb7)
        clear ho7 hb7 hg7 hat7 q1 HO13 HO23 HB3 HN3 HIN3 HS3 CM
        go_wp2_with fail
        go_roundw
        case rel => exact ⟨k + 1, n1 + 1, c7, n2, c2, A7, A2, by omega, by go_num, rfl, rfl, by omega, by omega, HO7.out, HO8.out, HAP7.out, HB7.out⟩
        case measure => simp [intOf]; omega
    · have hkn : ¬ (k : Int) < (n : Int) := by omega
      obtain rfl : n = k := by omega
      have htk : l.take n = l := List.take_of_length_le (by rw [HL.out.len]; exact Nat.le_refl _)
      have HO1E : Hid (OwnR wr (w.heap.size + 2) w4.heap.size A1 n1 c1 (leftL l ids)) := Lib.hid (by have := HO1.out; rwa [htk] at this)
      have HO2E : Hid (OwnR wr (w.heap.size + 2) w4.heap.size A2 n2 c2 (goneL l ids)) := Lib.hid (by have := HO2.out; rwa [htk] at this)
      have hk5 := HK4.out.below HBR.out HBO.out
      have hat5 := HAT4.out.below2 HS4.out HBR.out
      clear htk HO1 HO2
      have hk6 : Bk (wr.setCell ⟨bo, 3, none⟩ (.slice A1 n1 c1)) bo 44 #[.string nm, .int .i64 v, .int .i64 nx, .slice A1 n1 c1] := by simpa using hk5.put 3 (.slice A1 n1 c1)
      have hat6 := hat5.below2 (Nat.le_refl _) (below_cell hbl 3 (.slice A1 n1 c1))
      have e3 := hk5.cell 3
      have HO1F := Lib.hid (HO1E.out.far hk5 (grownBy_cell _ bo 3 (.slice A1 n1 c1)) HBO.out)
      have HO2F := Lib.hid (HO2E.out.far hk5 (grownBy_cell _ bo 3 (.slice A1 n1 c1)) HBO.out)
      have HSR := Lib.hid (show w4.heap.size ≤ (wr.setCell ⟨bo, 3, none⟩ (.slice A1 n1 c1)).heap.size by have := HBR.out.size; simp; omega)
      obtain ⟨⟨p0, p1, p2, p3⟩, t0, t1, t2, t3⟩ := hk5.four
      have HK6 := Lib.hid hk6
      have HAT6 := Lib.hid hat6
      clear hk5 hk6 hat5 hat6 HO1E HO2E e3
      obtain ⟨⟨k0, k1, k2, k3⟩, -, -, -, -⟩ := HK6.out.four
      obtain ⟨⟨r0, r1, r2, r3⟩, s0, s1, s2, s3⟩ := HAT6.out.2.1.four
      go_wp2_with fail
      refine bodyPost_ret (results_cell3 rfl _ _ ⟨w.heap.size + 1, 0, none⟩ _ _ _ rfl rfl rfl (Bk.box_ (Bk.put4 HAT6.out.2.1 _ _ _ _))) rfl (TakeO.yes HE.out (fun m hm => Nat.le_trans (HSM.out m hm) (by omega)) ?_ ?_ ?_)
      · exact ((HO1F.out.far HAT6.out.2.1 (grown_put4 _ _ _ _ _ _) (by have := HS4.out; omega)).own HS4.out).from_ (by omega)
      · exact ((HO2F.out.far HAT6.out.2.1 (grown_put4 _ _ _ _ _ _) (by have := HS4.out; omega)).own HS4.out).from_ (by omega)
      · exact below_put4 HAT6.out.2.2.1 (by omega) _ _ _ _
end Go.Proofs.YtbogjfbfgbhdbaaGreatDoor
