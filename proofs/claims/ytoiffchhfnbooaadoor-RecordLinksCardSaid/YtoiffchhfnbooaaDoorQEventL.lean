/-
  Contracts over package event: an event with the part that is read next.
-/
import Derived.Test.YtoiffchhfnbooaaDoorQEventK
import Derived.Test.YtoiffchhfnbooaaDoorQEventB
namespace Go.Proofs.YtoiffchhfnbooaaDoor
set_option linter.unusedVariables false
set_option linter.unusedSimpArgs false
open Go.RowKit
set_option linter.unusedVariables false
set_option linter.unusedSimpArgs false

/-- where a slice that isn't empty lies -/
def Away (A : Option Addr) (n : Nat) (P : Nat → Prop) : Prop := 0 < n → ∀ a, A = some a → P a.block
theorem Away.imp {A : Option Addr} {n : Nat} {P Q : Nat → Prop} (h : Away A n P) (hi : ∀ b, P b → Q b) : Away A n Q := fun hn a ha => hi _ (h hn a ha)
theorem Away.zero {A : Option Addr} {P : Nat → Prop} : Away A 0 P := fun hn => absurd hn (Nat.lt_irrefl 0)
theorem Col.grown {α : Type} {f : α → Value} {w w' : World} {B n g : Nat} {A : Option Addr} {l : List α} (h : Col f w B A n l) (hg : w.grownBy w' (some g)) (ha : Away A n (· ≠ g)) : Col f w' B A n l := by
  refine ⟨h.1, fun hn => ?_⟩
  obtain ⟨b, o, hA, hb, hc⟩ := h.2 hn
  exact ⟨b, o, hA, hb, fun i a hi => hg.cell (hc i a hi) (fun e => ha hn _ hA (Option.some.inj e))⟩
theorem ColK.grown {α : Type} {k : Nat} {f : α → List Value} {w w' : World} {B n g : Nat} {A : Option Addr} {l : List α} (h : ColK k f w B A n l) (hg : w.grownBy w' (some g)) (ha : Away A n (· ≠ g)) : ColK k f w' B A n l := by
  refine ⟨h.1, fun hn => ?_⟩
  obtain ⟨b, o, hA, hb, hc⟩ := h.2 hn
  exact ⟨b, o, hA, hb, fun i a hi j v hv => hg.cell (hc i a hi j v hv) (fun e => ha hn _ hA (Option.some.inj e))⟩
theorem Bytes.grown {w w' : World} {B n g : Nat} {A : Option Addr} {l : List Nat} (h : Bytes w B A n l) (hg : w.grownBy w' (some g)) (ha : Away A n (· ≠ g)) : Bytes w' B A n l := by
  refine ⟨h.1, h.2.1, fun hn => ?_⟩
  obtain ⟨b, o, hA, hb, hc⟩ := h.2.2 hn
  exact ⟨b, o, hA, hb, fun i hi => hg.cell (hc i hi) (fun e => ha hn _ hA (Option.some.inj e))⟩
theorem Col.away {α : Type} {f : α → Value} {w : World} {B n : Nat} {A : Option Addr} {l : List α} (h : Col f w B A n l) : Away A n (· < B) := fun hn a ha => by
  obtain ⟨b, o, hA, hb, _⟩ := h.2 hn
  rw [hA] at ha
  cases ha
  exact hb
theorem ColK.away {α : Type} {k : Nat} {f : α → List Value} {w : World} {B n : Nat} {A : Option Addr} {l : List α} (h : ColK k f w B A n l) : Away A n (· < B) := fun hn a ha => by
  obtain ⟨b, o, hA, hb, _⟩ := h.2 hn
  rw [hA] at ha
  cases ha
  exact hb
theorem Bytes.away {w : World} {B n : Nat} {A : Option Addr} {l : List Nat} (h : Bytes w B A n l) : Away A n (· < B) := fun hn a ha => by
  obtain ⟨b, o, hA, hb, _⟩ := h.2.2 hn
  rw [hA] at ha
  cases ha
  exact hb
structure EvFar (w : World) (base : Nat) (H : Eh) : Prop where
  inn : EvIn w w.heap.size H
  a1 : Away H.A1 H.n1 (base ≤ ·)
  a2 : Away H.A2 H.n2 (base ≤ ·)
  a3 : Away H.A3 H.n3 (base ≤ ·)
theorem EvIn.grown {w w' : World} {B g : Nat} {H : Eh} (h : EvIn w B H) (hg : w.grownBy w' (some g)) (h1 : Away H.A1 H.n1 (· ≠ g)) (h2 : Away H.A2 H.n2 (· ≠ g)) (h3 : Away H.A3 H.n3 (· ≠ g)) : EvIn w' B H :=
  ⟨h.1.grown hg h1, h.2.1.grown hg h2, h.2.2.1.grown hg h3, h.2.2.2⟩
theorem EvFar.kept {w w' : World} {base g : Nat} {H : Eh} (h : EvFar w base H) (hg : w.grownBy w' (some g)) (hgb : g < base) : EvFar w' base H :=
  ⟨(h.inn.grown hg (h.a1.imp fun b hb => by omega) (h.a2.imp fun b hb => by omega) (h.a3.imp fun b hb => by omega)).more hg.size, h.a1, h.a2, h.a3⟩
theorem EvFar.below {w w' : World} {base : Nat} {H : Eh} (h : EvFar w base H) (hb : Below w.heap.size w w') : EvFar w' base H := ⟨h.inn.later hb, h.a1, h.a2, h.a3⟩
theorem EvFar.mono {w : World} {base base' : Nat} {H : Eh} (h : EvFar w base H) (hb : base' ≤ base) : EvFar w base' H := ⟨h.inn, h.a1.imp fun b hbb => Nat.le_trans hb hbb, h.a2.imp fun b hbb => Nat.le_trans hb hbb, h.a3.imp fun b hbb => Nat.le_trans hb hbb⟩
theorem EvFar.bare (w : World) (base : Nat) (k t : Int) : EvFar w base (bareH k t) := ⟨EvIn.bare _ _ _ _, Away.zero, Away.zero, Away.zero⟩
theorem grownBy_setRow {w : World} {g : Nat} {t : TypeId} {cur : Array Value} (h : Bk w g t cur) (cs : Array Value) : w.grownBy (w.setRow g cs) (some g) := by
  have hb := below_setRow (Below.refl g w) (Nat.le_refl g) cs
  exact ⟨hb.os, hb.tape, hb.output, hb.size, fun k hk hne => setRow_other' w g k cs (fun e => hne (by rw [e]))⟩
/-- an event with a part is answered, the reader goes on -/
def WithIs (H : Eh) (c g base : Nat) (l : List Nat) (er : Nat) (w : World) (e : Ending) (w' : World) : Prop :=
  ∃ H', e = .returned (.agg (evC H')) ∧ H'.e = (withP H.e c l er).1 ∧ EvFar w' base H' ∧ RdP w' g (withP H.e c l er).2.1 (withP H.e c l er).2.2 ∧ w.grownBy w' (some g)
/-- the end of each way: the box holds the new event, and is answered out of another -/
theorem with_end {w w2 W : World} {H H' : Eh} {c g base er : Nat} {l : List Nat} (hgb : g < base) (hbw : base ≤ w.heap.size) (HF : EvFar w base H)
    (hr2 : RdP w2 g (withP H.e c l er).2.1 (withP H.e c l er).2.2) (hg2 : w.grownBy w2 (some g)) (hv : H'.e = (withP H.e c l er).1)
    (hin : EvIn w2 w2.heap.size H') (h1 : Away H'.A1 H'.n1 (fun b => base ≤ b ∧ (b < w.heap.size ∨ w.heap.size + 2 ≤ b))) (h2 : Away H'.A2 H'.n2 (fun b => base ≤ b ∧ (b < w.heap.size ∨ w.heap.size + 2 ≤ b))) (h3 : Away H'.A3 H'.n3 (fun b => base ≤ b ∧ (b < w.heap.size ∨ w.heap.size + 2 ≤ b)))
    (hW : w2.grownBy W (some w.heap.size)) (b2 : Bk W (w.heap.size + 1) 34 (evC (bareH 0 0))) :
    EvFar (W.setRow (w.heap.size + 1) (evC H')) base H' ∧ RdP (W.setRow (w.heap.size + 1) (evC H')) g (withP H.e c l er).2.1 (withP H.e c l er).2.2 ∧ w.grownBy (W.setRow (w.heap.size + 1) (evC H')) (some g) := by
  have hs := grownBy_setRow b2 (evC H')
  have hg0 : g < w.heap.size := by omega
  have hz := hg2.size
  have hz2 := hW.size
  have i1 := (hin.grown hW (h1.imp fun b hb => by omega) (h2.imp fun b hb => by omega) (h3.imp fun b hb => by omega)).more hz2
  have i2 := (i1.grown hs (h1.imp fun b hb => by omega) (h2.imp fun b hb => by omega) (h3.imp fun b hb => by omega)).more hs.size
  have r1 := hr2.grown hW (by intro e; injection e with e; omega)
  have r2 := r1.grown hs (by intro e; injection e with e; omega)
  have o1 : Below w.heap.size w2 W := ⟨hW.os, hW.tape, hW.output, hW.size, fun k hk => hW.block k (by omega) (by intro e; injection e with e; omega)⟩
  have o2 : Below w.heap.size W (W.setRow (w.heap.size + 1) (evC H')) := ⟨hs.os, hs.tape, hs.output, hs.size, fun k hk => hs.block k (by omega) (by intro e; injection e with e; omega)⟩
  exact ⟨⟨i2, h1.imp fun b hb => hb.1, h2.imp fun b hb => hb.1, h3.imp fun b hb => hb.1⟩, r2, grown_below (grown_below hg2 o1) o2⟩
theorem EvFar.two1 {w : World} {base : Nat} {H : Eh} (h : EvFar w base H) : Away H.A1 H.n1 (fun b => base ≤ b ∧ (b < w.heap.size ∨ w.heap.size + 2 ≤ b)) := fun hn a ha => ⟨h.a1 hn a ha, .inl (h.inn.1.away hn a ha)⟩
theorem EvFar.two2 {w : World} {base : Nat} {H : Eh} (h : EvFar w base H) : Away H.A2 H.n2 (fun b => base ≤ b ∧ (b < w.heap.size ∨ w.heap.size + 2 ≤ b)) := fun hn a ha => ⟨h.a2 hn a ha, .inl (h.inn.2.1.away hn a ha)⟩
theorem EvFar.two3 {w : World} {base : Nat} {H : Eh} (h : EvFar w base H) : Away H.A3 H.n3 (fun b => base ≤ b ∧ (b < w.heap.size ∨ w.heap.size + 2 ≤ b)) := fun hn a ha => ⟨h.a3 hn a ha, .inl (h.inn.2.2.1.away hn a ha)⟩
theorem OwnV.away {w : World} {base n c : Nat} {e : TypeId} {A : Option Addr} {l : List Value} (h : OwnV w base e A n c l) : Away A n (base ≤ ·) := fun hn a ha => by
  obtain ⟨g, hA, hg, _⟩ := OwnV.cells h hn
  rw [hA] at ha
  cases ha
  exact hg
theorem OwnK.away {α : Type} {f : α → List Value} {w : World} {base n c k : Nat} {e : TypeId} {A : Option Addr} {l : List α} (h : OwnK k f w base e A n c l) : Away A n (base ≤ ·) := fun hn a ha => by
  obtain ⟨g, hA, hg, _⟩ := h.range hn
  rw [hA] at ha
  cases ha
  exact hg
theorem textV_size (l : List Nat) (er : Nat) (hl : l.length ≤ 140737488355328) : (strOf (textV l er)).size ≤ 140737488355328 := by
  rw [strOf_size]
  have h1 : ∀ (l : List Nat) (e n : Nat), (takeV l e n).length ≤ l.length := by
    intro l e n
    unfold takeV
    split
    · rw [List.length_take]; omega
    · exact Nat.zero_le _
  have h2 : (takeL l er 4).length ≤ l.length := takeL_len
  unfold textV
  split
  · exact Nat.zero_le _
  · exact Nat.le_trans (h1 _ _ _) (by omega)

set_option maxRecDepth 20000 in
set_option maxHeartbeats 4000000 in
theorem evwith_98 (H : Eh) (g base er : Nat) (l : List Nat) (w : World) (HF : EvFar w base H) (hr : RdP w g l er) (hgb : g < base) (hbw : base ≤ w.heap.size) (hl : l.length ≤ 140737488355328) (hb : ∀ x ∈ l, x < 256) :
    Calls Tryd.prog 40 #[.agg (evC H), .int .i32 98, .pointer (some ⟨g, 0, none⟩)] w (WithIs H 98 g base l er w) := by
  have FF := Lib.hid HF
  have HR := Lib.hid hr
  have HB := Lib.hid hb
  clear HF hr hb
  go_enter Tryd.func40, Tryd.ntmps40
  go_wp2_with fail
  refine calls_overE (fun W => Bk W w.heap.size 34 (evC H) ∧ Bk W (w.heap.size + 1) 34 (evC (bareH 0 0)) ∧ RdP W g l er ∧ Below w.heap.size w W ∧ w.heap.size + 2 ≤ W.heap.size) ⟨(Bk.new _ _ _).alloc _, Bk.new2 _ _ _ _, HR.out.below (((Below.refl _ _).alloc (Nat.le_refl _) _).alloc (by simp) _) (by omega), ((Below.refl _ _).alloc (Nat.le_refl _) _).alloc (by simp) _, by simp⟩ ?_
  rintro W ⟨k1, k2, kr, kb, kz⟩
  have K1 := Lib.hid k1
  have K2 := Lib.hid k2
  have KB := Lib.hid kb
  have KZ := Lib.hid kz
  have CC := Lib.hid (pText_any g er l W kr hl HB.out)
  clear k1 k2 kr kb kz
  refine CC.out.mono ?_
  rintro e w2 ⟨rfl, hr2, hg2⟩
  clear CC
  have hgw : g < w.heap.size := by omega
  have J1 := Lib.hid (K1.out.kept hg2 (by omega))
  have J2 := Lib.hid (K2.out.kept hg2 (by omega))
  have R2 : Hid (RdP w2 g (withP H.e 98 l er).2.1 (withP H.e 98 l er).2.2) := Lib.hid hr2
  have GW : Hid (w.grownBy w2 (some g)) := Lib.hid (grownBy_trans (below_grown g KB.out) hg2)
  have ZW : Hid (w.heap.size + 2 ≤ w2.heap.size) := Lib.hid (by have := hg2.size; have := KZ.out; omega)
  obtain ⟨H', hH'⟩ : ∃ H' : Eh, H' = { H with e := { H.e with box := strOf (textV l er) } } := ⟨_, rfl⟩
  have HV : Hid (H'.e = (withP H.e 98 l er).1) := Lib.hid (by rw [hH']; rfl)
  have c0 : w2.cell? ⟨w.heap.size, 2, none⟩ = some (.string H.e.box) := J1.out.cell 2
  have f0 : w2.frozen? ⟨w.heap.size, 2, none⟩ = false := J1.out.frozen 2
  clear hg2 hr2
  have II : Hid (EvIn w2 w2.heap.size H') := Lib.hid (by
    obtain ⟨h1, h2, h3, h4, h5, h6, h7, h8⟩ := (FF.out.kept GW.out hgb).inn
    rw [hH']
    exact ⟨h1, h2, h3, h4, h5, h6, textV_size l er hl, h8⟩)
  have T1 : Hid (Away H'.A1 H'.n1 (fun b => base ≤ b ∧ (b < w.heap.size ∨ w.heap.size + 2 ≤ b))) := Lib.hid (by rw [hH']; exact FF.out.two1)
  have T2 : Hid (Away H'.A2 H'.n2 (fun b => base ≤ b ∧ (b < w.heap.size ∨ w.heap.size + 2 ≤ b))) := Lib.hid (by rw [hH']; exact FF.out.two2)
  have T3 : Hid (Away H'.A3 H'.n3 (fun b => base ≤ b ∧ (b < w.heap.size ∨ w.heap.size + 2 ≤ b))) := Lib.hid (by rw [hH']; exact FF.out.two3)
  have P1 : Hid (Bk (w2.setCell ⟨w.heap.size, 2, none⟩ (.string (strOf (textV l er)))) w.heap.size 34 (evC H')) := Lib.hid (by
    have := J1.out.put 2 (.string (strOf (textV l er)))
    rw [hH']
    exact this)
  clear hH'
  go_wp2_with ((with_reducible show wpList _ _ _ (⟨some 54, _, _, _, _, _⟩ :: _) _ _); refine hold ?_)
  refine held (list_overE (fun W => Bk W w.heap.size 34 (evC H') ∧ Bk W (w.heap.size + 1) 34 (evC (bareH 0 0)) ∧ w2.grownBy W (some w.heap.size)) ⟨P1.out, J2.out.far (show w.heap.size + 1 ≠ w.heap.size by omega) _, grownBy_setCell _ _ _ _⟩ ?_)
  rintro W4 ⟨q1, q2, q3⟩
  have Q1 := Lib.hid q1
  have Q2 := Lib.hid q2
  have Q3 := Lib.hid q3
  clear q1 q2 q3 P1 c0 f0
  refine wpList_load_mid rfl 34 (.tmp 3) rfl w.heap.size 0 rfl _ _ Q1.out.range Tryd.underlying34 rfl (by kernel_rfl) ?_
  refine wpList_store_wide rfl 34 (.tmp 6) (.tmp 54) rfl (w.heap.size + 1) 0 (evC H') rfl rfl 34 _ Q2.out (by rw [evC_size, evC_size]; decide) (by rw [evC_size]; exact info_ev) (evC_one _) ?_
  intro w9 hw9
  obtain rfl := w_setRow_allE hw9 (by rw [evC_size, evC_size])
  go_wp2_with fail
  refine bodyPost_ret (results_cell (a := ⟨w.heap.size + 1, 0, none⟩) rfl rfl (Bk.ev (Bk.setRow_same Q2.out _))) rfl ⟨H', rfl, HV.out, ?_⟩
  exact with_end hgb hbw FF.out R2.out GW.out HV.out II.out T1.out T2.out T3.out Q3.out Q2.out
set_option maxRecDepth 20000 in
set_option maxHeartbeats 4000000 in
theorem evwith_116 (H : Eh) (g base er : Nat) (l : List Nat) (w : World) (HF : EvFar w base H) (hr : RdP w g l er) (hgb : g < base) (hbw : base ≤ w.heap.size) (hl : l.length ≤ 140737488355328) (hb : ∀ x ∈ l, x < 256) :
    Calls Tryd.prog 40 #[.agg (evC H), .int .i32 116, .pointer (some ⟨g, 0, none⟩)] w (WithIs H 116 g base l er w) := by
  have FF := Lib.hid HF
  have HR := Lib.hid hr
  have HB := Lib.hid hb
  clear HF hr hb
  go_enter Tryd.func40, Tryd.ntmps40
  go_wp2_with fail
  refine calls_overE (fun W => Bk W w.heap.size 34 (evC H) ∧ Bk W (w.heap.size + 1) 34 (evC (bareH 0 0)) ∧ RdP W g l er ∧ Below w.heap.size w W ∧ w.heap.size + 2 ≤ W.heap.size) ⟨(Bk.new _ _ _).alloc _, Bk.new2 _ _ _ _, HR.out.below (((Below.refl _ _).alloc (Nat.le_refl _) _).alloc (by simp) _) (by omega), ((Below.refl _ _).alloc (Nat.le_refl _) _).alloc (by simp) _, by simp⟩ ?_
  rintro W ⟨k1, k2, kr, kb, kz⟩
  have K1 := Lib.hid k1
  have K2 := Lib.hid k2
  have KB := Lib.hid kb
  have KZ := Lib.hid kz
  have CC := Lib.hid (pText_any g er l W kr hl HB.out)
  clear k1 k2 kr kb kz
  refine CC.out.mono ?_
  rintro e w2 ⟨rfl, hr2, hg2⟩
  clear CC
  have hgw : g < w.heap.size := by omega
  have J1 := Lib.hid (K1.out.kept hg2 (by omega))
  have J2 := Lib.hid (K2.out.kept hg2 (by omega))
  have R2 : Hid (RdP w2 g (withP H.e 116 l er).2.1 (withP H.e 116 l er).2.2) := Lib.hid hr2
  have GW : Hid (w.grownBy w2 (some g)) := Lib.hid (grownBy_trans (below_grown g KB.out) hg2)
  have ZW : Hid (w.heap.size + 2 ≤ w2.heap.size) := Lib.hid (by have := hg2.size; have := KZ.out; omega)
  obtain ⟨H', hH'⟩ : ∃ H' : Eh, H' = { H with e := { H.e with to_ := strOf (textV l er) } } := ⟨_, rfl⟩
  have HV : Hid (H'.e = (withP H.e 116 l er).1) := Lib.hid (by rw [hH']; rfl)
  have c0 : w2.cell? ⟨w.heap.size, 3, none⟩ = some (.string H.e.to_) := J1.out.cell 3
  have f0 : w2.frozen? ⟨w.heap.size, 3, none⟩ = false := J1.out.frozen 3
  clear hg2 hr2
  have II : Hid (EvIn w2 w2.heap.size H') := Lib.hid (by
    obtain ⟨h1, h2, h3, h4, h5, h6, h7, h8⟩ := (FF.out.kept GW.out hgb).inn
    rw [hH']
    exact ⟨h1, h2, h3, h4, h5, h6, h7, textV_size l er hl⟩)
  have T1 : Hid (Away H'.A1 H'.n1 (fun b => base ≤ b ∧ (b < w.heap.size ∨ w.heap.size + 2 ≤ b))) := Lib.hid (by rw [hH']; exact FF.out.two1)
  have T2 : Hid (Away H'.A2 H'.n2 (fun b => base ≤ b ∧ (b < w.heap.size ∨ w.heap.size + 2 ≤ b))) := Lib.hid (by rw [hH']; exact FF.out.two2)
  have T3 : Hid (Away H'.A3 H'.n3 (fun b => base ≤ b ∧ (b < w.heap.size ∨ w.heap.size + 2 ≤ b))) := Lib.hid (by rw [hH']; exact FF.out.two3)
  have P1 : Hid (Bk (w2.setCell ⟨w.heap.size, 3, none⟩ (.string (strOf (textV l er)))) w.heap.size 34 (evC H')) := Lib.hid (by
    have := J1.out.put 3 (.string (strOf (textV l er)))
    rw [hH']
    exact this)
  clear hH'
  go_wp2_with ((with_reducible show wpList _ _ _ (⟨some 54, _, _, _, _, _⟩ :: _) _ _); refine hold ?_)
  refine held (list_overE (fun W => Bk W w.heap.size 34 (evC H') ∧ Bk W (w.heap.size + 1) 34 (evC (bareH 0 0)) ∧ w2.grownBy W (some w.heap.size)) ⟨P1.out, J2.out.far (show w.heap.size + 1 ≠ w.heap.size by omega) _, grownBy_setCell _ _ _ _⟩ ?_)
  rintro W4 ⟨q1, q2, q3⟩
  have Q1 := Lib.hid q1
  have Q2 := Lib.hid q2
  have Q3 := Lib.hid q3
  clear q1 q2 q3 P1 c0 f0
  refine wpList_load_mid rfl 34 (.tmp 3) rfl w.heap.size 0 rfl _ _ Q1.out.range Tryd.underlying34 rfl (by kernel_rfl) ?_
  refine wpList_store_wide rfl 34 (.tmp 6) (.tmp 54) rfl (w.heap.size + 1) 0 (evC H') rfl rfl 34 _ Q2.out (by rw [evC_size, evC_size]; decide) (by rw [evC_size]; exact info_ev) (evC_one _) ?_
  intro w9 hw9
  obtain rfl := w_setRow_allE hw9 (by rw [evC_size, evC_size])
  go_wp2_with fail
  refine bodyPost_ret (results_cell (a := ⟨w.heap.size + 1, 0, none⟩) rfl rfl (Bk.ev (Bk.setRow_same Q2.out _))) rfl ⟨H', rfl, HV.out, ?_⟩
  exact with_end hgb hbw FF.out R2.out GW.out HV.out II.out T1.out T2.out T3.out Q3.out Q2.out
set_option maxRecDepth 20000 in
set_option maxHeartbeats 4000000 in
theorem evwith_105 (H : Eh) (g base er : Nat) (l : List Nat) (w : World) (HF : EvFar w base H) (hr : RdP w g l er) (hgb : g < base) (hbw : base ≤ w.heap.size) (hl : l.length ≤ 140737488355328) (hb : ∀ x ∈ l, x < 256) :
    Calls Tryd.prog 40 #[.agg (evC H), .int .i32 105, .pointer (some ⟨g, 0, none⟩)] w (WithIs H 105 g base l er w) := by
  have FF := Lib.hid HF
  have HR := Lib.hid hr
  have HB := Lib.hid hb
  clear HF hr hb
  go_enter Tryd.func40, Tryd.ntmps40
  go_wp2_with fail
  refine calls_overE (fun W => Bk W w.heap.size 34 (evC H) ∧ Bk W (w.heap.size + 1) 34 (evC (bareH 0 0)) ∧ RdP W g l er ∧ Below w.heap.size w W ∧ w.heap.size + 2 ≤ W.heap.size) ⟨(Bk.new _ _ _).alloc _, Bk.new2 _ _ _ _, HR.out.below (((Below.refl _ _).alloc (Nat.le_refl _) _).alloc (by simp) _) (by omega), ((Below.refl _ _).alloc (Nat.le_refl _) _).alloc (by simp) _, by simp⟩ ?_
  rintro W ⟨k1, k2, kr, kb, kz⟩
  have K1 := Lib.hid k1
  have K2 := Lib.hid k2
  have KB := Lib.hid kb
  have KZ := Lib.hid kz
  have CC := Lib.hid (evnextIDs_any g er l W kr hl HB.out)
  clear k1 k2 kr kb kz
  refine CC.out.mono ?_
  rintro e w2 ⟨A, N, cc, rfl, hN, ho, hr2, hg2⟩
  have HO := Lib.hid ho
  clear CC ho
  have hgw : g < w.heap.size := by omega
  have J1 := Lib.hid (K1.out.kept hg2 (by omega))
  have J2 := Lib.hid (K2.out.kept hg2 (by omega))
  have R2 : Hid (RdP w2 g (withP H.e 105 l er).2.1 (withP H.e 105 l er).2.2) := Lib.hid hr2
  have GW : Hid (w.grownBy w2 (some g)) := Lib.hid (grownBy_trans (below_grown g KB.out) hg2)
  have ZW : Hid (w.heap.size + 2 ≤ w2.heap.size) := Lib.hid (by have := hg2.size; have := KZ.out; omega)
  have CV := Lib.hid HO.out.colE
  have AW := Lib.hid (OwnV.away HO.out)
  obtain ⟨H', hH'⟩ : ∃ H' : Eh, H' = { H with e := { H.e with ids := (rdI (countV l er 60) (takeL l er 8) (countE l er 60)).1 }, A1 := A, n1 := N, c1 := cc } := ⟨_, rfl⟩
  have HV : Hid (H'.e = (withP H.e 105 l er).1) := Lib.hid (by rw [hH']; rfl)
  have c0 : w2.cell? ⟨w.heap.size, 4, none⟩ = some (.slice H.A1 H.n1 H.c1) := J1.out.cell 4
  have f0 : w2.frozen? ⟨w.heap.size, 4, none⟩ = false := J1.out.frozen 4
  clear hg2 hr2
  have II : Hid (EvIn w2 w2.heap.size H') := Lib.hid (by
    obtain ⟨h1, h2, h3, h4, h5, h6, h7, h8⟩ := (FF.out.kept GW.out hgb).inn
    rw [hH']
    exact ⟨CV.out, h2, h3, by show N ≤ _; omega, h5, h6, h7, h8⟩)
  have T1 : Hid (Away H'.A1 H'.n1 (fun b => base ≤ b ∧ (b < w.heap.size ∨ w.heap.size + 2 ≤ b))) := Lib.hid (by rw [hH']; exact (AW.out.imp fun b hb => ⟨by have := KZ.out; omega, .inr (by have := KZ.out; omega)⟩))
  have T2 : Hid (Away H'.A2 H'.n2 (fun b => base ≤ b ∧ (b < w.heap.size ∨ w.heap.size + 2 ≤ b))) := Lib.hid (by rw [hH']; exact FF.out.two2)
  have T3 : Hid (Away H'.A3 H'.n3 (fun b => base ≤ b ∧ (b < w.heap.size ∨ w.heap.size + 2 ≤ b))) := Lib.hid (by rw [hH']; exact FF.out.two3)
  have P1 : Hid (Bk (w2.setCell ⟨w.heap.size, 4, none⟩ (.slice A N cc)) w.heap.size 34 (evC H')) := Lib.hid (by
    have := J1.out.put 4 (.slice A N cc)
    rw [hH']
    exact this)
  clear hH'
  go_wp2_with ((with_reducible show wpList _ _ _ (⟨some 54, _, _, _, _, _⟩ :: _) _ _); refine hold ?_)
  refine held (list_overE (fun W => Bk W w.heap.size 34 (evC H') ∧ Bk W (w.heap.size + 1) 34 (evC (bareH 0 0)) ∧ w2.grownBy W (some w.heap.size)) ⟨P1.out, J2.out.far (show w.heap.size + 1 ≠ w.heap.size by omega) _, grownBy_setCell _ _ _ _⟩ ?_)
  rintro W4 ⟨q1, q2, q3⟩
  have Q1 := Lib.hid q1
  have Q2 := Lib.hid q2
  have Q3 := Lib.hid q3
  clear q1 q2 q3 P1 c0 f0
  refine wpList_load_mid rfl 34 (.tmp 3) rfl w.heap.size 0 rfl _ _ Q1.out.range Tryd.underlying34 rfl (by kernel_rfl) ?_
  refine wpList_store_wide rfl 34 (.tmp 6) (.tmp 54) rfl (w.heap.size + 1) 0 (evC H') rfl rfl 34 _ Q2.out (by rw [evC_size, evC_size]; decide) (by rw [evC_size]; exact info_ev) (evC_one _) ?_
  intro w9 hw9
  obtain rfl := w_setRow_allE hw9 (by rw [evC_size, evC_size])
  go_wp2_with fail
  refine bodyPost_ret (results_cell (a := ⟨w.heap.size + 1, 0, none⟩) rfl rfl (Bk.ev (Bk.setRow_same Q2.out _))) rfl ⟨H', rfl, HV.out, ?_⟩
  exact with_end hgb hbw FF.out R2.out GW.out HV.out II.out T1.out T2.out T3.out Q3.out Q2.out
set_option maxRecDepth 20000 in
set_option maxHeartbeats 4000000 in
theorem evwith_115 (H : Eh) (g base er : Nat) (l : List Nat) (w : World) (HF : EvFar w base H) (hr : RdP w g l er) (hgb : g < base) (hbw : base ≤ w.heap.size) (hl : l.length ≤ 140737488355328) (hb : ∀ x ∈ l, x < 256) :
    Calls Tryd.prog 40 #[.agg (evC H), .int .i32 115, .pointer (some ⟨g, 0, none⟩)] w (WithIs H 115 g base l er w) := by
  have FF := Lib.hid HF
  have HR := Lib.hid hr
  have HB := Lib.hid hb
  clear HF hr hb
  go_enter Tryd.func40, Tryd.ntmps40
  go_wp2_with fail
  refine calls_overE (fun W => Bk W w.heap.size 34 (evC H) ∧ Bk W (w.heap.size + 1) 34 (evC (bareH 0 0)) ∧ RdP W g l er ∧ Below w.heap.size w W ∧ w.heap.size + 2 ≤ W.heap.size) ⟨(Bk.new _ _ _).alloc _, Bk.new2 _ _ _ _, HR.out.below (((Below.refl _ _).alloc (Nat.le_refl _) _).alloc (by simp) _) (by omega), ((Below.refl _ _).alloc (Nat.le_refl _) _).alloc (by simp) _, by simp⟩ ?_
  rintro W ⟨k1, k2, kr, kb, kz⟩
  have K1 := Lib.hid k1
  have K2 := Lib.hid k2
  have KB := Lib.hid kb
  have KZ := Lib.hid kz
  have CC := Lib.hid (evnextSet_any g er l W kr hl HB.out)
  clear k1 k2 kr kb kz
  refine CC.out.mono ?_
  rintro e w2 ⟨A, N, cc, rfl, hN, ho, hr2, hg2⟩
  have HO := Lib.hid ho
  clear CC ho
  have hgw : g < w.heap.size := by omega
  have J1 := Lib.hid (K1.out.kept hg2 (by omega))
  have J2 := Lib.hid (K2.out.kept hg2 (by omega))
  have R2 : Hid (RdP w2 g (withP H.e 115 l er).2.1 (withP H.e 115 l er).2.2) := Lib.hid hr2
  have GW : Hid (w.grownBy w2 (some g)) := Lib.hid (grownBy_trans (below_grown g KB.out) hg2)
  have ZW : Hid (w.heap.size + 2 ≤ w2.heap.size) := Lib.hid (by have := hg2.size; have := KZ.out; omega)
  have CV := Lib.hid HO.out.col
  have AW := Lib.hid (OwnK.away HO.out)
  obtain ⟨H', hH'⟩ : ∃ H' : Eh, H' = { H with e := { H.e with set := rdS (countV l er 60) (takeL l er 8) (countE l er 60) }, A2 := A, n2 := N, c2 := cc } := ⟨_, rfl⟩
  have HV : Hid (H'.e = (withP H.e 115 l er).1) := Lib.hid (by rw [hH']; rfl)
  have c0 : w2.cell? ⟨w.heap.size, 5, none⟩ = some (.slice H.A2 H.n2 H.c2) := J1.out.cell 5
  have f0 : w2.frozen? ⟨w.heap.size, 5, none⟩ = false := J1.out.frozen 5
  clear hg2 hr2
  have II : Hid (EvIn w2 w2.heap.size H') := Lib.hid (by
    obtain ⟨h1, h2, h3, h4, h5, h6, h7, h8⟩ := (FF.out.kept GW.out hgb).inn
    rw [hH']
    exact ⟨h1, CV.out, h3, h4, by show N ≤ _; omega, h6, h7, h8⟩)
  have T1 : Hid (Away H'.A1 H'.n1 (fun b => base ≤ b ∧ (b < w.heap.size ∨ w.heap.size + 2 ≤ b))) := Lib.hid (by rw [hH']; exact FF.out.two1)
  have T2 : Hid (Away H'.A2 H'.n2 (fun b => base ≤ b ∧ (b < w.heap.size ∨ w.heap.size + 2 ≤ b))) := Lib.hid (by rw [hH']; exact (AW.out.imp fun b hb => ⟨by have := KZ.out; omega, .inr (by have := KZ.out; omega)⟩))
  have T3 : Hid (Away H'.A3 H'.n3 (fun b => base ≤ b ∧ (b < w.heap.size ∨ w.heap.size + 2 ≤ b))) := Lib.hid (by rw [hH']; exact FF.out.two3)
  have P1 : Hid (Bk (w2.setCell ⟨w.heap.size, 5, none⟩ (.slice A N cc)) w.heap.size 34 (evC H')) := Lib.hid (by
    have := J1.out.put 5 (.slice A N cc)
    rw [hH']
    exact this)
  clear hH'
  go_wp2_with ((with_reducible show wpList _ _ _ (⟨some 54, _, _, _, _, _⟩ :: _) _ _); refine hold ?_)
  refine held (list_overE (fun W => Bk W w.heap.size 34 (evC H') ∧ Bk W (w.heap.size + 1) 34 (evC (bareH 0 0)) ∧ w2.grownBy W (some w.heap.size)) ⟨P1.out, J2.out.far (show w.heap.size + 1 ≠ w.heap.size by omega) _, grownBy_setCell _ _ _ _⟩ ?_)
  rintro W4 ⟨q1, q2, q3⟩
  have Q1 := Lib.hid q1
  have Q2 := Lib.hid q2
  have Q3 := Lib.hid q3
  clear q1 q2 q3 P1 c0 f0
  refine wpList_load_mid rfl 34 (.tmp 3) rfl w.heap.size 0 rfl _ _ Q1.out.range Tryd.underlying34 rfl (by kernel_rfl) ?_
  refine wpList_store_wide rfl 34 (.tmp 6) (.tmp 54) rfl (w.heap.size + 1) 0 (evC H') rfl rfl 34 _ Q2.out (by rw [evC_size, evC_size]; decide) (by rw [evC_size]; exact info_ev) (evC_one _) ?_
  intro w9 hw9
  obtain rfl := w_setRow_allE hw9 (by rw [evC_size, evC_size])
  go_wp2_with fail
  refine bodyPost_ret (results_cell (a := ⟨w.heap.size + 1, 0, none⟩) rfl rfl (Bk.ev (Bk.setRow_same Q2.out _))) rfl ⟨H', rfl, HV.out, ?_⟩
  exact with_end hgb hbw FF.out R2.out GW.out HV.out II.out T1.out T2.out T3.out Q3.out Q2.out
set_option maxRecDepth 20000 in
set_option maxHeartbeats 4000000 in
theorem evwith_109 (H : Eh) (g base er : Nat) (l : List Nat) (w : World) (HF : EvFar w base H) (hr : RdP w g l er) (hgb : g < base) (hbw : base ≤ w.heap.size) (hl : l.length ≤ 140737488355328) (hb : ∀ x ∈ l, x < 256) :
    Calls Tryd.prog 40 #[.agg (evC H), .int .i32 109, .pointer (some ⟨g, 0, none⟩)] w (WithIs H 109 g base l er w) := by
  have FF := Lib.hid HF
  have HR := Lib.hid hr
  have HB := Lib.hid hb
  clear HF hr hb
  go_enter Tryd.func40, Tryd.ntmps40
  go_wp2_with fail
  refine calls_overE (fun W => Bk W w.heap.size 34 (evC H) ∧ Bk W (w.heap.size + 1) 34 (evC (bareH 0 0)) ∧ RdP W g l er ∧ Below w.heap.size w W ∧ w.heap.size + 2 ≤ W.heap.size) ⟨(Bk.new _ _ _).alloc _, Bk.new2 _ _ _ _, HR.out.below (((Below.refl _ _).alloc (Nat.le_refl _) _).alloc (by simp) _) (by omega), ((Below.refl _ _).alloc (Nat.le_refl _) _).alloc (by simp) _, by simp⟩ ?_
  rintro W ⟨k1, k2, kr, kb, kz⟩
  have K1 := Lib.hid k1
  have K2 := Lib.hid k2
  have KB := Lib.hid kb
  have KZ := Lib.hid kz
  have CC := Lib.hid (pNum_any g er l W kr hl HB.out)
  clear k1 k2 kr kb kz
  refine CC.out.mono ?_
  rintro e w2 ⟨rfl, hr2, hg2⟩
  clear CC
  have hgw : g < w.heap.size := by omega
  have J1 := Lib.hid (K1.out.kept hg2 (by omega))
  have J2 := Lib.hid (K2.out.kept hg2 (by omega))
  have R2 : Hid (RdP w2 g (withP H.e 109 l er).2.1 (withP H.e 109 l er).2.2) := Lib.hid hr2
  have GW : Hid (w.grownBy w2 (some g)) := Lib.hid (grownBy_trans (below_grown g KB.out) hg2)
  have ZW : Hid (w.heap.size + 2 ≤ w2.heap.size) := Lib.hid (by have := hg2.size; have := KZ.out; omega)
  obtain ⟨H', hH'⟩ : ∃ H' : Eh, H' = { H with e := { H.e with mode := ((numV l er : Nat) : Int) } } := ⟨_, rfl⟩
  have HV : Hid (H'.e = (withP H.e 109 l er).1) := Lib.hid (by rw [hH']; rfl)
  have c0 : w2.cell? ⟨w.heap.size, 6, none⟩ = some (.int .i64 H.e.mode) := J1.out.cell 6
  have f0 : w2.frozen? ⟨w.heap.size, 6, none⟩ = false := J1.out.frozen 6
  clear hg2 hr2
  have II : Hid (EvIn w2 w2.heap.size H') := Lib.hid (by
    obtain ⟨h1, h2, h3, h4, h5, h6, h7, h8⟩ := (FF.out.kept GW.out hgb).inn
    rw [hH']
    exact ⟨h1, h2, h3, h4, h5, h6, h7, h8⟩)
  have T1 : Hid (Away H'.A1 H'.n1 (fun b => base ≤ b ∧ (b < w.heap.size ∨ w.heap.size + 2 ≤ b))) := Lib.hid (by rw [hH']; exact FF.out.two1)
  have T2 : Hid (Away H'.A2 H'.n2 (fun b => base ≤ b ∧ (b < w.heap.size ∨ w.heap.size + 2 ≤ b))) := Lib.hid (by rw [hH']; exact FF.out.two2)
  have T3 : Hid (Away H'.A3 H'.n3 (fun b => base ≤ b ∧ (b < w.heap.size ∨ w.heap.size + 2 ≤ b))) := Lib.hid (by rw [hH']; exact FF.out.two3)
  have P1 : Hid (Bk (w2.setCell ⟨w.heap.size, 6, none⟩ (.int .i64 ((numV l er : Nat) : Int))) w.heap.size 34 (evC H')) := Lib.hid (by
    have := J1.out.put 6 (.int .i64 ((numV l er : Nat) : Int))
    rw [hH']
    exact this)
  clear hH'
  go_wp2_with ((with_reducible show wpList _ _ _ (⟨some 54, _, _, _, _, _⟩ :: _) _ _); refine hold ?_)
  refine held (list_overE (fun W => Bk W w.heap.size 34 (evC H') ∧ Bk W (w.heap.size + 1) 34 (evC (bareH 0 0)) ∧ w2.grownBy W (some w.heap.size)) ⟨P1.out, J2.out.far (show w.heap.size + 1 ≠ w.heap.size by omega) _, grownBy_setCell _ _ _ _⟩ ?_)
  rintro W4 ⟨q1, q2, q3⟩
  have Q1 := Lib.hid q1
  have Q2 := Lib.hid q2
  have Q3 := Lib.hid q3
  clear q1 q2 q3 P1 c0 f0
  refine wpList_load_mid rfl 34 (.tmp 3) rfl w.heap.size 0 rfl _ _ Q1.out.range Tryd.underlying34 rfl (by kernel_rfl) ?_
  refine wpList_store_wide rfl 34 (.tmp 6) (.tmp 54) rfl (w.heap.size + 1) 0 (evC H') rfl rfl 34 _ Q2.out (by rw [evC_size, evC_size]; decide) (by rw [evC_size]; exact info_ev) (evC_one _) ?_
  intro w9 hw9
  obtain rfl := w_setRow_allE hw9 (by rw [evC_size, evC_size])
  go_wp2_with fail
  refine bodyPost_ret (results_cell (a := ⟨w.heap.size + 1, 0, none⟩) rfl rfl (Bk.ev (Bk.setRow_same Q2.out _))) rfl ⟨H', rfl, HV.out, ?_⟩
  exact with_end hgb hbw FF.out R2.out GW.out HV.out II.out T1.out T2.out T3.out Q3.out Q2.out
set_option maxRecDepth 20000 in
set_option maxHeartbeats 4000000 in
theorem evwith_102 (H : Eh) (g base er : Nat) (l : List Nat) (w : World) (HF : EvFar w base H) (hr : RdP w g l er) (hgb : g < base) (hbw : base ≤ w.heap.size) (hl : l.length ≤ 140737488355328) (hb : ∀ x ∈ l, x < 256) :
    Calls Tryd.prog 40 #[.agg (evC H), .int .i32 102, .pointer (some ⟨g, 0, none⟩)] w (WithIs H 102 g base l er w) := by
  have FF := Lib.hid HF
  have HR := Lib.hid hr
  have HB := Lib.hid hb
  clear HF hr hb
  go_enter Tryd.func40, Tryd.ntmps40
  go_wp2_with fail
  refine calls_overE (fun W => Bk W w.heap.size 34 (evC H) ∧ Bk W (w.heap.size + 1) 34 (evC (bareH 0 0)) ∧ RdP W g l er ∧ Below w.heap.size w W ∧ w.heap.size + 2 ≤ W.heap.size) ⟨(Bk.new _ _ _).alloc _, Bk.new2 _ _ _ _, HR.out.below (((Below.refl _ _).alloc (Nat.le_refl _) _).alloc (by simp) _) (by omega), ((Below.refl _ _).alloc (Nat.le_refl _) _).alloc (by simp) _, by simp⟩ ?_
  rintro W ⟨k1, k2, kr, kb, kz⟩
  have K1 := Lib.hid k1
  have K2 := Lib.hid k2
  have KB := Lib.hid kb
  have KZ := Lib.hid kz
  have CC := Lib.hid (pNum_any g er l W kr hl HB.out)
  clear k1 k2 kr kb kz
  refine CC.out.mono ?_
  rintro e w2 ⟨rfl, hr2, hg2⟩
  clear CC
  have hgw : g < w.heap.size := by omega
  have J1 := Lib.hid (K1.out.kept hg2 (by omega))
  have J2 := Lib.hid (K2.out.kept hg2 (by omega))
  have R2 : Hid (RdP w2 g (withP H.e 102 l er).2.1 (withP H.e 102 l er).2.2) := Lib.hid hr2
  have GW : Hid (w.grownBy w2 (some g)) := Lib.hid (grownBy_trans (below_grown g KB.out) hg2)
  have ZW : Hid (w.heap.size + 2 ≤ w2.heap.size) := Lib.hid (by have := hg2.size; have := KZ.out; omega)
  obtain ⟨H', hH'⟩ : ∃ H' : Eh, H' = { H with e := { H.e with flags := ((numV l er : Nat) : Int) } } := ⟨_, rfl⟩
  have HV : Hid (H'.e = (withP H.e 102 l er).1) := Lib.hid (by rw [hH']; rfl)
  have c0 : w2.cell? ⟨w.heap.size, 7, none⟩ = some (.int .i64 H.e.flags) := J1.out.cell 7
  have f0 : w2.frozen? ⟨w.heap.size, 7, none⟩ = false := J1.out.frozen 7
  clear hg2 hr2
  have II : Hid (EvIn w2 w2.heap.size H') := Lib.hid (by
    obtain ⟨h1, h2, h3, h4, h5, h6, h7, h8⟩ := (FF.out.kept GW.out hgb).inn
    rw [hH']
    exact ⟨h1, h2, h3, h4, h5, h6, h7, h8⟩)
  have T1 : Hid (Away H'.A1 H'.n1 (fun b => base ≤ b ∧ (b < w.heap.size ∨ w.heap.size + 2 ≤ b))) := Lib.hid (by rw [hH']; exact FF.out.two1)
  have T2 : Hid (Away H'.A2 H'.n2 (fun b => base ≤ b ∧ (b < w.heap.size ∨ w.heap.size + 2 ≤ b))) := Lib.hid (by rw [hH']; exact FF.out.two2)
  have T3 : Hid (Away H'.A3 H'.n3 (fun b => base ≤ b ∧ (b < w.heap.size ∨ w.heap.size + 2 ≤ b))) := Lib.hid (by rw [hH']; exact FF.out.two3)
  have P1 : Hid (Bk (w2.setCell ⟨w.heap.size, 7, none⟩ (.int .i64 ((numV l er : Nat) : Int))) w.heap.size 34 (evC H')) := Lib.hid (by
    have := J1.out.put 7 (.int .i64 ((numV l er : Nat) : Int))
    rw [hH']
    exact this)
  clear hH'
  go_wp2_with ((with_reducible show wpList _ _ _ (⟨some 54, _, _, _, _, _⟩ :: _) _ _); refine hold ?_)
  refine held (list_overE (fun W => Bk W w.heap.size 34 (evC H') ∧ Bk W (w.heap.size + 1) 34 (evC (bareH 0 0)) ∧ w2.grownBy W (some w.heap.size)) ⟨P1.out, J2.out.far (show w.heap.size + 1 ≠ w.heap.size by omega) _, grownBy_setCell _ _ _ _⟩ ?_)
  rintro W4 ⟨q1, q2, q3⟩
  have Q1 := Lib.hid q1
  have Q2 := Lib.hid q2
  have Q3 := Lib.hid q3
  clear q1 q2 q3 P1 c0 f0
  refine wpList_load_mid rfl 34 (.tmp 3) rfl w.heap.size 0 rfl _ _ Q1.out.range Tryd.underlying34 rfl (by kernel_rfl) ?_
  refine wpList_store_wide rfl 34 (.tmp 6) (.tmp 54) rfl (w.heap.size + 1) 0 (evC H') rfl rfl 34 _ Q2.out (by rw [evC_size, evC_size]; decide) (by rw [evC_size]; exact info_ev) (evC_one _) ?_
  intro w9 hw9
  obtain rfl := w_setRow_allE hw9 (by rw [evC_size, evC_size])
  go_wp2_with fail
  refine bodyPost_ret (results_cell (a := ⟨w.heap.size + 1, 0, none⟩) rfl rfl (Bk.ev (Bk.setRow_same Q2.out _))) rfl ⟨H', rfl, HV.out, ?_⟩
  exact with_end hgb hbw FF.out R2.out GW.out HV.out II.out T1.out T2.out T3.out Q3.out Q2.out
set_option maxRecDepth 20000 in
set_option maxHeartbeats 4000000 in
theorem evwith_100 (H : Eh) (g base er : Nat) (l : List Nat) (w : World) (HF : EvFar w base H) (hr : RdP w g l er) (hgb : g < base) (hbw : base ≤ w.heap.size) (hl : l.length ≤ 140737488355328) (hb : ∀ x ∈ l, x < 256) :
    Calls Tryd.prog 40 #[.agg (evC H), .int .i32 100, .pointer (some ⟨g, 0, none⟩)] w (WithIs H 100 g base l er w) := by
  have FF := Lib.hid HF
  have HR := Lib.hid hr
  have HB := Lib.hid hb
  clear HF hr hb
  go_enter Tryd.func40, Tryd.ntmps40
  go_wp2_with fail
  refine calls_overE (fun W => Bk W w.heap.size 34 (evC H) ∧ Bk W (w.heap.size + 1) 34 (evC (bareH 0 0)) ∧ RdP W g l er ∧ Below w.heap.size w W ∧ w.heap.size + 2 ≤ W.heap.size) ⟨(Bk.new _ _ _).alloc _, Bk.new2 _ _ _ _, HR.out.below (((Below.refl _ _).alloc (Nat.le_refl _) _).alloc (by simp) _) (by omega), ((Below.refl _ _).alloc (Nat.le_refl _) _).alloc (by simp) _, by simp⟩ ?_
  rintro W ⟨k1, k2, kr, kb, kz⟩
  have K1 := Lib.hid k1
  have K2 := Lib.hid k2
  have KB := Lib.hid kb
  have KZ := Lib.hid kz
  have CC := Lib.hid (pNum_any g er l W kr hl HB.out)
  clear k1 k2 kr kb kz
  refine CC.out.mono ?_
  rintro e w2 ⟨rfl, hr2, hg2⟩
  clear CC
  have hgw : g < w.heap.size := by omega
  have J1 := Lib.hid (K1.out.kept hg2 (by omega))
  have J2 := Lib.hid (K2.out.kept hg2 (by omega))
  have R2 : Hid (RdP w2 g (withP H.e 100 l er).2.1 (withP H.e 100 l er).2.2) := Lib.hid hr2
  have GW : Hid (w.grownBy w2 (some g)) := Lib.hid (grownBy_trans (below_grown g KB.out) hg2)
  have ZW : Hid (w.heap.size + 2 ≤ w2.heap.size) := Lib.hid (by have := hg2.size; have := KZ.out; omega)
  obtain ⟨H', hH'⟩ : ∃ H' : Eh, H' = { H with e := { H.e with date := ((numV l er : Nat) : Int) } } := ⟨_, rfl⟩
  have HV : Hid (H'.e = (withP H.e 100 l er).1) := Lib.hid (by rw [hH']; rfl)
  have c0 : w2.cell? ⟨w.heap.size, 8, none⟩ = some (.int .i64 H.e.date) := J1.out.cell 8
  have f0 : w2.frozen? ⟨w.heap.size, 8, none⟩ = false := J1.out.frozen 8
  clear hg2 hr2
  have II : Hid (EvIn w2 w2.heap.size H') := Lib.hid (by
    obtain ⟨h1, h2, h3, h4, h5, h6, h7, h8⟩ := (FF.out.kept GW.out hgb).inn
    rw [hH']
    exact ⟨h1, h2, h3, h4, h5, h6, h7, h8⟩)
  have T1 : Hid (Away H'.A1 H'.n1 (fun b => base ≤ b ∧ (b < w.heap.size ∨ w.heap.size + 2 ≤ b))) := Lib.hid (by rw [hH']; exact FF.out.two1)
  have T2 : Hid (Away H'.A2 H'.n2 (fun b => base ≤ b ∧ (b < w.heap.size ∨ w.heap.size + 2 ≤ b))) := Lib.hid (by rw [hH']; exact FF.out.two2)
  have T3 : Hid (Away H'.A3 H'.n3 (fun b => base ≤ b ∧ (b < w.heap.size ∨ w.heap.size + 2 ≤ b))) := Lib.hid (by rw [hH']; exact FF.out.two3)
  have P1 : Hid (Bk (w2.setCell ⟨w.heap.size, 8, none⟩ (.int .i64 ((numV l er : Nat) : Int))) w.heap.size 34 (evC H')) := Lib.hid (by
    have := J1.out.put 8 (.int .i64 ((numV l er : Nat) : Int))
    rw [hH']
    exact this)
  clear hH'
  go_wp2_with ((with_reducible show wpList _ _ _ (⟨some 54, _, _, _, _, _⟩ :: _) _ _); refine hold ?_)
  refine held (list_overE (fun W => Bk W w.heap.size 34 (evC H') ∧ Bk W (w.heap.size + 1) 34 (evC (bareH 0 0)) ∧ w2.grownBy W (some w.heap.size)) ⟨P1.out, J2.out.far (show w.heap.size + 1 ≠ w.heap.size by omega) _, grownBy_setCell _ _ _ _⟩ ?_)
  rintro W4 ⟨q1, q2, q3⟩
  have Q1 := Lib.hid q1
  have Q2 := Lib.hid q2
  have Q3 := Lib.hid q3
  clear q1 q2 q3 P1 c0 f0
  refine wpList_load_mid rfl 34 (.tmp 3) rfl w.heap.size 0 rfl _ _ Q1.out.range Tryd.underlying34 rfl (by kernel_rfl) ?_
  refine wpList_store_wide rfl 34 (.tmp 6) (.tmp 54) rfl (w.heap.size + 1) 0 (evC H') rfl rfl 34 _ Q2.out (by rw [evC_size, evC_size]; decide) (by rw [evC_size]; exact info_ev) (evC_one _) ?_
  intro w9 hw9
  obtain rfl := w_setRow_allE hw9 (by rw [evC_size, evC_size])
  go_wp2_with fail
  refine bodyPost_ret (results_cell (a := ⟨w.heap.size + 1, 0, none⟩) rfl rfl (Bk.ev (Bk.setRow_same Q2.out _))) rfl ⟨H', rfl, HV.out, ?_⟩
  exact with_end hgb hbw FF.out R2.out GW.out HV.out II.out T1.out T2.out T3.out Q3.out Q2.out
set_option maxRecDepth 20000 in
set_option maxHeartbeats 4000000 in
theorem evwith_110 (H : Eh) (g base er : Nat) (l : List Nat) (w : World) (HF : EvFar w base H) (hr : RdP w g l er) (hgb : g < base) (hbw : base ≤ w.heap.size) (hl : l.length ≤ 140737488355328) (hb : ∀ x ∈ l, x < 256) :
    Calls Tryd.prog 40 #[.agg (evC H), .int .i32 110, .pointer (some ⟨g, 0, none⟩)] w (WithIs H 110 g base l er w) := by
  have FF := Lib.hid HF
  have HR := Lib.hid hr
  have HB := Lib.hid hb
  clear HF hr hb
  go_enter Tryd.func40, Tryd.ntmps40
  go_wp2_with fail
  refine calls_overE (fun W => Bk W w.heap.size 34 (evC H) ∧ Bk W (w.heap.size + 1) 34 (evC (bareH 0 0)) ∧ RdP W g l er ∧ Below w.heap.size w W ∧ w.heap.size + 2 ≤ W.heap.size) ⟨(Bk.new _ _ _).alloc _, Bk.new2 _ _ _ _, HR.out.below (((Below.refl _ _).alloc (Nat.le_refl _) _).alloc (by simp) _) (by omega), ((Below.refl _ _).alloc (Nat.le_refl _) _).alloc (by simp) _, by simp⟩ ?_
  rintro W ⟨k1, k2, kr, kb, kz⟩
  have K1 := Lib.hid k1
  have K2 := Lib.hid k2
  have KB := Lib.hid kb
  have KZ := Lib.hid kz
  have CC := Lib.hid (pNum_any g er l W kr hl HB.out)
  clear k1 k2 kr kb kz
  refine CC.out.mono ?_
  rintro e w2 ⟨rfl, hr2, hg2⟩
  clear CC
  have hgw : g < w.heap.size := by omega
  have J1 := Lib.hid (K1.out.kept hg2 (by omega))
  have J2 := Lib.hid (K2.out.kept hg2 (by omega))
  have R2 : Hid (RdP w2 g (withP H.e 110 l er).2.1 (withP H.e 110 l er).2.2) := Lib.hid hr2
  have GW : Hid (w.grownBy w2 (some g)) := Lib.hid (grownBy_trans (below_grown g KB.out) hg2)
  have ZW : Hid (w.heap.size + 2 ≤ w2.heap.size) := Lib.hid (by have := hg2.size; have := KZ.out; omega)
  obtain ⟨H', hH'⟩ : ∃ H' : Eh, H' = { H with e := { H.e with n := ((numV l er : Nat) : Int) } } := ⟨_, rfl⟩
  have HV : Hid (H'.e = (withP H.e 110 l er).1) := Lib.hid (by rw [hH']; rfl)
  have c0 : w2.cell? ⟨w.heap.size, 9, none⟩ = some (.int .i64 H.e.n) := J1.out.cell 9
  have f0 : w2.frozen? ⟨w.heap.size, 9, none⟩ = false := J1.out.frozen 9
  clear hg2 hr2
  have II : Hid (EvIn w2 w2.heap.size H') := Lib.hid (by
    obtain ⟨h1, h2, h3, h4, h5, h6, h7, h8⟩ := (FF.out.kept GW.out hgb).inn
    rw [hH']
    exact ⟨h1, h2, h3, h4, h5, h6, h7, h8⟩)
  have T1 : Hid (Away H'.A1 H'.n1 (fun b => base ≤ b ∧ (b < w.heap.size ∨ w.heap.size + 2 ≤ b))) := Lib.hid (by rw [hH']; exact FF.out.two1)
  have T2 : Hid (Away H'.A2 H'.n2 (fun b => base ≤ b ∧ (b < w.heap.size ∨ w.heap.size + 2 ≤ b))) := Lib.hid (by rw [hH']; exact FF.out.two2)
  have T3 : Hid (Away H'.A3 H'.n3 (fun b => base ≤ b ∧ (b < w.heap.size ∨ w.heap.size + 2 ≤ b))) := Lib.hid (by rw [hH']; exact FF.out.two3)
  have P1 : Hid (Bk (w2.setCell ⟨w.heap.size, 9, none⟩ (.int .i64 ((numV l er : Nat) : Int))) w.heap.size 34 (evC H')) := Lib.hid (by
    have := J1.out.put 9 (.int .i64 ((numV l er : Nat) : Int))
    rw [hH']
    exact this)
  clear hH'
  go_wp2_with ((with_reducible show wpList _ _ _ (⟨some 54, _, _, _, _, _⟩ :: _) _ _); refine hold ?_)
  refine held (list_overE (fun W => Bk W w.heap.size 34 (evC H') ∧ Bk W (w.heap.size + 1) 34 (evC (bareH 0 0)) ∧ w2.grownBy W (some w.heap.size)) ⟨P1.out, J2.out.far (show w.heap.size + 1 ≠ w.heap.size by omega) _, grownBy_setCell _ _ _ _⟩ ?_)
  rintro W4 ⟨q1, q2, q3⟩
  have Q1 := Lib.hid q1
  have Q2 := Lib.hid q2
  have Q3 := Lib.hid q3
  clear q1 q2 q3 P1 c0 f0
  refine wpList_load_mid rfl 34 (.tmp 3) rfl w.heap.size 0 rfl _ _ Q1.out.range Tryd.underlying34 rfl (by kernel_rfl) ?_
  refine wpList_store_wide rfl 34 (.tmp 6) (.tmp 54) rfl (w.heap.size + 1) 0 (evC H') rfl rfl 34 _ Q2.out (by rw [evC_size, evC_size]; decide) (by rw [evC_size]; exact info_ev) (evC_one _) ?_
  intro w9 hw9
  obtain rfl := w_setRow_allE hw9 (by rw [evC_size, evC_size])
  go_wp2_with fail
  refine bodyPost_ret (results_cell (a := ⟨w.heap.size + 1, 0, none⟩) rfl rfl (Bk.ev (Bk.setRow_same Q2.out _))) rfl ⟨H', rfl, HV.out, ?_⟩
  exact with_end hgb hbw FF.out R2.out GW.out HV.out II.out T1.out T2.out T3.out Q3.out Q2.out
set_option maxRecDepth 20000 in
set_option maxHeartbeats 4000000 in
theorem evwith_121 (H : Eh) (g base er : Nat) (l : List Nat) (w : World) (HF : EvFar w base H) (hr : RdP w g l er) (hgb : g < base) (hbw : base ≤ w.heap.size) (hl : l.length ≤ 140737488355328) (hb : ∀ x ∈ l, x < 256) :
    Calls Tryd.prog 40 #[.agg (evC H), .int .i32 121, .pointer (some ⟨g, 0, none⟩)] w (WithIs H 121 g base l er w) := by
  have FF := Lib.hid HF
  have HR := Lib.hid hr
  have HB := Lib.hid hb
  clear HF hr hb
  go_enter Tryd.func40, Tryd.ntmps40
  go_wp2_with fail
  refine calls_overE (fun W => Bk W w.heap.size 34 (evC H) ∧ Bk W (w.heap.size + 1) 34 (evC (bareH 0 0)) ∧ RdP W g l er ∧ Below w.heap.size w W ∧ w.heap.size + 2 ≤ W.heap.size) ⟨(Bk.new _ _ _).alloc _, Bk.new2 _ _ _ _, HR.out.below (((Below.refl _ _).alloc (Nat.le_refl _) _).alloc (by simp) _) (by omega), ((Below.refl _ _).alloc (Nat.le_refl _) _).alloc (by simp) _, by simp⟩ ?_
  rintro W ⟨k1, k2, kr, kb, kz⟩
  have K1 := Lib.hid k1
  have K2 := Lib.hid k2
  have KB := Lib.hid kb
  have KZ := Lib.hid kz
  have CC := Lib.hid (pText_any g er l W kr hl HB.out)
  clear k1 k2 kr kb kz
  refine CC.out.mono ?_
  rintro e w2 ⟨rfl, hr2, hg2⟩
  clear CC
  have hgw : g < w.heap.size := by omega
  have J1 := Lib.hid (K1.out.kept hg2 (by omega))
  have J2 := Lib.hid (K2.out.kept hg2 (by omega))
  have R2 : Hid (RdP w2 g (withP H.e 121 l er).2.1 (withP H.e 121 l er).2.2) := Lib.hid hr2
  have GW : Hid (w.grownBy w2 (some g)) := Lib.hid (grownBy_trans (below_grown g KB.out) hg2)
  have ZW : Hid (w.heap.size + 2 ≤ w2.heap.size) := Lib.hid (by have := hg2.size; have := KZ.out; omega)
  obtain ⟨H', hH'⟩ : ∃ H' : Eh, H' = { H with e := { H.e with body := textV l er }, A3 := some ⟨w2.heap.size, 0, none⟩, n3 := (strOf (textV l er)).size, c3 := grownCap w2 (strOf (textV l er)).size 0 5 } := ⟨_, rfl⟩
  have HV : Hid (H'.e = (withP H.e 121 l er).1) := Lib.hid (by rw [hH']; rfl)
  have hbw3 : Below w2.heap.size w2 (Lib.bytesWorld w2 5 (strOf (textV l er))) := (Below.refl _ _).grown (bytesWorld_grown w2 5 (strOf (textV l er)) none) (Nat.le_refl _) (fun k hk => by cases hk)
  have BY : Hid (Bytes (Lib.bytesWorld w2 5 (strOf (textV l er))) (Lib.bytesWorld w2 5 (strOf (textV l er))).heap.size (some ⟨w2.heap.size, 0, none⟩) (strOf (textV l er)).size (textV l er)) := Lib.hid (by
    have h1 := bytesWorld_bytes w2 5 (strOf (textV l er))
    rw [nats_strOf _ (textV_lt HB.out)] at h1
    exact h1.more (by rw [Lib.bytesWorld_size]; exact Nat.le_refl _))
  have B3 := Lib.hid hbw3
  have L1 := Lib.hid (J1.out.below hbw3 J1.out.lt)
  have L2 := Lib.hid (J2.out.below hbw3 J2.out.lt)
  have R3 := Lib.hid (R2.out.below hbw3 R2.out.lt)
  have G3 := Lib.hid (grown_below GW.out (hbw3.mono (by have := ZW.out; omega)))
  have c0 : (Lib.bytesWorld w2 5 (strOf (textV l er))).cell? ⟨w.heap.size, 10, none⟩ = some (.slice H.A3 H.n3 H.c3) := L1.out.cell 10
  have f0 : (Lib.bytesWorld w2 5 (strOf (textV l er))).frozen? ⟨w.heap.size, 10, none⟩ = false := L1.out.frozen 10
  clear hg2 hr2 hbw3 J1 J2 R2 GW
  have kcv := Lib.run_convert_string_bytes (P := Tryd.prog) w2 9 32 5 (strOf (textV l er)) Tryd.underlying9 Tryd.underlying32 Tryd.underlying5
  generalize Lib.bytesWorld w2 5 (strOf (textV l er)) = w3 at *
  have II : Hid (EvIn w3 w3.heap.size H') := Lib.hid (by
    obtain ⟨h1, h2, h3, h4, h5, h6, h7, h8⟩ := (FF.out.kept G3.out hgb).inn
    rw [hH']
    exact ⟨h1, h2, BY.out, h4, h5, textV_size l er hl, h7, h8⟩)
  have T1 : Hid (Away H'.A1 H'.n1 (fun b => base ≤ b ∧ (b < w.heap.size ∨ w.heap.size + 2 ≤ b))) := Lib.hid (by rw [hH']; exact FF.out.two1)
  have T2 : Hid (Away H'.A2 H'.n2 (fun b => base ≤ b ∧ (b < w.heap.size ∨ w.heap.size + 2 ≤ b))) := Lib.hid (by rw [hH']; exact FF.out.two2)
  have T3 : Hid (Away H'.A3 H'.n3 (fun b => base ≤ b ∧ (b < w.heap.size ∨ w.heap.size + 2 ≤ b))) := Lib.hid (by rw [hH']; exact (fun _ a ha => by cases ha; exact ⟨by show base ≤ w2.heap.size; have := ZW.out; omega, .inr ZW.out⟩))
  have P1 : Hid (Bk (w3.setCell ⟨w.heap.size, 10, none⟩ (.slice (some ⟨w2.heap.size, 0, none⟩) (strOf (textV l er)).size (grownCap w2 (strOf (textV l er)).size 0 5))) w.heap.size 34 (evC H')) := Lib.hid (by
    have := L1.out.put 10 (.slice (some ⟨w2.heap.size, 0, none⟩) (strOf (textV l er)).size (grownCap w2 (strOf (textV l er)).size 0 5))
    rw [hH']
    exact this)
  clear hH'
  go_wp2_with ((with_reducible show wpList _ _ _ (⟨some 54, _, _, _, _, _⟩ :: _) _ _); refine hold ?_)
  refine held (list_overE (fun W => Bk W w.heap.size 34 (evC H') ∧ Bk W (w.heap.size + 1) 34 (evC (bareH 0 0)) ∧ w3.grownBy W (some w.heap.size)) ⟨P1.out, L2.out.far (show w.heap.size + 1 ≠ w.heap.size by omega) _, grownBy_setCell _ _ _ _⟩ ?_)
  rintro W4 ⟨q1, q2, q3⟩
  have Q1 := Lib.hid q1
  have Q2 := Lib.hid q2
  have Q3 := Lib.hid q3
  clear q1 q2 q3 P1 c0 f0
  refine wpList_load_mid rfl 34 (.tmp 3) rfl w.heap.size 0 rfl _ _ Q1.out.range Tryd.underlying34 rfl (by kernel_rfl) ?_
  refine wpList_store_wide rfl 34 (.tmp 6) (.tmp 54) rfl (w.heap.size + 1) 0 (evC H') rfl rfl 34 _ Q2.out (by rw [evC_size, evC_size]; decide) (by rw [evC_size]; exact info_ev) (evC_one _) ?_
  intro w9 hw9
  obtain rfl := w_setRow_allE hw9 (by rw [evC_size, evC_size])
  go_wp2_with fail
  refine bodyPost_ret (results_cell (a := ⟨w.heap.size + 1, 0, none⟩) rfl rfl (Bk.ev (Bk.setRow_same Q2.out _))) rfl ⟨H', rfl, HV.out, ?_⟩
  exact with_end hgb hbw FF.out R3.out G3.out HV.out II.out T1.out T2.out T3.out Q3.out Q2.out
theorem evwith_any (H : Eh) (g base er : Nat) (l : List Nat) {c : Nat} (hc : c ∈ nineL) (w : World) (HF : EvFar w base H) (hr : RdP w g l er) (hgb : g < base) (hbw : base ≤ w.heap.size) (hl : l.length ≤ 140737488355328) (hb : ∀ x ∈ l, x < 256) :
    Calls Tryd.prog 40 #[.agg (evC H), .int .i32 (c : Int), .pointer (some ⟨g, 0, none⟩)] w (WithIs H c g base l er w) := by
  rcases nine_cases hc with rfl | rfl | rfl | rfl | rfl | rfl | rfl | rfl | rfl
  · exact evwith_98 H g base er l w HF hr hgb hbw hl hb
  · exact evwith_116 H g base er l w HF hr hgb hbw hl hb
  · exact evwith_105 H g base er l w HF hr hgb hbw hl hb
  · exact evwith_115 H g base er l w HF hr hgb hbw hl hb
  · exact evwith_109 H g base er l w HF hr hgb hbw hl hb
  · exact evwith_102 H g base er l w HF hr hgb hbw hl hb
  · exact evwith_100 H g base er l w HF hr hgb hbw hl hb
  · exact evwith_110 H g base er l w HF hr hgb hbw hl hb
  · exact evwith_121 H g base er l w HF hr hgb hbw hl hb
end Go.Proofs.YtoiffchhfnbooaaDoor
