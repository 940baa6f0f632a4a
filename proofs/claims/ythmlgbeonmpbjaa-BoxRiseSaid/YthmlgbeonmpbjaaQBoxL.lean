/-
  The fixed fact of the laws of package box.
-/
import Derived.Test.YthmlgbeonmpbjaaQBoxK
import Derived.Lib.SlBytesConst
import Derived.Lib.SmallJoins
namespace Go.Proofs.Ythmlgbeonmpbjaa
set_option linter.unusedVariables false
set_option linter.unusedSimpArgs false
open Go.RowKit
set_option linter.unusedVariables false
set_option linter.unusedSimpArgs false

theorem bytes_new (w : World) (c : Nat) (hc : c < 256) (fr : Nat × Nat) : Bytes (w.alloc (.cells #[.int .u8 (c : Int)] 5 fr)) (w.alloc (.cells #[.int .u8 (c : Int)] 5 fr)).heap.size (some ⟨w.heap.size, 0, none⟩) 1 [c] := by
  refine ⟨rfl, by simpa using hc, fun _ => ⟨w.heap.size, 0, rfl, by simp, fun i hi => ?_⟩⟩
  obtain rfl : i = 0 := by omega
  exact cell_of_row (w.alloc (.cells #[.int .u8 (c : Int)] 5 fr)) w.heap.size 0 _ _ fr (heap_alloc_new w _)
theorem ints_new (w : World) (z : Int) : Col ints (w.alloc (.cells #[.int .i64 z] 3)) (w.alloc (.cells #[.int .i64 z] 3)).heap.size (some ⟨w.heap.size, 0, none⟩) 1 [z] := by
  refine ⟨rfl, fun _ => ⟨w.heap.size, 0, rfl, by simp, fun i a hi => ?_⟩⟩
  have : i = 0 := by
    rcases i with _ | i
    · rfl
    · simp at hi
  subst this
  simp at hi
  subst hi
  exact (Bk.new w 3 #[.int .i64 z]).cell 0
theorem box_cell {w : World} {b i : Nat} {t : TypeId} {s : ByteArray} {v nx : Int} {A : Option Addr} {n c : Nat} {k : IntKind} {z : Int} (hb : Bk w b t #[.string s, .int .i64 v, .int .i64 nx, .slice A n c]) (h : w.cell? ⟨b, i, none⟩ = some (.int k z)) : k = .i64 ∧ (i = 1 ∨ i = 2) := by
  rw [hb.cell] at h
  rcases i with _ | _ | _ | _ | i
  · simp at h
  · simp at h; exact ⟨h.1.symm, .inl rfl⟩
  · simp at h; exact ⟨h.1.symm, .inr rfl⟩
  · simp at h
  · simp at h
theorem Bytes.box4 {w w' : World} {B m b : Nat} {A : Option Addr} {l : List Nat} {t : TypeId} {s : ByteArray} {v nx : Int} {A' : Option Addr} {n c : Nat} (h : Bytes w B A m l) (hb : Bk w b t #[.string s, .int .i64 v, .int .i64 nx, .slice A' n c]) (hg : w.grownBy w' (some b)) : Bytes w' B A m l := by
  refine ⟨h.1, h.2.1, fun hn => ?_⟩
  obtain ⟨b0, o, e, h0, hc⟩ := h.2.2 hn
  have hne : b0 ≠ b := fun q => by
    have h1 := hc 0 hn
    rw [q] at h1
    have := (box_cell hb h1).1
    cases this
  exact ⟨b0, o, e, h0, fun i hi => hg.cell (hc i hi) (fun q => hne (by injection q))⟩
/-- messages stay where they are, whatever is stored into a mailbox' box -/
theorem MsgsIn.box4 {w w' : World} {B m b : Nat} {A : Option Addr} {l : List Mg} {t : TypeId} {s : ByteArray} {v nx : Int} {A' : Option Addr} {n c : Nat} (h : MsgsIn w B A m l) (hb : Bk w b t #[.string s, .int .i64 v, .int .i64 nx, .slice A' n c]) (hg : w.grownBy w' (some b)) : MsgsIn w' B A m l := by
  obtain ⟨hs, h1, h2, h3⟩ := h
  refine ⟨hs, ⟨h1.1, fun hn => ?_⟩, fun x hx => ⟨(h2 x hx).1.box4 hb hg, (h2 x hx).2⟩, h3⟩
  obtain ⟨b0, o, e, h0, hr⟩ := h1.2 hn
  have hne : b0 ≠ b := fun q => by
    obtain ⟨x, hx⟩ : ∃ x, hs[0]? = some x := ⟨_, List.getElem?_eq_getElem (by rw [h1.1]; exact hn)⟩
    have hx' := hr 0 x hx
    rw [q] at hx'
    have e0 := box_cell hb (hx' 0 _ rfl)
    have e1 := box_cell hb (hx' 1 _ rfl)
    have e2 := box_cell hb (hx' 2 _ rfl)
    omega
  exact ⟨b0, o, e, h0, fun i a ha j u hu => hg.cell (hr i a ha j u hu) (fun q => hne (by injection q))⟩
theorem al_small1 : ∀ m ∈ al1.msgs, m.body.length ≤ 1000000 := by unfold al1; decide
theorem al_small2 : ∀ m ∈ al2.msgs, m.body.length ≤ 1000000 := by unfold al2; decide
set_option maxRecDepth 20000 in
set_option maxHeartbeats 4000000 in
theorem alive11_any (w : World) : Calls Try.prog 9 #[] w (SaysB true w) := by
  have h1 : Bk (w.alloc (.cells #[.string ⟨#[97]⟩, .int .i64 1, .int .i64 5, .slice none 0 0] 24)) w.heap.size 24 #[.string ⟨#[97]⟩, .int .i64 1, .int .i64 5, .slice none 0 0] := Bk.new _ _ _
  have hb1 : Below w.heap.size w (w.alloc (.cells #[.string ⟨#[97]⟩, .int .i64 1, .int .i64 5, .slice none 0 0] 24)) := (Below.refl _ _).alloc (Nat.le_refl _) _
  have HA1 := Lib.hid (add_any ⟨#[97]⟩ 1 5 none 0 0 [] 0 0 0 (some ⟨(w.alloc (.cells #[.string ⟨#[97]⟩, .int .i64 1, .int .i64 5, .slice none 0 0] 24)).heap.size, 0, none⟩) 1 1 [120] ((w.alloc (.cells #[.string ⟨#[97]⟩, .int .i64 1, .int .i64 5, .slice none 0 0] 24)).alloc (.cells #[.int .u8 120] 5 (1, 2))) MsgsIn.nil (by omega) (fun m hm => (by cases hm)) (bytes_new (w.alloc (.cells #[.string ⟨#[97]⟩, .int .i64 1, .int .i64 5, .slice none 0 0] 24)) 120 (by omega) (1, 2)) (by omega))
  have HB1 := Lib.hid (hb1.alloc hb1.size (.cells #[.int .u8 120] 5 (1, 2)))
  have H1 := Lib.hid (h1.alloc (.cells #[.int .u8 120] 5 (1, 2)))
  clear h1 hb1
  rw [World.size_alloc] at HA1
  have kc := Go.Joins.run_convert_bytes_const_at (P := Try.prog) (w.alloc (.cells #[.string ⟨#[97]⟩, .int .i64 1, .int .i64 5, .slice none 0 0] 24)) 25 5 #[.int .u8 120] 1 1 (w.heap.size + 1) (by simp) Try.underlying25 Try.underlying5
  go_enter Try.func9, Try.ntmps9
  go_wp2_with fail
  refine HA1.out.mono ?_
  rintro e w2 ⟨A1, n1, c1, rfl, hm1, hb⟩
  rw [show (⟨⟨#[97]⟩, 1, 5, []⟩ : Bx) = al0 from rfl, al_add1.2.1] at hm1 ⊢
  rw [al_add1.1, al_add1.2.2]
  have h2 := H1.out.below hb H1.out.lt
  have HM1 := Lib.hid hm1
  have HN1 : Hid (n1 = 1) := Lib.hid (by rw [← hm1.len]; rfl)
  have HB2 := Lib.hid (HB1.out.trans (hb.mono HB1.out.size))
  have H2 := Lib.hid h2
  unfold al1
  simp only
  obtain ⟨⟨c0, c1', c2, c3⟩, f0, f1, f2, f3⟩ := h2.four
  clear h2 hm1 hb HA1 HB1 H1
  go_wp2_with fail
  have hg2 := grown_put4 w2 w.heap.size (.string ⟨#[97]⟩) (.int .i64 1) (.int .i64 6) (.slice A1 n1 c1)
  have hm1 := HM1.out.box4 H2.out hg2
  have hb2 := below_put4 HB2.out (Nat.le_refl _) (.string ⟨#[97]⟩) (.int .i64 1) (.int .i64 6) (.slice A1 n1 c1)
  have h3 := H2.out.put4 (.string ⟨#[97]⟩) (.int .i64 1) (.int .i64 6) (.slice A1 n1 c1)
  have hsz : w2.heap.size = ((((w2.setCell ⟨w.heap.size, 0, none⟩ (.string ⟨#[97]⟩)).setCell ⟨w.heap.size, 1, none⟩ (.int .i64 1)).setCell ⟨w.heap.size, 2, none⟩ (.int .i64 6)).setCell ⟨w.heap.size, 3, none⟩ (.slice A1 n1 c1)).heap.size := by simp
  rw [hsz] at hm1
  have HM2 := Lib.hid hm1
  have HB3 := Lib.hid hb2
  have H3 := Lib.hid h3
  clear c0 c1' c2 c3 f0 f1 f2 f3 hg2 hm1 hb2 h3 hsz HM1 HB2 H2
  generalize (((w2.setCell ⟨w.heap.size, 0, none⟩ (.string ⟨#[97]⟩)).setCell ⟨w.heap.size, 1, none⟩ (.int .i64 1)).setCell ⟨w.heap.size, 2, none⟩ (.int .i64 6)).setCell ⟨w.heap.size, 3, none⟩ (.slice A1 n1 c1) = w3 at *
  refine (add_any ⟨#[97]⟩ 1 6 A1 n1 c1 al1.msgs 0 1 0 none 0 0 [] w3 HM2.out (by have := HN1.out; omega) al_small1 Bytes.nil (by omega)).mono ?_
  rintro e w4 ⟨A2, n2, c2, rfl, hm2, hb⟩
  rw [show (⟨⟨#[97]⟩, 1, 6, al1.msgs⟩ : Bx) = al1 from rfl, al_add2.2.1] at hm2 ⊢
  rw [al_add2.1, al_add2.2.2]
  have h4 := H3.out.below hb H3.out.lt
  have HM4 := Lib.hid hm2
  have HN2 : Hid (n2 = 2) := Lib.hid (by rw [← hm2.len]; rfl)
  have HB4 := Lib.hid (HB3.out.trans (hb.mono HB3.out.size))
  have H4 := Lib.hid h4
  unfold al2
  simp only
  obtain ⟨⟨c0, c1', c2', c3⟩, f0, f1, f2, f3⟩ := h4.four
  clear h4 hm2 hb HB3 H3 HM2 HN1
  have hg2 := grown_put4 w4 w.heap.size (.string ⟨#[97]⟩) (.int .i64 1) (.int .i64 7) (.slice A2 n2 c2)
  have hm1 := HM4.out.box4 H4.out hg2
  have hb2 := below_put4 HB4.out (Nat.le_refl _) (.string ⟨#[97]⟩) (.int .i64 1) (.int .i64 7) (.slice A2 n2 c2)
  have h3 := H4.out.put4 (.string ⟨#[97]⟩) (.int .i64 1) (.int .i64 7) (.slice A2 n2 c2)
  have hsz : w4.heap.size = ((((w4.setCell ⟨w.heap.size, 0, none⟩ (.string ⟨#[97]⟩)).setCell ⟨w.heap.size, 1, none⟩ (.int .i64 1)).setCell ⟨w.heap.size, 2, none⟩ (.int .i64 7)).setCell ⟨w.heap.size, 3, none⟩ (.slice A2 n2 c2)).heap.size := by simp
  have HSZ := Lib.hid hsz
  rw [hsz] at hm1
  have HM5 := Lib.hid hm1
  have HB5 := Lib.hid hb2
  have H5 := Lib.hid h3
  clear hg2 hm1 hb2 h3 hsz HM4 HB4 H4
  go_wp2_with fail
  rw [HSZ.out]
  clear c0 c1' c2' c3 f0 f1 f2 f3 HSZ
  generalize (((w4.setCell ⟨w.heap.size, 0, none⟩ (.string ⟨#[97]⟩)).setCell ⟨w.heap.size, 1, none⟩ (.int .i64 1)).setCell ⟨w.heap.size, 2, none⟩ (.int .i64 7)).setCell ⟨w.heap.size, 3, none⟩ (.slice A2 n2 c2) = w5 at *
  have hba : Below w5.heap.size w5 (w5.alloc (.cells #[.int .i64 5] 3)) := (Below.refl _ _).alloc (Nat.le_refl _) _
  refine (take_any ⟨#[97]⟩ 1 7 A2 n2 c2 al2.msgs (some ⟨w5.heap.size, 0, none⟩) 1 1 [5] _ (HM5.out.later hba) (by have := HN2.out; omega) al_small2 (ints_new w5 5) (by omega)).mono ?_
  rintro e w6 ⟨A3, n3, c3, A4, n4, c4, rfl, hm3, hm4, hb⟩
  rw [show (⟨⟨#[97]⟩, 1, 7, al2.msgs⟩ : Bx) = al2 from rfl, al_take.2.1] at hm3 ⊢
  rw [show (⟨⟨#[97]⟩, 1, 7, al2.msgs⟩ : Bx) = al2 from rfl, al_take.2.2] at hm4
  rw [al_take.1]
  have h6 := (H5.out.alloc (.cells #[.int .i64 5] 3)).below hb (H5.out.alloc _).lt
  have HM6 := Lib.hid hm3
  have HN3 : Hid (n3 = 1) := Lib.hid (by rw [← hm3.len]; rfl)
  have hn4 : n4 = 1 := by rw [← hm4.len]; rfl
  subst hn4
  have HB6 := Lib.hid ((HB5.out.trans (hba.mono HB5.out.size)).trans (hb.mono (by have := HB5.out.size; simp; omega)))
  have H6 := Lib.hid h6
  simp only
  obtain ⟨⟨c0, c1', c2', c3'⟩, f0, f1, f2, f3⟩ := h6.four
  clear h6 hm3 hm4 hb hba HB5 H5 HM5 HN2
  have hg2 := grown_put4 w6 w.heap.size (.string ⟨#[97]⟩) (.int .i64 1) (.int .i64 7) (.slice A3 n3 c3)
  have hm1 := HM6.out.box4 H6.out hg2
  have hb2 := below_put4 HB6.out (Nat.le_refl _) (.string ⟨#[97]⟩) (.int .i64 1) (.int .i64 7) (.slice A3 n3 c3)
  have h3 := H6.out.put4 (.string ⟨#[97]⟩) (.int .i64 1) (.int .i64 7) (.slice A3 n3 c3)
  have hsz : w6.heap.size = ((((w6.setCell ⟨w.heap.size, 0, none⟩ (.string ⟨#[97]⟩)).setCell ⟨w.heap.size, 1, none⟩ (.int .i64 1)).setCell ⟨w.heap.size, 2, none⟩ (.int .i64 7)).setCell ⟨w.heap.size, 3, none⟩ (.slice A3 n3 c3)).heap.size := by simp
  rw [hsz] at hm1
  have HM7 := Lib.hid hm1
  have HB7 := Lib.hid hb2
  have H7 := Lib.hid h3
  clear hg2 hm1 hb2 h3 hsz HM6 HB6 H6
  go_wp2_with fail
  clear c0 c1' c2' c3' f0 f1 f2 f3
  generalize (((w6.setCell ⟨w.heap.size, 0, none⟩ (.string ⟨#[97]⟩)).setCell ⟨w.heap.size, 1, none⟩ (.int .i64 1)).setCell ⟨w.heap.size, 2, none⟩ (.int .i64 7)).setCell ⟨w.heap.size, 3, none⟩ (.slice A3 n3 c3) = w7 at *
  refine (place_any ⟨#[97]⟩ 1 7 6 A3 n3 c3 _ w7 HM7.out (by have := HN3.out; omega)).mono ?_
  rintro e w8 ⟨rfl, hb⟩
  rw [show placeN [(⟨6, 1, 0, []⟩ : Mg)] 6 = 1 from by decide]
  have HM8 := Lib.hid (HM7.out.later hb)
  have HB8 := Lib.hid (HB7.out.trans (hb.mono HB7.out.size))
  obtain ⟨⟨c0, c1', c2', c3'⟩, -, -, -, -⟩ := (H7.out.below hb H7.out.lt).four
  clear hb HM7 HB7 H7
  go_wp2_with fail
  clear c0 c1' c2' c3'
  refine (count_any ⟨#[97]⟩ 1 7 1 A3 n3 c3 _ w8 HM8.out (by have := HN3.out; omega)).mono ?_
  rintro e w9 ⟨rfl, hb⟩
  rw [show cntN [(⟨6, 1, 0, []⟩ : Mg)] 1 = 1 from by decide]
  have HB9 := Lib.hid (HB8.out.trans (hb.mono HB8.out.size))
  clear hb HM8 HB8
  go_wp2_with fail
  go_ret
  exact ⟨rfl, HB9.out⟩
end Go.Proofs.Ythmlgbeonmpbjaa
