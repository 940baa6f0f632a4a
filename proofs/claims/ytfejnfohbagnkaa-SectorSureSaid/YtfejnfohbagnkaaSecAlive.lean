/-
  The fixed fact of the statements on package sector: what was put and flushed is read behind a fall. It leaves all older memory as it was.
-/
import Derived.Test.YtfejnfohbagnkaaSecReadOk
import Derived.Test.YtfejnfohbagnkaaSecNew
import Derived.Test.YtfejnfohbagnkaaSecWalksB
namespace Go.Proofs.Ytfejnfohbagnkaa
open Go.RowKit

theorem DkRes.zero {w w' : World} {x : Dk × Int} {e : Ending} (h : DkRes w x e w') : ∃ A n c A' n' c', e = .returned (.tuple #[.agg #[.slice A n c, .slice A' n' c', .int .i64 x.1.fuse, .bool x.1.down], .int .i64 x.2]) ∧
    DkAt w' w'.heap.size (.agg #[.slice A n c, .slice A' n' c', .int .i64 x.1.fuse, .bool x.1.down]) x.1 ∧ Below w.heap.size w w' := by
  obtain ⟨v, he, hd, hb⟩ := h
  obtain ⟨A, n, c, A', n', c', rfl, h1⟩ := hd
  exact ⟨A, n, c, A', n', c', he, ⟨A, n, c, A', n', c', rfl, h1⟩, hb⟩

/-- a store into a small box leaves the rows as they were: a row doesn't fit there -/
theorem Arr.box {w : World} {B k n : Nat} {A : Option Addr} {xs : List (List Value)} {b : Nat} {t : TypeId} {cs : Array Value} (h : Arr w B k A n xs) (hb : Bk w b t cs) (hs : cs.size < k) (i : Nat) (u : Value) : Arr (w.setCell ⟨b, i, none⟩ u) B k A n xs := by
  refine ⟨h.1, h.2.1, fun hn => ?_⟩
  obtain ⟨g, o, e, hg, hc⟩ := h.2.2 hn
  refine ⟨g, o, e, hg, fun j x hx => ?_⟩
  have hne : g ≠ b := by
    intro he
    subst he
    have hx0 : xs[0]? = some (xs[0]'(by rw [h.1]; exact hn)) := List.getElem?_eq_getElem _
    have hl := h.2.1 _ (List.getElem_mem (by rw [h.1]; exact hn : 0 < xs.length))
    have := hc 0 _ hx0 cs.size _ (List.getElem?_eq_getElem (by rw [hl]; exact hs))
    rw [hb.cell] at this
    have hlt : o + 0 * k + cs.size < cs.size := by
      rcases Nat.lt_or_ge (o + 0 * k + cs.size) cs.size with h1 | h1
      · exact h1
      · rw [Array.getElem?_eq_none h1] at this; cases this
    omega
  exact rangeAt_keep (hc j x hx) (fun p hp => World.cell?_setCell_other w ⟨b, i, none⟩ p u (fun e => hne (by rw [← hp, ← e])))
theorem DkAt.box {w : World} {B : Nat} {v : Value} {d : Dk} {b : Nat} {t : TypeId} {cs : Array Value} (h : DkAt w B v d) (hb : Bk w b t cs) (hs : cs.size < 64) (i : Nat) (u : Value) : DkAt (w.setCell ⟨b, i, none⟩ u) B v d := by
  obtain ⟨A, n, c, A', n', c', e, h1, h2, h3, h4, h5, h6⟩ := h
  exact ⟨A, n, c, A', n', c', e, h1, h2, h3, h4, h5.box hb hs i u, h6.box hb (by omega) i u⟩

/-- the world behind the store of a disk into a box -/
def stored4 (w : World) (b : Nat) (a0 a1 a2 a3 : Value) : World := (((w.setCell ⟨b, 0, none⟩ a0).setCell ⟨b, 1, none⟩ a1).setCell ⟨b, 2, none⟩ a2).setCell ⟨b, 3, none⟩ a3
theorem stored4_facts {w : World} {b : Nat} {t : TypeId} {u0 u1 u2 u3 : Value} (h : Bk w b t #[u0, u1, u2, u3]) (a0 a1 a2 a3 : Value) :
    Bk (stored4 w b a0 a1 a2 a3) b t #[a0, a1, a2, a3] ∧ (∀ v d, DkAt w w.heap.size v d → DkAt (stored4 w b a0 a1 a2 a3) (stored4 w b a0 a1 a2 a3).heap.size v d) ∧
    (∀ B w0, Below B w0 w → B ≤ b → Below B w0 (stored4 w b a0 a1 a2 a3)) ∧ (∀ g t' cs, g ≠ b → Bk w g t' cs → Bk (stored4 w b a0 a1 a2 a3) g t' cs) := by
  unfold stored4
  have h1 := h.put 0 a0
  have h2 := h1.put 1 a1
  have h3 := h2.put 2 a2
  have h4 := h3.put 3 a3
  refine ⟨by simpa using h4, fun v d hd => ?_, fun B w0 hb hB => (((hb.setCell hB a0).setCell hB a1).setCell hB a2).setCell hB a3, fun g t' cs hg hB => (((hB.far hg a0).far hg a1).far hg a2).far hg a3⟩
  have := (((hd.box h (by simp) 0 a0).box h1 (by simp) 1 a1).box h2 (by simp) 2 a2).box h3 (by simp) 3 a3
  simpa using this

theorem read_any (v : Value) (d : Dk) (a : Int) (w : World) (hd : DkAt w w.heap.size v d) : Calls Try.prog 11 #[v, .int .i64 a] w (SecRes w (readM d a)) := by
  unfold readM
  by_cases h : (rightB d && thereB d.secs.length a) = true
  · rw [if_pos h]
    by_cases hdn : d.down = true
    · rw [if_pos hdn]; exact read_down v d a w hd h hdn
    · rw [if_neg hdn]
      have h2 : thereB d.secs.length a = true := by simp at h; exact h.2
      obtain ⟨k, rfl⟩ : ∃ k : Nat, a = (k : Int) := Int.eq_ofNat_of_zero_le (by simp [thereB] at h2; exact h2.1)
      rw [Int.toNat_natCast]
      exact read_ok v d k w hd h (by simpa using hdn)
  · rw [if_neg h]; exact read_no v d a w hd (by simpa using h)

def byte1 (b : Int) : List Int := b :: List.replicate 63 0
def al0 : Dk := (newM 5).1
def al1 : Dk := (putM al0 3 (byte1 7)).1
def al2 : Dk := (flushM al1).1
def al3 : Dk := (putM al2 3 (byte1 8)).1
def al4 : Dk := (startM al3 0).1
theorem al0_ok : newM 5 = (al0, 0) := by decide +kernel
theorem al1_ok : putM al0 3 (byte1 7) = (al1, 0) := by decide +kernel
theorem al2_ok : flushM al1 = (al2, 0) := by decide +kernel
theorem al3_ok : putM al2 3 (byte1 8) = (al3, 0) := by decide +kernel
theorem al4_ok : startM al3 0 = (al4, 0) := by decide +kernel
theorem al5_ok : readM al4 3 = (byte1 7, 0) := by decide +kernel
theorem built_byte1 (b : Int) : Try.prog.built 28 [(0, .int .u8 b)] = some (secv (byte1 b)).toArray := by kernel_rfl

set_option maxRecDepth 100000 in
set_option maxHeartbeats 2000000 in
theorem alive_any (w : World) : Calls Try.prog 9 #[] w fun e w' => e = .returned (.bool true) ∧ Below w.heap.size w w' := by
  have hn := new_any 5 w
  rw [al0_ok] at hn
  have Hn := Lib.hid hn
  clear hn
  go_enter Try.func9, Try.ntmps9
  go_wp2_with fail
  refine Hn.out.mono ?_
  rintro e w1 hres
  obtain ⟨A0, n0, c0, A0', n0', c0', rfl, hd0, hb0⟩ := hres.zero
  clear hres Hn
  have hle : w.heap.size ≤ w1.heap.size := hb0.size
  have HD0 := Lib.hid hd0
  clear hd0
  go_wp2_with ((with_reducible show wpList _ _ _ (⟨_, .build _ _, _, _, _, _⟩ :: _) _ _); refine hold ?_)
  refine held (wpList_build_to rfl 28 #[(0, .const (.int .u8 7))] rfl [(0, .int .u8 7)] rfl (secv (byte1 7)).toArray (built_byte1 7) ?_)
  go_wp2_with fail
  refine calls_over (fun W => Bk W w1.heap.size 25 #[.slice A0 n0 c0, .slice A0' n0' c0', .int .i64 al0.fuse, .bool al0.down] ∧ DkAt W W.heap.size (.agg #[.slice A0 n0 c0, .slice A0' n0' c0', .int .i64 al0.fuse, .bool al0.down]) al0 ∧ Below w.heap.size w W) ⟨Bk.new _ _ _, HD0.out.later ((Below.refl _ _).alloc (Nat.le_refl _) _), hb0.alloc hb0.size _⟩ ?_
  rintro W1 ⟨B1, hd1, hb1⟩
  have hp := put_any _ al0 3 (byte1 7) W1 hd1 rfl
  rw [al1_ok] at hp
  refine hp.mono ?_
  clear hp
  rintro e w2 hres
  obtain ⟨A1, n1, c1, A1', n1', c1', rfl, hd2, hb2⟩ := hres.zero
  have HB := Lib.hid (B1.below hb2 B1.lt)
  have HD := Lib.hid hd2
  have HBW := Lib.hid (hb1.trans (hb2.mono hb1.size))
  clear hres hd2 hd1 B1 hb1 hb2 hb0 HD0
  obtain ⟨⟨p0, p1, p2, p3⟩, q0, q1, q2, q3⟩ := HB.out.four
  go_wp2_with fail
  refine calls_over (fun W => Bk W w1.heap.size 25 #[.slice A1 n1 c1, .slice A1' n1' c1', .int .i64 al1.fuse, .bool al1.down] ∧ DkAt W W.heap.size (.agg #[.slice A1 n1 c1, .slice A1' n1' c1', .int .i64 al1.fuse, .bool al1.down]) al1 ∧ Below w.heap.size w W) ⟨(stored4_facts HB.out _ _ _ _).1, (stored4_facts HB.out _ _ _ _).2.1 _ _ HD.out, (stored4_facts HB.out _ _ _ _).2.2.1 _ _ HBW.out hle⟩ ?_
  clear p0 p1 p2 p3 q0 q1 q2 q3 HB HD HBW
  rintro W1 ⟨B1, hd1, hb1⟩
  have hp := flush_any _ al1 W1 hd1
  rw [al2_ok] at hp
  refine hp.mono ?_
  clear hp
  rintro e w3 hres
  obtain ⟨A2, n2, c2, A2', n2', c2', rfl, hd2, hb2⟩ := hres.zero
  have HB := Lib.hid (B1.below hb2 B1.lt)
  have HD := Lib.hid hd2
  have HBW := Lib.hid (hb1.trans (hb2.mono hb1.size))
  clear hres hd2 hd1 B1 hb1 hb2
  obtain ⟨⟨p0, p1, p2, p3⟩, q0, q1, q2, q3⟩ := HB.out.four
  go_wp2_with ((with_reducible show wpList _ _ _ (⟨_, .build _ _, _, _, _, _⟩ :: _) _ _); refine hold ?_)
  refine held (wpList_build_to rfl 28 #[(0, .const (.int .u8 8))] rfl [(0, .int .u8 8)] rfl (secv (byte1 8)).toArray (built_byte1 8) ?_)
  go_wp2_with fail
  refine calls_over (fun W => Bk W w1.heap.size 25 #[.slice A2 n2 c2, .slice A2' n2' c2', .int .i64 al2.fuse, .bool al2.down] ∧ DkAt W W.heap.size (.agg #[.slice A2 n2 c2, .slice A2' n2' c2', .int .i64 al2.fuse, .bool al2.down]) al2 ∧ Below w.heap.size w W) ⟨(stored4_facts HB.out _ _ _ _).1, (stored4_facts HB.out _ _ _ _).2.1 _ _ HD.out, (stored4_facts HB.out _ _ _ _).2.2.1 _ _ HBW.out hle⟩ ?_
  clear p0 p1 p2 p3 q0 q1 q2 q3 HB HD HBW
  rintro W1 ⟨B1, hd1, hb1⟩
  have hp := put_any _ al2 3 (byte1 8) W1 hd1 rfl
  rw [al3_ok] at hp
  refine hp.mono ?_
  clear hp
  rintro e w4 hres
  obtain ⟨A3, n3, c3, A3', n3', c3', rfl, hd2, hb2⟩ := hres.zero
  have HB := Lib.hid (B1.below hb2 B1.lt)
  have HD := Lib.hid hd2
  have HBW := Lib.hid (hb1.trans (hb2.mono hb1.size))
  clear hres hd2 hd1 B1 hb1 hb2
  obtain ⟨⟨p0, p1, p2, p3⟩, q0, q1, q2, q3⟩ := HB.out.four
  go_wp2_with fail
  refine calls_over (fun W => Bk W w1.heap.size 25 #[.slice A3 n3 c3, .slice A3' n3' c3', .int .i64 al3.fuse, .bool al3.down] ∧ DkAt W W.heap.size (.agg #[.slice A3 n3 c3, .slice A3' n3' c3', .int .i64 al3.fuse, .bool al3.down]) al3 ∧ Below w.heap.size w W) ⟨(stored4_facts HB.out _ _ _ _).1, (stored4_facts HB.out _ _ _ _).2.1 _ _ HD.out, (stored4_facts HB.out _ _ _ _).2.2.1 _ _ HBW.out hle⟩ ?_
  clear p0 p1 p2 p3 q0 q1 q2 q3 HB HD HBW
  rintro W1 ⟨B1, hd1, hb1⟩
  have hp := start_any _ al3 0 W1 (by omega) hd1
  rw [al4_ok] at hp
  refine hp.mono ?_
  clear hp
  rintro e w5 hres
  obtain ⟨A4, n4, c4, A4', n4', c4', rfl, hd2, hb2⟩ := hres.zero
  have HB := Lib.hid (B1.below hb2 B1.lt)
  have HD := Lib.hid hd2
  have HBW := Lib.hid (hb1.trans (hb2.mono hb1.size))
  clear hres hd2 hd1 B1 hb1 hb2
  obtain ⟨⟨p0, p1, p2, p3⟩, q0, q1, q2, q3⟩ := HB.out.four
  go_wp2_with fail
  refine calls_over (fun W => Bk W w1.heap.size 25 #[.slice A4 n4 c4, .slice A4' n4' c4', .int .i64 al4.fuse, .bool al4.down] ∧ DkAt W W.heap.size (.agg #[.slice A4 n4 c4, .slice A4' n4' c4', .int .i64 al4.fuse, .bool al4.down]) al4 ∧ Below w.heap.size w W) ⟨(stored4_facts HB.out _ _ _ _).1, (stored4_facts HB.out _ _ _ _).2.1 _ _ HD.out, (stored4_facts HB.out _ _ _ _).2.2.1 _ _ HBW.out hle⟩ ?_
  clear p0 p1 p2 p3 q0 q1 q2 q3 HB HD HBW
  rintro W1 ⟨B1, hd1, hb1⟩
  have hp := read_any _ al4 3 W1 hd1
  rw [al5_ok] at hp
  refine hp.mono ?_
  clear hp hd1
  rintro e w6 ⟨rfl, hb6⟩
  have HBW := Lib.hid (hb1.trans (hb6.mono hb1.size))
  clear B1 hb1 hb6
  go_wp2_with ((with_reducible show wpList _ _ _ (⟨_, .alloc 28, _, _, _, _⟩ :: _) _ _); refine hold ?_)
  refine held (wpList_alloc_to rfl 28 rfl (secv zsec).toArray (by kernel_rfl) ?_)
  go_wp2_with ((with_reducible show wpList _ _ _ (⟨none, .store 28 _ _, _, _, _, _⟩ :: _) _ _); refine hold ?_)
  refine held (wpList_store_wide rfl 28 (.tmp 7) (.tmp 38) rfl w6.heap.size 0 (secv (byte1 7)).toArray rfl rfl 28 _ (Bk.new _ _ _) (by simp [secv, zsec, byte1]) (by simp only [List.size_toArray, secv_length]; kernel_rfl) (by simpa using secv_one (byte1 7)) ?_)
  intro w7 hw7
  have hsz : w7.heap.size = w6.heap.size + 1 := by rw [hw7.out]; simp
  have B7 : Bk w7 w6.heap.size 28 (secv (byte1 7)).toArray := by
    rw [hw7.out]
    have := (Bk.new w6 28 (secv zsec).toArray).setRow_same (splice (secv zsec).toArray.toList 0 (secv (byte1 7)).toArray.toList).toArray
    rwa [splice_whole (by simp [secv, zsec, byte1])] at this
  have hb7 : Below w.heap.size w w7 := by
    rw [hw7.out]
    exact below_setRow (HBW.out.alloc HBW.out.size _) (by have := HBW.out.size; exact this) _
  clear hw7
  have c0 : w7.cell? ⟨w6.heap.size, 0, none⟩ = some (.int .u8 7) := B7.cell 0
  clear B7
  go_wp2
  go_ret
  exact ⟨rfl, hb7⟩
end Go.Proofs.Ytfejnfohbagnkaa
