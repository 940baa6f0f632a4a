/-
  The fixed fact of the statements on package sector: what was put and flushed is read behind a fall. It leaves all older memory as it was.
-/
import Derived.Test.YtofbpkaebngnlaaDoorQSecRead
import Derived.Test.YtofbpkaebngnlaaDoorQSecNew
namespace Go.Proofs.YtofbpkaebngnlaaDoor
set_option linter.unusedVariables false
set_option linter.unusedSimpArgs false
open Go.RowKit

theorem DkRes.zero {w w' : World} {x : Dk × Int} {e : Ending} (h : DkRes w x e w') : ∃ A n c A' n' c', e = .returned (.tuple #[.agg #[.slice A n c, .slice A' n' c', .int .i64 x.1.fuse, .bool x.1.down], .int .i64 x.2]) ∧
    DkAt w' w'.heap.size (.agg #[.slice A n c, .slice A' n' c', .int .i64 x.1.fuse, .bool x.1.down]) x.1 ∧ Below w.heap.size w w' := by
  obtain ⟨v, he, hd, hb⟩ := h
  obtain ⟨A, n, c, A', n', c', rfl, h1⟩ := hd
  exact ⟨A, n, c, A', n', c', he, ⟨A, n, c, A', n', c', rfl, h1⟩, hb⟩

/-- a store into a small box leaves the rows as they were: a row doesn't fit there -/
theorem Arr.box {w : World} {B k n : Nat} {A : Option Addr} {xs : List (List Value)} {b : Nat} {t : TypeId} {cs : Array Value} (h : Arr w B k A n xs) (hb : Bk w b t cs) (hs : cs.size < k) (i : Nat) (u : Value) : Arr (w.setCell ⟨b, i, none⟩ u) B k A n xs := by
  refine ⟨h.1, h.2.1, fun hn => ?_⟩
  obtain ⟨g, o, e, hg, hc⟩ := h.2.2 hn
  refine ⟨g, o, e, hg, fun j x hx => ?_⟩
  have hne : g ≠ b := by
    intro he
    subst he
    have hx0 : xs[0]? = some (xs[0]'(by rw [h.1]; exact hn)) := List.getElem?_eq_getElem _
    have hl := h.2.1 _ (List.getElem_mem (by rw [h.1]; exact hn : 0 < xs.length))
    have := hc 0 _ hx0 cs.size _ (List.getElem?_eq_getElem (by rw [hl]; exact hs))
    rw [hb.cell] at this
    have hlt : o + 0 * k + cs.size < cs.size := by
      rcases Nat.lt_or_ge (o + 0 * k + cs.size) cs.size with h1 | h1
      · exact h1
      · rw [Array.getElem?_eq_none h1] at this; cases this
    omega
  exact rangeAt_keep (hc j x hx) (fun p hp => World.cell?_setCell_other w ⟨b, i, none⟩ p u (fun e => hne (by rw [← hp, ← e])))
theorem DkAt.box {w : World} {B : Nat} {v : Value} {d : Dk} {b : Nat} {t : TypeId} {cs : Array Value} (h : DkAt w B v d) (hb : Bk w b t cs) (hs : cs.size < 64) (i : Nat) (u : Value) : DkAt (w.setCell ⟨b, i, none⟩ u) B v d := by
  obtain ⟨A, n, c, A', n', c', e, h1, h2, h3, h4, h5, h6⟩ := h
  exact ⟨A, n, c, A', n', c', e, h1, h2, h3, h4, h5.box hb hs i u, h6.box hb (by omega) i u⟩

/-- the world behind the store of a disk into a box -/
def stored4 (w : World) (b : Nat) (a0 a1 a2 a3 : Value) : World := (((w.setCell ⟨b, 0, none⟩ a0).setCell ⟨b, 1, none⟩ a1).setCell ⟨b, 2, none⟩ a2).setCell ⟨b, 3, none⟩ a3
theorem stored4_facts {w : World} {b : Nat} {t : TypeId} {u0 u1 u2 u3 : Value} (h : Bk w b t #[u0, u1, u2, u3]) (a0 a1 a2 a3 : Value) :
    Bk (stored4 w b a0 a1 a2 a3) b t #[a0, a1, a2, a3] ∧ (∀ v d, DkAt w w.heap.size v d → DkAt (stored4 w b a0 a1 a2 a3) (stored4 w b a0 a1 a2 a3).heap.size v d) ∧
    (∀ B w0, Below B w0 w → B ≤ b → Below B w0 (stored4 w b a0 a1 a2 a3)) ∧ (∀ g t' cs, g ≠ b → Bk w g t' cs → Bk (stored4 w b a0 a1 a2 a3) g t' cs) := by
  unfold stored4
  have h1 := h.put 0 a0
  have h2 := h1.put 1 a1
  have h3 := h2.put 2 a2
  have h4 := h3.put 3 a3
  refine ⟨by simpa using h4, fun v d hd => ?_, fun B w0 hb hB => (((hb.setCell hB a0).setCell hB a1).setCell hB a2).setCell hB a3, fun g t' cs hg hB => (((hB.far hg a0).far hg a1).far hg a2).far hg a3⟩
  have := (((hd.box h (by simp) 0 a0).box h1 (by simp) 1 a1).box h2 (by simp) 2 a2).box h3 (by simp) 3 a3
  simpa using this

theorem read_any (v : Value) (d : Dk) (a : Int) (w : World) (hd : DkAt w w.heap.size v d) : Calls Tryd.prog 59 #[v, .int .i64 a] w (SecRes w (readM d a)) := by
  unfold readM
  by_cases h : (rightB d && thereB d.secs.length a) = true
  · rw [if_pos h]
    by_cases hdn : d.down = true
    · rw [if_pos hdn]; exact read_down v d a w hd h hdn
    · rw [if_neg hdn]
      have h2 : thereB d.secs.length a = true := by simp at h; exact h.2
      obtain ⟨k, rfl⟩ : ∃ k : Nat, a = (k : Int) := Int.eq_ofNat_of_zero_le (by simp [thereB] at h2; exact h2.1)
      rw [Int.toNat_natCast]
      exact read_ok v d k w hd h (by simpa using hdn)
  · rw [if_neg h]; exact read_no v d a w hd (by simpa using h)

def byte1 (b : Int) : List Int := b :: List.replicate 63 0
def al0 : Dk := (newM 5).1
def al1 : Dk := (putM al0 3 (byte1 7)).1
def al2 : Dk := (flushM al1).1
def al3 : Dk := (putM al2 3 (byte1 8)).1
def al4 : Dk := (startM al3 0).1
theorem al0_ok : newM 5 = (al0, 0) := by decide +kernel
theorem al1_ok : putM al0 3 (byte1 7) = (al1, 0) := by decide +kernel
theorem al2_ok : flushM al1 = (al2, 0) := by decide +kernel
theorem al3_ok : putM al2 3 (byte1 8) = (al3, 0) := by decide +kernel
theorem al4_ok : startM al3 0 = (al4, 0) := by decide +kernel
theorem al5_ok : readM al4 3 = (byte1 7, 0) := by decide +kernel
theorem built_byte1 (b : Int) : Tryd.prog.built 58 [(0, .int .u8 b)] = some (secv (byte1 b)).toArray := by kernel_rfl

end Go.Proofs.YtofbpkaebngnlaaDoor
