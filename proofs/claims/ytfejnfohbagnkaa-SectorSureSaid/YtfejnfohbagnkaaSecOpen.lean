/-
  A disk, a write and a list of writes that come in as arguments: what their memory holds, as lists of numbers.
-/
import Derived.Test.YtfejnfohbagnkaaSecWalksA
import Derived.ProofKit
import Derived.OpenShut
import Derived.ShutString
import Derived.ChangeOld
import Derived.Deep.Slices
namespace Go.Proofs.Ytfejnfohbagnkaa
open Go.ChangeShapes Go.WideShapes Go.ChangeAt Go.RowKit Go.Deep

section
variable {H : Type} {enc : TypeId × Value → H} {w : World} {base : Nat} {spare : Nat → Bool} {held : Bool}

/-- the cells of an array of bytes -/
theorem open_sec {fuel : Nat} {cs : List Value} {x : DataW H × List MemPlace} (h : DataW.trod enc Try.prog w base spare held fuel 28 cs = some x) : ∃ s : List Int, cs = secv s ∧ s.length = 64 ∧ ∀ z ∈ s, 0 ≤ z ∧ z ≤ 255 := by
  obtain ⟨xs, m, rfl, _, hl, hxl, hx⟩ := DataW.trod_array Try.underlying28 h
  have hl64 : cs.length = 64 := hl.trans (by kernel_rfl)
  have hone : ∀ i, i < 64 → ∃ z : Int, cs[i]? = some (.int .u8 z) ∧ 0 ≤ z ∧ z ≤ 255 := by
    intro i hi
    have h1 := hx i hi
    rw [List.getElem?_eq_getElem (by rw [hxl]; exact hi)] at h1
    have hc : Try.prog.cellsOf 5 = 1 := by kernel_rfl
    rw [hc, Nat.mul_one, List.drop_eq_getElem_cons (by omega)] at h1
    obtain ⟨z, hz, _, hw⟩ := DataW.trod_int Try.underlying5 h1
    simp only [List.take_succ_cons, List.take_zero, List.cons.injEq, and_true] at hz
    exact ⟨z, by rw [List.getElem?_eq_getElem (by omega), hz], bounds_u8 hw⟩
  refine ⟨(List.range 64).map (fun i => match (cs[i]? : Option Value) with | some (.int _ z) => z | _ => 0), ?_, by simp, ?_⟩
  · apply List.ext_getElem?
    intro i
    by_cases hi : i < 64
    · obtain ⟨z, hz, _⟩ := hone i hi
      rw [hz]
      simp [secv, hi, hz]
    · rw [List.getElem?_eq_none (by omega), List.getElem?_eq_none (by simp [secv]; omega)]
  · intro z hz
    simp only [List.mem_map, List.mem_range] at hz
    obtain ⟨i, hi, rfl⟩ := hz
    obtain ⟨z, hz, hb⟩ := hone i hi
    rw [hz]
    exact hb

/-- the cells of a write -/
theorem open_write {fuel : Nat} {cs : List Value} {x : DataW H × List MemPlace} (h : DataW.trod enc Try.prog w base spare held fuel 37 cs = some x) : ∃ y : Int × List Int, cs = wrv y ∧ y.2.length = 64 ∧ (Lit.int .i64 y.1).wf = true := by
  obtain ⟨xs, m, rfl, _, hl, _, hf⟩ := DataW.trod_struct Try.underlying37 h
  have hl65 : cs.length = 65 := hl.trans (by kernel_rfl)
  have h0 : DataW.trod enc Try.prog w base spare held m 3 ((cs.drop 0).take (Try.prog.cellsOf 3)) = xs[0]? := hf 0 _ rfl
  have h1 : DataW.trod enc Try.prog w base spare held m 28 ((cs.drop 1).take (Try.prog.cellsOf 28)) = xs[1]? := hf 1 _ rfl
  have hc0 : Try.prog.cellsOf 3 = 1 := by kernel_rfl
  have hc1 : Try.prog.cellsOf 28 = 64 := by kernel_rfl
  simp only [hc0, hc1, List.drop_zero] at h0 h1
  cases hx0 : xs[0]? with
  | none =>
    rw [hx0] at h0
    exact absurd h0 (by intro hn; simp_all)
  | some y0 =>
    cases hx1 : xs[1]? with
    | none => simp_all
    | some y1 =>
      rw [hx0] at h0
      rw [hx1] at h1
      obtain ⟨z, hz, _, hw⟩ := DataW.trod_int Try.underlying3 h0
      obtain ⟨s, hs, hsl, _⟩ := open_sec h1
      refine ⟨(z, s), ?_, hsl, hw⟩
      match cs, hl65 with
      | c :: r, hr =>
        simp only [List.take_succ_cons, List.take_zero, List.cons.injEq, and_true] at hz
        simp only [List.drop_succ_cons, List.drop_zero] at hs
        rw [List.take_of_length_le (by simp at hr; omega)] at hs
        rw [hz, hs]
        rfl

/-- a slice of rows that came in -/
theorem open_rows {t e : TypeId} {k : Nat} {fuel : Nat} {cs : List Value} {x : DataW H × List MemPlace} {α : Type} (f : α → List Value) (ht : Try.prog.underlying t = some (.slice e)) (hk : Try.prog.cellsOf e = k) (hk0 : 0 < k)
    (hone : ∀ (m : Nat) (cs' : List Value) (y : DataW H × List MemPlace), DataW.trod enc Try.prog w base spare held m e cs' = some y → ∃ a, cs' = f a ∧ (f a).length = k)
    (h : DataW.trod enc Try.prog w base spare held fuel t cs = some x) :
    ∃ A n c, cs = [.slice A n c] ∧ n ≤ c ∧ c ≤ maxLen ∧ ∃ l : List α, Arr w w.heap.size k A n (l.map f) := by
  rcases open_slice ht h with ⟨rfl, _⟩ | ⟨a, len, cap, m, n, D, Pl, rfl, hb, hl, hm, hmm, _, hc⟩
  · exact ⟨none, 0, 0, rfl, Nat.le_refl _, by unfold maxLen; omega, [], Arr.nil⟩
  · refine ⟨some a, len, cap, rfl, hl, hm, ?_⟩
    have hall : ∀ i, i < len → ∃ y, (∀ j, j < k → w.cell? (a.add (i * k + j)) = (f y)[j]?) ∧ (f y).length = k := by
      intro i hi
      obtain ⟨cs', h1, h2⟩ := hc i (by split at hmm <;> omega)
      obtain ⟨y, rfl, hyl⟩ := hone _ _ _ h2
      rw [hk] at h1
      obtain ⟨_, _, h3⟩ := World.cells?_some h1
      exact ⟨y, fun j hj => by rw [← h3 j hj, Go.Deep.add_add], hyl⟩
    obtain ⟨l, hll, hlr⟩ : ∃ l : List α, l.length = len ∧ ∀ i (hi : i < l.length), (∀ j, j < k → w.cell? (a.add (i * k + j)) = (f l[i])[j]?) ∧ (f l[i]).length = k := by
      have : ∀ n, n ≤ len → ∃ l : List α, l.length = n ∧ ∀ i (hi : i < l.length), (∀ j, j < k → w.cell? (a.add (i * k + j)) = (f l[i])[j]?) ∧ (f l[i]).length = k := by
        intro n
        induction n with
        | zero => intro _; exact ⟨[], rfl, fun i hi => absurd hi (by simp)⟩
        | succ n ih =>
          intro hn
          obtain ⟨l, h1, h2⟩ := ih (by omega)
          obtain ⟨y, h3, h4⟩ := hall n (by omega)
          refine ⟨l ++ [y], by simp [h1], fun i hi => ?_⟩
          by_cases hin : i < l.length
          · simpa [List.getElem_append, hin] using h2 i hin
          · have : i = n := by simp at hi; omega
            subst this
            simpa [List.getElem_append, h1] using ⟨h3, h4⟩
      exact this len (Nat.le_refl _)
    refine ⟨l, by simp [hll], ?_, fun hn => ?_⟩
    · intro x hx
      obtain ⟨y, hy, rfl⟩ := List.mem_map.1 hx
      obtain ⟨i, hi, rfl⟩ := List.getElem_of_mem hy
      exact (hlr i hi).2
    · have h0 := (hlr 0 (by omega)).1 0 hk0
      have h0l := (hlr 0 (by omega)).2
      rw [List.getElem?_eq_getElem (by omega)] at h0
      obtain ⟨ab, ao, asp⟩ := a
      have hsp : asp = none := by simpa [Addr.add] using World.cell?_spot h0
      subst hsp
      refine ⟨ab, ao, rfl, block_lt_of_cell (a := ⟨ab, ao, none⟩) (by simpa [Addr.add] using h0), fun i x hx => ?_⟩
      rw [List.getElem?_map] at hx
      cases hli : l[i]? with
      | none => simp [hli] at hx
      | some y =>
        rw [hli] at hx
        simp only [Option.map_some, Option.some.injEq] at hx
        subst hx
        obtain ⟨hi, hy⟩ := List.getElem?_eq_some_iff.1 hli
        intro j v hv
        have hj : j < k := by
          have := (List.getElem?_eq_some_iff.1 hv).1
          have := (hlr i hi).2
          rw [hy] at this
          omega
        have := (hlr i hi).1 j hj
        rw [Addr.add_mid, hy] at this
        rw [Nat.add_assoc, this, hv]

/-- a disk that came in -/
theorem open_disk {r : Reach} {b0 : Nat} {v : Value} {dd : DataW H} {p : List MemPlace} (hv : Value.okWide Try.prog w r b0 25 v) (h : DataW.Trod enc Try.prog w base spare held 25 v dd p) :
    ∃ d : Dk, DkAt w w.heap.size v d ∧ (Lit.int .i64 d.fuse).wf = true := by
  obtain ⟨cs, rfl, hsz⟩ := okWide_struct Try.underlying25 hv
  have hs4 : cs.size = 4 := hsz.trans (by kernel_rfl)
  obtain ⟨fuel, hf⟩ := h
  obtain ⟨xs, m, rfl, _, _, hxl, hx⟩ := DataW.trod_struct Try.underlying25 hf
  obtain ⟨l⟩ := cs
  match l, hs4 with
  | [c0, c1, c2, c3], _ =>
    have h0 : DataW.trod enc Try.prog w base spare held m 22 (([c0, c1, c2, c3].drop 0).take (Try.prog.cellsOf 22)) = xs[0]? := hx 0 _ rfl
    have h1 : DataW.trod enc Try.prog w base spare held m 23 (([c0, c1, c2, c3].drop 1).take (Try.prog.cellsOf 23)) = xs[1]? := hx 1 _ rfl
    have h2 : DataW.trod enc Try.prog w base spare held m 3 (([c0, c1, c2, c3].drop 2).take (Try.prog.cellsOf 3)) = xs[2]? := hx 2 _ rfl
    have h3 : DataW.trod enc Try.prog w base spare held m 4 (([c0, c1, c2, c3].drop 3).take (Try.prog.cellsOf 4)) = xs[3]? := hx 3 _ rfl
    have e0 : Try.prog.cellsOf 22 = 1 := by kernel_rfl
    have e1 : Try.prog.cellsOf 23 = 1 := by kernel_rfl
    have e2 : Try.prog.cellsOf 3 = 1 := by kernel_rfl
    have e3 : Try.prog.cellsOf 4 = 1 := by kernel_rfl
    simp only [e0, e1, e2, e3, List.drop_zero, List.drop_succ_cons, List.take_succ_cons, List.take_zero] at h0 h1 h2 h3
    match xs, hxl with
    | [y0, y1, y2, y3], _ =>
      obtain ⟨A, n, c, g0, hnc, hc, ss, hS⟩ := open_rows (k := 64) secv Try.underlying22 (by kernel_rfl) (by omega) (fun m cs' y hy => by obtain ⟨s, rfl, hs, _⟩ := open_sec hy; exact ⟨s, rfl, by rw [secv_length, hs]⟩) h0
      obtain ⟨A', n', c', g1, hnc', hc', ls, hL⟩ := open_rows (k := 65) wrv Try.underlying23 (by kernel_rfl) (by omega) (fun m cs' y hy => by obtain ⟨s, rfl, hs, _⟩ := open_write hy; exact ⟨s, rfl, by rw [wrv_length, hs]⟩) h1
      obtain ⟨f, g2, _, hw⟩ := DataW.trod_int Try.underlying3 h2
      obtain ⟨b, g3, _⟩ := DataW.trod_bool Try.underlying4 h3
      simp only [List.cons.injEq, and_true] at g0 g1 g2 g3
      subst g0 g1 g2 g3
      exact ⟨⟨ss, ls, f, b⟩, ⟨A, n, c, A', n', c', rfl, hnc, hnc', hc, hc', hS, hL⟩, hw⟩

/-- a write that came in -/
theorem open_write_arg {r : Reach} {b0 : Nat} {v : Value} {dd : DataW H} {p : List MemPlace} (hv : Value.okWide Try.prog w r b0 37 v) (h : DataW.Trod enc Try.prog w base spare held 37 v dd p) :
    ∃ y : Int × List Int, v = .agg (wrv y).toArray ∧ y.2.length = 64 ∧ (Lit.int .i64 y.1).wf = true := by
  obtain ⟨cs, rfl, _⟩ := okWide_struct Try.underlying37 hv
  obtain ⟨fuel, hf⟩ := h
  obtain ⟨y, hy, h1, h2⟩ := open_write hf
  refine ⟨y, ?_, h1, h2⟩
  have : cs = (wrv y).toArray := by
    apply Array.ext'
    simpa [Value.cells] using hy
  rw [this]
end
end Go.Proofs.Ytfejnfohbagnkaa
