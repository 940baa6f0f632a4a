/-
  The law RuleTime: what lies in memory while a hold more is put behind the holds, in any order.
-/
import Derived.Test.YtkalnaidccgbiaaRuleLawT
namespace Go.Proofs.Ytkalnaidccgbiaa
open Go.RowKit
set_option linter.unusedVariables false
set_option linter.unusedSimpArgs false

theorem Bk.past {α : Type} {k : Nat} {f : α → List Value} {w w' : World} {b base n c : Nat} {t e : TypeId} {cs : Array Value} {A : Option Addr} {l : List α} (h : Bk w b t cs) (ho : OwnK k f w base e A n c l) (hne : t ≠ e) (hg : w.grownBy w' (Value.slice A n c).ownBlock) : Bk w' b t cs := by
  refine (hg.block b h.lt (fun hb => ?_)).trans h
  rcases ho.1.2 with ⟨hv, _⟩ | ⟨g, cap, cur, hv, _, hc, _⟩
  · rw [hv] at hb; cases hb
  · rw [hv] at hb
    have : g = b := by simpa [Value.ownBlock, eq_comm] using hb
    subst this
    unfold Bk at h
    rw [h] at hc
    cases hc
    exact hne rfl
theorem Bk.past2 {α : Type} {k : Nat} {f : α → List Value} {w w' : World} {b base n c : Nat} {t e : TypeId} {cs : Array Value} {A : Option Addr} {l : List α} (h : Bk w b t cs) (ho : OwnK k f w base e A n c l) (hne : ∀ a, A = some a → b ≠ a.block) (hg : w.grownBy w' (Value.slice A n c).ownBlock) : Bk w' b t cs := by
  refine (hg.block b h.lt (fun hb => ?_)).trans h
  rcases ho.1.2 with ⟨hv, _⟩ | ⟨g, cap, cur, hv, _, hc, _⟩
  · rw [hv] at hb; cases hb
  · have h1 : A = some ⟨g, 0, none⟩ := by injection hv
    rw [hv] at hb
    have : g = b := by simpa [Value.ownBlock, eq_comm] using hb
    exact hne _ h1 this.symm
theorem info_hold : (Try.prog.info? 51).map (fun i => (i.zero, i.size, i.bytes)) = some (some (.agg #[.int .i64 0, .string ByteArray.empty, .slice none 0 0]), 3, 48) := by kernel_rfl
theorem holds_one (l : List Hh) : ∀ u ∈ l, ∀ v ∈ hhC u, v.oneCell' = true := fun u _ => hhC_one u
/-- s: no own row yet (0), an empty one (1), the holds (2); R: the range lies there; H: the hold lies there -/
def Own8 (bz s : Nat) (A : Option Addr) (n c : Nat) (l : List Hh) (R H : Bool) (br bh : Nat) (rv hv : Array Value) (V : World) : Prop :=
  bz ≤ V.heap.size ∧ (0 < s → OwnK 3 hhC V bz 51 A n c l) ∧ (R = true → Bk V br 48 rv) ∧ (H = true → Bk V bh 51 hv) ∧ (s = 1 → H = true → ∀ a, A = some a → bh ≠ a.block)
section
variable {bz s : Nat} {A : Option Addr} {n c : Nat} {l : List Hh} {R H : Bool} {br bh : Nat} {rv hv : Array Value} {V : World}
theorem Own8.zero (h : bz ≤ V.heap.size) : Own8 bz 0 none 0 0 [] false false 0 0 rv hv V := ⟨h, (fun h => by omega), (fun h => by cases h), (fun h => by cases h), (fun h => by omega)⟩
theorem Own8.op0 (h : Own8 bz 0 A n c l R H br bh rv hv V) : Own8 bz 1 (some ⟨V.heap.size, 0, none⟩) 0 0 [] R H br bh rv hv (V.alloc (.cells #[] 51)) := by
  obtain ⟨h1, _, h3, h4, _⟩ := h
  refine ⟨by simp; omega, fun _ => (OwnK.empty hhC_len V 51).from_ h1, fun hr => (h3 hr).alloc _, fun hh => (h4 hh).alloc _, fun _ hh a ha => ?_⟩
  cases ha
  have := (h4 hh).lt
  show bh ≠ V.heap.size
  omega
theorem Own8.op13 (h : Own8 bz s A n c l false H br bh rv hv V) : Own8 bz s A n c l true H V.heap.size bh rv hv (V.alloc (.cells rv 48)) := by
  obtain ⟨h1, h2, _, h4, h5⟩ := h
  exact ⟨by simp; omega, fun hs => (h2 hs).alloc _, fun _ => Bk.new _ _ _, fun hh => (h4 hh).alloc _, h5⟩
theorem Own8.op15 (h : Own8 bz s A n c l R false br bh rv hv V) : Own8 bz s A n c l R true br V.heap.size rv hv (V.alloc (.cells hv 51)) := by
  obtain ⟨h1, h2, h3, _, _⟩ := h
  exact ⟨by simp; omega, fun hs => (h2 hs).alloc _, fun hr => (h3 hr).alloc _, fun _ => Bk.new _ _ _, fun hs _ => (h2 (by omega)).fresh⟩
/-- another hold's cells -/
theorem Own8.with (h : Own8 bz s A n c l R false br bh rv hv V) (hv' : Array Value) : Own8 bz s A n c l R false br bh rv hv' V := by
  obtain ⟨h1, h2, h3, _, _⟩ := h
  exact ⟨h1, h2, h3, (fun h => by cases h), (fun _ h => by cases h)⟩
theorem Own8.op3 (h : Own8 bz 1 A 0 0 [] R H br bh rv hv V) {B : Option Addr} {m d Z : Nat} {hs : List Hh} (hB : ColK 3 hhC V Z B m hs) (hm : m ≤ 1000) :
    ∃ A9 c9 V', (Builtin.append_ #[23, 23] 23 #[.slice A 0 0, .slice B m d]).run Try.prog V = .ok (.slice A9 m c9) V' ∧ Own8 bz 2 A9 m c9 hs R H br bh rv hv V' ∧ Below bz V V' := by
  obtain ⟨h1, h2, h3, h4, h5⟩ := h
  have ho := h2 (by omega)
  obtain ⟨A3, c3, w3, hrun, ho3, hb3, hg3⟩ := run_append_ks (P := Try.prog) (f := hhC) ho 23 23 Try.underlying23 info_hold rfl (by omega) (by omega) (A' := B) (m := m) (c' := d) hB (holds_one hs) (by omega) h1
  rw [Nat.zero_add, List.nil_append] at ho3
  rw [Nat.zero_add] at hrun
  exact ⟨A3, c3, w3, hrun, ⟨Nat.le_trans h1 hb3.size, fun _ => ho3, fun hr => (h3 hr).past ho (by decide) hg3, fun hh => (h4 hh).past2 ho (h5 rfl hh) hg3, (fun h => by omega)⟩, hb3⟩
theorem Own8.op16 {m : Nat} {hs : List Hh} {x : Hh} (h : Own8 bz 2 A m c hs R true br bh rv (hhA x) V) (hm : m ≤ 1000) :
    ∃ A9 c9 V', (Builtin.append_ #[23, 23] 23 #[.slice A m c, .slice (some ⟨bh, 0, none⟩) 1 1]).run Try.prog V = .ok (.slice A9 (m + 1) c9) V' ∧ OwnK 3 hhC V' bz 51 A9 (m + 1) c9 (hs ++ [x]) ∧ (R = true → Bk V' br 48 rv) ∧ Below bz V V' := by
  obtain ⟨h1, h2, h3, h4, h5⟩ := h
  have ho := h2 (by omega)
  obtain ⟨A3, c3, w3, hrun, ho3, hb3, hg3⟩ := run_append_ks (P := Try.prog) (f := hhC) ho 23 23 Try.underlying23 info_hold rfl (by omega) (by omega) (A' := some ⟨bh, 0, none⟩) (m := 1) (c' := 1) (us := [x]) (B := V.heap.size) (col_one (k := 3) (f := hhC) (h4 rfl) _ (h4 rfl).lt) (holds_one [x]) (by omega) h1
  exact ⟨A3, c3, w3, hrun, ho3, fun hr => (h3 hr).past ho (by decide) hg3, hb3⟩
end
/-- the holds and one more, as holds -/
theorem holds_more {V : World} {bz : Nat} {A : Option Addr} {m c : Nat} {hs : List Hh} {x : Hh} (ho : OwnK 3 hhC V bz 51 A (m + 1) c (hs ++ [x])) (hh : ∀ h ∈ hs, HhIn V V.heap.size h) (hx : HhIn V V.heap.size x) : HoldsIn V V.heap.size A (m + 1) (hs ++ [x]) :=
  ⟨ho.col, fun h hm => by
    rcases List.mem_append.1 hm with h1 | h1
    · exact hh h h1
    · rw [List.mem_singleton.1 h1]; exact hx⟩
end Go.Proofs.Ytkalnaidccgbiaa
