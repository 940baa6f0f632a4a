/-
  Contracts over package box and the document's own: copies.
-/
import Derived.Test.YthmlgbeonmpbjaaQBoxC
namespace Go.Proofs.Ythmlgbeonmpbjaa
set_option linter.unusedVariables false
set_option linter.unusedSimpArgs false
open Go.RowKit
set_option linter.unusedVariables false
set_option linter.unusedSimpArgs false

theorem msgs_one (hs : List Hd) : ∀ u ∈ hs, ∀ v ∈ hdC u, v.oneCell' = true := fun u _ => hdC_one u
def GiveK (w0 : World) (n : Nat) (hs : List Hd) (e : Ending) (w' : World) : Prop :=
  ∃ A' c', e = .returned (.slice A' n c') ∧ OwnK 4 hdC w' w0.heap.size 27 A' n c' hs ∧ Below w0.heap.size w0 w'
theorem cloneM_any (A : Option Addr) (n c : Nat) (hs : List Hd) (w : World) (hl : ColK 4 hdC w w.heap.size A n hs) (hn : n ≤ 1000000) :
    Calls Try.prog 43 #[.slice A n c] w (GiveK w n hs) := by
  cases A with
  | none =>
    have h0 : n = 0 := by
      rcases Nat.eq_zero_or_pos n with h | h
      · exact h
      · obtain ⟨b, o, h', _⟩ := hl.2 h; cases h'
    subst h0
    have hl' : hs = [] := List.eq_nil_of_length_eq_zero hl.1
    subst hl'
    have heq := fun W => Lib.run_eql_slice_nil (P := Try.prog) W 22 27 none 0 c 0 0 Try.underlying22
    go_enter Try.func43, Try.ntmps43
    go_wp2
    go_ret
    exact ⟨_, _, rfl, OwnK.nil hdC_len, Below.refl _ _⟩
  | some a =>
    have heq := fun W => Lib.run_eql_slice_nil (P := Try.prog) W 22 27 (some a) n c 0 0 Try.underlying22
    obtain ⟨A3, c3, w3, hrun, ho3, hb3, hg3⟩ := run_append_ks (P := Try.prog) (f := hdC) (OwnK.empty hdC_len w 27) 22 22 Try.underlying22 info_msg rfl (by omega) (by omega) (A' := some a) (m := n) (c' := c) (hl.below ((Below.refl _ _).alloc (Nat.le_refl _) (.cells #[] 27)) (Nat.le_refl _)) (msgs_one hs) (by omega) (by simp)
    rw [Nat.zero_add, List.nil_append] at ho3
    rw [Nat.zero_add] at hrun
    have hb3' : Below w.heap.size w w3 := ((Below.refl _ _).alloc (Nat.le_refl _) _).trans hb3
    have HRUN := Lib.hid hrun
    clear hrun hl hg3 hb3
    go_enter Try.func43, Try.ntmps43
    go_wp2_with ((with_reducible show wpList _ _ _ (⟨some 7, _, _, _, _, _⟩ :: _) _ _); refine hold ?_)
    refine held (wpList_plain rfl fun K hK => wp_append_ks (s := .tmp 5) (x := .tmp 6) rfl rfl rfl HRUN.out (hK _ _ ?_))
    go_wp2
    go_ret
    exact ⟨_, _, rfl, ho3, hb3'⟩
/-- a mailbox of one's own is answered -/
def GiveX (w0 : World) (nm : ByteArray) (v nx : Int) (n : Nat) (l : List Mg) (e : Ending) (w' : World) : Prop :=
  ∃ A' c', e = .returned (.agg #[.string nm, .int .i64 v, .int .i64 nx, .slice A' n c']) ∧ OwnM w' w0.heap.size A' n c' l ∧ Below w0.heap.size w0 w'
theorem len_le_of {l : List Mg} {k : Nat} {a : Mg} (h : ∀ m ∈ l, m.body.length ≤ 1000000) (ha : l[k]? = some a) : a.body.length ≤ 1000000 := h a (List.mem_of_getElem? ha)
set_option maxRecDepth 20000 in
set_option maxHeartbeats 4000000 in
theorem x11copy_any (nm : ByteArray) (v nx : Int) (A : Option Addr) (n c : Nat) (l : List Mg) (w : World) (hl : MsgsIn w w.heap.size A n l) (hn : n ≤ 1000000) (hsm : ∀ m ∈ l, m.body.length ≤ 1000000) :
    Calls Try.prog 11 #[.agg #[.string nm, .int .i64 v, .int .i64 nx, .slice A n c]] w (GiveX w nm v nx n l) := by
  have h1 : Bk ((w.alloc (.cells #[.string nm, .int .i64 v, .int .i64 nx, .slice A n c] 24)).alloc (.cells #[.string ⟨#[]⟩, .int .i64 0, .int .i64 0, .slice none 0 0] 24)) w.heap.size 24 #[.string nm, .int .i64 v, .int .i64 nx, .slice A n c] := (Bk.new _ _ _).alloc _
  have h2 : Bk ((w.alloc (.cells #[.string nm, .int .i64 v, .int .i64 nx, .slice A n c] 24)).alloc (.cells #[.string ⟨#[]⟩, .int .i64 0, .int .i64 0, .slice none 0 0] 24)) (w.heap.size + 1) 24 #[.string ⟨#[]⟩, .int .i64 0, .int .i64 0, .slice none 0 0] := Bk.new2 _ _ _ _
  have hB : Below w.heap.size w ((w.alloc (.cells #[.string nm, .int .i64 v, .int .i64 nx, .slice A n c] 24)).alloc (.cells #[.string ⟨#[]⟩, .int .i64 0, .int .i64 0, .slice none 0 0] 24)) := ((Below.refl _ _).alloc (Nat.le_refl _) _).alloc (by simp) _
  have HL := Lib.hid hl
  have HB := Lib.hid hB
  have H1 := Lib.hid h1
  have H2 := Lib.hid h2
  have HSM := Lib.hid hsm
  have HZ : Hid (((w.alloc (.cells #[.string nm, .int .i64 v, .int .i64 nx, .slice A n c] 24)).alloc (.cells #[.string ⟨#[]⟩, .int .i64 0, .int .i64 0, .slice none 0 0] 24)).heap.size = w.heap.size + 2) := Lib.hid (by simp)
  clear h1 h2 hB hl hsm
  go_enter Try.func11, Try.ntmps11
  go_wp2_with fail
  generalize (w.alloc (.cells #[.string nm, .int .i64 v, .int .i64 nx, .slice A n c] 24)).alloc (.cells #[.string ⟨#[]⟩, .int .i64 0, .int .i64 0, .slice none 0 0] 24) = w1 at *
  go_loopw [3, 4] (fun t i wx => ∃ (k c2 : Nat) (A2 : Option Addr), k ≤ n ∧ i = .int .i64 (k : Int) ∧ t = .slice A2 k c2 ∧ OwnM wx (w.heap.size + 2) A2 k c2 (l.take k) ∧ Below (w.heap.size + 2) w1 wx) (fun _ i _ => n - (intOf i).toNat)
  case atStart => exact ⟨0, 0, none, Nat.zero_le _, rfl, rfl, OwnM.nil, Below.refl _ _⟩
  case round =>
    obtain ⟨k, c2, A2, hk, rfl, rfl, ho, hb⟩ := hrel
    have HO := Lib.hid ho
    have HBR := Lib.hid hb
    have HB2 := Lib.hid (HB.out.trans (hb.mono (by omega)))
    have HS1 := Lib.hid (show w.heap.size + 2 ≤ wr.heap.size by have := hb.size; rw [HZ.out] at this; exact this)
    have he1 := H1.out.below hb (by omega)
    have HE1 := Lib.hid he1
    have HE2 := Lib.hid (H2.out.below hb (by omega))
    have e3 := he1.cell 3
    clear ho hb he1
    by_cases hlt : k < n
    · obtain ⟨b, o, x, rfl, hbb, hla, htk, hrow, hin⟩ := (HL.out.below HB2.out (Nat.le_refl _)).at_ hlt
      have hbl := len_le_of HSM.out hla
      have HTK := Lib.hid htk
      have HROW := Lib.hid hrow
      have hk0 : (0 : Int) ≤ (k : Int) := by omega
      have hkn : (k : Int) < (n : Int) := by omega
      obtain ⟨⟨u, f, d, bl⟩, xA, xn, xc⟩ := x
      have hxn : xn ≤ 1000000 := by have := hin.1.1; simp only at this hbl; omega
      have CM := Lib.hid (x11copyMsg_any u f d xA xn xc bl wr (hin.1.more HB2.out.size) (by omega))
      clear hla htk hrow hin
      go_wp2_with ((with_reducible show wpList _ _ _ (⟨some 17, _, _, _, _, _⟩ :: _) _ _); refine hold ?_)
      refine held (wpList_load_mid rfl 27 (.tmp 16) rfl b (o + k * 4) rfl _ _ HROW.out Try.underlying27 rfl (by kernel_rfl) ?_)
      unfold hdC
      go_wp2_with fail
      refine CM.out.mono ?_
      rintro e w2 ⟨yA, yc, rfl, hy, hb2⟩
      have hws := hb2.size
      have HS2 := Lib.hid (show w.heap.size + 2 ≤ w2.heap.size by have := HS1.out; omega)
      have HY := Lib.hid ((hy.base_le HS1.out).below ((Below.refl w2.heap.size w2).alloc (Nat.le_refl _) (.cells #[.int .i64 u, .int .i64 f, .int .i64 d, .slice yA xn yc] 27)))
      have HO2 := Lib.hid ((HO.out.below hb2).below ((Below.refl w2.heap.size w2).alloc (Nat.le_refl _) (.cells #[.int .i64 u, .int .i64 f, .int .i64 d, .slice yA xn yc] 27)))
      have HBR2 := Lib.hid ((HBR.out.trans (hb2.mono HS1.out)).alloc HS2.out (.cells #[.int .i64 u, .int .i64 f, .int .i64 d, .slice yA xn yc] 27))
      have HN : Hid ((w2.alloc (.cells #[.int .i64 u, .int .i64 f, .int .i64 d, .slice yA xn yc] 27)).rangeAt w2.heap.size 0 (hdC ⟨⟨u, f, d, bl⟩, yA, xn, yc⟩)) := Lib.hid (Bk.new w2 27 #[.int .i64 u, .int .i64 f, .int .i64 d, .slice yA xn yc]).range
      clear hy hb2 e3 CM hws
      go_wp2_with ((with_reducible show wpList _ _ _ (⟨some 20, _, _, _, _, _⟩ :: _) _ _); refine hold ?_)
      refine held (wpList_append_m rfl (.tmp 12) (.tmp 19) rfl (w.heap.size + 2) A2 k c2 _ rfl HO2.out w2.heap.size 0 ⟨⟨u, f, d, bl⟩, yA, xn, yc⟩ rfl HN.out HY.out (by omega) (by have := HS2.out; simp; omega) ?_)
      intro A4 c4 w4 ho4 hb4 hg4
      have HO4 : Hid (OwnM w4 (w.heap.size + 2) A4 (k + 1) c4 (l.take (k + 1))) := Lib.hid (by rw [HTK.out]; exact ho4)
      have HB4 := Lib.hid (HBR2.out.trans hb4)
      clear ho4 hb4 hg4 HN HY HO2 HBR2
      go_wp2_with fail
      go_roundw
      case rel => exact ⟨k + 1, c4, A4, by omega, by go_num, rfl, HO4.out, HB4.out⟩
      case measure => simp [intOf]; omega
    · have hkn : ¬ (k : Int) < (n : Int) := by omega
      obtain rfl : n = k := by omega
      have HO4 : Hid (OwnM wr (w.heap.size + 2) A2 n c2 l) := Lib.hid (by have := HO.out; rwa [List.take_of_length_le (by rw [HL.out.len]; omega)] at this)
      obtain ⟨⟨d0, d1, d2, d3⟩, g0, g1, g2, g3⟩ := HE1.out.four
      obtain ⟨⟨p0, p1, p2, p3⟩, q0, q1, q2, q3⟩ := HE2.out.four
      clear e3
      go_wp2_with fail
      refine bodyPost_ret (results_cell (a := ⟨w.heap.size + 1, 0, none⟩) rfl rfl (Bk.box_ (Bk.put4 (HE2.out.far (show w.heap.size + 1 ≠ w.heap.size by omega) _) _ _ _ _))) rfl ⟨A2, c2, rfl, ?_, ?_⟩
      · exact ((HO4.out.far (grownBy_cell _ _ _ _) (by omega)).far (grown_put4 _ _ _ _ _ _) (by omega)).from_ (by omega)
      · exact below_put4 (HB2.out.setCell (Nat.le_refl _) _) (by omega) _ _ _ _
end Go.Proofs.Ythmlgbeonmpbjaa
