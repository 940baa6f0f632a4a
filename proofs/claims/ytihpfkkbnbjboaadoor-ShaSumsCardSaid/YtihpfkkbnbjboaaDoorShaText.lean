/-
  Contracts over package sha: a sum's digits; and of the document's own answer.
-/
import Derived.Test.YtihpfkkbnbjboaaDoorShaPad
import Derived.StillTailTactics
import Derived.Deep.RegionHeld3
import Derived.Deep.QuietTactic
import Derived.BigQuiet
import Derived.Deep.AppendLies
namespace Go.Proofs.YtihpfkkbnbjboaaDoor
set_option linter.unusedVariables false
set_option linter.unusedSimpArgs false
open Go.RowKit

theorem any_over {Q : Exit → Act → World → Prop} {e : Exit} {a : Act} {W : World} (G : World → Prop) (hG : G W) (h : ∀ W', G W' → Q e a W') : Q e a W := h W hG

def digS : ByteArray := ⟨#[48, 49, 50, 51, 52, 53, 54, 55, 56, 57, 97, 98, 99, 100, 101, 102]⟩
def hexN (d : Nat) : Nat := byteAt [48, 49, 50, 51, 52, 53, 54, 55, 56, 57, 97, 98, 99, 100, 101, 102] d
theorem hexN_lt (d : Nat) : hexN d < 256 := byte_lt256 (by decide) d
def textN (l : List Nat) : List Nat := l.flatMap fun x => [hexN (x / 16), hexN (x % 16)]
theorem textN_snoc (l : List Nat) (x : Nat) : textN (l ++ [x]) = textN l ++ [hexN (x / 16), hexN (x % 16)] := by simp [textN]
theorem textN_length : ∀ l : List Nat, (textN l).length = 2 * l.length
  | [] => rfl
  | x :: r => by
    have := textN_length r
    unfold textN at this ⊢
    rw [List.flatMap_cons, List.length_append, this]
    simp; omega
theorem textN_lt (l : List Nat) : ∀ x ∈ textN l, x < 256 := by
  intro x hx
  unfold textN at hx
  obtain ⟨y, _, hy⟩ := List.mem_flatMap.1 hx
  simp at hy
  rcases hy with rfl | rfl <;> exact hexN_lt _
theorem strOf_append (a b : List Nat) : strOf a ++ strOf b = strOf (a ++ b) := by
  apply data_inj
  rw [strOf_data, List.map_append, ← strOf_data, ← strOf_data]
  simp
theorem dig_cut : ∀ d : Fin 16, (digS.extract d.1 (d.1 + 1)).data.toList = (strOf [hexN d.1]).data.toList := by decide +kernel
theorem dig_cut' {d : Nat} (h : d < 16) : digS.extract d (d + 1) = strOf [hexN d] := data_inj (dig_cut ⟨d, h⟩)
theorem dig_at : ∀ d : Fin 16, digS[d.1]? = some (UInt8.ofNat (hexN d.1)) := by decide +kernel
theorem run_dig {d : Nat} (h : d < 16) (w : World) : (Instr.index 9 (.string { data := #[48, 49, 50, 51, 52, 53, 54, 55, 56, 57, 97, 98, 99, 100, 101, 102] }) (.int .u8 (d : Int))).run Tryd.prog w = .ok (.int .u8 ((hexN d : Nat) : Int)) w := by
  have e := dig_at ⟨d, h⟩
  simp only [digS] at e
  have h2 : (UInt8.ofNat (hexN d)).toNat = hexN d := by
    have := hexN_lt d
    simp; omega
  simp [Instr.index, asIntOf, run_underlying Tryd.underlying9, e, h2]
theorem run_digs {d : Nat} (h : d < 16) (w : World) : (Instr.slice 9 (.string { data := #[48, 49, 50, 51, 52, 53, 54, 55, 56, 57, 97, 98, 99, 100, 101, 102] }) (some (.int .u8 (d : Int))) (some (.int .u8 ((d : Int) + 1))) none).run Tryd.prog w = .ok (.string (strOf [hexN d])) w := by
  rw [run_slice_string w 9 _ .u8 .u8 (d : Int) ((d : Int) + 1) Tryd.underlying9 (by omega) (by omega) (by show (d : Int) + 1 ≤ 16; omega)]
  rw [← dig_cut' h, show ((d : Int) + 1).toNat = d + 1 by omega]
  rfl
theorem Bytes.two (w : World) {a b : Nat} (ha : a < 256) (hb : b < 256) (t : TypeId) : Bytes (w.alloc (.cells #[.int .u8 (a : Int), .int .u8 (b : Int)] t)) (w.heap.size + 1) (some ⟨w.heap.size, 0, none⟩) 2 [a, b] := by
  refine ⟨rfl, by simp; omega, fun _ => ⟨w.heap.size, 0, rfl, by omega, fun i hi => ?_⟩⟩
  rw [cell_of_row _ _ _ _ _ _ (heap_alloc_new w _)]
  match i, hi with
  | 0, _ | 1, _ => rfl

set_option maxRecDepth 20000 in
set_option maxHeartbeats 1000000 in
theorem text_any (l : List Nat) (w : World) (hl : l.length = 32) (hby : ∀ x ∈ l, x < 256) : Calls Tryd.prog 11 #[.agg (cb l)] w fun e w' => e = .returned (.string (strOf (textN l))) ∧ Below w.heap.size w w' := by
  have HL := hide hl
  clear hl
  have hmk := fun W => run_make_0 W 64 (by omega)
  have hmi : ((64 : Nat) : Int) = 64 := rfl
  simp only [hmi] at hmk
  clear hmi
  go_enter Tryd.func11, Tryd.ntmps11
  go_wp2_with ((with_reducible show wpList _ _ _ (⟨some 7, _, _, _, _, _⟩ :: _) _ _); refine hold ?_)
  have ho0 := OwnB.made0 (w.alloc (.cells (cb l) 24)) 64 (by omega) 5
  have b0 : Bk ((w.alloc (.cells (cb l) 24)).alloc (.cells (madeCells #[.int .u8 0] 64) 5)) w.heap.size 24 (cb l) := (Bk.new w _ _).alloc _
  have hb0 : Below w.heap.size w ((w.alloc (.cells (cb l) 24)).alloc (.cells (madeCells #[.int .u8 0] 64) 5)) := ((Below.refl _ _).alloc (Nat.le_refl _) _).alloc (by simp) _
  refine held (wpList_load_mid rfl 24 (.tmp 1) rfl w.heap.size 0 rfl _ _ b0.range Tryd.underlying24 rfl (by rw [Array.length_toList, cb_size, HL.out]; exact size32) ?_)
  rw [Array.toArray_toList]
  rw [World.size_alloc] at ho0
  have HO := hide ho0; have HB := hide hb0
  clear hmk ho0 b0 hb0
  go_wp2
  go_loopw [3, 8] (fun s i wr => ∃ k A' c', k ≤ 32 ∧ i = .int .i64 ((k : Nat) : Int) ∧ s = .slice A' (2 * k) c' ∧ OwnB wr w.heap.size 5 A' (2 * k) c' (textN (l.take k)) ∧ Below w.heap.size w wr) (fun _ i _ => 32 - (intOf i).toNat)
  case atStart => exact ⟨0, _, _, Nat.zero_le _, rfl, rfl, HO.out.base_le (by omega), HB.out⟩
  case round =>
    obtain ⟨k, A', c', hk, rfl, rfl, ho, hb⟩ := hrel
    by_cases hlt : k < 32
    · have hix := fun W => run_index_row (P := Tryd.prog) (w := W) Tryd.underlying24 Tryd.underlying5 (by kernel_rfl) hlt (cb_at (l := l) (i := k) (by rw [HL.out]; exact hlt))
      have hyk := byte_lt256 hby k
      have HT := hide (take_snoc' l k (by rw [HL.out]; exact hlt))
      have HS := hide (textN_snoc (l.take k) (byteAt l k))
      generalize byteAt l k = x at *
      have hd1 := fun W => run_dig (d := x / 16) (by omega) W
      have hd2 := fun W => run_dig (d := x % 16) (by omega) W
      have hand : bits .and .u8 (x : Int) 15 = ((x % 16 : Nat) : Int) := by
        have := u8_and_nat x 15 hyk (by omega)
        rw [nat_mask4] at this
        exact this
      have hdiv : (x : Int) / 16 = ((x / 16 : Nat) : Int) := rfl
      generalize h16 : x / 16 = p at *
      generalize h15 : x % 16 = q at *
      have HO := hide ho; have HB := hide hb
      have H16 := hide (And.intro h16 h15)
      clear ho hb h16 h15
      go_wp2_with fail
      obtain ⟨i0, hi0, hz0, hz1, hz2⟩ := info_parts info_u8
      go_region_held3 (fun _ => True) (trivial)
        ((refine step_append_lies _ (by rfl) _ _ _ (by rfl) w.heap.size 5 i0 _ 1 1 Tryd.underlying22 hi0 hz0 hz1 hz2 rfl (by omega) (.slice A' (2 * k) c') (2 * k) _ (by rfl) ((HO.out.1.alloc _).drew) ⟨wr.heap.size, 0, none⟩ 2 2 [bv (hexN p), bv (hexN q)] (by rfl) (by rfl) (World.news_of_block (cs := #[bv (hexN p), bv (hexN q)]) (t := 5) (fr := (0, 0)) (heap_alloc_new wr _)) (by simp [bv, Value.oneCell']) (by omega) (by unfold maxLen; omega) (by omega) (by have := HB.out.size; simp; omega) (wr.heap.size + 1) (by simp) ?_; intro gg cap w1 hown1 hgrow hat hlt9))
      all_goals
        have ho3 : OwnB w1 w.heap.size 5 (some ⟨gg, 0, none⟩) (2 * (k + 1)) cap (textN (l.take (k + 1))) := ⟨by rw [HT.out, HS.out, List.map_append]; exact hown1, textN_lt _⟩
        have hb3 : Below w.heap.size w w1 := ((HB.out.alloc HB.out.size _).drew).grown hgrow (by have := HB.out.size; simp; omega) (fun j hj => (HO.out.1.lt j hj).1)
        clear hown1 hgrow hat hlt9
        go_wp2
        go_roundw
        case rel => exact ⟨k + 1, some ⟨gg, 0, none⟩, cap, by omega, by go_num, rfl, ho3, hb3⟩
        case measure => first | (simp [intOf]; done) | (simp [intOf]; omega)
    · have hk32 : k = 32 := by omega
      rw [hk32, List.take_of_length_le (by rw [HL.out]; omega)] at ho
      have hlk : ¬ (k : Int) < 32 := by omega
      rw [hk32]
      have hcv := fun W (hW : Bytes W W.heap.size A' (2 * 32) (textN l)) => run_str_of_bytes (P := Tryd.prog) (c := c') hW Tryd.underlying22 Tryd.underlying5 Tryd.underlying9
      have hcv2 := hcv wr ho.bytes
      have hlk2 : ¬ ((32 : Nat) : Int) < 32 := by omega
      clear hcv hk32 hlt hk
      go_wp2
      go_ret
      exact ⟨rfl, hb⟩

set_option maxRecDepth 20000 in
set_option maxHeartbeats 1000000 in
theorem rtext_any (l : List Nat) (w : World) (hl : l.length = 32) (hby : ∀ x ∈ l, x < 256) : Calls Tryd.prog 12 #[.agg (cb l)] w fun e w' => e = .returned (.string (strOf (textN l))) ∧ Below w.heap.size w w' := by
  have HL := hide hl
  clear hl
  go_enter Tryd.func12, Tryd.ntmps12
  go_wp2
  go_loopw [3, 4] (fun s i wr => ∃ k : Nat, k ≤ 32 ∧ i = .int .i64 (k : Int) ∧ s = .string (strOf (textN (l.take k))) ∧ Bk wr w.heap.size 24 (cb l) ∧ Below w.heap.size w wr) (fun _ i _ => 32 - (intOf i).toNat)
  case atStart => exact ⟨0, Nat.zero_le _, rfl, rfl, Bk.new _ _ _, (Below.refl _ _).alloc (Nat.le_refl _) _⟩
  case round =>
    obtain ⟨k, hk, rfl, rfl, b0, hb⟩ := hrel
    by_cases hlt : k < 32
    · have hc := b0.byte (i := k) (by rw [HL.out]; exact hlt)
      have hyk := byte_lt256 hby k
      have HT := hide (take_snoc' l k (by rw [HL.out]; exact hlt))
      have HS := hide (textN_snoc (l.take k) (byteAt l k))
      generalize byteAt l k = x at *
      have d1 := fun W => run_digs (d := x / 16) (by omega) W
      have d2 := fun W => run_digs (d := x % 16) (by omega) W
      have hdiv : (x : Int) / 16 = ((x / 16 : Nat) : Int) := rfl
      have hmod : (x : Int) % 16 = ((x % 16 : Nat) : Int) := rfl
      have hp : x / 16 < 16 := by omega
      have hq : x % 16 < 16 := by omega
      have w1 : IntKind.u8.wrap (((x / 16 : Nat) : Int) + 1) = ((x / 16 + 1 : Nat) : Int) := by rw [IntKind.wrap_u8']; omega
      have w2 : IntKind.u8.wrap (((x % 16 : Nat) : Int) + 1) = ((x % 16 + 1 : Nat) : Int) := by rw [IntKind.wrap_u8']; omega
      generalize x / 16 = p at *
      generalize x % 16 = q at *
      have z1 : IntKind.u8.wrap (p : Int) = (p : Int) := by rw [IntKind.wrap_u8']; omega
      have z2 : IntKind.u8.wrap (q : Int) = (q : Int) := by rw [IntKind.wrap_u8']; omega
      have n1 : ((p : Int) + 1).toNat = p + 1 := by omega
      have n2 : ((q : Int) + 1).toNat = q + 1 := by omega
      have g1 : (0 : Int) ≤ (p : Int) + 1 := by omega
      have g2 : (0 : Int) ≤ (q : Int) + 1 := by omega
      have g3 : (p : Int) + 1 ≤ 16 := by omega
      have g4 : (q : Int) + 1 ≤ 16 := by omega
      have HB0 := hide b0; have HB := hide hb
      have hli : (k : Int) < 32 := by omega
      have hs0 : (strOf (textN (l.take k))).size ≤ 64 := by rw [strOf_size, textN_length, List.length_take]; omega
      have hs1 : (strOf [hexN p]).size = 1 := strOf_size _
      have hs2 : (strOf [hexN q]).size = 1 := strOf_size _
      have HJ := hide (show strOf (textN (l.take k)) ++ strOf [hexN p] ++ strOf [hexN q] = strOf (textN (l.take k ++ [x])) by rw [strOf_append, strOf_append, HS.out, List.append_assoc]; rfl)
      generalize strOf (textN (l.take k)) = t0 at *
      generalize strOf [hexN p] = sp at *
      generalize strOf [hexN q] = sq at *
      have hs3 : (t0 ++ sp).size = t0.size + sp.size := by simp [ByteArray.size_append]
      have ha1 : (t0.size : Int) + (sp.size : Int) ≤ 9223372036854775807 := by omega
      have ha2 : ((t0 ++ sp).size : Int) + (sq.size : Int) ≤ 9223372036854775807 := by omega
      have hb1 : t0.size + sp.size ≤ 9223372036854775807 := by omega
      have hb2 : (t0 ++ sp).size + sq.size ≤ 9223372036854775807 := by omega
      have r1 := fun W => run_string_add_sum (P := Tryd.prog) (w := W) t0 sp hb1
      have r2 := fun W => run_string_add_sum (P := Tryd.prog) (w := W) (t0 ++ sp) sq hb2
      clear b0 hb hs1 hs2 hs3
      go_wp2_with fail
      go_quiet (fail)
      refine any_over (fun W => Bk W w.heap.size 24 (cb l) ∧ Below w.heap.size w W) ⟨HB0.out, ⟨HB.out.os, HB.out.tape, HB.out.output, HB.out.size, HB.out.block⟩⟩ ?_
      clear HB0 HB hc r1 r2 d1 d2
      rintro W2 ⟨b0, hb⟩
      have HB0 := hide b0; have HB := hide hb
      clear b0 hb
      go_wp2
      go_roundw
      case rel => exact ⟨k + 1, by omega, by go_num, by rw [HJ.out, HT.out], HB0.out, HB.out⟩
      case measure => simp [intOf]; omega
    · have hk32 : k = 32 := by omega
      have HK := hide (show l.take k = l from List.take_of_length_le (by rw [HL.out]; omega))
      have hlk : ¬ (k : Int) < 32 := by omega
      generalize ht0 : strOf (textN (l.take k)) = t0 at *
      have HT0 := hide ht0
      clear hk32 hlt hk ht0
      go_wp2
      go_ret
      exact ⟨by rw [← HT0.out, HK.out]; rfl, hb⟩
end Go.Proofs.YtihpfkkbnbjboaaDoor
