/-
  Contracts over package sha: a block's step; the words' bytes.
-/
import Derived.Test.YtihpfkkbnbjboaaDoorShaWalksB
import Derived.Deep.QuietTactic
import Derived.BigQuiet
namespace Go.Proofs.YtihpfkkbnbjboaaDoor
set_option linter.unusedVariables false
set_option linter.unusedSimpArgs false
open Go.RowKit

/-- the package's tables lie as the text lays them -/
def Tabs (w : World) : Prop := (∀ r, r < 8 → w.cell? ⟨0, r, none⟩ = some (.int .u32 ((byteAt firstL r : Nat) : Int))) ∧ ∀ r, r < 64 → w.cell? ⟨1, r, none⟩ = some (.int .u32 ((byteAt kL r : Nat) : Int))
theorem Tabs.pos {w : World} (h : Tabs w) : 1 < w.heap.size := block_lt_of_cell (h.2 0 (by omega))
theorem Tabs.below {w w' : World} {B : Nat} (h : Tabs w) (hb : Below B w w') (hB : 1 < B) : Tabs w' := ⟨fun r hr => (hb.cell (p := ⟨0, r, none⟩) (by show 0 < B; omega)).trans (h.1 r hr), fun r hr => (hb.cell (p := ⟨1, r, none⟩) hB).trans (h.2 r hr)⟩

theorem u32_not {e : Nat} (he : e < 4294967296) : bits .xor .u32 IntKind.u32.max (e : Int) = ((e ^^^ 4294967295 : Nat) : Int) := by
  have := u32_xor_nat 4294967295 e (by omega) he
  rw [Nat.xor_comm] at this
  exact this
theorem wd_cells (s : Wd) : cw s.list = #[.int .u32 (s.a : Int), .int .u32 (s.b : Int), .int .u32 (s.c : Int), .int .u32 (s.d : Int), .int .u32 (s.e : Int), .int .u32 (s.f : Int), .int .u32 (s.g : Int), .int .u32 (s.h : Int)] := rfl

theorem below_drewN {B : Nat} {w w' : World} (h : Below B w w') (k : Nat) : Below B w (w'.drewN k) := ⟨h.os, h.tape, h.output, h.size, h.block⟩
/-- what the rounds of a step hold -/
def WdAt (v : Wd) (s5 s6 s7 s8 s9 s10 s11 s12 : Value) : Prop :=
  s5 = .int .u32 (v.a : Int) ∧ s6 = .int .u32 (v.b : Int) ∧ s7 = .int .u32 (v.c : Int) ∧ s8 = .int .u32 (v.d : Int) ∧ s9 = .int .u32 (v.e : Int) ∧ s10 = .int .u32 (v.f : Int) ∧ s11 = .int .u32 (v.g : Int) ∧ s12 = .int .u32 (v.h : Int)
theorem u32_sum (a b : Nat) : IntKind.u32.wrap ((a : Int) + (b : Int)) = (((a + b) % 4294967296 : Nat) : Int) := by rw [IntKind.wrap_u32']; omega
theorem u32_mod (a b : Nat) : ((a : Int) + (b : Int)) % 4294967296 = (((a + b) % 4294967296 : Nat) : Int) := by omega

set_option maxRecDepth 20000 in
set_option maxHeartbeats 2000000 in
theorem step_any (s : Wd) (l : List Nat) (w : World) (hs : s.Ok) (hl : l.length = 64) (hby : ∀ x ∈ l, x < 256) (ht : Tabs w) :
    Calls Tryd.prog 16 #[.agg (cw s.list), .agg (cb l)] w fun e w' => e = .returned (.agg (cw (stepN kL s l).list)) ∧ Below w.heap.size w w' := by
  have HL := hide hl
  have HT := hide ht.2
  have hp := ht.pos
  clear hl ht
  rw [wd_cells]
  go_enter Tryd.func16, Tryd.ntmps16
  go_wp2_with fail
  have hb0 : Below w.heap.size w (((w.alloc (.cells #[.int .u32 (s.a : Int), .int .u32 (s.b : Int), .int .u32 (s.c : Int), .int .u32 (s.d : Int), .int .u32 (s.e : Int), .int .u32 (s.f : Int), .int .u32 (s.g : Int), .int .u32 (s.h : Int)] 31)).alloc (.cells (cb l) 32)).alloc (.cells (cw (List.replicate 8 0)) 31)) := (((Below.refl _ _).alloc (Nat.le_refl _) _).alloc (by simp) _).alloc (by simp; omega) _
  refine code_over (fun W => Bk W w.heap.size 31 (cw s.list) ∧ Bk W (w.heap.size + 1) 32 (cb l) ∧ Bk W (w.heap.size + 1 + 1) 31 (cw (List.replicate 8 0)) ∧ Below w.heap.size w W) ⟨((Bk.new w _ _).alloc _).alloc _, (Bk.new2 w _ _ _).alloc _, Bk.new3 w _ _ _ _, hb0⟩ ?_
  clear hb0
  rintro W ⟨b0, b1, b2, hb⟩
  have B0 := hide b0; have B1 := hide b1; have B2 := hide b2; have HB := hide hb
  have c0 := b0.cell 0; have c1 := b0.cell 1; have c2 := b0.cell 2; have c3 := b0.cell 3; have c4 := b0.cell 4; have c5 := b0.cell 5; have c6 := b0.cell 6; have c7 := b0.cell 7
  rw [wd_cells] at c0 c1 c2 c3 c4 c5 c6 c7
  simp only [List.getElem?_toArray, List.getElem?_cons_zero, List.getElem?_cons_succ] at c0 c1 c2 c3 c4 c5 c6 c7
  clear b0 b1 b2 hb
  go_quiet (fail)
  refine post_over (fun W => Bk W w.heap.size 31 (cw s.list) ∧ Bk W (w.heap.size + 1) 32 (cb l) ∧ Bk W (w.heap.size + 1 + 1) 31 (cw (List.replicate 8 0)) ∧ Below w.heap.size w W) ⟨B0.out, B1.out, B2.out, below_drewN HB.out nq⟩ ?_
  clear B0 B1 B2 HB c0 c1 c2 c3 c4 c5 c6 c7 nq
  clear W
  rintro W ⟨b0, b1, b2, hb⟩
  have B0 := hide b0; have B1 := hide b1; have B2 := hide b2; have HB := hide hb
  clear b0 b1 b2 hb
  go_wp2_with ((with_reducible show wpList _ _ _ (⟨some 33, _, _, _, _, _⟩ :: _) _ _); refine hold ?_)
  refine held (wpList_load_mid rfl 32 (.tmp 3) rfl (w.heap.size + 1) 0 rfl _ _ B1.out.range Tryd.underlying32 rfl (by rw [Array.length_toList, cb_size, HL.out]; exact sizeSec) ?_)
  go_wp2_with fail
  refine (spread_any l _ HL.out hby).mono ?_
  rintro e W2 ⟨rfl, hb2⟩
  have hlen := schedN_length l
  have hlt := schedN_lt l
  obtain ⟨ws, hws⟩ : ∃ ws, ws = schedN l := ⟨_, rfl⟩
  rw [← hws] at hlen hlt ⊢
  have HWS := hide hws
  have HLEN := hide hlen
  have B0' := hide (B0.out.below hb2 B0.out.lt)
  have B2' := hide (B2.out.below hb2 B2.out.lt)
  have HB' := hide (HB.out.trans (hb2.mono HB.out.size))
  clear hws hlen B0 B1 B2 HB hb2
  go_wp2
  go_loopw [5, 6, 7, 8, 9, 10, 11, 12, 35] (fun s5 s6 s7 s8 s9 s10 s11 s12 i wr => ∃ k : Nat, k ≤ 64 ∧ i = .int .i64 k ∧ WdAt (roundsN kL ws s k) s5 s6 s7 s8 s9 s10 s11 s12 ∧ Bk wr w.heap.size 31 (cw s.list) ∧ Bk wr (w.heap.size + 1 + 1) 31 (cw (List.replicate 8 0)) ∧ Below w.heap.size w wr) (fun _ _ _ _ _ _ _ _ i _ => 64 - (intOf i).toNat)
  case atStart => exact ⟨0, Nat.zero_le _, rfl, by rw [roundsN_zero]; exact ⟨rfl, rfl, rfl, rfl, rfl, rfl, rfl, rfl⟩, B0'.out, B2'.out, HB'.out⟩
  case round =>
    obtain ⟨k, hk, rfl, hwd, b0, b2, hb⟩ := hrel
    have hok := roundsN_ok kL ws hs k
    by_cases hlt64 : k < 64
    · have HS := hide (roundsN_succ kL ws s k)
      generalize roundsN kL ws s k = v at *
      obtain ⟨rfl, rfl, rfl, rfl, rfl, rfl, rfl, rfl⟩ := hwd
      have hix := fun W => run_index_row (P := Tryd.prog) (w := W) Tryd.underlying44 Tryd.underlying30 (by kernel_rfl) hlt64 (cw_at (l := ws) (i := k) (by rw [HLEN.out]; exact hlt64))
      have hwk := hlt.lt k
      have hkk := kL_lt.lt k
      have hcK : wr.cell? ⟨1, k, none⟩ = some (.int .u32 ((byteAt kL k : Nat) : Int)) := (hb.cell (p := ⟨1, k, none⟩) hp).trans (HT.out k hlt64)
      obtain ⟨a, b, c, d, e, f, g, h⟩ := v
      obtain ⟨oa, ob, oc, od, oe, of, og, oh⟩ := hok
      simp only at oa ob oc od oe of og oh ⊢
      have HT1 : Hid (t1N ⟨a, b, c, d, e, f, g, h⟩ (byteAt kL k) (byteAt ws k) = ((((h + g1N e) % 4294967296 + chN e f g) % 4294967296 + byteAt kL k) % 4294967296 + byteAt ws k) % 4294967296) := hide rfl
      have HT2 : Hid (t2N ⟨a, b, c, d, e, f, g, h⟩ = (g0N a + majN a b c) % 4294967296) := hide rfl
      generalize byteAt kL k = kk at *
      generalize byteAt ws k = wk at *
      have h1 := u32_and_nat e f oe of
      have h2 : bits .xor .u32 (if IntKind.u32.signed = true then -1 else IntKind.u32.max) (e : Int) = ((e ^^^ 4294967295 : Nat) : Int) := u32_not oe
      have h3 := u32_and_nat (e ^^^ 4294967295) g (xor_lt oe (by omega)) og
      have h4 := u32_xor_nat (e &&& f) ((e ^^^ 4294967295) &&& g) (and_lt _ oe) (and_lt _ (xor_lt oe (by omega)))
      have hz := g1N_lt oe
      have s1 := u32_sum h (g1N e)
      have s2 := u32_sum ((h + g1N e) % 4294967296) ((e &&& f) ^^^ ((e ^^^ 4294967295) &&& g))
      have s3 := u32_sum (((h + g1N e) % 4294967296 + ((e &&& f) ^^^ ((e ^^^ 4294967295) &&& g))) % 4294967296) kk
      have s4 := u32_sum ((((h + g1N e) % 4294967296 + ((e &&& f) ^^^ ((e ^^^ 4294967295) &&& g))) % 4294967296 + kk) % 4294967296) wk
      generalize hx1 : (h + g1N e) % 4294967296 = x1 at *
      generalize hx2 : (x1 + ((e &&& f) ^^^ ((e ^^^ 4294967295) &&& g))) % 4294967296 = x2 at *
      generalize hx3 : (x2 + kk) % 4294967296 = x3 at *
      generalize hx4 : (x3 + wk) % 4294967296 = x4 at *
      have HX := hide (And.intro hx1 (And.intro hx2 (And.intro hx3 hx4)))
      clear hx1 hx2 hx3 hx4
      have H0 := hide b0; have H2 := hide b2; have H3 := hide hb
      clear b0 b2 hb
      go_wp2_with fail
      go_quiet ((go_at_call 25; exact Calls.quiet_of_same ((great1_any e _ oe).mono (fun _ _ h => ⟨h.1, h.2.symm⟩))))
      refine post_over (fun W => Bk W w.heap.size 31 (cw s.list) ∧ Bk W (w.heap.size + 1 + 1) 31 (cw (List.replicate 8 0)) ∧ Below w.heap.size w W) ⟨H0.out, H2.out, below_drewN H3.out nq⟩ ?_
      clear H0 H2 H3 nq hcK h1 h2 h3 h4 s1 s2 s3 s4 hix hz
      rintro W3 ⟨b0, b2, hb⟩
      have H0 := hide b0; have H2 := hide b2; have H3 := hide hb
      clear b0 b2 hb
      have m1 := u32_and_nat a b oa ob
      have m2 := u32_and_nat a c oa oc
      have m3 := u32_and_nat b c ob oc
      have m4 := u32_xor_nat (a &&& b) (a &&& c) (and_lt _ oa) (and_lt _ oa)
      have m5 := u32_xor_nat ((a &&& b) ^^^ (a &&& c)) (b &&& c) (xor_lt (and_lt _ oa) (and_lt _ oa)) (and_lt _ ob)
      have m6 := u32_mod (g0N a) ((a &&& b) ^^^ (a &&& c) ^^^ (b &&& c))
      generalize hy : (g0N a + ((a &&& b) ^^^ (a &&& c) ^^^ (b &&& c))) % 4294967296 = y at *
      have m7 := u32_mod x4 y
      have m8 := u32_mod d x4
      generalize hx5 : (x4 + y) % 4294967296 = x5 at *
      generalize hx6 : (d + x4) % 4294967296 = x6 at *
      have HY := hide (And.intro hy (And.intro hx5 hx6))
      clear hy hx5 hx6
      go_wp2_with fail
      refine (great0_any a _ oa).mono ?_
      rintro e w' ⟨rfl, rfl⟩
      go_wp2
      go_roundw
      case rel =>
        refine ⟨k + 1, by omega, by go_num, ?_, H0.out, H2.out, H3.out⟩
        have e4 : t1N ⟨a, b, c, d, e, f, g, h⟩ kk wk = x4 := by
          obtain ⟨h1, h2, h3, h4⟩ := HX.out
          rw [HT1.out, ← h4, ← h3, ← h2]; rfl
        have e5 : t2N ⟨a, b, c, d, e, f, g, h⟩ = y := by rw [HT2.out]; exact HY.out.1
        have e6 : roundN ⟨a, b, c, d, e, f, g, h⟩ kk wk = ⟨x5, a, b, c, x6, e, f, g⟩ := by
          unfold roundN
          rw [e4, e5, HY.out.2.1, HY.out.2.2]
        rw [HS.out, e6]
        exact ⟨by rw [m7], rfl, rfl, rfl, by rw [m8], rfl, rfl, rfl⟩
      case measure => simp [intOf]; omega
    · have hk64 : k = 64 := by omega
      rw [hk64] at hwd
      have HSt : Hid (stepN kL s l = sumN s (roundsN kL ws s 64)) := hide (by rw [HWS.out]; rfl)
      have hlk : ¬ (k : Int) < 64 := by omega
      clear hk64 hlt64 hk hok
      generalize roundsN kL ws s 64 = v at *
      obtain ⟨rfl, rfl, rfl, rfl, rfl, rfl, rfl, rfl⟩ := hwd
      have B0 := hide b0; have B2 := hide b2; have HB := hide hb
      have c0 := b0.cell 0; have c1 := b0.cell 1; have c2 := b0.cell 2; have c3 := b0.cell 3; have c4 := b0.cell 4; have c5 := b0.cell 5; have c6 := b0.cell 6; have c7 := b0.cell 7
      rw [wd_cells] at c0 c1 c2 c3 c4 c5 c6 c7
      simp only [List.getElem?_toArray, List.getElem?_cons_zero, List.getElem?_cons_succ] at c0 c1 c2 c3 c4 c5 c6 c7
      clear b0 b2 hb
      have m0 := u32_mod s.a v.a; have m1 := u32_mod s.b v.b; have m2 := u32_mod s.c v.c; have m3 := u32_mod s.d v.d
      have m4 := u32_mod s.e v.e; have m5 := u32_mod s.f v.f; have m6 := u32_mod s.g v.g; have m7 := u32_mod s.h v.h
      generalize hr0 : (s.a + v.a) % 4294967296 = r0 at *
      generalize hr1 : (s.b + v.b) % 4294967296 = r1 at *
      generalize hr2 : (s.c + v.c) % 4294967296 = r2 at *
      generalize hr3 : (s.d + v.d) % 4294967296 = r3 at *
      generalize hr4 : (s.e + v.e) % 4294967296 = r4 at *
      generalize hr5 : (s.f + v.f) % 4294967296 = r5 at *
      generalize hr6 : (s.g + v.g) % 4294967296 = r6 at *
      generalize hr7 : (s.h + v.h) % 4294967296 = r7 at *
      have HSU : Hid (sumN s v = ⟨r0, r1, r2, r3, r4, r5, r6, r7⟩) := hide (by unfold sumN; rw [hr0, hr1, hr2, hr3, hr4, hr5, hr6, hr7])
      clear hr0 hr1 hr2 hr3 hr4 hr5 hr6 hr7
      go_wp2_with ((with_reducible show wpList _ _ _ (⟨none, .store _ _ _, _, _, _, _⟩ :: _) _ _); refine hold ?_)
      refine held (wpList_store_wide rfl 31 (.tmp 4) (.tmp 117) rfl (w.heap.size + 1 + 1) 0 (cw [r0, r1, r2, r3, r4, r5, r6, r7]) rfl rfl 31 _ B2.out (by simp [cw_size]) size8 (cw_one _) ?_)
      intro w' hw'
      rw [setRow_all (by simp [cw_size])] at hw'
      have B1 := hide (hw'.out ▸ B2.out.setRow_same (cw [r0, r1, r2, r3, r4, r5, r6, r7]) : Bk w' _ _ _)
      have hb2 := hw'.out ▸ below_setRow HB.out (g := w.heap.size + 1 + 1) (by omega) (cw [r0, r1, r2, r3, r4, r5, r6, r7])
      clear hw' B0 B2 HB c0 c1 c2 c3 c4 c5 c6 c7
      go_wp2
      refine bodyPost_ret (v := .agg (cw [r0, r1, r2, r3, r4, r5, r6, r7])) ?_ rfl ⟨by rw [HSt.out, HSU.out]; rfl, hb2⟩
      exact results_cell (a := ⟨w.heap.size + 1 + 1, 0, none⟩) rfl rfl (B1.out.load Tryd.underlying31 rfl size8)
end Go.Proofs.YtihpfkkbnbjboaaDoor
