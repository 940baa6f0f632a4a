/-
  Contracts over package event: numbers and ranges that are read next.
-/
import Derived.Test.YtoiffchhfnbooaaDoorQEventF
import Derived.Test.YtoiffchhfnbooaaDoorQPackWalksB
namespace Go.Proofs.YtoiffchhfnbooaaDoor
set_option linter.unusedVariables false
set_option linter.unusedSimpArgs false
open Go.RowKit
set_option linter.unusedVariables false
set_option linter.unusedSimpArgs false

theorem grown_below {w w1 w2 : World} {g : Nat} (h : w.grownBy w1 (some g)) (hb : Below w.heap.size w1 w2) : w.grownBy w2 (some g) :=
  ⟨hb.os.trans h.os, hb.tape.trans h.tape, hb.output.trans h.output, Nat.le_trans h.size hb.size, fun k hk hne => (hb.block k hk).trans (h.block k hk hne)⟩
theorem below_grown {w w1 : World} (g : Nat) (hb : Below w.heap.size w w1) : w.grownBy w1 (some g) := ⟨hb.os, hb.tape, hb.output, hb.size, fun k hk _ => hb.block k hk⟩
theorem Bk.kept {w w' : World} {b g : Nat} {t : TypeId} {cs : Array Value} (h : Bk w b t cs) (hg : w.grownBy w' (some g)) (hne : b ≠ g) : Bk w' b t cs := (hg.block b h.lt (fun e => hne (Option.some.inj e))).trans h
theorem OwnV.other {w w' : World} {base n c g : Nat} {e : TypeId} {A : Option Addr} {l : List Value} (h : OwnV w base e A n c l) (hg : w.grownBy w' (some g)) (hgb : g < base) : OwnV w' base e A n c l := by
  refine World.ownsRow.kept h hg (.inr ?_)
  intro hr
  have := (World.ownsRow.lt h g hr).1
  omega
theorem OwnK.other {α : Type} {f : α → List Value} {w w' : World} {base n c g k : Nat} {e : TypeId} {A : Option Addr} {l : List α} (h : OwnK k f w base e A n c l) (hg : w.grownBy w' (some g)) (hgb : g < base) : OwnK k f w' base e A n c l := by
  refine ⟨h.1.kept hg (.inr ?_), h.2⟩
  intro hr
  have := (h.1.lt g hr).1
  omega
theorem count60 (l : List Nat) (e : Nat) : countV l e 60 ≤ 60 := by unfold countV; split <;> omega
theorem pCount60 (g e : Nat) (l : List Nat) (w : World) (h : RdP w g l e) (hl : l.length ≤ 140737488355328) (hb : ∀ x ∈ l, x < 256) :
    Calls Tryd.prog 63 #[.pointer (some ⟨g, 0, none⟩), .int .i64 60] w (Gave (.int .i64 ((countV l e 60 : Nat) : Int)) g (takeL l e 8) (countE l e 60) w) := pCount_any g e 60 l w h hl hb (by omega)
def NextI (g : Nat) (l : List Nat) (er : Nat) (w : World) (e : Ending) (w' : World) : Prop := ∃ A N c, e = .returned (.slice A N c) ∧ N ≤ 60 ∧ OwnV w' w.heap.size 3 A N c ((rdI (countV l er 60) (takeL l er 8) (countE l er 60)).1.map ints) ∧
  RdP w' g (rdI (countV l er 60) (takeL l er 8) (countE l er 60)).2.1 (rdI (countV l er 60) (takeL l er 8) (countE l er 60)).2.2 ∧ w.grownBy w' (some g)
set_option maxRecDepth 20000 in
set_option maxHeartbeats 4000000 in
theorem evnextIDs_any (g er : Nat) (l : List Nat) (w : World) (hr : RdP w g l er) (hl : l.length ≤ 140737488355328) (hb : ∀ x ∈ l, x < 256) :
    Calls Tryd.prog 55 #[.pointer (some ⟨g, 0, none⟩)] w (NextI g l er w) := by
  have HC := Lib.hid (pCount60 g er l w hr hl hb)
  have HG := Lib.hid hr.lt
  have HT : Hid ((takeL l er 8).length ≤ 140737488355328 ∧ ∀ x ∈ takeL l er 8, x < 256) := Lib.hid ⟨Nat.le_trans takeL_len hl, takeL_lt hb⟩
  have hm60 := count60 l er
  obtain ⟨m, hm⟩ : ∃ m, countV l er 60 = m := ⟨_, rfl⟩
  obtain ⟨l0, hl0⟩ : ∃ q, takeL l er 8 = q := ⟨_, rfl⟩
  obtain ⟨e0, he0⟩ : ∃ q, countE l er 60 = q := ⟨_, rfl⟩
  have HN : Hid (∀ e w', (∃ A N c, e = .returned (.slice A N c) ∧ N ≤ 60 ∧ OwnV w' w.heap.size 3 A N c ((rdI m l0 e0).1.map ints) ∧ RdP w' g (rdI m l0 e0).2.1 (rdI m l0 e0).2.2 ∧ w.grownBy w' (some g)) → NextI g l er w e w') := Lib.hid (by
    intro e w' H
    unfold NextI
    rw [hm, hl0, he0]
    exact H)
  rw [hm] at hm60
  rw [hm, hl0, he0] at HC
  rw [hl0] at HT
  clear hr hl hb hm hl0 he0
  go_enter Tryd.func55, Tryd.ntmps55
  go_wp2_with fail
  refine HC.out.mono ?_
  rintro e w2 ⟨rfl, hr2, hg2⟩
  have R2 := Lib.hid hr2
  have G2 := Lib.hid hg2
  clear hr2 hg2 HC
  go_wp2_with fail
  go_loopw [3, 6] (fun o i wx => ∃ (k N : Nat) (A2 : Option Addr) (c2 : Nat), k ≤ m ∧ i = .int .i64 (k : Int) ∧ N = k ∧ o = .slice A2 N c2 ∧ OwnV wx w.heap.size 3 A2 N c2 ((rdI k l0 e0).1.map ints) ∧ RdP wx g (rdI k l0 e0).2.1 (rdI k l0 e0).2.2 ∧ w.grownBy wx (some g)) (fun _ i _ => m - (intOf i).toNat)
  case atStart => exact ⟨0, 0, none, 0, Nat.zero_le _, rfl, rfl, rfl, OwnV.nil, R2.out, G2.out⟩
  case round =>
    obtain ⟨k, N, A2, c2, hk, rfl, hNk, rfl, ho, hr, hgw⟩ := hrel
    have hN60 : N ≤ 60 := by omega
    have HNK := Lib.hid hNk
    have HO := Lib.hid ho
    have HR := Lib.hid hr
    have HGW := Lib.hid hgw
    clear ho hr hgw hNk R2 G2
    by_cases hlt : k < m
    · have hk0 : (0 : Int) ≤ (k : Int) := by omega
      have hkm : (k : Int) < (m : Int) := by omega
      have HSK : Hid ((rdI (k + 1) l0 e0).1 = (rdI k l0 e0).1 ++ [((numV (rdI k l0 e0).2.1 (rdI k l0 e0).2.2 : Nat) : Int)] ∧ (rdI (k + 1) l0 e0).2.1 = takeL (rdI k l0 e0).2.1 (rdI k l0 e0).2.2 8 ∧ (rdI (k + 1) l0 e0).2.2 = numE (rdI k l0 e0).2.1 (rdI k l0 e0).2.2) := Lib.hid ⟨rfl, rfl, rfl⟩
      have CN := Lib.hid (pNum_any g _ _ wr HR.out (Nat.le_trans (rdI_shorter k) HT.out.1) (rdI_lt HT.out.2 k))
      obtain ⟨v, hv⟩ : ∃ v, numV (rdI k l0 e0).2.1 (rdI k l0 e0).2.2 = v := ⟨_, rfl⟩
      rw [hv] at HSK CN
      clear hv
      go_wp2_with fail
      refine CN.out.mono ?_
      rintro e w3 ⟨rfl, hr3, hg3⟩
      have HO3 := Lib.hid (OwnV.other HO.out hg3 HG.out)
      have HR3 : Hid (RdP w3 g (rdI (k + 1) l0 e0).2.1 (rdI (k + 1) l0 e0).2.2) := Lib.hid (by rw [HSK.out.2.1, HSK.out.2.2]; exact hr3)
      have HG3 := Lib.hid (grownBy_trans HGW.out hg3)
      clear hr3 hg3 CN HO HR HGW
      have hws := HG3.out.size
      go_wp2_with ((with_reducible show wpList _ _ _ (⟨some 12, _, _, _, _, _⟩ :: _) _ _); refine hold ?_)
      have h3 : Bk (w3.alloc (.cells #[.int .i64 (v : Int)] 3)) w3.heap.size 3 #[.int .i64 (v : Int)] := Bk.new _ _ _
      refine held (wpList_append_one rfl (.tmp 8) (.tmp 11) 30 rfl Tryd.underlying30 info_intE rfl (by omega) w.heap.size A2 N c2 _ rfl (HO3.out.alloc _) w3.heap.size 0 (.int .i64 (v : Int)) rfl (h3.cell 0) rfl (by omega) (by simp; omega) ?_)
      intro A4 c4 w4 ho4 hb4
      have hb5 : Below w.heap.size w3 w4 := ((Below.refl _ _).alloc hws _).trans hb4
      have HO4 : Hid (OwnV w4 w.heap.size 3 A4 (N + 1) c4 ((rdI (k + 1) l0 e0).1.map ints)) := Lib.hid (by rw [HSK.out.1, List.map_append]; exact ho4)
      have HR4 := Lib.hid (HR3.out.below hb5 HG.out)
      have HG4 := Lib.hid (grown_below HG3.out hb5)
      clear h3 ho4 hb4 hb5 hws HO3 HR3 HG3
      go_wp2_with fail
      go_roundw
      case rel => exact ⟨k + 1, N + 1, A4, c4, by omega, by go_num, by rw [HNK.out], rfl, HO4.out, HR4.out, HG4.out⟩
      case measure => simp [intOf]; omega
    · have hkm : ¬ (k : Int) < (m : Int) := by omega
      obtain rfl : k = m := by omega
      go_wp2_with fail
      go_ret
      exact HN.out _ _ ⟨A2, N, c2, rfl, hN60, HO.out, HR.out, HGW.out⟩

def NextS (g : Nat) (l : List Nat) (er : Nat) (w : World) (e : Ending) (w' : World) : Prop := ∃ A N c, e = .returned (.slice A N c) ∧ N ≤ 60 ∧ OwnK 2 rgC w' w.heap.size 65 A N c (rdS (countV l er 60) (takeL l er 8) (countE l er 60)) ∧
  RdP w' g (rdI (2 * countV l er 60) (takeL l er 8) (countE l er 60)).2.1 (rdI (2 * countV l er 60) (takeL l er 8) (countE l er 60)).2.2 ∧ w.grownBy w' (some g)
theorem rgC_oneE (r : Rg) : ∀ u ∈ rgC r, u.oneCell' = true := by
  intro u hu
  unfold rgC at hu
  simp only [List.mem_cons, List.not_mem_nil, or_false] at hu
  rcases hu with rfl | rfl <;> rfl
set_option maxRecDepth 20000 in
set_option maxHeartbeats 4000000 in
theorem evnextSet_any (g er : Nat) (l : List Nat) (w : World) (hr : RdP w g l er) (hl : l.length ≤ 140737488355328) (hb : ∀ x ∈ l, x < 256) :
    Calls Tryd.prog 56 #[.pointer (some ⟨g, 0, none⟩)] w (NextS g l er w) := by
  have HC := Lib.hid (pCount60 g er l w hr hl hb)
  have HG := Lib.hid hr.lt
  have HT : Hid ((takeL l er 8).length ≤ 140737488355328 ∧ ∀ x ∈ takeL l er 8, x < 256) := Lib.hid ⟨Nat.le_trans takeL_len hl, takeL_lt hb⟩
  have hm60 := count60 l er
  obtain ⟨m, hm⟩ : ∃ m, countV l er 60 = m := ⟨_, rfl⟩
  obtain ⟨l0, hl0⟩ : ∃ q, takeL l er 8 = q := ⟨_, rfl⟩
  obtain ⟨e0, he0⟩ : ∃ q, countE l er 60 = q := ⟨_, rfl⟩
  have HN : Hid (∀ e w', (∃ A N c, e = .returned (.slice A N c) ∧ N ≤ 60 ∧ OwnK 2 rgC w' w.heap.size 65 A N c (rdS m l0 e0) ∧ RdP w' g (rdI (2 * m) l0 e0).2.1 (rdI (2 * m) l0 e0).2.2 ∧ w.grownBy w' (some g)) → NextS g l er w e w') := Lib.hid (by
    intro e w' H
    unfold NextS
    rw [hm, hl0, he0]
    exact H)
  rw [hm] at hm60
  rw [hm, hl0, he0] at HC
  rw [hl0] at HT
  clear hr hl hb hm hl0 he0
  go_enter Tryd.func56, Tryd.ntmps56
  go_wp2_with fail
  refine HC.out.mono ?_
  rintro e w2 ⟨rfl, hr2, hg2⟩
  have R2 := Lib.hid hr2
  have G2 := Lib.hid hg2
  clear hr2 hg2 HC
  go_wp2_with fail
  go_loopw [3, 8] (fun o i wx => ∃ (k N : Nat) (A2 : Option Addr) (c2 : Nat), k ≤ m ∧ i = .int .i64 (k : Int) ∧ N = k ∧ o = .slice A2 N c2 ∧ OwnK 2 rgC wx w.heap.size 65 A2 N c2 (rdS k l0 e0) ∧ RdP wx g (rdI (2 * k) l0 e0).2.1 (rdI (2 * k) l0 e0).2.2 ∧ w.grownBy wx (some g)) (fun _ i _ => m - (intOf i).toNat)
  case atStart => exact ⟨0, 0, none, 0, Nat.zero_le _, rfl, rfl, rfl, OwnK.nil rgC_len, R2.out, G2.out⟩
  case round =>
    obtain ⟨k, N, A2, c2, hk, rfl, hNk, rfl, ho, hr, hgw⟩ := hrel
    have hN60 : N ≤ 60 := by omega
    have HNK := Lib.hid hNk
    have HO := Lib.hid ho
    have HR := Lib.hid hr
    have HGW := Lib.hid hgw
    clear ho hr hgw hNk R2 G2
    by_cases hlt : k < m
    · have hk0 : (0 : Int) ≤ (k : Int) := by omega
      have hkm : (k : Int) < (m : Int) := by omega
      obtain ⟨q, hq⟩ : ∃ q, 2 * k = q := ⟨_, rfl⟩
      have HSK : Hid (rdS (k + 1) l0 e0 = rdS k l0 e0 ++ [(((numV (rdI q l0 e0).2.1 (rdI q l0 e0).2.2 : Nat) : Int), ((numV (rdI (q + 1) l0 e0).2.1 (rdI (q + 1) l0 e0).2.2 : Nat) : Int))]) := Lib.hid (by rw [← hq]; rfl)
      have HQ2 : Hid (2 * (k + 1) = q + 1 + 1) := Lib.hid (by omega)
      rw [hq] at HR
      have CN := Lib.hid (pNum_any g _ _ wr HR.out (Nat.le_trans (rdI_shorter q) HT.out.1) (rdI_lt HT.out.2 q))
      obtain ⟨v, hv⟩ : ∃ v, numV (rdI q l0 e0).2.1 (rdI q l0 e0).2.2 = v := ⟨_, rfl⟩
      rw [hv] at HSK CN
      clear hv hq
      go_wp2_with fail
      refine CN.out.mono ?_
      rintro e w3 ⟨rfl, hr3, hg3⟩
      have hr3' : RdP w3 g (rdI (q + 1) l0 e0).2.1 (rdI (q + 1) l0 e0).2.2 := hr3
      have HO3 := Lib.hid (OwnK.other HO.out hg3 HG.out)
      have HG3 := Lib.hid (grownBy_trans HGW.out hg3)
      have CM := Lib.hid (pNum_any g _ _ w3 hr3' (Nat.le_trans (rdI_shorter (q + 1)) HT.out.1) (rdI_lt HT.out.2 (q + 1)))
      obtain ⟨v2, hv2⟩ : ∃ v, numV (rdI (q + 1) l0 e0).2.1 (rdI (q + 1) l0 e0).2.2 = v := ⟨_, rfl⟩
      rw [hv2] at HSK CM
      clear hv2 hr3 hr3' hg3 CN HO HR HGW
      go_wp2_with fail
      refine CM.out.mono ?_
      rintro e w4 ⟨rfl, hr4, hg4⟩
      have HR4 : Hid (RdP w4 g (rdI (q + 1 + 1) l0 e0).2.1 (rdI (q + 1 + 1) l0 e0).2.2) := Lib.hid hr4
      have HO4 := Lib.hid (OwnK.other HO3.out hg4 HG.out)
      have HG4 := Lib.hid (grownBy_trans HG3.out hg4)
      clear hr4 hg4 CM HO3 HG3
      have hws := HG4.out.size
      go_wp2_with ((with_reducible show wpList _ _ _ (⟨some 19, _, _, _, _, _⟩ :: _) _ _); refine hold ?_)
      have h3 : Bk (w4.alloc (.cells #[.int .i64 (v : Int), .int .i64 (v2 : Int)] 65)) w4.heap.size 65 #[.int .i64 (v : Int), .int .i64 (v2 : Int)] := Bk.new _ _ _
      refine held (wpList_append_k (k := 2) (f := rgC) rfl (.tmp 14) (.tmp 18) 31 rfl Tryd.underlying31 info_rgE rfl (by omega) (by omega) w.heap.size A2 N c2 _ rfl (HO4.out.alloc _) w4.heap.size 0 ((v : Int), (v2 : Int)) rfl h3.range (rgC_oneE _) (by omega) (by simp; omega) ?_)
      intro A4 c4 w5 ho5 hb5 hg5
      have hb6 : Below w.heap.size w4 w5 := ((Below.refl _ _).alloc hws _).trans hb5
      have HO5 : Hid (OwnK 2 rgC w5 w.heap.size 65 A4 (N + 1) c4 (rdS (k + 1) l0 e0)) := Lib.hid (by rw [HSK.out]; exact ho5)
      have HR5 := Lib.hid (HR4.out.below hb6 HG.out)
      have HG5 := Lib.hid (grown_below HG4.out hb6)
      clear h3 ho5 hb5 hb6 hg5 hws HO4 HR4 HG4
      go_wp2_with fail
      go_roundw
      case rel => exact ⟨k + 1, N + 1, A4, c4, by omega, by go_num, by rw [HNK.out], rfl, HO5.out, by rw [HQ2.out]; exact HR5.out, HG5.out⟩
      case measure => simp [intOf]; omega
    · have hkm : ¬ (k : Int) < (m : Int) := by omega
      obtain rfl : k = m := by omega
      go_wp2_with fail
      go_ret
      exact HN.out _ _ ⟨A2, N, c2, rfl, hN60, HO.out, HR.out, HGW.out⟩
end Go.Proofs.YtoiffchhfnbooaaDoor
