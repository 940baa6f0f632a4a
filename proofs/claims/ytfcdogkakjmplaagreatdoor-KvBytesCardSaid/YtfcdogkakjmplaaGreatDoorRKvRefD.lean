/-
  Contracts over the document's own store: bytes' transaction.
-/
import Derived.Test.YtfcdogkakjmplaaGreatDoorQKvTrans
import Derived.Test.YtfcdogkakjmplaaGreatDoorRKvGet
import Derived.Test.YtfcdogkakjmplaaGreatDoorQPackMath
namespace Go.Proofs.YtfcdogkakjmplaaGreatDoor
set_option linter.unusedVariables false
set_option linter.unusedSimpArgs false
open Go.RowKit
set_option linter.unusedVariables false
set_option linter.unusedSimpArgs false

theorem calls_overK {P : Program} {f : FuncId} {args : Array Value} {W : World} {R : Ending → World → Prop} (G : World → Prop) (hG : G W) (h : ∀ W', G W' → Calls P f args W' R) : Calls P f args W R := h W hG
theorem list_overK {P : Program} {ops : Array Oper} {l : List Oper} {a : Act} {W : World} {Q : Exit → Act → World → Prop} (G : World → Prop) (hG : G W) (h : ∀ W', G W' → Hid (wpList P ops Q l a W')) : Hid (wpList P ops Q l a W) := h W hG
theorem frozen_rowK {w : World} {g : Nat} {cs : Array Value} {t : TypeId} (h : w.heap[g]? = some (.cells cs t (0, 0))) (i : Nat) : w.frozen? ⟨g, i, none⟩ = false := by simp [World.frozen?, h]
theorem own_grownK {w w' : World} {g n c : Nat} {A : Option Addr} {l : List Chg} (h : OwnK 3 chgC w (g + 1) 33 A n c l) (hg : w.grownBy w' (some g)) : OwnK 3 chgC w' (g + 1) 33 A n c l := by
  refine ⟨⟨h.1.1, ?_⟩, h.2⟩
  rcases h.1.2 with h0 | ⟨g', cap, cur, hv, hg', hh, r⟩
  · exact .inl h0
  · exact .inr ⟨g', cap, cur, hv, hg', (hg.block g' (Array.getElem?_eq_some_iff.1 hh).1 (fun q => by injection q with q; omega)).trans hh, r⟩
theorem OwnK.drewK {w : World} {base n c : Nat} {A : Option Addr} {l : List Chg} (h : OwnK 3 chgC w base 33 A n c l) (q : Nat) : OwnK 3 chgC (w.drewN q) base 33 A n c l := h
theorem grown_setK (w : World) (b i : Nat) (v : Value) : w.grownBy (w.setCell ⟨b, i, none⟩ v) (some b) :=
  ⟨rfl, rfl, rfl, by simp, fun k hk hr => Below.heap_setCell w ⟨b, i, none⟩ v k (fun e => hr (by rw [e]))⟩
theorem own_set8 {w : World} {base n c b8 : Nat} {A : Option Addr} {l : List Chg} (h : OwnK 3 chgC w base 33 A n c l) (hb : ∀ k, (Value.slice A n c).ownBlock = some k → k ≠ b8) (i : Nat) (v : Value) : OwnK 3 chgC (w.setCell ⟨b8, i, none⟩ v) base 33 A n c l := by
  refine ⟨⟨h.1.1, ?_⟩, h.2⟩
  rcases h.1.2 with h0 | ⟨g', cap, cur, hv, hg', hh, r⟩
  · exact .inl h0
  · exact .inr ⟨g', cap, cur, hv, hg', (Below.heap_setCell w ⟨b8, i, none⟩ v g' (hb g' (by rw [hv]; rfl))).trans hh, r⟩
theorem RdR.belowK {w w' : World} {g B e : Nat} {l : List Nat} (h : RdR w g B l e) (hb : Below (g + 1) w w') (hBg : B ≤ g) : RdR w' g B l e := by
  obtain ⟨A, n, c, h1, h2, h3, h4, h5⟩ := h
  exact ⟨A, n, c, (hb.block g (by omega)).trans h1, h2, h3, h4, h5.below hb (by omega)⟩
theorem err_take {l : List Nat} {e n : Nat} (h : e ≠ 0) : takeE l e n = e ∧ takeV l e n = [] := by
  unfold takeE takeV
  rw [if_neg (fun q => h q.1), if_neg (fun q => h q.1)]
  exact ⟨rfl, rfl⟩
theorem err_num {l : List Nat} {e : Nat} (h : e ≠ 0) : numE l e = e := by
  unfold numE
  rw [(err_take h).2, if_neg (by decide), (err_take h).1]
theorem err_fail {e : Nat} {b : Bool} (h : e ≠ 0) : failE e b = e := by
  unfold failE; rw [if_neg (fun q => h q.1)]
theorem err_text {l : List Nat} {e : Nat} (h : e ≠ 0) : textE l e = e := by
  unfold textE
  rw [(err_take h).2, if_neg (by decide), (err_take (n := 4) h).1, (err_take h).1]
theorem err_next {l : List Nat} {e : Nat} (h : e ≠ 0) : nxE l e = e := by
  have h1 : nxF l e = e := by unfold nxF; rw [err_num h, err_fail h]
  have h2 : nxG l e = e := by unfold nxG; rw [h1, err_text h]
  unfold nxE
  rw [h2]
  split
  · rfl
  · exact err_text h
theorem stK_stay {l0 : List Nat} {e0 j : Nat} (h : (stK l0 e0 j).2.2 ≠ 0) : ∀ i, (stK l0 e0 (j + i)).2.2 = (stK l0 e0 j).2.2
  | 0 => rfl
  | i + 1 => by
    show nxE (stK l0 e0 (j + i)).2.1 (stK l0 e0 (j + i)).2.2 = _
    rw [stK_stay h i, err_next h]
theorem done_err {l : List Nat} {e : Nat} (h : e ≠ 0) : doneE l e = e := by
  unfold doneE; rw [if_neg (fun q => h q.1)]
theorem done_stay {b : List Nat} {j : Nat} (hj : j ≤ countV b 0 400) (h : (stK (takeL b 0 8) (countE b 0 400) j).2.2 ≠ 0) : doneE (stK (takeL b 0 8) (countE b 0 400) j).2.1 (stK (takeL b 0 8) (countE b 0 400) j).2.2 = decD b := by
  obtain ⟨i, hi⟩ : ∃ i, countV b 0 400 = j + i := ⟨countV b 0 400 - j, by omega⟩
  have h1 := stK_stay h i
  unfold decD decS
  rw [hi, done_err h, done_err (by rw [h1]; exact h), h1]

set_option maxRecDepth 20000 in
set_option maxHeartbeats 8000000 in
theorem x6decode_any (A : Option Addr) (n c : Nat) (b : List Nat) (w : World) (hb : Bytes w w.heap.size A n b) (hn : n ≤ 140737488355328) (hnc : n ≤ c) (hcm : c ≤ maxLen) :
    Calls Tryz.prog 13 #[.slice A n c] w (DecIs b w) := by
  have hb256 : ∀ x ∈ b, x < 256 := hb.2.1
  have HBY := Lib.hid hb
  have hm4 := count_le b 0
  have HT : Hid (∀ x ∈ takeL b 0 8, x < 256) := Lib.hid (takeL_lt hb256)
  clear hb
  go_enter Tryz.func13, Tryz.ntmps13
  go_wp2_with fail
  obtain ⟨g, hg⟩ : ∃ g, g = w.heap.size := ⟨_, rfl⟩
  have hba : Below w.heap.size w (w.alloc (.cells #[.slice A n c, .int .i64 0] 80)) := (Below.refl _ _).alloc (Nat.le_refl _) _
  refine calls_overK (fun W => RdR W g g b 0 ∧ Below g w W ∧ g < W.heap.size) ⟨⟨A, n, c, by rw [hg]; exact heap_alloc_new w _, hnc, hcm, hn, by rw [hg]; exact HBY.out.below hba (Nat.le_refl _)⟩, by rw [hg]; exact hba, by rw [hg]; simp⟩ ?_
  rw [← hg]
  rintro w1 ⟨hr1, hb1, hsz1⟩
  have HGW := Lib.hid hg
  have hgB : g ≤ g := Nat.le_refl _
  have HB1 := Lib.hid hb1
  clear hb1 hg hba HBY
  have hcnt := rCount_any g g 0 400 b w1 hr1 hgB (by omega)
  rw [show (((400 : Nat)) : Int) = 400 from rfl] at hcnt
  refine hcnt.mono ?_
  clear hcnt
  rintro e w2 ⟨rfl, hr2, hg2⟩
  have HB2 : Hid (Below g w w2) := Lib.hid (HB1.out.grown hg2 (by have := HB1.out.size; have := HGW.out; omega) (fun k hk => by cases hk; exact hgB))
  have HST := Lib.hid (fun (j : Nat) (hj : j ≤ countV b 0 400) h => done_stay (b := b) (j := j) hj h)
  have HSD : Hid (decS b = stK (takeL b 0 8) (countE b 0 400) (countV b 0 400)) := Lib.hid rfl
  have HDD : Hid (decD b = doneE (decS b).2.1 (decS b).2.2) := Lib.hid rfl
  obtain ⟨l0, hl0⟩ : ∃ q, takeL b 0 8 = q := ⟨_, rfl⟩
  obtain ⟨e0, he0⟩ : ∃ q, countE b 0 400 = q := ⟨_, rfl⟩
  obtain ⟨m, hm⟩ : ∃ q, countV b 0 400 = q := ⟨_, rfl⟩
  rw [hm]
  rw [hl0, he0] at hr2
  rw [hl0, he0, hm] at HST HSD
  rw [hl0] at HT
  rw [hm] at hm4
  have HR2 := Lib.hid hr2
  clear hr1 hr2 hg2 HB1 hl0 he0 hm
  go_wp2_with fail
  go_loopw [5, 6] (fun o i wx => ∃ (j r : Nat) (A2 : Option Addr) (n2 c2 : Nat), j + r = m ∧ i = .int .i64 (r : Int) ∧ o = .slice A2 n2 c2 ∧ OwnK 3 chgC wx (g + 1) 33 A2 n2 c2 (stK l0 e0 j).1 ∧ RdR wx g g (stK l0 e0 j).2.1 (stK l0 e0 j).2.2 ∧ Below g w wx) (fun _ i _ => (intOf i).toNat)
  case atStart => exact ⟨0, m, none, 0, 0, by omega, rfl, rfl, OwnK.nil chgC_len, HR2.out, HB2.out⟩
  case round =>
    obtain ⟨j, r, A2, n2, c2, hjr, rfl, rfl, ho, hr, hb⟩ := hrel
    have HJR := Lib.hid hjr
    have HO := Lib.hid ho
    have HB := Lib.hid hb
    have hn2 := ho.len
    rw [stK_len] at hn2
    have hn2m : n2 ≤ 400 := by omega
    have hglt := hr.lt
    obtain ⟨Ar, nr, cr, hrow, hr3⟩ := hr
    have z1 := cell_of_row wr g 1 _ _ (0, 0) hrow
    have HRR := Lib.hid (show RdR wr g g (stK l0 e0 j).2.1 (stK l0 e0 j).2.2 from ⟨Ar, nr, cr, hrow, hr3⟩)
    clear ho hb HR2 hrow hr3
    have HLL : Hid (∀ x ∈ (stK l0 e0 j).2.1, x < 256) := Lib.hid (stK_lt l0 e0 HT.out j)
    have HSK : Hid (stK l0 e0 (j + 1) = ((stK l0 e0 j).1 ++ [nxC (stK l0 e0 j).2.1 (stK l0 e0 j).2.2], nxL (stK l0 e0 j).2.1 (stK l0 e0 j).2.2, nxE (stK l0 e0 j).2.1 (stK l0 e0 j).2.2)) := Lib.hid rfl
    have HTR : Hid (stK l0 e0 j = ((stK l0 e0 j).1, (stK l0 e0 j).2.1, (stK l0 e0 j).2.2)) := Lib.hid rfl
    obtain ⟨cs, hcs⟩ : ∃ q, (stK l0 e0 j).1 = q := ⟨_, rfl⟩
    obtain ⟨lj, hlj⟩ : ∃ q, (stK l0 e0 j).2.1 = q := ⟨_, rfl⟩
    obtain ⟨ej, hej⟩ : ∃ q, (stK l0 e0 j).2.2 = q := ⟨_, rfl⟩
    rw [hcs] at HO HSK HTR
    rw [hlj] at HRR HSK HLL HTR
    rw [hej] at HRR HSK z1 HTR
    clear hcs hlj hej
    by_cases h0 : 0 < r ∧ ej = 0
    · obtain ⟨h1, h2⟩ := h0
      have hr0 : (0 : Int) < (r : Int) := by omega
      have he0 : ((ej : Int) == 0) = true := by rw [h2]; rfl
      have hw1 : IntKind.i64.wrap ((r : Int) - 1) = (r : Int) - 1 := IntWalk.i64_in _ (by omega)
      have hr1c : (r : Int) - 1 = ((r - 1 : Nat) : Int) := by omega
      clear h2
      go_wp2_with fail
      refine (rNum_any g g ej lj wr HRR.out hgB).mono ?_
      rintro x w3 ⟨rfl, hr3, hg3⟩
      have HR3 := Lib.hid hr3
      have HO3 := Lib.hid (own_grownK HO.out hg3)
      have HB3 : Hid (Below g w w3) := Lib.hid (HB.out.grown hg3 (by have := HB.out.size; have := HGW.out; omega) (fun k hk => by cases hk; exact hgB))
      have HNV := Lib.hid (numV_leK lj ej)
      have HNF : Hid (failE (numE lj ej) (decide ((1 : Int) < (numV lj ej : Int))) = nxF lj ej) := Lib.hid (by unfold nxF; rw [show decide ((1 : Int) < (numV lj ej : Int)) = decide (1 < numV lj ej) from decide_eq_decide.2 (by omega)])
      have HNC : Hid (nxC lj ej = if numV lj ej = 1 then (strOf (nxK lj ej), ⟨#[]⟩, true) else (strOf (nxK lj ej), strOf (textV (nxB lj ej) (nxG lj ej)), false)) := Lib.hid rfl
      have HNL : Hid (nxL lj ej = if numV lj ej = 1 then nxB lj ej else textL (nxB lj ej) (nxG lj ej)) := Lib.hid rfl
      have HNE : Hid (nxE lj ej = if numV lj ej = 1 then nxG lj ej else textE (nxB lj ej) (nxG lj ej)) := Lib.hid rfl
      have HAL : Hid (∀ x ∈ nxA lj ej, x < 256) := Lib.hid (takeL_lt HLL.out)
      have HBL : Hid (∀ x ∈ nxB lj ej, x < 256) := Lib.hid (textL_lt HAL.out)
      obtain ⟨nv, hnv⟩ : ∃ q, numV lj ej = q := ⟨_, rfl⟩
      rw [hnv] at HNV HNF HNC HNL HNE ⊢
      have hnvb := HNV.out
      clear hr3 hg3 hnv HRR HO HB z1
      go_wp2_with fail
      refine (rFailK_any g g (numE lj ej) (decide ((1 : Int) < (nv : Int))) (takeL lj ej 8) w3 HR3.out hgB).mono ?_
      rintro x w4 ⟨rfl, hr4, hg4⟩
      rw [HNF.out] at hr4
      have HR4 : Hid (RdR w4 g g (nxA lj ej) (nxF lj ej)) := Lib.hid hr4
      have HO4 := Lib.hid (own_grownK HO3.out hg4)
      have HB4 : Hid (Below g w w4) := Lib.hid (HB3.out.grown hg4 (by have := HB3.out.size; have := HGW.out; omega) (fun k hk => by cases hk; exact hgB))
      clear hr4 hg4 HR3 HO3 HB3
      by_cases h1v : nv = 1
      · have ev : ((nv : Int) == 1) = true := by rw [h1v]; rfl
        have HNX : Hid (nxC lj ej = (strOf (nxK lj ej), ⟨#[]⟩, true)) := Lib.hid (by rw [HNC.out, if_pos h1v])
        have HSK2 : Hid (nxL lj ej = nxB lj ej ∧ nxE lj ej = nxG lj ej) := Lib.hid ⟨by rw [HNL.out, if_pos h1v], by rw [HNE.out, if_pos h1v]⟩
        rw [HSK2.out.1, HSK2.out.2] at HSK
        clear h1v
        go_wp2_with fail
        refine (rText_any g g (nxF lj ej) (nxA lj ej) w4 HR4.out hgB HAL.out).mono ?_
        rintro x w5 ⟨rfl, hr5, hg5⟩
        have HR5 : Hid (RdR w5 g g (nxB lj ej) (nxG lj ej)) := Lib.hid hr5
        have HO5 := Lib.hid (own_grownK HO4.out hg5)
        have HB5 : Hid (Below g w w5) := Lib.hid (HB4.out.grown hg5 (by have := HB4.out.size; have := HGW.out; omega) (fun k hk => by cases hk; exact hgB))
        rw [show strOf (textV (nxA lj ej) (nxF lj ej)) = strOf (nxK lj ej) from rfl]
        clear hr5 hg5 HR4 HO4 HB4
        go_wp2_with ((with_reducible show wpList _ _ _ (⟨some 44, _, _, _, _, _⟩ :: _) _ _); refine holdK ?_)
        obtain ⟨b8, hb8⟩ : ∃ b, b = w5.heap.size := ⟨_, rfl⟩
        have hba : Below w5.heap.size w5 (w5.alloc (.cells #[.string (strOf (nxK lj ej)), .string ⟨#[]⟩, .bool true] 33)) := (Below.refl _ _).alloc (Nat.le_refl _) _
        refine list_overK (fun W => W.heap[b8]? = some (.cells #[.string (strOf (nxK lj ej)), .string ⟨#[]⟩, .bool true] 33 (0, 0)) ∧ RdR W g g (nxB lj ej) (nxG lj ej) ∧ OwnK 3 chgC W (g + 1) 33 A2 n2 c2 cs ∧ Below g w W) ⟨by rw [hb8]; exact heap_alloc_new w5 _, HR5.out.belowK (hba.mono HR5.out.lt) hgB, HO5.out.alloc _, HB5.out.trans (hba.mono (Nat.le_of_lt HR5.out.lt))⟩ ?_
        rw [← hb8]
        clear hb8 hba HR5 HO5 HB5
        rintro w6 ⟨hrow, hr6, ho6, hb6⟩
        have HR6 := Lib.hid hr6
        have HO6 := Lib.hid ho6
        have HB6 := Lib.hid hb6
        have c0 := cell_of_row w6 b8 0 _ _ (0, 0) hrow
        have c1 := cell_of_row w6 b8 1 _ _ (0, 0) hrow
        have c2_ := cell_of_row w6 b8 2 _ _ (0, 0) hrow
        clear hrow hr6 ho6 hb6
        refine heldK ?_
        go_wp2_with ((with_reducible show wpList _ _ _ (⟨some 46, _, _, _, _, _⟩ :: _) _ _); refine holdK ?_)
        refine heldK (wpList_append_k (k := 3) (f := chgC) rfl (.tmp 43) (.tmp 45) 22 rfl Tryz.underlying22 info_chg rfl (by omega) (by omega) (g + 1) A2 n2 c2 cs rfl (HO6.out.alloc _) w6.heap.size 0 (strOf (nxK lj ej), ⟨#[]⟩, true) rfl (by
          intro q v hv
          rw [Nat.zero_add, cell_of_row _ w6.heap.size q _ _ (0, 0) (heap_alloc_new w6 _)]
          unfold chgC at hv
          simpa [List.getElem?_toArray] using hv) (chgC_one _) (by omega) (by have := HB6.out.size; have := HGW.out; have := HR6.out.lt; simp; omega) ?_)
        intro A5 c5 w9 ho9 hb9 hg9
        have HO9 : Hid (OwnK 3 chgC w9 (g + 1) 33 A5 (n2 + 1) c5 (stK l0 e0 (j + 1)).1) := Lib.hid (by rw [HSK.out, HNX.out]; exact ho9)
        have hrl := HR6.out.lt
        have hbb : Below (g + 1) w6 w9 := ((Below.refl _ _).alloc (by omega) _).trans hb9
        have HR9 : Hid (RdR w9 g g (stK l0 e0 (j + 1)).2.1 (stK l0 e0 (j + 1)).2.2) := Lib.hid (by rw [HSK.out]; exact HR6.out.belowK hbb hgB)
        have HB9 := Lib.hid (HB6.out.trans (hbb.mono (by omega)))
        clear ho9 hb9 hg9 hbb hrl
        go_wp2_with fail
        go_roundw
        case rel => exact ⟨j + 1, r - 1, A5, n2 + 1, c5, by omega, by first | rfl | rw [hr1c], rfl, HO9.out, HR9.out, HB9.out⟩
        case measure => simp [intOf]; omega
      · have ev : ((nv : Int) == 1) = false := by rw [beq_eq_false_iff_ne]; omega
        have HNX : Hid (nxC lj ej = (strOf (nxK lj ej), strOf (textV (nxB lj ej) (nxG lj ej)), false)) := Lib.hid (by rw [HNC.out, if_neg h1v])
        have HSK2 : Hid (nxL lj ej = textL (nxB lj ej) (nxG lj ej) ∧ nxE lj ej = textE (nxB lj ej) (nxG lj ej)) := Lib.hid ⟨by rw [HNL.out, if_neg h1v], by rw [HNE.out, if_neg h1v]⟩
        rw [HSK2.out.1, HSK2.out.2] at HSK
        clear h1v
        go_wp2_with fail
        refine (rText_any g g (nxF lj ej) (nxA lj ej) w4 HR4.out hgB HAL.out).mono ?_
        rintro x w5 ⟨rfl, hr5, hg5⟩
        have HR5 : Hid (RdR w5 g g (nxB lj ej) (nxG lj ej)) := Lib.hid hr5
        have HO5 := Lib.hid (own_grownK HO4.out hg5)
        have HB5 : Hid (Below g w w5) := Lib.hid (HB4.out.grown hg5 (by have := HB4.out.size; have := HGW.out; omega) (fun k hk => by cases hk; exact hgB))
        rw [show strOf (textV (nxA lj ej) (nxF lj ej)) = strOf (nxK lj ej) from rfl]
        clear hr5 hg5 HR4 HO4 HB4
        go_wp2_with fail
        obtain ⟨b8, hb8⟩ : ∃ b, b = w5.heap.size := ⟨_, rfl⟩
        have hg8 : g < b8 := by have := HR5.out.lt; omega
        have HOB : Hid (∀ k, (Value.slice A2 n2 c2).ownBlock = some k → k ≠ b8) := Lib.hid (fun k hk => by have := (HO5.out.1.lt k hk).2; omega)
        have hba : Below w5.heap.size w5 (w5.alloc (.cells #[.string (strOf (nxK lj ej)), .string ⟨#[]⟩, .bool false] 33)) := (Below.refl _ _).alloc (Nat.le_refl _) _
        refine calls_overK (fun W => W.heap[b8]? = some (.cells #[.string (strOf (nxK lj ej)), .string ⟨#[]⟩, .bool false] 33 (0, 0)) ∧ RdR W g g (nxB lj ej) (nxG lj ej) ∧ OwnK 3 chgC W (g + 1) 33 A2 n2 c2 cs ∧ Below g w W ∧ b8 < W.heap.size) ⟨by rw [hb8]; exact heap_alloc_new w5 _, HR5.out.belowK (hba.mono HR5.out.lt) hgB, HO5.out.alloc _, HB5.out.trans (hba.mono (Nat.le_of_lt HR5.out.lt)), by rw [hb8]; simp⟩ ?_
        rw [← hb8]
        clear hb8 hba HR5 HO5 HB5
        rintro w6 ⟨hrow, hr6, ho6, hb6, h86⟩
        refine (rText_any g g (nxG lj ej) (nxB lj ej) w6 hr6 hgB HBL.out).mono ?_
        rintro x w7 ⟨rfl, hr7, hg7⟩
        have hrow7 := (hg7.block b8 h86 (fun q => by injection q with q; omega)).trans hrow
        have HO7 := Lib.hid (own_grownK ho6 hg7)
        have HB7 : Hid (Below g w w7) := Lib.hid (hb6.grown hg7 (by have := hb6.size; have := HGW.out; omega) (fun k hk => by cases hk; exact hgB))
        have HR7 := Lib.hid hr7
        have HROW := Lib.hid hrow7
        have c1 := cell_of_row w7 b8 1 _ _ (0, 0) hrow7
        have f1 := frozen_rowK hrow7 1
        obtain ⟨tv, htv⟩ : ∃ t, strOf (textV (nxB lj ej) (nxG lj ej)) = t := ⟨_, rfl⟩
        rw [htv] at HNX ⊢
        clear hrow hr6 ho6 hb6 hrow7 hr7 hg7 h86 htv
        go_wp2_with ((with_reducible show wpList _ _ _ (⟨some 44, _, _, _, _, _⟩ :: _) _ _); refine holdK ?_)
        refine list_overK (fun W => W.heap[b8]? = some (.cells #[.string (strOf (nxK lj ej)), .string tv, .bool false] 33 (0, 0)) ∧ RdR W g g (textL (nxB lj ej) (nxG lj ej)) (textE (nxB lj ej) (nxG lj ej)) ∧ OwnK 3 chgC W (g + 1) 33 A2 n2 c2 cs ∧ Below g w W) ⟨by have := HROW.out; simp [World.setCell, Array.getElem?_modify, this], HR7.out.grown (grown_setK w7 b8 1 _) (by simp; omega) (fun k hk => by cases hk; omega) (by have := HR7.out.lt; omega), own_set8 HO7.out HOB.out 1 _, HB7.out.setCell (by simp; omega) _⟩ ?_
        clear HROW HR7 HO7 HB7 c1 f1
        rintro w8 ⟨hrow, hr6, ho6, hb6⟩
        have HR6 := Lib.hid hr6
        have HO6 := Lib.hid ho6
        have HB6 := Lib.hid hb6
        have c0 := cell_of_row w8 b8 0 _ _ (0, 0) hrow
        have c1 := cell_of_row w8 b8 1 _ _ (0, 0) hrow
        have c2_ := cell_of_row w8 b8 2 _ _ (0, 0) hrow
        clear hrow hr6 ho6 hb6
        refine heldK ?_
        go_wp2_with ((with_reducible show wpList _ _ _ (⟨some 46, _, _, _, _, _⟩ :: _) _ _); refine holdK ?_)
        refine heldK (wpList_append_k (k := 3) (f := chgC) rfl (.tmp 43) (.tmp 45) 22 rfl Tryz.underlying22 info_chg rfl (by omega) (by omega) (g + 1) A2 n2 c2 cs rfl (HO6.out.alloc _) w8.heap.size 0 (strOf (nxK lj ej), tv, false) rfl (by
          intro q v hv
          rw [Nat.zero_add, cell_of_row _ w8.heap.size q _ _ (0, 0) (heap_alloc_new w8 _)]
          unfold chgC at hv
          simpa [List.getElem?_toArray] using hv) (chgC_one _) (by omega) (by have := HB6.out.size; have := HGW.out; have := HR6.out.lt; simp; omega) ?_)
        intro A5 c5 w9 ho9 hb9 hg9
        have HO9 : Hid (OwnK 3 chgC w9 (g + 1) 33 A5 (n2 + 1) c5 (stK l0 e0 (j + 1)).1) := Lib.hid (by rw [HSK.out, HNX.out]; exact ho9)
        have hrl := HR6.out.lt
        have hbb : Below (g + 1) w8 w9 := ((Below.refl _ _).alloc (by omega) _).trans hb9
        have HR9 : Hid (RdR w9 g g (stK l0 e0 (j + 1)).2.1 (stK l0 e0 (j + 1)).2.2) := Lib.hid (by rw [HSK.out]; exact HR6.out.belowK hbb hgB)
        have HB9 := Lib.hid (HB6.out.trans (hbb.mono (by omega)))
        clear ho9 hb9 hg9 hbb hrl
        go_wp2_with fail
        go_roundw
        case rel => exact ⟨j + 1, r - 1, A5, n2 + 1, c5, by omega, by first | rfl | rw [hr1c], rfl, HO9.out, HR9.out, HB9.out⟩
        case measure => simp [intOf]; omega
    · have HDX : Hid (doneE lj ej = decD b ∧ (decD b = 0 → cs = (decS b).1)) := Lib.hid (by
        by_cases hej : ej = 0
        · have hr0 : r = 0 := by omega
          have hjm : j = m := by omega
          rw [hjm] at HTR
          rw [HDD.out, HSD.out, HTR.out]
          exact ⟨rfl, fun _ => rfl⟩
        · have h2 := HST.out j (by omega) (by rw [HTR.out]; exact hej)
          rw [HTR.out] at h2
          exact ⟨h2, fun h => by rw [done_err hej] at h2; omega⟩)
      have HE : Hid (decE b = if decD b = 0 then (if changesB (decS b).1 = true then 0 else 3) else decD b) := Lib.hid rfl
      have HV : Hid (decV b = if decE b = 0 then (decS b).1 else []) := Lib.hid rfl
      have hdone := rDone_any g g ej lj wr HRR.out hgB
      rw [HDX.out.1] at hdone
      have HDONE := Lib.hid hdone
      have HDC := Lib.hid HDX.out.2
      have HNR : Hid (¬ (0 < r ∧ ej = 0)) := Lib.hid h0
      obtain ⟨dd, hdd⟩ : ∃ q, decD b = q := ⟨_, rfl⟩
      rw [hdd] at HDONE HE HDC
      clear hdone hdd h0 HDX HST HSD HDD
      have hbe : w.heap.size ≤ g + 1 := by have := HGW.out; omega
      have hcond : (r = 0) ∨ (0 < r ∧ ej ≠ 0) := by have := HNR.out; omega
      rcases hcond with hr0 | ⟨hr0, he0⟩
      · have hr1 : ¬ (0 : Int) < (r : Int) := by omega
        clear hr0
        go_wp2_with fail
        refine HDONE.out.mono ?_
        rintro e w' ⟨rfl, rfl⟩
        clear HDONE
        by_cases h0 : dd = 0
        · have HCS := Lib.hid (HDC.out h0)
          have hd1 : ((dd : Int) == 0) = true := by rw [h0]; rfl
          have HD0 := Lib.hid h0
          have hd2 : ((dd : Int) != 0) = false := by rw [h0]; rfl
          have HCM := Lib.hid (x6changes_any A2 n2 c2 cs wr HO.out.col (by omega))
          clear h0
          go_wp2_with fail
          refine HCM.out.mono ?_
          rintro e w6 ⟨rfl, q, hw6⟩
          have HB6 : Hid (Below g w w6) := Lib.hid (by rw [hw6]; exact belowK_drewN HB.out q)
          have HO6 : Hid (OwnK 3 chgC w6 (g + 1) 33 A2 n2 c2 (decS b).1) := Lib.hid (by rw [hw6, ← HCS.out]; exact HO.out.drewK q)
          rw [HCS.out]
          clear hw6 HCM
          cases hcb : changesB (decS b).1
          · have HE0 : Hid (decE b = 3) := Lib.hid (by rw [HE.out, if_pos HD0.out, hcb]; rfl)
            have HV0 : Hid (decV b = []) := Lib.hid (by rw [HV.out, HE0.out]; rfl)
            clear hcb
            go_wp2_with fail
            go_ret2
            exact ⟨none, 0, 0, by rw [HE0.out] <;> rfl, by rw [HV0.out]; exact OwnK.nil chgC_len, by rw [← HGW.out]; exact HB6.out⟩
          · have HE0 : Hid (decE b = 0) := Lib.hid (by rw [HE.out, if_pos HD0.out, hcb]; rfl)
            have HV0 : Hid (decV b = (decS b).1) := Lib.hid (by rw [HV.out, HE0.out]; rfl)
            clear hcb
            go_wp2_with fail
            go_ret2
            exact ⟨A2, n2, c2, by rw [HE0.out] <;> rfl, by rw [HV0.out]; exact HO6.out.from_ hbe, by rw [← HGW.out]; exact HB6.out⟩
        · have hd1 : ((dd : Int) == 0) = false := by rw [beq_eq_false_iff_ne]; omega
          have hd2 : ((dd : Int) != 0) = true := by simp; omega
          have HE0 : Hid (decE b = dd) := Lib.hid (by rw [HE.out, if_neg h0])
          have HV0 : Hid (decV b = []) := Lib.hid (by rw [HV.out, HE0.out, if_neg h0])
          go_wp2_with fail
          go_ret2
          exact ⟨none, 0, 0, by rw [HE0.out] <;> rfl, by rw [HV0.out]; exact OwnK.nil chgC_len, by rw [← HGW.out]; exact HB.out⟩
      · have hr1 : (0 : Int) < (r : Int) := by omega
        have he1 : ((ej : Int) == 0) = false := by rw [beq_eq_false_iff_ne]; omega
        clear hr0 he0
        go_wp2_with fail
        refine HDONE.out.mono ?_
        rintro e w' ⟨rfl, rfl⟩
        clear HDONE
        by_cases h0 : dd = 0
        · have HCS := Lib.hid (HDC.out h0)
          have hd1 : ((dd : Int) == 0) = true := by rw [h0]; rfl
          have HD0 := Lib.hid h0
          have hd2 : ((dd : Int) != 0) = false := by rw [h0]; rfl
          have HCM := Lib.hid (x6changes_any A2 n2 c2 cs wr HO.out.col (by omega))
          clear h0
          go_wp2_with fail
          refine HCM.out.mono ?_
          rintro e w6 ⟨rfl, q, hw6⟩
          have HB6 : Hid (Below g w w6) := Lib.hid (by rw [hw6]; exact belowK_drewN HB.out q)
          have HO6 : Hid (OwnK 3 chgC w6 (g + 1) 33 A2 n2 c2 (decS b).1) := Lib.hid (by rw [hw6, ← HCS.out]; exact HO.out.drewK q)
          rw [HCS.out]
          clear hw6 HCM
          cases hcb : changesB (decS b).1
          · have HE0 : Hid (decE b = 3) := Lib.hid (by rw [HE.out, if_pos HD0.out, hcb]; rfl)
            have HV0 : Hid (decV b = []) := Lib.hid (by rw [HV.out, HE0.out]; rfl)
            clear hcb
            go_wp2_with fail
            go_ret2
            exact ⟨none, 0, 0, by rw [HE0.out] <;> rfl, by rw [HV0.out]; exact OwnK.nil chgC_len, by rw [← HGW.out]; exact HB6.out⟩
          · have HE0 : Hid (decE b = 0) := Lib.hid (by rw [HE.out, if_pos HD0.out, hcb]; rfl)
            have HV0 : Hid (decV b = (decS b).1) := Lib.hid (by rw [HV.out, HE0.out]; rfl)
            clear hcb
            go_wp2_with fail
            go_ret2
            exact ⟨A2, n2, c2, by rw [HE0.out] <;> rfl, by rw [HV0.out]; exact HO6.out.from_ hbe, by rw [← HGW.out]; exact HB6.out⟩
        · have hd1 : ((dd : Int) == 0) = false := by rw [beq_eq_false_iff_ne]; omega
          have hd2 : ((dd : Int) != 0) = true := by simp; omega
          have HE0 : Hid (decE b = dd) := Lib.hid (by rw [HE.out, if_neg h0])
          have HV0 : Hid (decV b = []) := Lib.hid (by rw [HV.out, HE0.out, if_neg h0])
          go_wp2_with fail
          go_ret2
          exact ⟨none, 0, 0, by rw [HE0.out] <;> rfl, by rw [HV0.out]; exact OwnK.nil chgC_len, by rw [← HGW.out]; exact HB.out⟩
end Go.Proofs.YtfcdogkakjmplaaGreatDoor
