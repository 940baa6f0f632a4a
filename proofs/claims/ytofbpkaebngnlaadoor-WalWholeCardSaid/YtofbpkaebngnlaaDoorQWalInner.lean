/-
  Contracts over package wal: what Format, Append and Compact write.
-/
import Derived.Test.YtofbpkaebngnlaaDoorQWalLay
import Derived.Test.YtofbpkaebngnlaaDoorQWalDoor
namespace Go.Proofs.YtofbpkaebngnlaaDoor
set_option linter.unusedVariables false
set_option linter.unusedSimpArgs false
set_option linter.unusedVariables false
set_option linter.unusedSimpArgs false
open Go.RowKit

theorem Bk.two {w : World} {b : Nat} {t : TypeId} {v0 v1 : Value} (h : Bk w b t #[v0, v1]) : w.cell? ⟨b, 0, none⟩ = some v0 ∧ w.cell? ⟨b, 1, none⟩ = some v1 := ⟨h.cell 0, h.cell 1⟩
theorem Bk.one {w : World} {b : Nat} {t : TypeId} {v0 : Value} (h : Bk w b t #[v0]) : w.cell? ⟨b, 0, none⟩ = some v0 := h.cell 0
/-- the log's cells -/
def logV (h g u k : Int) : Array Value := #[.int .i64 h, .int .i64 g, .int .i64 u, .int .i64 k]

set_option maxRecDepth 20000 in
set_option maxHeartbeats 1000000 in
theorem writes_compact (w : World) (d : Dk) (bh bl bL o size gen : Nat) (h u k : Int) (A : Option Addr) (n c : Nat) (L : List (List Nat)) (hh : Bk w bh 53 #[.int .i64 (o : Int), .int .i64 (size : Int)]) (hl : Bk w bl 35 (logV h gen u k))
    (hbL : Bk w bL 33 #[.slice A n c]) (hL : Rss w w.heap.size A n L) (ht : Tab w) (hok : ∀ b ∈ L, okR b) (hne : 0 < n) (hn : n ≤ 4096) (ho : o ≤ 4096) (hsz : size ≤ 4096) (hgen : gen ≤ 4611686018427387904) :
    Writes w 22 #[.pointer (some ⟨bh, 0, none⟩), .pointer (some ⟨bl, 0, none⟩), .pointer (some ⟨bL, 0, none⟩)] d (runM d (layD o size gen L)) := by
  intro W g hb hg hp
  obtain ⟨p0, p1⟩ := (hh.below hb hh.lt).two
  obtain ⟨⟨q0, q1, q2, q3⟩, _⟩ := Bk.four (show Bk W bl 35 #[.int .i64 h, .int .i64 (gen : Int), .int .i64 u, .int .i64 k] from hl.below hb hl.lt)
  have r0 := (hbL.below hb hbL.lt).one
  have hL2 := (hL.below hb (Nat.le_refl _)).more hg
  have ht2 := ht.below hb ht.pos
  have hpos := ht.pos
  show Calls Tryd.prog 22 #[.pointer (some ⟨g, 0, none⟩), .pointer (some ⟨bh, 0, none⟩), .pointer (some ⟨bl, 0, none⟩), .pointer (some ⟨bL, 0, none⟩)] W _
  clear hh hl hbL hL ht hb
  go_enter Tryd.func22, Tryd.ntmps22
  go_wp2_with fail
  refine (penlay_any g d o size gen A n c L W hp hL2 ht2 (by omega) hok hne hn ho hsz hgen).mono ?_
  rintro e w1 hr
  generalize runM d (layD o size gen L) = x at *
  have HR := Lib.hid hr
  have he := hr.1
  by_cases h0 : x.2 = 0
  · rw [penE_ok h0] at he
    subst he
    clear hr h0
    go_wp2
    go_end0
    exact HR.out
  · rw [penE_bad h0] at he
    subst he
    clear hr h0
    go_wp2
    exact ⟨rfl, HR.out⟩

set_option maxRecDepth 20000 in
set_option maxHeartbeats 1000000 in
theorem writes_format (w : World) (d : Dk) (bh bL size : Nat) (A : Option Addr) (n c : Nat) (L : List (List Nat)) (hh : Bk w bh 53 #[.int .i64 0, .int .i64 (size : Int)])
    (hbL : Bk w bL 33 #[.slice A n c]) (hL : Rss w w.heap.size A n L) (ht : Tab w) (hok : ∀ b ∈ L, okR b) (hne : 0 < n) (hn : n ≤ 4096) (hsz : size ≤ 4096) :
    Writes w 17 #[.pointer (some ⟨bh, 0, none⟩), .pointer (some ⟨bL, 0, none⟩)] d (runM d (formD size L)) := by
  intro W g hb hg hp
  have hh2 := hh.below hb hh.lt
  have hb2 := hbL.below hb hbL.lt
  obtain ⟨p0, p1⟩ := hh2.two
  have r0 := hb2.one
  have hL2 := (hL.below hb (Nat.le_refl _)).more hg
  have ht2 := ht.below hb ht.pos
  have hpos := ht.pos
  have hbg : bh < g := by have := hh.lt; omega
  have hLg : bL < g := by have := hbL.lt; omega
  have hgW := hp.lt
  have hform : formD size L = [.put size zsec] ++ layD 0 size 1 L := rfl
  have HFORM := Lib.hid hform
  have HA := Lib.hid (At.start hp)
  have HH := Lib.hid hh2
  have HBL := Lib.hid hb2
  show Calls Tryd.prog 17 #[.pointer (some ⟨g, 0, none⟩), .pointer (some ⟨bh, 0, none⟩), .pointer (some ⟨bL, 0, none⟩)] W _
  clear hh hbL hL ht hb hform hh2 hb2 hp
  go_enter Tryd.func17, Tryd.ntmps17
  go_wp2_with ((with_reducible show wpList _ _ _ (⟨some 7, _, _, _, _, _⟩ :: _) _ _); refine hold ?_)
  refine held (wpList_build_to rfl 58 #[] rfl [] rfl (secv zsec).toArray built_zero ?_)
  go_wp2_with fail
  refine (pput_any g d (size : Int) zsec W HA.out.2.1 rfl).mono ?_
  rintro e w1 hr
  have hgr := hr.2.2
  have hr2 := HA.out.put hr
  rw [List.nil_append] at hr2
  have h1 := HH.out.grown hgr (fun e => by injection e with e; omega)
  have h2 := HBL.out.grown hgr (fun e => by injection e with e; omega)
  have hL3 := hL2.below (Below.of_grown (B := g) hgr (Nat.le_refl _) (Nat.le_of_lt hgW)) (Nat.le_refl _)
  have ht3 := ht2.grown hgr (by omega)
  clear p0 p1 r0 hr hgr HH HBL HA hL2 ht2
  obtain ⟨p0, p1⟩ := h1.two
  have r0 := h2.one
  by_cases h0 : (runM d [.put size zsec]).2 = 0
  · obtain ⟨rfl, hat⟩ := At.of hr2 h0
    have HA := Lib.hid hat
    clear hr2 h0 hat h1 h2
    go_wp2_with fail
    refine (penlay_any g _ 0 size 1 A n c L w1 HA.out.2.1 hL3 ht3 (by omega) hok hne hn (by omega) hsz (by omega)).mono ?_
    rintro e w2 hr
    have hr2 := HA.out.more hr
    rw [← HFORM.out] at hr2
    clear HFORM
    generalize formD size L = D at *
    have HR := Lib.hid hr2
    have he := hr2.1
    generalize runM d D = x at *
    by_cases h0 : x.2 = 0
    · rw [penE_ok h0] at he
      subst he
      clear hr hr2 h0
      go_wp2
      go_end0
      exact HR.out
    · rw [penE_bad h0] at he
      subst he
      clear hr hr2 h0
      go_wp2
      exact ⟨rfl, HR.out⟩
  · obtain ⟨he, hall⟩ := hr2.bad h0
    have HALL := Lib.hid hall
    generalize runM d [.put size zsec] = X at *
    subst he
    clear hr2 h0 hall h1 h2 hL3 ht3
    go_wp2
    refine ⟨rfl, ?_⟩
    rw [HFORM.out]
    exact HALL.out _

set_option maxRecDepth 20000 in
set_option maxHeartbeats 4000000 in
theorem writes_append (w : World) (d : Dk) (ba bb bl a gen k : Nat) (h u : Int) (A : Option Addr) (n c : Nat) (b : List Nat) (ha : Bk w ba 3 #[.int .i64 (a : Int)]) (hbb : Bk w bb 32 #[.slice A n c])
    (hl : Bk w bl 35 (logV h gen u k)) (hby : Bytes w w.heap.size A n b) (hnc : n ≤ c) (hc : c ≤ maxLen) (ht : Tab w) (hn : n ≤ 6000) (ha9 : a ≤ 900000) (hgen : gen ≤ 4611686018427387904) (hk : k ≤ 4611686018427387904) :
    Writes w 25 #[.pointer (some ⟨ba, 0, none⟩), .pointer (some ⟨bb, 0, none⟩), .pointer (some ⟨bl, 0, none⟩)] d (runM d (appD a gen k b)) := by
  intro W g hb hg hp
  have ha2 := ha.below hb ha.lt
  have hb2 := hbb.below hb hbb.lt
  have hl2 : Bk W bl 35 #[.int .i64 h, .int .i64 (gen : Int), .int .i64 u, .int .i64 (k : Int)] := hl.below hb hl.lt
  have hby2 := (hby.below hb (Nat.le_refl _)).more hg
  have ht2 := ht.below hb ht.pos
  have hpos := ht.pos
  have hag : ba < g := by have := ha.lt; omega
  have hbg : bb < g := by have := hbb.lt; omega
  have hlg : bl < g := by have := hl.lt; omega
  have hgW := hp.lt
  have hlen : b.length = n := hby.1
  have hms : moreC 0 b < 4294967296 := moreC_lt _ (by omega) hby.2.1
  have HML : Hid (secN (markN gen k n (moreC 0 b)) = markL gen k b) := Lib.hid (by rw [markL, hlen])
  have HD : Hid (appD a gen k b = putsD (a + 1) (bodyL b) ++ [.flush] ++ [.put a (markL gen k b)] ++ [.flush]) := Lib.hid (by unfold appD; simp)
  have HA := Lib.hid (At.start hp)
  have p0 := ha2.one
  have r0 := hb2.one
  show Calls Tryd.prog 25 #[.pointer (some ⟨g, 0, none⟩), .pointer (some ⟨ba, 0, none⟩), .pointer (some ⟨bb, 0, none⟩), .pointer (some ⟨bl, 0, none⟩)] W _
  have HA2 := Lib.hid ha2; have HB2 := Lib.hid hb2; have HL2 := Lib.hid hl2; have HBY := Lib.hid hby2; have HT := Lib.hid ht2
  clear ha hbb hl hby ht hb hp ha2 hb2 hl2 hby2 ht2 hlen
  go_enter Tryd.func25, Tryd.ntmps25
  go_wp2_with fail
  refine (putBytes_at g d (a + 1) ((a : Int) + 1) (by omega) A n c b W HA.out.2.1 HBY.out hnc hc hn (by omega)).mono ?_
  rintro e w1 hr
  have hgr := hr.2.2
  have hr2 := HA.out.more hr
  rw [List.nil_append] at hr2
  replace HA2 := Lib.hid (HA2.out.grown hgr (fun e => by injection e with e; omega))
  replace HB2 := Lib.hid (HB2.out.grown hgr (fun e => by injection e with e; omega))
  replace HL2 := Lib.hid (HL2.out.grown hgr (fun e => by injection e with e; omega))
  replace HBY := Lib.hid (HBY.out.below (Below.of_grown (B := g) hgr (Nat.le_refl _) (Nat.le_of_lt hgW)) (Nat.le_refl _))
  replace HT := Lib.hid (HT.out.grown hgr (by omega))
  clear p0 r0 hr hgr HA
  generalize hP1 : putsD (a + 1) (bodyL b) = P1 at *
  have HP1 := Lib.hid hP1
  clear hP1
  by_cases h0 : (runM d P1).2 = 0
  · obtain ⟨rfl, hat⟩ := At.of hr2 h0
    have HA := Lib.hid hat
    have hgw1 := hat.lt
    clear hr2 h0 hat
    go_wp2_with fail
    refine (pflush_any g _ w1 HA.out.2.1).mono ?_
    rintro e w2 hr
    have hgr := hr.2.2
    have hr2 := HA.out.flush hr
    replace HA2 := Lib.hid (HA2.out.grown hgr (fun e => by injection e with e; omega))
    replace HB2 := Lib.hid (HB2.out.grown hgr (fun e => by injection e with e; omega))
    replace HL2 := Lib.hid (HL2.out.grown hgr (fun e => by injection e with e; omega))
    replace HBY := Lib.hid (HBY.out.below (Below.of_grown (B := g) hgr (Nat.le_refl _) (Nat.le_of_lt hgw1)) (Nat.le_refl _))
    replace HT := Lib.hid (HT.out.grown hgr (by omega))
    clear hr hgr HA
    generalize hP2 : P1 ++ [.flush] = P2 at *
    have HP2 := Lib.hid hP2
    clear hP2
    by_cases h0 : (runM d P2).2 = 0
    · obtain ⟨rfl, hat⟩ := At.of hr2 h0
      have HA := Lib.hid hat
      have hgw2 := hat.lt
      clear hr2 h0 hat
      go_wp2_with fail
      have hm : Tryd.prog.follows .mixedOrders = true := by kernel_rfl
      refine wp_region_held_drew (S := fun W' => Bk W' ba 3 #[.int .i64 (a : Int)] ∧ Bk W' bb 32 #[.slice A n c] ∧ Bk W' bl 35 #[.int .i64 h, .int .i64 (gen : Int), .int .i64 u, .int .i64 (k : Int)]) hm ⟨HA2.out.drew, HB2.out.drew, HL2.out.drew⟩ (fun hHeld => ?_)
      have HA3 := Lib.hid (HA.out.below ((Below.refl _ _).drew))
      have HBY3 := Lib.hid (HBY.out.below ((Below.refl w2.heap.size w2).drew) (Nat.le_of_lt HA.out.lt))
      have HT3 := Lib.hid (HT.out.below ((Below.refl w2.heap.size w2).drew) HT.out.pos)
      generalize w2.drew = W3 at *
      clear HA2 HB2 HL2 HBY HT HA
      simp only [List.size_toArray, List.length_cons, List.length_nil, Nat.reduceAdd]
      refine wpAnyH_take (i := 0) (v := .pointer (some ⟨g, 0, none⟩)) rfl (by kernel_rfl) (by kernel_rfl) (by kernel_rfl) (fun _ _ _ h => h) (Or.inl ⟨by rfl, fun w0 hC => by simp [execOp, Act.eval, Act.put, go_sem]⟩) hHeld ?_
      try simp only [Act.put, List.setIfInBounds_toArray, List.set_cons_zero, List.set_cons_succ, List.getElem_toArray, List.getElem_cons_zero, List.getElem_cons_succ]
      refine wpAnyH_take (i := 1) (v := .int .i64 (a : Int)) rfl (by kernel_rfl) (by kernel_rfl) (by kernel_rfl) (fun _ _ _ h => h) (Or.inl ⟨by rfl, fun w0 hC => by simp [execOp, Act.eval, Act.put, go_sem, hC.1.one]⟩) hHeld ?_
      try simp only [Act.put, List.setIfInBounds_toArray, List.set_cons_zero, List.set_cons_succ, List.getElem_toArray, List.getElem_cons_zero, List.getElem_cons_succ]
      refine wpAnyH_take (i := 2) (v := .pointer (some ⟨bl, 1, none⟩)) rfl (by kernel_rfl) (by kernel_rfl) (by kernel_rfl) (fun _ _ _ h => h) (Or.inl ⟨by rfl, fun w0 hC => by simp [execOp, Act.eval, Act.put, go_sem]⟩) hHeld ?_
      try simp only [Act.put, List.setIfInBounds_toArray, List.set_cons_zero, List.set_cons_succ, List.getElem_toArray, List.getElem_cons_zero, List.getElem_cons_succ]
      refine wpAnyH_take (i := 3) (v := .int .i64 (gen : Int)) rfl (by kernel_rfl) (by kernel_rfl) (by kernel_rfl) (fun _ _ _ h => h) (Or.inl ⟨by rfl, fun w0 hC => by simp [execOp, Act.eval, Act.put, go_sem, hC.2.2.four.1.2.1]⟩) hHeld ?_
      try simp only [Act.put, List.setIfInBounds_toArray, List.set_cons_zero, List.set_cons_succ, List.getElem_toArray, List.getElem_cons_zero, List.getElem_cons_succ]
      refine wpAnyH_take (i := 4) (v := .pointer (some ⟨bl, 3, none⟩)) rfl (by kernel_rfl) (by kernel_rfl) (by kernel_rfl) (fun _ _ _ h => h) (Or.inl ⟨by rfl, fun w0 hC => by simp [execOp, Act.eval, Act.put, go_sem]⟩) hHeld ?_
      try simp only [Act.put, List.setIfInBounds_toArray, List.set_cons_zero, List.set_cons_succ, List.getElem_toArray, List.getElem_cons_zero, List.getElem_cons_succ]
      refine wpAnyH_take (i := 5) (v := .int .i64 (k : Int)) rfl (by kernel_rfl) (by kernel_rfl) (by kernel_rfl) (fun _ _ _ h => h) (Or.inl ⟨by rfl, fun w0 hC => by simp [execOp, Act.eval, Act.put, go_sem, hC.2.2.four.1.2.2.2]⟩) hHeld ?_
      try simp only [Act.put, List.setIfInBounds_toArray, List.set_cons_zero, List.set_cons_succ, List.getElem_toArray, List.getElem_cons_zero, List.getElem_cons_succ]
      refine wpAnyH_take (i := 6) (v := .slice A n c) rfl (by kernel_rfl) (by kernel_rfl) (by kernel_rfl) (fun _ _ _ h => h) (Or.inl ⟨by rfl, fun w0 hC => by simp [execOp, Act.eval, Act.put, go_sem, hC.2.1.one]⟩) hHeld ?_
      try simp only [Act.put, List.setIfInBounds_toArray, List.set_cons_zero, List.set_cons_succ, List.getElem_toArray, List.getElem_cons_zero, List.getElem_cons_succ]
      refine wpAnyH_ready (rs := [7]) (by kernel_rfl) (by simp) (AllReadyH.cons rfl (fun K hK => ?_) AllReadyH.nil)
      rw [if_pos (by rfl)]
      go_wp2_with fail
      refine (markOf_any gen k A n c b W3 (HBY3.out.more (Nat.le_of_lt HA3.out.lt)) (by omega) HT3.out).mono ?_
      rintro e w4 ⟨rfl, hb4⟩
      have HA4 := Lib.hid (HA3.out.below hb4)
      have hS : _ ∧ _ ∧ _ := And.intro (hHeld.1.below hb4 hHeld.1.lt) (And.intro (hHeld.2.1.below hb4 hHeld.2.1.lt) (hHeld.2.2.below hb4 hHeld.2.2.lt))
      generalize moreC 0 b = sm at *
      clear hb4 HA3 HBY3 HT3
      refine hK.out _ _ hS (fun hHeld => ?_)
      clear hK K
      try simp only [Act.put, List.setIfInBounds_toArray, List.set_cons_zero, List.set_cons_succ, List.getElem_toArray, List.getElem_cons_zero, List.getElem_cons_succ]
      clear hS
      refine wpAnyH_ready (rs := [8]) (by kernel_rfl) (by simp) (AllReadyH.cons rfl (fun K hK => ?_) AllReadyH.nil)
      rw [if_pos (by rfl)]
      go_wp2_with fail
      refine (sector_any gen k n sm w4 hgen hk (by omega) (by omega)).mono ?_
      rintro e w5 ⟨rfl, hb5⟩
      have HA5 := Lib.hid (HA4.out.below hb5)
      have hS : _ ∧ _ ∧ _ := And.intro (hHeld.1.below hb5 hHeld.1.lt) (And.intro (hHeld.2.1.below hb5 hHeld.2.1.lt) (hHeld.2.2.below hb5 hHeld.2.2.lt))
      rw [HML.out]
      clear hb5 HA4 HML
      refine hK.out _ _ hS (fun hHeld => ?_)
      clear hK K
      try simp only [Act.put, List.setIfInBounds_toArray, List.set_cons_zero, List.set_cons_succ, List.getElem_toArray, List.getElem_cons_zero, List.getElem_cons_succ]
      clear hS
      refine wpAnyH_ready (rs := [9]) (by kernel_rfl) (by simp) (AllReadyH.cons rfl (fun K hK => ?_) AllReadyH.nil)
      rw [if_pos (by rfl)]
      go_wp2_with fail
      refine (pput_any g _ (a : Int) (markL gen k b) w5 HA5.out.2.1 (markL_length _ _ _)).mono ?_
      rintro e w6 hr
      have hgr := hr.2.2
      have hr2 := HA5.out.put hr
      have hS : _ ∧ _ ∧ _ := And.intro (hHeld.1.grown hgr (fun e => by injection e with e; omega)) (And.intro (hHeld.2.1.grown hgr (fun e => by injection e with e; omega)) (hHeld.2.2.grown hgr (fun e => by injection e with e; omega)))
      clear hr hgr HA5
      have HD3 : Hid (appD a gen k b = (P2 ++ [.put a (markL gen k b)]) ++ [.flush]) := Lib.hid HD.out
      clear HD HP1 HP2
      generalize P2 ++ [.put a (markL gen k b)] = P3 at *
      by_cases h3 : (runM d P3).2 = 0
      · obtain ⟨rfl, hat3⟩ := At.of hr2 h3
        have HA6 := Lib.hid hat3
        clear hr2 h3 hat3
        refine hK.out _ _ hS (fun hHeld => ?_)
        clear hK K
        try simp only [Act.put, List.setIfInBounds_toArray, List.set_cons_zero, List.set_cons_succ, List.getElem_toArray, List.getElem_cons_zero, List.getElem_cons_succ]
        clear hS
        refine wpAnyH_done (by kernel_rfl) ?_ _
        clear hHeld
        go_wp2_with fail
        refine (pflush_any g _ w6 HA6.out.2.1).mono ?_
        rintro e w7 hr
        have hr2 := HA6.out.flush hr
        rw [← HD3.out] at hr2
        clear hr HA6
        generalize appD a gen k b = PD at *
        have HR := Lib.hid hr2
        have he := hr2.1
        generalize runM d PD = X at *
        by_cases h4 : X.2 = 0
        · rw [penE_ok h4] at he
          subst he
          clear hr2 h4
          go_wp2
          go_end0
          exact HR.out
        · rw [penE_bad h4] at he
          subst he
          clear hr2 h4
          go_wp2
          exact ⟨rfl, HR.out⟩
      · obtain ⟨he, hall⟩ := hr2.bad h3
        have HALL := Lib.hid hall
        generalize runM d P3 = X at *
        subst he
        clear hr2 h3 hall hS
        go_wp2
        refine ⟨rfl, ?_⟩
        rw [HD3.out]
        exact HALL.out _
    · obtain ⟨he, hall⟩ := hr2.bad h0
      have HALL := Lib.hid hall
      have HD2 : Hid (appD a gen k b = P2 ++ ([.put a (markL gen k b)] ++ [.flush])) := Lib.hid (by rw [HD.out]; simp)
      clear HD
      generalize runM d P2 = X at *
      subst he
      clear hr2 h0 hall
      go_wp2
      refine ⟨rfl, ?_⟩
      rw [HD2.out]
      exact HALL.out _
  · obtain ⟨he, hall⟩ := hr2.bad h0
    have HALL := Lib.hid hall
    have HD2 : Hid (appD a gen k b = P1 ++ ([.flush] ++ [.put a (markL gen k b)] ++ [.flush])) := Lib.hid (by rw [HD.out]; simp)
    clear HD
    generalize runM d P1 = X at *
    subst he
    clear hr2 h0 hall
    go_wp2
    refine ⟨rfl, ?_⟩
    rw [HD2.out]
    exact HALL.out _
end Go.Proofs.YtofbpkaebngnlaaDoor
