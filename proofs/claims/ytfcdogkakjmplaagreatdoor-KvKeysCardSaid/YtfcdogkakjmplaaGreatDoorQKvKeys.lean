/-
  The law KvKeys of package kv, as a walk.
-/
import Derived.Test.YtfcdogkakjmplaaGreatDoorQKvAlive
import Derived.Test.YtfcdogkakjmplaaGreatDoorQKvGet
namespace Go.Proofs.YtfcdogkakjmplaaGreatDoor
set_option linter.unusedVariables false
set_option linter.unusedSimpArgs false
open Go.RowKit Go.Maps
set_option linter.unusedVariables false
set_option linter.unusedSimpArgs false

theorem great_size {l : List Pr} {cs : List Chg} (h : great6B l cs = false) : l.length + cs.length ≤ 20000 ∧ (∀ p ∈ l, p.1.size ≤ 20000 ∧ p.2.size ≤ 20000) := by
  have h1 := of_decide_eq_false h
  refine ⟨by omega, fun p hp => ?_⟩
  have h2 : p.1.size + p.2.size ≤ sumW wP l := sumW_le wP hp
  constructor <;> omega
theorem keys_fn {m l : List Pr} {c : Chg} (hm : Lists m (runF (putsF (fun _ => none) l) [c])) (hl : PairsOk l) : fnOf m = updF (fnOf l) c.1 (if c.2.2 then none else some c.2.1) := by
  rw [← hm.eq_fn, putsF_lists hl.2.2]; rfl
theorem get_gone {m l : List Pr} {ck cv : ByteArray} {cg : Bool} (h : fnOf m = updF (fnOf l) ck (if cg then none else some cv)) : getR (fnOf m) ck = .tuple #[.string (if cg then ⟨#[]⟩ else cv), .bool (!cg)] := by
  unfold getR
  rw [h]
  unfold updF
  rw [if_pos rfl]
  cases cg <;> rfl
theorem get_else {m l : List Pr} {ck key : ByteArray} {v : Option ByteArray} (h : fnOf m = updF (fnOf l) ck v) (hne : key ≠ ck) : getR (fnOf m) key = getR (fnOf l) key := by
  unfold getR
  rw [h]
  unfold updF
  rw [if_neg hne]

set_option maxRecDepth 100000 in
set_option maxHeartbeats 8000000 in
theorem kvKeys_walk (A : Option Addr) (n c : Nat) (l : List Pr) (ck cv : ByteArray) (cg : Bool) (key : ByteArray) (w : World) (hl : ColK 2 pairC w w.heap.size A n l) (hs : ∀ x ∈ l, x.1.size ≤ 140737488355328 ∧ x.2.size ≤ 140737488355328) (hn : n ≤ 140737488355328)
    (hck : ck.size ≤ 140737488355328) (hcv : cv.size ≤ 140737488355328) (ht : Tab w) :
    Calls Tryz.prog 7 #[.slice A n c, .agg #[.string ck, .string cv, .bool cg], .string key] w fun e w' => e = .returned (.bool true) ∧ Below w.heap.size w w' := by
  have HL := Lib.hid hl
  have HS := Lib.hid hs
  have HT := Lib.hid ht
  have HSC : Hid (∀ x ∈ [(ck, cv, cg)], x.1.size ≤ 140737488355328 ∧ x.2.1.size ≤ 140737488355328) := Lib.hid (fun x hx => by rw [List.mem_singleton.1 hx]; exact ⟨hck, hcv⟩)
  clear hl hs ht
  go_enter Tryz.func7, Tryz.ntmps7
  go_wp2_with fail
  refine calls_over (fun W => Bk W w.heap.size 33 #[.string ck, .string cv, .bool cg] ∧ Below w.heap.size w W) ⟨Bk.new w _ _, (Below.refl _ _).alloc (Nat.le_refl _) _⟩ ?_
  rintro W0 ⟨kb, hb⟩
  have HB := Lib.hid hb
  have HK := Lib.hid kb
  clear kb hb
  refine (alive06_any W0 (HT.out.below HB.out HT.out.pos)).mono ?_
  rintro e W1 ⟨rfl, hb1⟩
  have HB1 := Lib.hid (HB.out.trans (hb1.mono HB.out.size))
  have HK1 := Lib.hid (HK.out.below hb1 HK.out.lt)
  have c0 := HK1.out.cell 0
  have c1 := HK1.out.cell 1
  have c2 := HK1.out.cell 2
  clear hb1 HB HK
  go_wp2_with fail
  refine calls_over (fun W => Bk W w.heap.size 33 #[.string ck, .string cv, .bool cg] ∧ ColK 3 chgC W W.heap.size (some ⟨W1.heap.size, 0, none⟩) 1 [(ck, cv, cg)] ∧ Below w.heap.size w W) ⟨HK1.out.alloc _, chgs_fresh W1 _ [(ck, cv, cg)], HB1.out.alloc HB1.out.size _⟩ ?_
  clear c0 c1 c2 HK1 HB1
  rintro W2 ⟨kb, hcc, hb⟩
  have HK := Lib.hid kb
  have HB := Lib.hid hb
  have HG := Lib.hid (great06_any A _ n c 1 1 l [(ck, cv, cg)] W2 (HL.out.later hb) hcc hn (by omega) HS.out HSC.out)
  clear kb hb hcc
  refine HG.out.mono ?_
  rintro e W3 ⟨rfl, q, hw3⟩
  have HB3 : Hid (Below w.heap.size w W3) := Lib.hid (by rw [hw3]; exact belowK_drewN HB.out q)
  have HK3 : Hid (Bk W3 w.heap.size 33 #[.string ck, .string cv, .bool cg]) := Lib.hid (by rw [hw3]; exact HK.out)
  clear hw3 HG HB HK
  cases hg : great6B l [(ck, cv, cg)]
  rotate_left
  · go_wp2_with fail
    go_ret
    exact ⟨rfl, HB3.out⟩
  have HGS := Lib.hid (great_size hg)
  clear hg
  by_cases hk : 200 < key.size
  · have hk' : (200 : Int) < (key.size : Int) := by omega
    go_wp2_with fail
    go_ret
    exact ⟨rfl, HB3.out⟩
  have hk' : ¬ (200 : Int) < (key.size : Int) := by omega
  go_wp2_with fail
  refine (x6pairs_any A n c l W3 (HL.out.later HB3.out) hn).mono ?_
  rintro e W4 ⟨⟨bb, rfl, hbb⟩, q, hw4⟩
  have HB4 : Hid (Below w.heap.size w W4) := Lib.hid (by rw [hw4]; exact belowK_drewN HB3.out q)
  have HK4 : Hid (Bk W4 w.heap.size 33 #[.string ck, .string cv, .bool cg]) := Lib.hid (by rw [hw4]; exact HK3.out)
  clear hw4 HB3 HK3
  cases bb
  · clear hbb
    go_wp2_with fail
    go_ret
    exact ⟨rfl, HB4.out⟩
  have HP := Lib.hid (hbb.1 rfl)
  have c0 := HK4.out.cell 0
  have c1 := HK4.out.cell 1
  have c2 := HK4.out.cell 2
  clear hbb
  go_wp2_with fail
  refine calls_over (fun W => Bk W w.heap.size 33 #[.string ck, .string cv, .bool cg] ∧ ColK 3 chgC W W.heap.size (some ⟨W4.heap.size, 0, none⟩) 1 [(ck, cv, cg)] ∧ Below w.heap.size w W) ⟨HK4.out.alloc _, chgs_fresh W4 _ [(ck, cv, cg)], HB4.out.alloc HB4.out.size _⟩ ?_
  clear c0 c1 c2 HK4 HB4
  rintro W5 ⟨kb, hcc, hb⟩
  have HK := Lib.hid kb
  have HB := Lib.hid hb
  have HG := Lib.hid (x6changes_any _ 1 1 [(ck, cv, cg)] W5 hcc (by omega))
  clear kb hb hcc
  refine HG.out.mono ?_
  rintro e W6 ⟨rfl, q, hw6⟩
  have HB6 : Hid (Below w.heap.size w W6) := Lib.hid (by rw [hw6]; exact belowK_drewN HB.out q)
  have HK6 : Hid (Bk W6 w.heap.size 33 #[.string ck, .string cv, .bool cg]) := Lib.hid (by rw [hw6]; exact HK.out)
  clear hw6 HG HB HK
  cases hcb : changesB [(ck, cv, cg)]
  · go_wp2_with fail
    go_ret
    exact ⟨rfl, HB6.out⟩
  clear hcb
  have c0 := HK6.out.cell 0
  have c1 := HK6.out.cell 1
  have c2 := HK6.out.cell 2
  go_wp2_with fail
  refine calls_over (fun W => Bk W w.heap.size 33 #[.string ck, .string cv, .bool cg] ∧ ColK 3 chgC W W.heap.size (some ⟨W6.heap.size, 0, none⟩) 1 [(ck, cv, cg)] ∧ Below w.heap.size w W) ⟨HK6.out.alloc _, chgs_fresh W6 _ [(ck, cv, cg)], HB6.out.alloc HB6.out.size _⟩ ?_
  clear c0 c1 c2 HK6 HB6
  rintro W7 ⟨kb, hcc, hb⟩
  have HK := Lib.hid kb
  have HB := Lib.hid hb
  have hn2 : n ≤ 20000 := by have := HGS.out.1; rw [HL.out.1] at this; omega
  have HG := Lib.hid (do_any A n c l _ 1 1 [(ck, cv, cg)] W7 (HL.out.later hb) hcc (fun x hx => (HS.out x hx).1) (fun x hx => (HSC.out x hx).1) (by omega) (by omega))
  clear kb hb hcc
  refine HG.out.mono ?_
  rintro e W8 ⟨A2, n2, c2_, m, rfl, hom, hlm, hb8⟩
  have HB8 := Lib.hid (HB.out.trans (hb8.mono HB.out.size))
  have HK8 := Lib.hid (HK.out.below hb8 HK.out.lt)
  have HM := Lib.hid hom.col
  have HF := Lib.hid (keys_fn hlm HP.out)
  have hn3 : n2 ≤ 20001 := by have := lists_len hlm; have := hom.len; have := HL.out.1; simp only [List.length_singleton] at *; omega
  clear hom hlm hb8 HG HB HK
  go_wp2_with ((with_reducible show wpList _ _ _ (⟨some 42, _, _, _, _, _⟩ :: _) _ _); refine hold ?_)
  have hba : Below W8.heap.size W8 (W8.alloc (.cells #[.int .i64 0, .int .i64 0, .int .i64 0, .int .i64 0, .slice A2 n2 c2_] 41)) := (Below.refl _ _).alloc (Nat.le_refl _) _
  refine list_over (fun W => Bk W w.heap.size 33 #[.string ck, .string cv, .bool cg] ∧ Bk W W8.heap.size 41 #[.int .i64 0, .int .i64 0, .int .i64 0, .int .i64 0, .slice A2 n2 c2_] ∧ ColK 2 pairC W W.heap.size A2 n2 m ∧ Below w.heap.size w W) ⟨HK8.out.below hba HK8.out.lt, Bk.new _ _ _, HM.out.later hba, HB8.out.trans (hba.mono HB8.out.size)⟩ ?_
  obtain ⟨b7, hb7⟩ : ∃ b, b = W8.heap.size := ⟨_, rfl⟩
  rw [← hb7]
  clear hb7 hba HK8 HM HB8
  rintro W9 ⟨kc, ks, hm, hb⟩
  have HK := Lib.hid kc
  have HKS := Lib.hid ks
  have HM := Lib.hid hm
  have HB := Lib.hid hb
  have c0 := kc.cell 0
  obtain ⟨⟨v0, v1, v2, v3, v4⟩, _⟩ := ks.five
  clear kc ks hm hb
  refine held ?_
  go_wp2_with fail
  have hget := get_any (.int .i64 0) (.int .i64 0) (.int .i64 0) (.int .i64 0) A2 n2 c2_ m ck W9 rfl rfl rfl rfl HM.out (by omega)
  rw [get_gone HF.out] at hget
  refine hget.mono ?_
  clear hget c0 v0 v1 v2 v3 v4
  rintro e W10 ⟨rfl, hb10⟩
  have HK2 := Lib.hid (HK.out.below hb10 HK.out.lt)
  have HKS2 := Lib.hid (HKS.out.below hb10 HKS.out.lt)
  have HM2 := Lib.hid (HM.out.later hb10)
  have HB2 := Lib.hid (HB.out.trans (hb10.mono HB.out.size))
  clear hb10 HK HKS HM HB
  have c0 := HK2.out.cell 0
  have c1 := HK2.out.cell 1
  have c2 := HK2.out.cell 2
  have ecv : (cv.toList == cv.toList) = true := by simp
  obtain ⟨⟨v0, v1, v2, v3, v4⟩, _⟩ := HKS2.out.five
  have heq := text_eqb key ck
  cases cg
  all_goals
    simp only [Bool.false_eq_true, if_false, if_true, Bool.not_true, Bool.not_false]
    by_cases he : key = ck
    · rw [decide_eq_true he] at heq
      clear he
      go_wp2_with fail
      go_ret
      exact ⟨rfl, HB2.out⟩
    · rw [decide_eq_false he] at heq
      have HGE := Lib.hid (get_else HF.out he)
      clear he
      go_wp2_with fail
      have hget := get_any (.int .i64 0) (.int .i64 0) (.int .i64 0) (.int .i64 0) A2 n2 c2_ m key W10 rfl rfl rfl rfl HM2.out (by omega)
      rw [HGE.out] at hget
      refine hget.mono ?_
      clear hget
      rintro e W11 ⟨rfl, hb11⟩
      have HB11 := Lib.hid (HB2.out.trans (hb11.mono HB2.out.size))
      clear hb11 c0 c1 c2 v0 v1 v2 v3 v4
      unfold getR
      go_wp2_with fail
      have hget := get_any (.int .i64 0) (.int .i64 0) (.int .i64 0) (.int .i64 0) A n c l key W11 rfl rfl rfl rfl (HL.out.later HB11.out) hn
      refine hget.mono ?_
      clear hget
      rintro e W12 ⟨rfl, hb12⟩
      have HB12 := Lib.hid (HB11.out.trans (hb12.mono HB11.out.size))
      clear hb12 HB11
      unfold getR
      obtain ⟨t, ht⟩ : ∃ t, ((fnOf l key).getD ⟨#[]⟩) = t := ⟨_, rfl⟩
      obtain ⟨bo, hbo⟩ : ∃ b, (fnOf l key).isSome = b := ⟨_, rfl⟩
      rw [ht, hbo]
      have et : (t.toList == t.toList) = true := by simp
      have eb : (bo == bo) = true := by simp
      clear ht hbo
      go_wp2_with fail
      go_ret
      exact ⟨rfl, HB12.out⟩
end Go.Proofs.YtfcdogkakjmplaaGreatDoor


/-
  The law KvSnaps of package kv, as a walk.
-/
namespace Go.Proofs.YtfcdogkakjmplaaGreatDoor
set_option linter.unusedVariables false
set_option linter.unusedSimpArgs false
open Go.RowKit Go.Maps
set_option linter.unusedVariables false
set_option linter.unusedSimpArgs false

theorem snap_take {l : List Pr} (h : PairsOk l) (i : Nat) : ∃ j, Lists (l.take j) (playF (fun _ => none) ((snapL l).take i)) := by
  obtain ⟨css, h1, h2, h3⟩ := snap_parts h.2.1 h.1
  rw [h1, play_take h3, flatten_take, h2, ← List.map_take, runF_puts (fun _ => none), putsF_lists (rising_take h.2.2 _)]
  exact ⟨_, lists_fnOf (rising_take h.2.2 _)⟩
theorem snap_rec {l : List Pr} (h : PairsOk l) {b : List Nat} (hb : b ∈ snapL l) : 8 ≤ b.length ∧ b.length ≤ 6000 ∧ decE b = 0 := by
  obtain ⟨css, h1, h2, h3⟩ := snap_parts h.2.1 h.1
  have h6 := snapL_ok h.2.1 b hb
  rw [h1] at hb
  obtain ⟨cs, hcs, rfl⟩ := List.mem_map.1 hb
  exact ⟨transN_len8 cs, h6.2, (dec_back (h3 cs hcs)).1⟩
theorem play_do {L : List (List Nat)} {k : Nat} (hk : k < L.length) {o m : List Pr} (ho : Lists o (playF (fun _ => none) (L.take k))) (hm : Lists m (runF (putsF (fun _ => none) o) (decV (textAt L k)))) : Lists m (playF (fun _ => none) (L.take (k + 1))) := by
  rw [take_textK hk, playF_snoc, ho.eq_fn]
  rwa [putsF_lists ho.1] at hm
theorem lists_nil : Lists [] (fun _ => none) := ⟨List.Pairwise.nil, fun k v => ⟨fun h => (by cases h), fun h => (by cases h)⟩⟩

set_option maxRecDepth 100000 in
set_option maxHeartbeats 8000000 in
theorem kvSnaps_walk (A : Option Addr) (n c : Nat) (l : List Pr) (w : World) (hl : ColK 2 pairC w w.heap.size A n l) (hs : ∀ x ∈ l, x.1.size ≤ 140737488355328 ∧ x.2.size ≤ 140737488355328) (hn : n ≤ 140737488355328) (ht : Tab w) :
    Calls Tryz.prog 6 #[.slice A n c] w fun e w' => e = .returned (.bool true) ∧ Below w.heap.size w w' := by
  have HL := Lib.hid hl
  have HS := Lib.hid hs
  have HT := Lib.hid ht
  clear hl hs ht
  go_enter Tryz.func6, Tryz.ntmps6
  go_wp2_with fail
  refine (alive06_any w HT.out).mono ?_
  rintro e W1 ⟨rfl, hb1⟩
  have HB1 := Lib.hid hb1
  clear hb1
  go_wp2_with fail
  have HG := Lib.hid (great06_any A none n c 0 0 l [] W1 (HL.out.later HB1.out) ColK.nil hn (by omega) HS.out (fun x hx => by cases hx))
  refine HG.out.mono ?_
  rintro e W3 ⟨rfl, q, hw3⟩
  have HB3 : Hid (Below w.heap.size w W3) := Lib.hid (by rw [hw3]; exact belowK_drewN HB1.out q)
  clear hw3 HG HB1
  cases hg : great6B l []
  rotate_left
  · go_wp2_with fail
    go_ret
    exact ⟨rfl, HB3.out⟩
  clear hg
  go_wp2_with fail
  refine (x6pairs_any A n c l W3 (HL.out.later HB3.out) hn).mono ?_
  rintro e W4 ⟨⟨bb, rfl, hbb⟩, q, hw4⟩
  have HB4 : Hid (Below w.heap.size w W4) := Lib.hid (by rw [hw4]; exact belowK_drewN HB3.out q)
  clear hw4 HB3
  cases bb
  · clear hbb
    go_wp2_with fail
    go_ret
    exact ⟨rfl, HB4.out⟩
  have HP := Lib.hid (hbb.1 rfl)
  clear hbb
  have hn4 : n ≤ 400 := by have := HP.out.1; rw [HL.out.1] at this; exact this
  go_wp2_with fail
  refine (snapshot_any A n c l W4 (HL.out.later HB4.out) HS.out (by omega)).mono ?_
  rintro e W5 ⟨A2, n2, c2, us, rfl, hou, hre, hb5⟩
  have hrs := hou.rss hre (snapL_ok HP.out.2.1)
  have HRS := Lib.hid hrs
  have HB5 := Lib.hid (HB4.out.trans (hb5.mono HB4.out.size))
  have HN2 : Hid ((snapL l).length = n2) := Lib.hid hrs.1
  have hn2 : n2 ≤ 401 := by have := snapL_len l; have := HP.out.1; have := HN2.out; omega
  have hn21 : 1 ≤ n2 := by have := List.length_pos_iff.2 (snapL_ne l); have := HN2.out; omega
  clear hou hre hb5 HB4 hrs
  go_wp2_with fail
  go_loopw [4, 5] (fun o i wx => ∃ (k : Nat) (A6 : Option Addr) (n6 c6 : Nat) (m : List Pr), k ≤ n2 ∧ i = .int .i64 (k : Int) ∧ o = .slice A6 n6 c6 ∧ ColK 2 pairC wx wx.heap.size A6 n6 m ∧ Lists m (playF (fun _ => none) ((snapL l).take k)) ∧ W5.heap.size ≤ wx.heap.size ∧ Below W5.heap.size W5 wx) (fun _ i _ => n2 - (intOf i).toNat)
  case atStart => exact ⟨0, none, 0, 0, [], Nat.zero_le _, rfl, rfl, ColK.nil, by rw [List.take_zero]; exact lists_nil, Nat.le_refl _, Below.refl _ _⟩
  case round =>
    obtain ⟨k, A6, n6, c6, m, hk, rfl, rfl, hm, hlm, hws, hbw⟩ := hrel
    have HM := Lib.hid hm
    have HLM := Lib.hid hlm
    have HBW := Lib.hid hbw
    obtain ⟨j, hj⟩ := snap_take HP.out k
    have hmj : m = l.take j := hlm.unique hj
    have hn6 : n6 ≤ 400 := by rw [← hm.1, hmj, List.length_take]; have := HP.out.1; omega
    have HMS : Hid (∀ x ∈ m, x.1.size ≤ 140737488355328) := Lib.hid (fun x hx => by rw [hmj] at hx; exact (HS.out x (List.mem_of_mem_take hx)).1)
    clear hm hlm hbw hj hmj
    by_cases hlt : k < n2
    · have hltL : k < (snapL l).length := by rw [HN2.out]; exact hlt
      obtain ⟨b, o, A', n', c', rfl, hbb, hcell, hnc, hcm, hn', hby⟩ := (HRS.out.below HBW.out (Nat.le_refl _)).at_ hlt
      have hk0 : (0 : Int) ≤ (k : Int) := by omega
      have hkn : (k : Int) < (n2 : Int) := by omega
      have hmem : textAt (snapL l) k ∈ snapL l := textAt_mem hltL
      obtain ⟨h8, h6, h0⟩ := snap_rec HP.out hmem
      have hlen : (textAt (snapL l) k).length = n' := hby.1
      have h8' : ¬ (n' : Int) < 8 := by omega
      have h6' : ¬ (6000 : Int) < (n' : Int) := by omega
      have HD0 := Lib.hid h0
      have HLT := Lib.hid hltL
      have hbr : b < wr.heap.size := by omega
      have HDC := Lib.hid (decode_any A' n' c' wr.heap.size (textAt (snapL l) k) wr (hby.more hws) hn')
      clear hmem h0 hby hlen h8 h6
      go_wp2_with fail
      refine HDC.out.mono ?_
      intro e W2 hdec
      obtain ⟨A7, n7, c7, rfl, ho7, hb7⟩ := dec_ok hdec HD0.out
      have hn7 : n7 ≤ 400 := by rw [← ho7.len]; exact decV_len _
      have hcell2 := (hb7.cell (p := ⟨b, o + k, none⟩) hbr).trans hcell
      have HDO := Lib.hid (do_any A6 n6 c6 m A7 n7 c7 (decV (textAt (snapL l) k)) W2 (HM.out.later hb7) ho7.col HMS.out (fun y hy => by have := (decV_size _ y hy).1; omega) (by omega) (by omega))
      have HB2 := Lib.hid (HBW.out.trans (hb7.mono HBW.out.size))
      clear hdec ho7 hb7 hcell HDC HM HBW
      go_wp2_with fail
      refine HDO.out.mono ?_
      rintro e W6 ⟨A8, n8, c8, m8, rfl, ho8, hl8, hb8⟩
      have HB6 := Lib.hid (HB2.out.trans (hb8.mono HB2.out.size))
      have HM8 := Lib.hid ho8.col
      have HL8 := Lib.hid (play_do HLT.out HLM.out hl8)
      have hws6 : W5.heap.size ≤ W6.heap.size := HB6.out.size
      clear ho8 hl8 hb8 HDO HB2 hcell2
      go_wp2_with fail
      go_roundw
      case rel => exact ⟨k + 1, A8, n8, c8, m8, by omega, by go_num, rfl, HM8.out, HL8.out, hws6, HB6.out⟩
      case measure => simp [intOf]; omega
    · have hkn : ¬ (k : Int) < (n2 : Int) := by omega
      have hml : m = l := by
        have h1 := HLM.out
        rw [List.take_of_length_le (by rw [HN2.out]; omega)] at h1
        exact h1.unique (PlayOk.snap HP.out).is
      subst hml
      have HB9 := Lib.hid (HB5.out.trans (HBW.out.mono HB5.out.size))
      have h1n : (1 : Int) ≤ (n2 : Int) := by omega
      have hsp := x6samePairs_any A6 A n6 c6 n c m m wr HM.out (HL.out.later HB9.out) (by omega) hn
      rw [decide_eq_true (Eq.refl m)] at hsp
      have HSP := Lib.hid hsp
      clear hsp
      go_wp2_with fail
      refine HSP.out.mono ?_
      rintro e W7 ⟨rfl, q, hw7⟩
      have HB10 : Hid (Below w.heap.size w W7) := Lib.hid (by rw [hw7]; exact belowK_drewN HB9.out q)
      clear hw7 HSP
      go_wp2_with fail
      go_ret
      exact ⟨rfl, HB10.out⟩
end Go.Proofs.YtfcdogkakjmplaaGreatDoor
