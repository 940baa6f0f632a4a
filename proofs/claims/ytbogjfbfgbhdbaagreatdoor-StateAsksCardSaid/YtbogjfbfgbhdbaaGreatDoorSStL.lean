/-
 A part of the proof: see the last text.
-/
import Derived.Test.YtbogjfbfgbhdbaaGreatDoorSStJ
import Derived.Test.YtbogjfbfgbhdbaaGreatDoorSStM
import Derived.Test.YtbogjfbfgbhdbaaGreatDoorSRuleD
namespace Go.Proofs.YtbogjfbfgbhdbaaGreatDoor
open List renaming setIfInBounds_toArray → jA, set_cons_zero → jB, set_cons_succ → jC, getElem_toArray → jD, getElem_cons_zero → jE, getElem_cons_succ → jF
set_option linter.unusedVariables false
set_option linter.unusedSimpArgs false
open Go.RowKit
set_option linter.unusedVariables false
set_option linter.unusedSimpArgs false
theorem ColK.mapF {α β : Type} {k : Nat} {f : α → List Value} {f' : β → List Value} {g : α → β} {w : World} {B n : Nat} {A : Option Addr} {l : List α} (h : ColK k f w B A n l) (hf : ∀ x, f' (g x) = f x) : ColK k f' w B A n (l.map g) := by
 refine ⟨by rw [List.length_map]; exact h.1, fun hn => ?_⟩
 obtain ⟨b, o, e, hb, hc⟩ := h.2 hn
 refine ⟨b, o, e, hb, fun i a ha => ?_⟩
 rw [List.getElem?_map] at ha
 cases hq : l[i]? with
 | none => rw [hq] at ha; cases ha
 | some x =>
   rw [hq] at ha
   have e2 : g x = a := Option.some.inj ha
   rw [← e2, hf]
   exact hc i x hq
def dueS (s : Sta) : List Int := (s.tombs.filter (mayGo s)).map Tmb.id
theorem due_rows {s : Sta} {us : List Th} {hs : List Hh} (h1 : us.map Th.t = s.tombs) (h2 : hs.map Hh.hol = s.holds) : dueL s.rules hs s.clock (us.map Th.tm) = dueS s := by
 unfold dueL dueS
 rw [← h1, List.filter_map, List.filter_map, List.map_map, List.map_map]
 have e : ((goesB s.rules hs s.clock) ∘ Th.tm) = (mayGo s ∘ Th.t) := by
  funext x
  show goesB s.rules hs s.clock x.tm = goesB s.rules (s.holds.map Hol.hh) s.clock x.t.tm
  rw [← h2, goes_hol, th_goes]
 rw [e]
 rfl
theorem pair_idT {l : List Tmb} (h : l.Pairwise (fun a b => a.id < b.id)) {a b : Tmb} (ha : a ∈ l) (hb : b ∈ l) (e : a.id = b.id) : a = b := by
 induction l with
 | nil => cases ha
 | cons x l ih =>
   rw [List.pairwise_cons] at h
   rcases List.mem_cons.1 ha with h1 | h1 <;> rcases List.mem_cons.1 hb with h2 | h2
   ·rw [h1, h2]
   ·have := h.1 b h2; rw [h1] at e; omega
   ·have := h.1 a h1; rw [h2] at e; omega
   ·exact ih h.2 h1 h2
theorem Col.boxed14 {w : World} {B n b i : Nat} {A : Option Addr} {l : List Int} {x : Value} (h : Col ints w B A n l) (hx : w.cell? ⟨b, i, none⟩ = some x) (hne : ∀ z, x ≠ .int .i64 z) (v : Value) : Col ints (w.setCell ⟨b, i, none⟩ v) (w.setCell ⟨b, i, none⟩ v).heap.size A n l := by
 refine ⟨h.1, fun hn => ?_⟩
 obtain ⟨b0, o, e, hb, hc⟩ := h.2 hn
 refine ⟨b0, o, e, ?_, fun k a ha => ?_⟩
 ·obtain ⟨a, ha⟩ : ∃ a, l[0]? = some a := ⟨_, List.getElem?_eq_getElem (by rw [h.1]; exact hn)⟩
  have := World.block_lt_of_cell? _ _ (hc 0 a ha)
  simpa [World.setCell] using this
 ·have hk' := hc k a ha
  by_cases hq : b0 = b ∧ o + k = i
  ·obtain ⟨rfl, rfl⟩ := hq
   rw [hx] at hk'
   injection hk' with hk'
   exact absurd hk' (hne _)
  ·rw [← hk']
   exact cell_setCell_ne w b i b0 (o + k) v (fun e1 => hq ⟨e1.1.symm, e1.2.symm⟩)
theorem purge_none {s : Sta} {ids : List Int} : (ids.any fun u => decide (idxN (fun b : Tmb => decide (b.id = u)) s.tombs = 0)) = true ↔ ¬ (∀ u ∈ ids, ∃ t ∈ s.tombs, t.id = u) := by
 rw [List.any_eq_true]
 constructor
 ·rintro ⟨u, hu, hz⟩ h
  obtain ⟨t, ht, he⟩ := h u hu
  have := idx_zero.1 (of_decide_eq_true hz) t ht
  rw [he] at this
  simp at this
 ·intro h
  refine Classical.byContradiction fun hn => h fun u hu => ?_
  refine Classical.byContradiction fun hq => hn ⟨u, hu, decide_eq_true (idx_zero.2 fun t ht => decide_eq_false fun e => hq ⟨t, ht, e⟩)⟩
theorem purge_held {s : Sta} (h : OkSta s) {ids : List Int} (ha : ∀ u ∈ ids, ∃ t ∈ s.tombs, t.id = u) : (ids.any fun u => !decide (u ∈ dueS s)) = true ↔ ¬ (∀ t ∈ s.tombs, t.id ∈ ids → mayGo s t = true) := by
 rw [List.any_eq_true]
 constructor
 ·rintro ⟨u, hu, hz⟩ hall
  obtain ⟨t, ht, he⟩ := ha u hu
  have hg := hall t ht (by rw [he]; exact hu)
  have : u ∈ dueS s := by
   unfold dueS
   rw [← he]
   exact List.mem_map_of_mem (List.mem_filter.2 ⟨ht, hg⟩)
  simp [this] at hz
 ·intro hn
  refine Classical.byContradiction fun hq => hn fun t ht hi => ?_
  have hd : t.id ∈ dueS s := Classical.byContradiction fun hd => hq ⟨t.id, hi, by simp [hd]⟩
  unfold dueS at hd
  obtain ⟨t2, ht2, he⟩ := List.mem_map.1 hd
  have := pair_idT h.tombs.2 (List.mem_filter.1 ht2).1 ht he
  rw [← this]
  exact (List.mem_filter.1 ht2).2
set_option maxRecDepth 20000 in
set_option maxHeartbeats 2000000 in
theorem swpurge1_any (base bs b2 : Nat) (s : Sta) (p : StaAt) (l : List Int) (w : World) (h : ScAt 73 w base bs s p) (hs : SmSta s) (hc : w.cell? ⟨b2, 0, none⟩ = some (.pointer (some ⟨bs, 0, none⟩))) :
 CallP Tryz.prog 177 #[.pointer (some ⟨b2, 0, none⟩)] (fun x => .int .i64 x) TrueP (id : Int → Int) l (fun u => decide (idxN (fun b : Tmb => decide (b.id = u)) s.tombs = 0)) w := by
 intro W x hW hm hx
 show Calls Tryz.prog 177 #[.int .i64 x, .pointer (some ⟨b2, 0, none⟩)] W fun e W' => e = .returned (.bool (decide (idxN (fun b : Tmb => decide (b.id = x)) s.tombs = 0))) ∧ Below W.heap.size W W'
 obtain ⟨cl, boxes, subs, rules, tombs, holds, nv, nt, nh⟩ := s
 obtain ⟨⟨bA, bn, bc⟩, ⟨sA, sn, sc⟩, ⟨rA, rn, rc⟩, ⟨tA, tn, tc⟩, ⟨gA, gn, gc⟩⟩ := p
 have hsc := h.below hW
 have hbk : Bk W bs 73 #[.int .i64 cl, .slice bA bn bc, .slice sA sn sc, .slice rA rn rc, .slice tA tn tc, .slice gA gn gc, .int .i64 nv, .int .i64 nt, .int .i64 nh] := hsc.bk
 obtain ⟨k0, k1, k2, k3, k4, k5, k6, k7, k8⟩ := hbk.nine
 have c0 := (hW.cell (p := ⟨b2, 0, none⟩) (World.block_lt_of_cell? _ _ hc)).trans hc
 have htl : tombs.length = tn := h.own.tb.len
 have CT := Lib.hid (sttombAt_any cl nv nt nh bA sA rA tA gA bn bc sn sc rn rc tn tc gn gc tombs x W (hsc.own.tb.in_ hs.tb hsc.base) (by have := hs.lens.2.2.2.1; simp only at this; omega))
 clear hsc hbk hW hm hx h hs hc htl
 go_enter Tryz.func177, Tryz.ntmps177
 go_wp2_with fail
 refine CT.out.mono ?_
 rintro e w1 ⟨z, rfl, hz, hz1, hz2, hb⟩
 have HB := Lib.hid hb
 have HQ : Hid (decide (idxN (fun b : Tmb => decide (b.id = x)) tombs = 0) = decide (z < 0)) := Lib.hid (by
  by_cases hq : z < 0
  ·rw [decide_eq_true hq, decide_eq_true (by omega)]
  ·rw [decide_eq_false hq, decide_eq_false (by omega)])
 clear hb CT k0 k1 k2 k3 k4 k5 k6 k7 k8 c0
 go_wp2_with fail
 go_ret
 exact ⟨ret_bool (by rw [HQ.out]), HB.out⟩
set_option maxHeartbeats 1000000 in
theorem swpurge2_any (b5 : Nat) (A : Option Addr) (n c : Nat) (due : List Int) (l : List Int) (w : World) (hc : w.cell? ⟨b5, 0, none⟩ = some (.slice A n c)) (hd : Col ints w w.heap.size A n due) (hn : n ≤ 140737488355328) :
 CallP Tryz.prog 179 #[.pointer (some ⟨b5, 0, none⟩)] (fun x => .int .i64 x) TrueP (id : Int → Int) l (fun u => !decide (u ∈ due)) w := by
 intro W x hW hm hx
 show Calls Tryz.prog 179 #[.int .i64 x, .pointer (some ⟨b5, 0, none⟩)] W fun e W' => e = .returned (.bool (!decide (x ∈ due))) ∧ Below W.heap.size W W'
 have c0 := (hW.cell (p := ⟨b5, 0, none⟩) (World.block_lt_of_cell? _ _ hc)).trans hc
 have CI := Lib.hid (containsI_any A n c due x W ((hd.below hW (Nat.le_refl _)).more hW.size) hn)
 clear hc hd hW hm hx
 go_enter Tryz.func179, Tryz.ntmps179
 go_wp2_with fail
 refine CI.out.mono ?_
 rintro e w1 ⟨rfl, rfl⟩
 go_wp2_with fail
 go_ret
 exact ⟨rfl, Below.refl _ _⟩
set_option maxHeartbeats 2000000 in
theorem swpurge3_any (b3 : Nat) (A : Option Addr) (n c : Nat) (ids : List Int) (x : Th) (W : World) (hc : W.cell? ⟨b3, 0, none⟩ = some (.slice A n c)) (hd : Col ints W W.heap.size A n ids) (hn : n ≤ 140737488355328) :
 Calls Tryz.prog 182 (#[.agg (thA x)] ++ #[.pointer (some ⟨b3, 0, none⟩)]) W fun e W' => e = .returned (.bool (decide (x.t.id ∈ ids))) ∧ Below W.heap.size W W' := by
 show Calls Tryz.prog 182 #[.agg (thA x), .pointer (some ⟨b3, 0, none⟩)] W _
 have hb1 : Below W.heap.size W (W.alloc (.cells (thA x) 51)) := (Below.refl _ _).alloc (Nat.le_refl _) _
 have c0 := (hb1.cell (p := ⟨b3, 0, none⟩) (World.block_lt_of_cell? _ _ hc)).trans hc
 have x0 : (thA x)[0]? = some (.int .i64 x.t.id) := rfl
 have CI := Lib.hid (containsI_any A n c ids x.t.id _ ((hd.below hb1 (Nat.le_refl _)).more hb1.size) hn)
 have HB := Lib.hid hb1
 clear hc hd hb1
 go_enter Tryz.func182, Tryz.ntmps182
 go_wp2_with fail
 refine CI.out.mono ?_
 rintro e w1 ⟨rfl, rfl⟩
 go_wp2_with fail
 go_ret
 exact ⟨rfl, HB.out⟩
set_option maxRecDepth 20000 in
set_option maxHeartbeats 16000000 in
theorem swpurge_any (base bs : Nat) (s : Sta) (p : StaAt) (A : Option Addr) (n c : Nat) (ids : List Int) (w : World) (h : ScAt 73 w base bs s p) (hok : OkSta s) (hi : Col ints w base A n ids) (hn : n ≤ 140737488355328) :
 Calls Tryz.prog 105 #[.pointer (some ⟨bs, 0, none⟩), .slice A n c] w (DoIs 73 base bs (purgeS s ids) w) := by
 have hmx : Tryz.prog.follows .mixedOrders = true := by kernel_rfl
 obtain ⟨cl, boxes, subs, rules, tombs, holds, nv, nt, nh⟩ := s
 obtain ⟨⟨bA, bn, bc⟩, ⟨sA, sn, sc⟩, ⟨rA, rn, rc⟩, ⟨tA, tn, tc⟩, ⟨gA, gn, gc⟩⟩ := p
 have hs := hok.small
 have hB : Below w.heap.size w ((w.alloc (.cells #[.pointer (some ⟨bs, 0, none⟩)] 114)).alloc (.cells #[.slice A n c] 29)) := ((Below.refl _ _).alloc (Nat.le_refl _) _).alloc (by simp) _
 have h2 : Bk ((w.alloc (.cells #[.pointer (some ⟨bs, 0, none⟩)] 114)).alloc (.cells #[.slice A n c] 29)) w.heap.size 114 #[.pointer (some ⟨bs, 0, none⟩)] := (Bk.new _ _ _).alloc _
 have h3 : Bk ((w.alloc (.cells #[.pointer (some ⟨bs, 0, none⟩)] 114)).alloc (.cells #[.slice A n c] 29)) (w.heap.size + 1) 29 #[.slice A n c] := Bk.new2 _ _ _ _
 have HWB : Hid (base ≤ w.heap.size) := Lib.hid h.base
 have H := Lib.hid (h.below hB)
 have H2 := Lib.hid h2
 have H3 := Lib.hid h3
 have HI := Lib.hid (hi.below (hB.mono HWB.out) (Nat.le_refl _))
 have HBW : Hid (Below base w ((w.alloc (.cells #[.pointer (some ⟨bs, 0, none⟩)] 114)).alloc (.cells #[.slice A n c] 29))) := Lib.hid (hB.mono HWB.out)
 have HOK := Lib.hid hok
 have HS := Lib.hid hs
 have c3 := h3.cell 0
 clear h hok hi hs hB h2 h3
 go_enter Tryz.func105, Tryz.ntmps105
 go_wp2_with fail
 obtain ⟨b2, hb2⟩ : ∃ b2, w.heap.size = b2 := ⟨_, rfl⟩
 rw [hb2] at H2 H3 HWB c3 ⊢
 generalize ((w.alloc (.cells #[.pointer (some ⟨bs, 0, none⟩)] 114)).alloc (.cells #[.slice A n c] 29)) = w1 at *
 refine (zContainsIn_any 177 #[.pointer (some ⟨b2, 0, none⟩)] (fun u => decide (idxN (fun b : Tmb => decide (b.id = u)) tombs = 0)) A n c ids w1 (Col.intsIn (HI.out.more H.out.base)) hn (enters_of Tryz.func177 (by decide) (by kernel_rfl)) (swpurge1_any base bs b2 ⟨cl, boxes, subs, rules, tombs, holds, nv, nt, nh⟩ ⟨⟨bA, bn, bc⟩, ⟨sA, sn, sc⟩, ⟨rA, rn, rc⟩, ⟨tA, tn, tc⟩, ⟨gA, gn, gc⟩⟩ ids w1 H.out HS.out (H2.out.cell 0))).mono ?_
 rintro e w2 ⟨rfl, hb⟩
 have G := Lib.hid (H.out.below hb)
 have G2 := Lib.hid (H2.out.below hb H2.out.lt)
 have G3 := Lib.hid (H3.out.below hb H3.out.lt)
 have GI := Lib.hid (HI.out.below (hb.mono H.out.base) (Nat.le_refl _))
 have GB := Lib.hid (HBW.out.trans (hb.mono H.out.base))
 clear hb c3 H H2 H3 HI HBW hb2
 cases ha : (ids.any fun u => decide (idxN (fun b : Tmb => decide (b.id = u)) tombs = 0))
 case true =>
  have hno : ¬ (∀ u ∈ ids, ∃ t ∈ tombs, t.id = u) := (purge_none (s := ⟨cl, boxes, subs, rules, tombs, holds, nv, nt, nh⟩)).1 ha
  have HE : Hid ((purgeS ⟨cl, boxes, subs, rules, tombs, holds, nv, nt, nh⟩ ids).2 = 6) := Lib.hid (by unfold purgeS; rw [if_pos hno])
  clear ha hno
  go_wp2_with fail
  go_ret
  exact DoIs.no HE.out (by omega) GB.out
 have hyes : ∀ u ∈ ids, ∃ t ∈ tombs, t.id = u := Classical.byContradiction fun hq => by
  have := (purge_none (s := ⟨cl, boxes, subs, rules, tombs, holds, nv, nt, nh⟩)).2 hq
  simp only at this
  rw [ha] at this
  cases this
 have HY := Lib.hid hyes
 clear ha hyes
 obtain ⟨us, u1, u2, hus⟩ := G.out.own.tb
 have hus1 : ColK 7 thC w2 w2.heap.size tA tn us := OwnK.col u1
 have hus' : us.map Th.t = tombs := hus
 obtain ⟨hs, q1, q2, hhs⟩ := G.out.own.ho.in_ HS.out.ho G.out.base
 have hhs1 : ColK 3 hhC w2 w2.heap.size gA gn hs := q1
 have hhs' : hs.map Hh.hol = holds := hhs
 have hDUE : dueL rules hs cl (us.map Th.tm) = dueS ⟨cl, boxes, subs, rules, tombs, holds, nv, nt, nh⟩ := due_rows (s := ⟨cl, boxes, subs, rules, tombs, holds, nv, nt, nh⟩) hus' hhs'
 have htn : tombs.length = tn := G.out.own.tb.len
 have hrn : rules.length = rn := G.out.own.ru.len
 have hgn : holds.length = gn := G.out.own.ho.len
 have hlens := HS.out.lens
 simp only at hlens
 have CD : Hid (∀ W, Below w2.heap.size w2 W → Calls Tryz.prog 178 #[.slice tA tn tc, .slice rA rn rc, .slice gA gn gc, .int .i64 cl] W (GiveI W (dueS ⟨cl, boxes, subs, rules, tombs, holds, nv, nt, nh⟩))) := Lib.hid (by
  intro W hW
  rw [← hDUE]
  refine rlDue_any rA gA tA rn rc gn gc tn tc rules hs (us.map Th.tm) cl W (G.out.own.ru.col.later hW) (by omega) (HoldsIn.later ⟨hhs1, q2⟩ hW) (by omega) (fun x hx => ?_) ((hus1.mapF (g := Th.tm) (f' := tmC) (fun x => th_tm x)).later hW) (by omega) (fun t ht => ?_) (fun r hr => ?_)
  ·have h1 : x.hol ∈ holds := by rw [← hhs']; exact List.mem_map_of_mem hx
   have h2 := HS.out.ho _ h1
   have h3 := (q2 x hx).1.1
   have h4 : (Hh.hol x).set = x.set := rfl
   rw [h4] at h2
   omega
  ·obtain ⟨x, hx, rfl⟩ := List.mem_map.1 ht
   have h1 : x.t ∈ tombs := by rw [← hus']; exact List.mem_map_of_mem hx
   have h2 := (HOK.out.tombs.1 x.t h1).2.2.2.2.1
   have h3 := HOK.out.clock
   simp only at h2 h3
   show x.t.at_ < _
   omega
  ·have := (HOK.out.rules.1 r hr).2.2
   omega)
 have hbk : Bk w2 bs 73 #[.int .i64 cl, .slice bA bn bc, .slice sA sn sc, .slice rA rn rc, .slice tA tn tc, .slice gA gn gc, .int .i64 nv, .int .i64 nt, .int .i64 nh] := G.out.bk
 have k0 := hbk.cell 0
 have k3 := hbk.cell 3
 have k4 := hbk.cell 4
 have k5 := hbk.cell 5
 have lbs := hbk.lt
 have p0 := G2.out.cell 0
 have lb2 := G2.out.lt
 clear hus hus' hus1 hhs hhs' hhs1 hDUE htn hrn hgn hlens hbk u1 u2 q1 q2
 go_upto_region 3 with (fail)
 go_cut [5] (fun x5 wx => ∃ q A2 n2 c2, x5 = .pointer (some ⟨q, 0, none⟩) ∧ Bk wx q 29 #[.slice A2 n2 c2] ∧ Col ints wx wx.heap.size A2 n2 (dueS ⟨cl, boxes, subs, rules, tombs, holds, nv, nt, nh⟩) ∧ Below w2.heap.size w2 wx)
 case first =>
  go_wp2_with fail
  refine wp_region_held_drew (S := fun W' => Below w2.heap.size w2 W') hmx (Below.refl w2.heap.size w2).drew (fun hHeld => ?_)
  generalize hW0 : w2.drew = W at *
  clear hW0
  simp only [List.size_toArray, List.length_cons, List.length_nil, Nat.reduceAdd]
  refine wpAnyH_take (i := 0) (v := .pointer (some ⟨bs, 0, none⟩)) rfl (by kernel_rfl) (by kernel_rfl) (by kernel_rfl) (fun _ _ _ h => h) (Or.inl ⟨by rfl, fun w0 hC => by simp [execOp, Act.eval, Act.put, go_sem, (hC.cell (p := ⟨b2, 0, none⟩) lb2).trans p0]⟩) hHeld ?_
  try simp only [Act.put, jA, jB, jC, jD, jE, jF]
  refine wpAnyH_take (i := 1) (v := .pointer (some ⟨bs, 0, none⟩)) rfl (by kernel_rfl) (by kernel_rfl) (by kernel_rfl) (fun _ _ _ h => h) (Or.inl ⟨by rfl, fun w0 hC => by simp [execOp, Act.eval, Act.put, go_sem]⟩) hHeld ?_
  try simp only [Act.put, jA, jB, jC, jD, jE, jF]
  refine wpAnyH_take (i := 2) (v := .pointer (some ⟨bs, 0, none⟩)) rfl (by kernel_rfl) (by kernel_rfl) (by kernel_rfl) (fun _ _ _ h => h) (Or.inl ⟨by rfl, fun w0 hC => by simp [execOp, Act.eval, Act.put, go_sem]⟩) hHeld ?_
  try simp only [Act.put, jA, jB, jC, jD, jE, jF]
  refine wpAnyH_take (i := 3) (v := .pointer (some ⟨bs, 4, none⟩)) rfl (by kernel_rfl) (by kernel_rfl) (by kernel_rfl) (fun _ _ _ h => h) (Or.inl ⟨by rfl, fun w0 hC => by simp [execOp, Act.eval, Act.put, go_sem]⟩) hHeld ?_
  try simp only [Act.put, jA, jB, jC, jD, jE, jF]
  refine wpAnyH_take (i := 4) (v := .slice tA tn tc) rfl (by kernel_rfl) (by kernel_rfl) (by kernel_rfl) (fun _ _ _ h => h) (Or.inl ⟨by rfl, fun w0 hC => by simp [execOp, Act.eval, Act.put, go_sem, (hC.cell (p := ⟨bs, 4, none⟩) lbs).trans k4]⟩) hHeld ?_
  try simp only [Act.put, jA, jB, jC, jD, jE, jF]
  refine wpAnyH_take (i := 5) (v := .pointer (some ⟨bs, 0, none⟩)) rfl (by kernel_rfl) (by kernel_rfl) (by kernel_rfl) (fun _ _ _ h => h) (Or.inl ⟨by rfl, fun w0 hC => by simp [execOp, Act.eval, Act.put, go_sem, (hC.cell (p := ⟨b2, 0, none⟩) lb2).trans p0]⟩) hHeld ?_
  try simp only [Act.put, jA, jB, jC, jD, jE, jF]
  refine wpAnyH_take (i := 6) (v := .pointer (some ⟨bs, 0, none⟩)) rfl (by kernel_rfl) (by kernel_rfl) (by kernel_rfl) (fun _ _ _ h => h) (Or.inl ⟨by rfl, fun w0 hC => by simp [execOp, Act.eval, Act.put, go_sem]⟩) hHeld ?_
  try simp only [Act.put, jA, jB, jC, jD, jE, jF]
  refine wpAnyH_take (i := 7) (v := .pointer (some ⟨bs, 0, none⟩)) rfl (by kernel_rfl) (by kernel_rfl) (by kernel_rfl) (fun _ _ _ h => h) (Or.inl ⟨by rfl, fun w0 hC => by simp [execOp, Act.eval, Act.put, go_sem]⟩) hHeld ?_
  try simp only [Act.put, jA, jB, jC, jD, jE, jF]
  refine wpAnyH_take (i := 8) (v := .pointer (some ⟨bs, 3, none⟩)) rfl (by kernel_rfl) (by kernel_rfl) (by kernel_rfl) (fun _ _ _ h => h) (Or.inl ⟨by rfl, fun w0 hC => by simp [execOp, Act.eval, Act.put, go_sem]⟩) hHeld ?_
  try simp only [Act.put, jA, jB, jC, jD, jE, jF]
  refine wpAnyH_take (i := 9) (v := .slice rA rn rc) rfl (by kernel_rfl) (by kernel_rfl) (by kernel_rfl) (fun _ _ _ h => h) (Or.inl ⟨by rfl, fun w0 hC => by simp [execOp, Act.eval, Act.put, go_sem, (hC.cell (p := ⟨bs, 3, none⟩) lbs).trans k3]⟩) hHeld ?_
  try simp only [Act.put, jA, jB, jC, jD, jE, jF]
  refine wpAnyH_take (i := 10) (v := .pointer (some ⟨bs, 0, none⟩)) rfl (by kernel_rfl) (by kernel_rfl) (by kernel_rfl) (fun _ _ _ h => h) (Or.inl ⟨by rfl, fun w0 hC => by simp [execOp, Act.eval, Act.put, go_sem, (hC.cell (p := ⟨b2, 0, none⟩) lb2).trans p0]⟩) hHeld ?_
  try simp only [Act.put, jA, jB, jC, jD, jE, jF]
  refine wpAnyH_take (i := 11) (v := .pointer (some ⟨bs, 0, none⟩)) rfl (by kernel_rfl) (by kernel_rfl) (by kernel_rfl) (fun _ _ _ h => h) (Or.inl ⟨by rfl, fun w0 hC => by simp [execOp, Act.eval, Act.put, go_sem]⟩) hHeld ?_
  try simp only [Act.put, jA, jB, jC, jD, jE, jF]
  refine wpAnyH_take (i := 12) (v := .pointer (some ⟨bs, 0, none⟩)) rfl (by kernel_rfl) (by kernel_rfl) (by kernel_rfl) (fun _ _ _ h => h) (Or.inl ⟨by rfl, fun w0 hC => by simp [execOp, Act.eval, Act.put, go_sem]⟩) hHeld ?_
  try simp only [Act.put, jA, jB, jC, jD, jE, jF]
  refine wpAnyH_take (i := 13) (v := .pointer (some ⟨bs, 5, none⟩)) rfl (by kernel_rfl) (by kernel_rfl) (by kernel_rfl) (fun _ _ _ h => h) (Or.inl ⟨by rfl, fun w0 hC => by simp [execOp, Act.eval, Act.put, go_sem]⟩) hHeld ?_
  try simp only [Act.put, jA, jB, jC, jD, jE, jF]
  refine wpAnyH_take (i := 14) (v := .slice gA gn gc) rfl (by kernel_rfl) (by kernel_rfl) (by kernel_rfl) (fun _ _ _ h => h) (Or.inl ⟨by rfl, fun w0 hC => by simp [execOp, Act.eval, Act.put, go_sem, (hC.cell (p := ⟨bs, 5, none⟩) lbs).trans k5]⟩) hHeld ?_
  try simp only [Act.put, jA, jB, jC, jD, jE, jF]
  refine wpAnyH_take (i := 15) (v := .pointer (some ⟨bs, 0, none⟩)) rfl (by kernel_rfl) (by kernel_rfl) (by kernel_rfl) (fun _ _ _ h => h) (Or.inl ⟨by rfl, fun w0 hC => by simp [execOp, Act.eval, Act.put, go_sem, (hC.cell (p := ⟨b2, 0, none⟩) lb2).trans p0]⟩) hHeld ?_
  try simp only [Act.put, jA, jB, jC, jD, jE, jF]
  refine wpAnyH_take (i := 16) (v := .pointer (some ⟨bs, 0, none⟩)) rfl (by kernel_rfl) (by kernel_rfl) (by kernel_rfl) (fun _ _ _ h => h) (Or.inl ⟨by rfl, fun w0 hC => by simp [execOp, Act.eval, Act.put, go_sem]⟩) hHeld ?_
  try simp only [Act.put, jA, jB, jC, jD, jE, jF]
  refine wpAnyH_take (i := 17) (v := .pointer (some ⟨bs, 0, none⟩)) rfl (by kernel_rfl) (by kernel_rfl) (by kernel_rfl) (fun _ _ _ h => h) (Or.inl ⟨by rfl, fun w0 hC => by simp [execOp, Act.eval, Act.put, go_sem]⟩) hHeld ?_
  try simp only [Act.put, jA, jB, jC, jD, jE, jF]
  refine wpAnyH_take (i := 18) (v := .pointer (some ⟨bs, 0, none⟩)) rfl (by kernel_rfl) (by kernel_rfl) (by kernel_rfl) (fun _ _ _ h => h) (Or.inl ⟨by rfl, fun w0 hC => by simp [execOp, Act.eval, Act.put, go_sem]⟩) hHeld ?_
  try simp only [Act.put, jA, jB, jC, jD, jE, jF]
  refine wpAnyH_take (i := 19) (v := .int .i64 cl) rfl (by kernel_rfl) (by kernel_rfl) (by kernel_rfl) (fun _ _ _ h => h) (Or.inl ⟨by rfl, fun w0 hC => by simp [execOp, Act.eval, Act.put, go_sem, (hC.cell (p := ⟨bs, 0, none⟩) lbs).trans k0]⟩) hHeld ?_
  try simp only [Act.put, jA, jB, jC, jD, jE, jF]
  refine wpAnyH_ready (rs := [20, 21]) (by kernel_rfl) (by simp) (AllReadyH.cons rfl (fun K hK => ?_) (AllReadyH.cons rfl (fun K hK => ?_) AllReadyH.nil))
  ·rw [if_pos (by rfl)]
   go_wp2_with fail
   refine (CD.out W hHeld).mono ?_
   rintro e W2 ⟨A2, n2, c2, rfl, hcol, hb2⟩
   have hS := hHeld.trans (hb2.mono hHeld.size)
   clear hHeld hb2
   refine hK.out _ _ hS (fun hHeld => ?_)
   clear hK K
   try simp only [Act.put, jA, jB, jC, jD, jE, jF]
   clear hS
   generalize W2 = V at *
   have HV := Lib.hid hHeld
   refine wpAnyH_ready (rs := [21]) (by kernel_rfl) (by simp) (AllReadyH.cons rfl (fun K hK => ?_) AllReadyH.nil)
   rw [if_pos (by rfl)]
   go_wp2_with fail
   have hS := hHeld.alloc hHeld.size (.cells #[.slice none 0 0] 29)
   clear hHeld
   refine hK.out _ _ hS (fun hHeld => ?_)
   clear hK K
   try simp only [Act.put, jA, jB, jC, jD, jE, jF]
   clear hS
   refine wpAnyH_ready (rs := [22]) (by kernel_rfl) (by simp) (AllReadyH.cons rfl (fun K hK => ?_) AllReadyH.nil)
   rw [if_pos (by rfl)]
   go_wp2_with fail
   have hS := HV.out.alloc HV.out.size (.cells #[.slice A2 n2 c2] 29)
   clear hHeld
   refine hK.out _ _ hS (fun hHeld => ?_)
   clear hK K
   try simp only [Act.put, jA, jB, jC, jD, jE, jF]
   clear hS
   refine wpAnyH_done (by kernel_rfl) ?_ _
   go_wp2_with fail
   go_meet
   exact ⟨_, A2, n2, c2, rfl, Bk.new _ _ _, (hcol.below ((Below.refl _ _).alloc (Nat.le_refl _) _) (Nat.le_refl _)).more (by simp), hHeld⟩
  ·rw [if_pos (by rfl)]
   go_wp2_with fail
   have HZB : Hid (Bk (W.alloc (.cells #[.slice none 0 0] 29)) W.heap.size 29 #[.slice none 0 0]) := Lib.hid (Bk.new _ _ _)
   have hws := hHeld.size
   obtain ⟨bN, hbN⟩ : ∃ q, W.heap.size = q := ⟨_, rfl⟩
   have hS := hHeld.alloc hHeld.size (.cells #[.slice none 0 0] 29)
   rw [hbN] at HZB ⊢
   have hwN : w2.heap.size ≤ bN := by rw [← hbN]; exact hws
   clear hHeld hbN hws
   generalize W.alloc (.cells #[.slice none 0 0] 29) = V at *
   refine hK.out _ _ hS (fun hHeld => ?_)
   clear hK K
   try simp only [Act.put, jA, jB, jC, jD, jE, jF]
   clear hS
   refine wpAnyH_ready (rs := [20]) (by kernel_rfl) (by simp) (AllReadyH.cons rfl (fun K hK => ?_) AllReadyH.nil)
   rw [if_pos (by rfl)]
   go_wp2_with fail
   refine (CD.out V hHeld).mono ?_
   rintro e W2 ⟨A2, n2, c2, rfl, hcol, hb2⟩
   have HZ2 := Lib.hid (HZB.out.below hb2 HZB.out.lt)
   have hS := hHeld.trans (hb2.mono hHeld.size)
   clear hHeld hb2 HZB
   refine hK.out _ _ hS (fun hHeld => ?_)
   clear hK K
   try simp only [Act.put, jA, jB, jC, jD, jE, jF]
   clear hS
   generalize W2 = U at *
   have z0 := HZ2.out.cell 0
   have z4 := HZ2.out.frozen 0
   refine wpAnyH_ready (rs := [22]) (by kernel_rfl) (by simp) (AllReadyH.cons rfl (fun K hK => ?_) AllReadyH.nil)
   rw [if_pos (by rfl)]
   go_wp2_with fail
   have kz : Bk (U.setCell ⟨bN, 0, none⟩ (.slice A2 n2 c2)) bN 29 #[.slice A2 n2 c2] := by simpa using HZ2.out.put 0 (.slice A2 n2 c2)
   have hmz : Col ints (U.setCell ⟨bN, 0, none⟩ (.slice A2 n2 c2)) (U.setCell ⟨bN, 0, none⟩ (.slice A2 n2 c2)).heap.size A2 n2 (dueS ⟨cl, boxes, subs, rules, tombs, holds, nv, nt, nh⟩) := Col.boxed14 hcol z0 (by intro z hz; cases hz) _
   have hS := hHeld.setCell (p := ⟨bN, 0, none⟩) hwN (.slice A2 n2 c2)
   clear hHeld z0 z4
   refine hK.out _ _ hS (fun hHeld => ?_)
   clear hK K
   try simp only [Act.put, jA, jB, jC, jD, jE, jF]
   clear hS
   refine wpAnyH_done (by kernel_rfl) ?_ _
   go_wp2_with fail
   go_meet
   exact ⟨bN, A2, n2, c2, rfl, kz, hmz, hHeld⟩
 case rest =>
  obtain ⟨q, A2, n2, c2, rfl, kn, hcol, hbw⟩ := hcut
  generalize wc = wm at *
  have F := Lib.hid (G.out.below hbw)
  have F2 := Lib.hid (G2.out.below hbw G2.out.lt)
  have F3 := Lib.hid (G3.out.below hbw G3.out.lt)
  have FI := Lib.hid (GI.out.below (hbw.mono G.out.base) (Nat.le_refl _))
  have FB := Lib.hid (GB.out.trans (hbw.mono G.out.base))
  have KN := Lib.hid kn
  have HCL := Lib.hid hcol
  have HN2 : Hid (n2 ≤ 140737488355328) := Lib.hid (by
   have h1 := hcol.1
   unfold dueS at h1
   rw [List.length_map] at h1
   have h2 := List.length_filter_le (mayGo ⟨cl, boxes, subs, rules, tombs, holds, nv, nt, nh⟩) tombs
   have h3 := HS.out.lens.2.2.2.1
   simp only at h1 h3
   omega)
  have c3 := F3.out.cell 0
  clear kn hcol hbw k0 k3 k4 k5 lbs p0 lb2 G G2 G3 GI GB CD
  go_wp2_with fail
  refine (zContainsIn_any 179 #[.pointer (some ⟨q, 0, none⟩)] (fun u => !decide (u ∈ dueS ⟨cl, boxes, subs, rules, tombs, holds, nv, nt, nh⟩)) A n c ids wm (Col.intsIn (FI.out.more F.out.base)) hn (enters_of Tryz.func179 (by decide) (by kernel_rfl)) (swpurge2_any q A2 n2 c2 (dueS ⟨cl, boxes, subs, rules, tombs, holds, nv, nt, nh⟩) ids wm (KN.out.cell 0) HCL.out HN2.out)).mono ?_
  rintro e w3 ⟨rfl, hb⟩
  have G := Lib.hid (F.out.below hb)
  have G2 := Lib.hid (F2.out.below hb F2.out.lt)
  have G3 := Lib.hid (F3.out.below hb F3.out.lt)
  have GI := Lib.hid (FI.out.below (hb.mono F.out.base) (Nat.le_refl _))
  have GB := Lib.hid (FB.out.trans (hb.mono F.out.base))
  clear hb c3 F F2 F3 FI FB KN HCL HN2
  cases hd : (ids.any fun u => !decide (u ∈ dueS ⟨cl, boxes, subs, rules, tombs, holds, nv, nt, nh⟩))
  case true =>
   have hno : ¬ (∀ t ∈ tombs, t.id ∈ ids → mayGo ⟨cl, boxes, subs, rules, tombs, holds, nv, nt, nh⟩ t = true) := (purge_held HOK.out HY.out).1 hd
   have HE : Hid ((purgeS ⟨cl, boxes, subs, rules, tombs, holds, nv, nt, nh⟩ ids).2 = 12) := Lib.hid (by unfold purgeS; rw [if_neg (fun hq => hq HY.out), if_pos hno])
   clear hd hno
   go_wp2_with fail
   go_ret
   exact DoIs.no HE.out (by omega) GB.out
  have hall : ∀ t ∈ tombs, t.id ∈ ids → mayGo ⟨cl, boxes, subs, rules, tombs, holds, nv, nt, nh⟩ t = true := Classical.byContradiction fun hq => by
   have := (purge_held HOK.out HY.out).2 hq
   rw [hd] at this
   cases this
  have HE2 : Hid (purgeS ⟨cl, boxes, subs, rules, tombs, holds, nv, nt, nh⟩ ids = (⟨cl, boxes, subs, rules, keptL (fun t : Tmb => decide (t.id ∈ ids)) tombs, holds, nv, nt, nh⟩, 0)) := Lib.hid (by
   unfold purgeS
   rw [if_neg (fun hq => hq HY.out), if_neg (fun hq => hq hall)]
   have e : keptL (fun t : Tmb => decide (t.id ∈ ids)) tombs = tombs.filter fun t => decide (t.id ∉ ids) := by
    unfold keptL
    congr 1
    funext t
    simp
   rw [e])
  clear hd hall
  go_wp2_with fail
  have HD := Lib.hid (G.out.below (Below.refl _ _).drew)
  have HD2 := Lib.hid G2.out.drew
  have HD3 := Lib.hid G3.out.drew
  have HDI := Lib.hid (GI.out.below (Below.refl base w3).drew (Nat.le_refl _))
  have HDB := Lib.hid GB.out.drew
  refine wp_region_held_drew (S := fun W' => W'.cell? ⟨b2, 0, none⟩ = some (.pointer (some ⟨bs, 0, none⟩))) hmx (HD2.out.cell 0) (fun hHeld => ?_)
  clear G G2 G3 GI GB
  generalize hW0 : w3.drew = W at *
  clear hW0
  simp only [List.size_toArray, List.length_cons, List.length_nil, Nat.reduceAdd]
  refine wpAnyH_take (i := 0) (v := .pointer (some ⟨bs, 0, none⟩)) rfl (by kernel_rfl) (by kernel_rfl) (by kernel_rfl) (fun _ _ _ h => h) (Or.inl ⟨by rfl, fun w0 hC => by simp [execOp, Act.eval, Act.put, go_sem, hC]⟩) hHeld ?_
  try simp only [Act.put, jA, jB, jC, jD, jE, jF]
  refine wpAnyH_take (i := 1) (v := .pointer (some ⟨bs, 0, none⟩)) rfl (by kernel_rfl) (by kernel_rfl) (by kernel_rfl) (fun _ _ _ h => h) (Or.inl ⟨by rfl, fun w0 hC => by simp [execOp, Act.eval, Act.put, go_sem, hC]⟩) hHeld ?_
  try simp only [Act.put, jA, jB, jC, jD, jE, jF]
  refine wpAnyH_take (i := 2) (v := .pointer (some ⟨bs, 0, none⟩)) rfl (by kernel_rfl) (by kernel_rfl) (by kernel_rfl) (fun _ _ _ h => h) (Or.inl ⟨by rfl, fun w0 hC => by simp [execOp, Act.eval, Act.put, go_sem]⟩) hHeld ?_
  try simp only [Act.put, jA, jB, jC, jD, jE, jF]
  refine wpAnyH_take (i := 3) (v := .pointer (some ⟨bs, 0, none⟩)) rfl (by kernel_rfl) (by kernel_rfl) (by kernel_rfl) (fun _ _ _ h => h) (Or.inl ⟨by rfl, fun w0 hC => by simp [execOp, Act.eval, Act.put, go_sem]⟩) hHeld ?_
  try simp only [Act.put, jA, jB, jC, jD, jE, jF]
  refine wpAnyH_take (i := 4) (v := .pointer (some ⟨bs, 4, none⟩)) rfl (by kernel_rfl) (by kernel_rfl) (by kernel_rfl) (fun _ _ _ h => h) (Or.inl ⟨by rfl, fun w0 hC => by simp [execOp, Act.eval, Act.put, go_sem]⟩) hHeld ?_
  try simp only [Act.put, jA, jB, jC, jD, jE, jF]
  refine wpAnyH_take (i := 6) (v := .func (.func 182) #[] #[.pointer (some ⟨b2 + 1, 0, none⟩)]) rfl (by kernel_rfl) (by kernel_rfl) (by kernel_rfl) (fun _ _ _ h => h) (Or.inl ⟨by rfl, fun w0 hC => by simp [execOp, Act.eval, Act.put, go_sem]⟩) hHeld ?_
  try simp only [Act.put, jA, jB, jC, jD, jE, jF]
  have hbk : Bk W bs 73 #[.int .i64 cl, .slice bA bn bc, .slice sA sn sc, .slice rA rn rc, .slice tA tn tc, .slice gA gn gc, .int .i64 nv, .int .i64 nt, .int .i64 nh] := HD.out.bk
  have k4 := hbk.cell 4
  refine wpAnyH_ready (rs := [5]) (by kernel_rfl) (by simp) (AllReadyH.cons rfl (fun K hK => ?_) AllReadyH.nil)
  rw [if_pos (by rfl)]
  go_wp2_with fail
  refine hK.out _ _ hHeld (fun hHeld => ?_)
  clear hK K
  try simp only [Act.put, jA, jB, jC, jD, jE, jF]
  clear k4 hbk
  have htn : tombs.length = tn := HD.out.own.tb.len
  have hl4 := HS.out.lens.2.2.2.1
  simp only at hl4
  have HTL : Hid (tn ≤ 1000) := Lib.hid (by omega)
  have CDF := Lib.hid (zDeleteFTb_any base 182 #[.pointer (some ⟨b2 + 1, 0, none⟩)] (fun t => decide (t.id ∈ ids)) tA tn tc tombs W HD.out.own.tb HS.out.tb (by have := HTL.out; omega) HD.out.base (enters_of Tryz.func182 (by decide) (by kernel_rfl)) (by
   intro W1 x hg hx hth
   have hbel : Below base W W1 := (Below.refl base W).grown hg HD.out.base (fun k hk => by
    obtain ⟨us0, o1, _, _⟩ := HD.out.own.tb
    exact (o1.1.lt k hk).1)
   refine swpurge3_any (b2 + 1) A n c ids x W1 ?_ ((HDI.out.below hbel (Nat.le_refl _)).more (Nat.le_trans HD.out.base hbel.size)) hn
   refine (World.cell?_of_block (a := ⟨b2 + 1, 0, none⟩) (hg.block (b2 + 1) HD3.out.lt (fun hk => ?_))).trans (HD3.out.cell 0)
   obtain ⟨us0, o1, _, _⟩ := HD.out.own.tb
   have h3 := HD3.out
   unfold Bk at h3
   exact ownsB_type o1.1 (e' := 29) (by decide) (b2 + 1) _ _ hk.symm h3))
  clear htn hl4
  refine wpAnyH_ready (rs := [7]) (by kernel_rfl) (by simp) (AllReadyH.cons rfl (fun K hK => ?_) AllReadyH.nil)
  rw [if_pos (by rfl)]
  go_wp2_with fail
  refine CDF.out.mono ?_
  rintro e V ⟨A4, n4, rfl, hto, hbl, hch⟩
  have hbk4 := HD.out.bk.chg hch (by decide)
  have hst := HD.out.own
  have HST : Hid (StaO V base ⟨cl, boxes, subs, rules, keptL (fun t : Tmb => decide (t.id ∈ ids)) tombs, holds, nv, nt, nh⟩ ⟨⟨bA, bn, bc⟩, ⟨sA, sn, sc⟩, ⟨rA, rn, rc⟩, ⟨A4, n4, tc⟩, ⟨gA, gn, gc⟩⟩) := Lib.hid ⟨hst.bx.chg bhOwns hch (by decide) (by decide), hst.sb.chg hch (by decide), hst.ru.chg hch (by decide), hto, hst.ho.chg hhOwns hch (by decide) (by decide)⟩
  have HBK : Hid (Bk V bs 73 #[.int .i64 cl, .slice bA bn bc, .slice sA sn sc, .slice rA rn rc, .slice tA tn tc, .slice gA gn gc, .int .i64 nv, .int .i64 nt, .int .i64 nh]) := Lib.hid hbk4
  have HB2 := Lib.hid (HD2.out.chg hch (by decide))
  have HBB := Lib.hid (HDB.out.trans hbl)
  clear hto hbl hch hbk4 hst hHeld CDF HD3 HDI HDB HD2
  refine hK.out _ _ (HB2.out.cell 0) (fun hHeld => ?_)
  clear hK K
  try simp only [Act.put, jA, jB, jC, jD, jE, jF]
  refine wpAnyH_take (i := 8) (v := .pointer (some ⟨bs, 0, none⟩)) rfl (by kernel_rfl) (by kernel_rfl) (by kernel_rfl) (fun _ _ _ h => h) (Or.inl ⟨by rfl, fun w0 hC => by simp [execOp, Act.eval, Act.put, go_sem]⟩) hHeld ?_
  try simp only [Act.put, jA, jB, jC, jD, jE, jF]
  refine wpAnyH_take (i := 9) (v := .pointer (some ⟨bs, 0, none⟩)) rfl (by kernel_rfl) (by kernel_rfl) (by kernel_rfl) (fun _ _ _ h => h) (Or.inl ⟨by rfl, fun w0 hC => by simp [execOp, Act.eval, Act.put, go_sem]⟩) hHeld ?_
  try simp only [Act.put, jA, jB, jC, jD, jE, jF]
  refine wpAnyH_take (i := 10) (v := .pointer (some ⟨bs, 4, none⟩)) rfl (by kernel_rfl) (by kernel_rfl) (by kernel_rfl) (fun _ _ _ h => h) (Or.inl ⟨by rfl, fun w0 hC => by simp [execOp, Act.eval, Act.put, go_sem]⟩) hHeld ?_
  try simp only [Act.put, jA, jB, jC, jD, jE, jF]
  have k4 := HBK.out.cell 4
  have f4 := HBK.out.frozen 4
  refine wpAnyH_ready (rs := [11]) (by kernel_rfl) (by simp) (AllReadyH.cons rfl (fun K hK => ?_) AllReadyH.nil)
  rw [if_pos (by rfl)]
  go_wp2_with fail
  have hch5 : Chg 73 base V (V.setCell ⟨bs, 4, none⟩ (.slice A4 n4 tc)) := Chg.cell HBK.out HD.out.hb _ _
  have HN : Hid (ScAt 73 (V.setCell ⟨bs, 4, none⟩ (.slice A4 n4 tc)) base bs ⟨cl, boxes, subs, rules, keptL (fun t : Tmb => decide (t.id ∈ ids)) tombs, holds, nv, nt, nh⟩ ⟨⟨bA, bn, bc⟩, ⟨sA, sn, sc⟩, ⟨rA, rn, rc⟩, ⟨A4, n4, tc⟩, ⟨gA, gn, gc⟩⟩) := Lib.hid ⟨HST.out.chg hch5 notT_scribe, by have := HBK.out.put 4 (.slice A4 n4 tc); simp at this; exact this, HD.out.hb⟩
  have HBN := Lib.hid (HBB.out.trans hch5.1)
  have hS := (HB2.out.chg hch5 (by decide)).cell 0
  clear hch5 k4 f4 HST HBK HB2 HBB hHeld
  refine hK.out _ _ hS (fun hHeld => ?_)
  clear hK K
  try simp only [Act.put, jA, jB, jC, jD, jE, jF]
  clear hS hHeld
  refine wpAnyH_done (by kernel_rfl) ?_ _
  go_wp2_with fail
  go_ret
  exact DoIs.yes (by rw [HE2.out]) HBN.out (by rw [HE2.out]; exact HN.out)
end Go.Proofs.YtbogjfbfgbhdbaaGreatDoor
namespace Go.Proofs.YtbogjfbfgbhdbaaGreatDoor
open List renaming setIfInBounds_toArray → jA, set_cons_zero → jB, set_cons_succ → jC, getElem_toArray → jD, getElem_cons_zero → jE, getElem_cons_succ → jF
set_option linter.unusedVariables false
set_option linter.unusedSimpArgs false
open Go.RowKit
set_option linter.unusedVariables false
set_option linter.unusedSimpArgs false
theorem append_adds {s : Sta} {nm : ByteArray} {m : Mg} : (appendS s nm m).2 = (addsS s nm [m]).2 ∧ ((appendS s nm m).2 = 0 → (appendS s nm m).1 = (addsS s nm [m]).1) := by
 unfold appendS addsS
 by_cases h : boxN s.boxes nm = 0
 ·rw [if_pos h, if_pos h]; exact ⟨rfl, fun q => by cases q⟩
 ·rw [if_neg h, if_neg h]
  have h1 := copyL_one (b := boxAt s.boxes nm) (m := m)
  exact ⟨h1.1.symm, fun h0 => by simp only; rw [h1.2 h0]⟩
theorem DoIs.same {t : TypeId} {base bs : Nat} {r r' : Sta × Int} {w w' : World} {e : Ending} (h : DoIs t base bs r w e w') (h1 : r'.2 = r.2) (h2 : r'.2 = 0 → r'.1 = r.1) : DoIs t base bs r' w e w' := by
 obtain ⟨a, b, c⟩ := h
 refine ⟨by rw [h1]; exact a, b, fun h0 => ?_⟩
 obtain ⟨p, hp⟩ := c (by rw [← h1]; exact h0)
 exact ⟨p, by rw [h2 h0]; exact hp⟩
theorem DoIs.from_ {t : TypeId} {base bs : Nat} {r : Sta × Int} {w0 w w' : World} {e : Ending} (h : DoIs t base bs r w e w') (hb : Below base w0 w) : DoIs t base bs r w0 e w' := ⟨h.1, hb.trans h.2.1, h.2.2⟩
set_option maxRecDepth 20000 in
set_option maxHeartbeats 4000000 in
theorem swwrite_6 (base bs : Nat) (s : Sta) (p : StaAt) (h : Eh) (w : World) (hs : ScAt 73 w base bs s p) (hok : OkSta s) (hi : EvIn w base h) (hk : h.e.kind = 6) :
 Calls Tryz.prog 38 #[.pointer (some ⟨bs, 0, none⟩), .agg (evC h)] w (DoIs 73 base bs (doS s h.e) w) := by
 obtain ⟨⟨kind, at_, box, to_, ids, set, mode, flags, date, n, body⟩, A1, n1, c1, A2, n2, c2, A3, n3, c3⟩ := h
 simp only at hk
 subst hk
 have hb : Below w.heap.size w (w.alloc (.cells #[.int .i64 6, .int .i64 at_, .string box, .string to_, .slice A1 n1 c1, .slice A2 n2 c2, .int .i64 mode, .int .i64 flags, .int .i64 date, .int .i64 n, .slice A3 n3 c3] 33)) := (Below.refl _ _).alloc (Nat.le_refl _) _
 have hke : Bk (w.alloc (.cells #[.int .i64 6, .int .i64 at_, .string box, .string to_, .slice A1 n1 c1, .slice A2 n2 c2, .int .i64 mode, .int .i64 flags, .int .i64 date, .int .i64 n, .slice A3 n3 c3] 33)) w.heap.size 33 #[.int .i64 6, .int .i64 at_, .string box, .string to_, .slice A1 n1 c1, .slice A2 n2 c2, .int .i64 mode, .int .i64 flags, .int .i64 date, .int .i64 n, .slice A3 n3 c3] := Bk.new _ _ _
 have HDO : Hid (doS s ⟨6, at_, box, to_, ids, set, mode, flags, date, n, body⟩ = appendS s box ⟨0, flags, date, body⟩) := Lib.hid (do_6 rfl)
 have HA := Lib.hid (hs.below hb)
 have HEI := Lib.hid (hi.below (hb.mono hs.base) (Nat.le_refl _))
 have HOK := Lib.hid hok
 have HB := Lib.hid (hb.mono hs.base)
 have k0 := hke.cell 0
 have k1 := hke.cell 1
 have k2 := hke.cell 2
 have k3 := hke.cell 3
 have k4 := hke.cell 4
 have k5 := hke.cell 5
 have k6 := hke.cell 6
 have k7 := hke.cell 7
 have k8 := hke.cell 8
 have k9 := hke.cell 9
 have k10 := hke.cell 10
 clear hs hi hok hb hke
 show Calls Tryz.prog 38 #[.pointer (some ⟨bs, 0, none⟩), .agg #[.int .i64 6, .int .i64 at_, .string box, .string to_, .slice A1 n1 c1, .slice A2 n2 c2, .int .i64 mode, .int .i64 flags, .int .i64 date, .int .i64 n, .slice A3 n3 c3]] w _
 go_enter Tryz.func38, Tryz.ntmps38
 go_wp2_with fail
 have hal : Below (w.alloc (.cells #[.int .i64 6, .int .i64 at_, .string box, .string to_, .slice A1 n1 c1, .slice A2 n2 c2, .int .i64 mode, .int .i64 flags, .int .i64 date, .int .i64 n, .slice A3 n3 c3] 33)).heap.size (w.alloc (.cells #[.int .i64 6, .int .i64 at_, .string box, .string to_, .slice A1 n1 c1, .slice A2 n2 c2, .int .i64 mode, .int .i64 flags, .int .i64 date, .int .i64 n, .slice A3 n3 c3] 33)) ((w.alloc (.cells #[.int .i64 6, .int .i64 at_, .string box, .string to_, .slice A1 n1 c1, .slice A2 n2 c2, .int .i64 mode, .int .i64 flags, .int .i64 date, .int .i64 n, .slice A3 n3 c3] 33)).alloc (.cells #[.int .i64 0, .int .i64 flags, .int .i64 date, .slice A3 n3 c3] 49)) := (Below.refl _ _).alloc (Nat.le_refl _) _
 have hkm : Bk ((w.alloc (.cells #[.int .i64 6, .int .i64 at_, .string box, .string to_, .slice A1 n1 c1, .slice A2 n2 c2, .int .i64 mode, .int .i64 flags, .int .i64 date, .int .i64 n, .slice A3 n3 c3] 33)).alloc (.cells #[.int .i64 0, .int .i64 flags, .int .i64 date, .slice A3 n3 c3] 49)) (w.heap.size + 1) 49 #[.int .i64 0, .int .i64 flags, .int .i64 date, .slice A3 n3 c3] := Bk.new2 _ _ _ _
 have hbz : base ≤ w.heap.size + 1 := by have := HA.out.base; simpa using this
 have HMV : Hid (MsgsV ((w.alloc (.cells #[.int .i64 6, .int .i64 at_, .string box, .string to_, .slice A1 n1 c1, .slice A2 n2 c2, .int .i64 mode, .int .i64 flags, .int .i64 date, .int .i64 n, .slice A3 n3 c3] 33)).alloc (.cells #[.int .i64 0, .int .i64 flags, .int .i64 date, .slice A3 n3 c3] 49)) base (some ⟨w.heap.size + 1, 0, none⟩) 1 1 [⟨0, flags, date, body⟩]) := Lib.hid
  ⟨[⟨⟨0, flags, date, body⟩, A3, n3, c3⟩], ⟨⟨rfl, .inr ⟨w.heap.size + 1, 1, #[.int .i64 0, .int .i64 flags, .int .i64 date, .slice A3 n3 c3], rfl, hbz, hkm, Nat.le_refl _, by unfold maxLen; omega, rfl, rfl⟩⟩, rfl, hdC_len⟩, fun y hy => by
    rw [List.mem_singleton.1 hy]
    exact ⟨.inr ((HEI.out.below (hal.mono HA.out.base) (Nat.le_refl _)).2.2.1), HEI.out.2.2.2.2.2.1⟩, rfl⟩
 have HA1 := Lib.hid (HA.out.below hal)
 have HB1 := Lib.hid (HB.out.trans (hal.mono HA.out.base))
 clear HA HB hal hkm hbz HEI
 have HA := HA1
 have HB := HB1
 clear HA1 HB1 k0 k1 k2 k3 k4 k5 k6 k7 k8 k9 k10
 generalize (w.alloc (.cells #[.int .i64 6, .int .i64 at_, .string box, .string to_, .slice A1 n1 c1, .slice A2 n2 c2, .int .i64 mode, .int .i64 flags, .int .i64 date, .int .i64 n, .slice A3 n3 c3] 33)).alloc (.cells #[.int .i64 0, .int .i64 flags, .int .i64 date, .slice A3 n3 c3] 49) = w1 at *
 refine (swadd_any base bs s p box (some ⟨w.heap.size + 1, 0, none⟩) 1 1 [⟨0, flags, date, body⟩] w1 HA.out (fun b hb => (HOK.out.boxes.each b hb).1) HOK.out.small HMV.out (by omega)).mono ?_
 rintro e V ⟨hd, _⟩
 have HD := Lib.hid (DoIs.from_ (show DoIs 73 base bs (doS s ⟨6, at_, box, to_, ids, set, mode, flags, date, n, body⟩) _ e V from hd.same (by rw [HDO.out]; exact append_adds.1) (by rw [HDO.out]; exact append_adds.2)) HB.out)
 clear hd
 obtain ⟨hr, hb2, hp⟩ := HD.out
 subst hr
 go_wp2_with fail
 go_ret
 exact ⟨rfl, hb2, hp⟩
set_option maxRecDepth 20000 in
set_option maxHeartbeats 4000000 in
theorem swwrite_9 (base bs : Nat) (s : Sta) (p : StaAt) (h : Eh) (w : World) (hs : ScAt 73 w base bs s p) (hok : OkSta s) (hi : EvIn w base h) (hk : h.e.kind = 9) :
 Calls Tryz.prog 38 #[.pointer (some ⟨bs, 0, none⟩), .agg (evC h)] w (DoIs 73 base bs (doS s h.e) w) := by
 obtain ⟨⟨kind, at_, box, to_, ids, set, mode, flags, date, n, body⟩, A1, n1, c1, A2, n2, c2, A3, n3, c3⟩ := h
 simp only at hk
 subst hk
 have hb : Below w.heap.size w (w.alloc (.cells #[.int .i64 9, .int .i64 at_, .string box, .string to_, .slice A1 n1 c1, .slice A2 n2 c2, .int .i64 mode, .int .i64 flags, .int .i64 date, .int .i64 n, .slice A3 n3 c3] 33)) := (Below.refl _ _).alloc (Nat.le_refl _) _
 have hke : Bk (w.alloc (.cells #[.int .i64 9, .int .i64 at_, .string box, .string to_, .slice A1 n1 c1, .slice A2 n2 c2, .int .i64 mode, .int .i64 flags, .int .i64 date, .int .i64 n, .slice A3 n3 c3] 33)) w.heap.size 33 #[.int .i64 9, .int .i64 at_, .string box, .string to_, .slice A1 n1 c1, .slice A2 n2 c2, .int .i64 mode, .int .i64 flags, .int .i64 date, .int .i64 n, .slice A3 n3 c3] := Bk.new _ _ _
 have HDO : Hid (doS s ⟨9, at_, box, to_, ids, set, mode, flags, date, n, body⟩ = expungeS s ⟨9, at_, box, to_, ids, set, mode, flags, date, n, body⟩) := Lib.hid (do_9 rfl)
 have HA := Lib.hid (hs.below hb)
 have HEI := Lib.hid (hi.below (hb.mono hs.base) (Nat.le_refl _))
 have HOK := Lib.hid hok
 have HB := Lib.hid (hb.mono hs.base)
 have k0 := hke.cell 0
 have k1 := hke.cell 1
 have k2 := hke.cell 2
 have k3 := hke.cell 3
 have k4 := hke.cell 4
 have k5 := hke.cell 5
 have k6 := hke.cell 6
 have k7 := hke.cell 7
 have k8 := hke.cell 8
 have k9 := hke.cell 9
 have k10 := hke.cell 10
 clear hs hi hok hb hke
 show Calls Tryz.prog 38 #[.pointer (some ⟨bs, 0, none⟩), .agg #[.int .i64 9, .int .i64 at_, .string box, .string to_, .slice A1 n1 c1, .slice A2 n2 c2, .int .i64 mode, .int .i64 flags, .int .i64 date, .int .i64 n, .slice A3 n3 c3]] w _
 go_enter Tryz.func38, Tryz.ntmps38
 go_wp2_with fail
 generalize w.alloc (.cells #[.int .i64 9, .int .i64 at_, .string box, .string to_, .slice A1 n1 c1, .slice A2 n2 c2, .int .i64 mode, .int .i64 flags, .int .i64 date, .int .i64 n, .slice A3 n3 c3] 33) = w1 at *
 refine (swexpunge_any base bs s p ⟨9, at_, box, to_, ids, set, mode, flags, date, n, body⟩ A1 n1 c1 w1 HA.out HOK.out (HEI.out.1.more HA.out.base) HEI.out.2.2.2.1).mono ?_
 rintro e V hd
 have HD := Lib.hid (DoIs.from_ (show DoIs 73 base bs (doS s ⟨9, at_, box, to_, ids, set, mode, flags, date, n, body⟩) _ e V from hd.same (by rw [HDO.out]) (fun _ => by rw [HDO.out])) HB.out)
 clear hd
 obtain ⟨hr, hb2, hp⟩ := HD.out
 subst hr
 go_wp2_with fail
 go_ret
 exact ⟨rfl, hb2, hp⟩
set_option maxRecDepth 20000 in
set_option maxHeartbeats 4000000 in
theorem swwrite_10 (base bs : Nat) (s : Sta) (p : StaAt) (h : Eh) (w : World) (hs : ScAt 73 w base bs s p) (hok : OkSta s) (hi : EvIn w base h) (hk : h.e.kind = 10) :
 Calls Tryz.prog 38 #[.pointer (some ⟨bs, 0, none⟩), .agg (evC h)] w (DoIs 73 base bs (doS s h.e) w) := by
 obtain ⟨⟨kind, at_, box, to_, ids, set, mode, flags, date, n, body⟩, A1, n1, c1, A2, n2, c2, A3, n3, c3⟩ := h
 simp only at hk
 subst hk
 have hb : Below w.heap.size w (w.alloc (.cells #[.int .i64 10, .int .i64 at_, .string box, .string to_, .slice A1 n1 c1, .slice A2 n2 c2, .int .i64 mode, .int .i64 flags, .int .i64 date, .int .i64 n, .slice A3 n3 c3] 33)) := (Below.refl _ _).alloc (Nat.le_refl _) _
 have hke : Bk (w.alloc (.cells #[.int .i64 10, .int .i64 at_, .string box, .string to_, .slice A1 n1 c1, .slice A2 n2 c2, .int .i64 mode, .int .i64 flags, .int .i64 date, .int .i64 n, .slice A3 n3 c3] 33)) w.heap.size 33 #[.int .i64 10, .int .i64 at_, .string box, .string to_, .slice A1 n1 c1, .slice A2 n2 c2, .int .i64 mode, .int .i64 flags, .int .i64 date, .int .i64 n, .slice A3 n3 c3] := Bk.new _ _ _
 have HDO : Hid (doS s ⟨10, at_, box, to_, ids, set, mode, flags, date, n, body⟩ = restoreS s n) := Lib.hid (do_10 rfl)
 have HA := Lib.hid (hs.below hb)
 have HEI := Lib.hid (hi.below (hb.mono hs.base) (Nat.le_refl _))
 have HOK := Lib.hid hok
 have HB := Lib.hid (hb.mono hs.base)
 have k0 := hke.cell 0
 have k1 := hke.cell 1
 have k2 := hke.cell 2
 have k3 := hke.cell 3
 have k4 := hke.cell 4
 have k5 := hke.cell 5
 have k6 := hke.cell 6
 have k7 := hke.cell 7
 have k8 := hke.cell 8
 have k9 := hke.cell 9
 have k10 := hke.cell 10
 clear hs hi hok hb hke
 show Calls Tryz.prog 38 #[.pointer (some ⟨bs, 0, none⟩), .agg #[.int .i64 10, .int .i64 at_, .string box, .string to_, .slice A1 n1 c1, .slice A2 n2 c2, .int .i64 mode, .int .i64 flags, .int .i64 date, .int .i64 n, .slice A3 n3 c3]] w _
 go_enter Tryz.func38, Tryz.ntmps38
 go_wp2_with fail
 generalize w.alloc (.cells #[.int .i64 10, .int .i64 at_, .string box, .string to_, .slice A1 n1 c1, .slice A2 n2 c2, .int .i64 mode, .int .i64 flags, .int .i64 date, .int .i64 n, .slice A3 n3 c3] 33) = w1 at *
 refine (swrestore_any base bs s p n w1 HA.out HOK.out).mono ?_
 rintro e V hd
 have HD := Lib.hid (DoIs.from_ (show DoIs 73 base bs (doS s ⟨10, at_, box, to_, ids, set, mode, flags, date, n, body⟩) _ e V from hd.same (by rw [HDO.out]) (fun _ => by rw [HDO.out])) HB.out)
 clear hd
 obtain ⟨hr, hb2, hp⟩ := HD.out
 subst hr
 go_wp2_with fail
 go_ret
 exact ⟨rfl, hb2, hp⟩
set_option maxRecDepth 20000 in
set_option maxHeartbeats 4000000 in
theorem swwrite_11 (base bs : Nat) (s : Sta) (p : StaAt) (h : Eh) (w : World) (hs : ScAt 73 w base bs s p) (hok : OkSta s) (hi : EvIn w base h) (hk : h.e.kind = 11) :
 Calls Tryz.prog 38 #[.pointer (some ⟨bs, 0, none⟩), .agg (evC h)] w (DoIs 73 base bs (doS s h.e) w) := by
 obtain ⟨⟨kind, at_, box, to_, ids, set, mode, flags, date, n, body⟩, A1, n1, c1, A2, n2, c2, A3, n3, c3⟩ := h
 simp only at hk
 subst hk
 have hb : Below w.heap.size w (w.alloc (.cells #[.int .i64 11, .int .i64 at_, .string box, .string to_, .slice A1 n1 c1, .slice A2 n2 c2, .int .i64 mode, .int .i64 flags, .int .i64 date, .int .i64 n, .slice A3 n3 c3] 33)) := (Below.refl _ _).alloc (Nat.le_refl _) _
 have hke : Bk (w.alloc (.cells #[.int .i64 11, .int .i64 at_, .string box, .string to_, .slice A1 n1 c1, .slice A2 n2 c2, .int .i64 mode, .int .i64 flags, .int .i64 date, .int .i64 n, .slice A3 n3 c3] 33)) w.heap.size 33 #[.int .i64 11, .int .i64 at_, .string box, .string to_, .slice A1 n1 c1, .slice A2 n2 c2, .int .i64 mode, .int .i64 flags, .int .i64 date, .int .i64 n, .slice A3 n3 c3] := Bk.new _ _ _
 have HDO : Hid (doS s ⟨11, at_, box, to_, ids, set, mode, flags, date, n, body⟩ = ruleS s box n) := Lib.hid (do_11 rfl)
 have HA := Lib.hid (hs.below hb)
 have HEI := Lib.hid (hi.below (hb.mono hs.base) (Nat.le_refl _))
 have HOK := Lib.hid hok
 have HB := Lib.hid (hb.mono hs.base)
 have k0 := hke.cell 0
 have k1 := hke.cell 1
 have k2 := hke.cell 2
 have k3 := hke.cell 3
 have k4 := hke.cell 4
 have k5 := hke.cell 5
 have k6 := hke.cell 6
 have k7 := hke.cell 7
 have k8 := hke.cell 8
 have k9 := hke.cell 9
 have k10 := hke.cell 10
 clear hs hi hok hb hke
 show Calls Tryz.prog 38 #[.pointer (some ⟨bs, 0, none⟩), .agg #[.int .i64 11, .int .i64 at_, .string box, .string to_, .slice A1 n1 c1, .slice A2 n2 c2, .int .i64 mode, .int .i64 flags, .int .i64 date, .int .i64 n, .slice A3 n3 c3]] w _
 go_enter Tryz.func38, Tryz.ntmps38
 go_wp2_with fail
 generalize w.alloc (.cells #[.int .i64 11, .int .i64 at_, .string box, .string to_, .slice A1 n1 c1, .slice A2 n2 c2, .int .i64 mode, .int .i64 flags, .int .i64 date, .int .i64 n, .slice A3 n3 c3] 33) = w1 at *
 refine (swkeep_any base bs s p box n w1 HA.out HOK.out.rules.2 (by have := HOK.out.lens.2.2.1; omega)).mono ?_
 rintro e V hd
 have HD := Lib.hid (DoIs.from_ (show DoIs 73 base bs (doS s ⟨11, at_, box, to_, ids, set, mode, flags, date, n, body⟩) _ e V from hd.same (by rw [HDO.out]) (fun _ => by rw [HDO.out])) HB.out)
 clear hd
 obtain ⟨hr, hb2, hp⟩ := HD.out
 subst hr
 go_wp2_with fail
 go_ret
 exact ⟨rfl, hb2, hp⟩
set_option maxRecDepth 20000 in
set_option maxHeartbeats 4000000 in
theorem swwrite_14 (base bs : Nat) (s : Sta) (p : StaAt) (h : Eh) (w : World) (hs : ScAt 73 w base bs s p) (hok : OkSta s) (hi : EvIn w base h) (hk : h.e.kind = 14) :
 Calls Tryz.prog 38 #[.pointer (some ⟨bs, 0, none⟩), .agg (evC h)] w (DoIs 73 base bs (doS s h.e) w) := by
 obtain ⟨⟨kind, at_, box, to_, ids, set, mode, flags, date, n, body⟩, A1, n1, c1, A2, n2, c2, A3, n3, c3⟩ := h
 simp only at hk
 subst hk
 have hb : Below w.heap.size w (w.alloc (.cells #[.int .i64 14, .int .i64 at_, .string box, .string to_, .slice A1 n1 c1, .slice A2 n2 c2, .int .i64 mode, .int .i64 flags, .int .i64 date, .int .i64 n, .slice A3 n3 c3] 33)) := (Below.refl _ _).alloc (Nat.le_refl _) _
 have hke : Bk (w.alloc (.cells #[.int .i64 14, .int .i64 at_, .string box, .string to_, .slice A1 n1 c1, .slice A2 n2 c2, .int .i64 mode, .int .i64 flags, .int .i64 date, .int .i64 n, .slice A3 n3 c3] 33)) w.heap.size 33 #[.int .i64 14, .int .i64 at_, .string box, .string to_, .slice A1 n1 c1, .slice A2 n2 c2, .int .i64 mode, .int .i64 flags, .int .i64 date, .int .i64 n, .slice A3 n3 c3] := Bk.new _ _ _
 have HDO : Hid (doS s ⟨14, at_, box, to_, ids, set, mode, flags, date, n, body⟩ = purgeS s ids) := Lib.hid (do_14 rfl)
 have HA := Lib.hid (hs.below hb)
 have HEI := Lib.hid (hi.below (hb.mono hs.base) (Nat.le_refl _))
 have HOK := Lib.hid hok
 have HB := Lib.hid (hb.mono hs.base)
 have k0 := hke.cell 0
 have k1 := hke.cell 1
 have k2 := hke.cell 2
 have k3 := hke.cell 3
 have k4 := hke.cell 4
 have k5 := hke.cell 5
 have k6 := hke.cell 6
 have k7 := hke.cell 7
 have k8 := hke.cell 8
 have k9 := hke.cell 9
 have k10 := hke.cell 10
 clear hs hi hok hb hke
 show Calls Tryz.prog 38 #[.pointer (some ⟨bs, 0, none⟩), .agg #[.int .i64 14, .int .i64 at_, .string box, .string to_, .slice A1 n1 c1, .slice A2 n2 c2, .int .i64 mode, .int .i64 flags, .int .i64 date, .int .i64 n, .slice A3 n3 c3]] w _
 go_enter Tryz.func38, Tryz.ntmps38
 go_wp2_with fail
 generalize w.alloc (.cells #[.int .i64 14, .int .i64 at_, .string box, .string to_, .slice A1 n1 c1, .slice A2 n2 c2, .int .i64 mode, .int .i64 flags, .int .i64 date, .int .i64 n, .slice A3 n3 c3] 33) = w1 at *
 refine (swpurge_any base bs s p A1 n1 c1 ids w1 HA.out HOK.out HEI.out.1 HEI.out.2.2.2.1).mono ?_
 rintro e V hd
 have HD := Lib.hid (DoIs.from_ (show DoIs 73 base bs (doS s ⟨14, at_, box, to_, ids, set, mode, flags, date, n, body⟩) _ e V from hd.same (by rw [HDO.out]) (fun _ => by rw [HDO.out])) HB.out)
 clear hd
 obtain ⟨hr, hb2, hp⟩ := HD.out
 subst hr
 go_wp2_with fail
 go_ret
 exact ⟨rfl, hb2, hp⟩
end Go.Proofs.YtbogjfbfgbhdbaaGreatDoor
