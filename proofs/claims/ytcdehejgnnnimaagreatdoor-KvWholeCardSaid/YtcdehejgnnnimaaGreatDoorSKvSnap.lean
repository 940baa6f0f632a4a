/-
 A part of the proof: see the last text.
-/
import Derived.Test.YtcdehejgnnnimaaGreatDoorSKvTrans
import Derived.Test.YtcdehejgnnnimaaGreatDoorSKvRise
import Derived.Test.YtcdehejgnnnimaaGreatDoorSAppV
import Derived.Test.YtcdehejgnnnimaaGreatDoorSWalCalls
namespace Go.Proofs.YtcdehejgnnnimaaGreatDoor
set_option linter.unusedVariables false
set_option linter.unusedSimpArgs false
open Go.RowKit
set_option linter.unusedVariables false
set_option linter.unusedSimpArgs false
theorem owns_other {w w' : World} {base : Nat} {e : TypeId} {k : Nat} {v : Value} {n : Nat} {xs : List Value} {row : Option Nat} (h : w.ownsRow base e k v n xs) (hg : w.grownBy w' row) (hne : ∀ b cs fr, row = some b → w.heap[b]? ≠ some (.cells cs e fr)) : w'.ownsRow base e k v n xs := by
 refine ⟨h.1, ?_⟩
 rcases h.2 with h0 | ⟨g, cap, cur, hv, hg', hh, r⟩
 ·exact .inl h0
 ·exact .inr ⟨g, cap, cur, hv, hg', (hg.block g (Array.getElem?_eq_some_iff.1 hh).1 (fun q => hne g _ _ q.symm hh)).trans hh, r⟩
theorem row_type {w : World} {base : Nat} {e e' : TypeId} {k : Nat} {v : Value} {n : Nat} {xs : List Value} (h : w.ownsRow base e k v n xs) (hee : e ≠ e') : ∀ b cs fr, v.ownBlock = some b → w.heap[b]? ≠ some (.cells cs e' fr) := by
 intro b cs fr hb hh
 rcases h.2 with ⟨rfl, _⟩ | ⟨g, cap, cur, rfl, _, hg, _⟩
 ·cases hb
 ·cases hb
  rw [hg] at hh
  injection hh with hh
  injection hh with _ h2 _
  exact hee h2
def one (v : Value) : List Value := [v]
theorem one_len (v : Value) : (one v).length = 1 := rfl
theorem flat_one (l : List Value) : l.flatMap one = l := by
 induction l with
 | nil => rfl
 | cons a l ih => rw [List.flatMap_cons, ih]; rfl
def Recs (w : World) (base : Nat) (us : List Value) (L : List (List Nat)) : Prop :=
 us.length = L.length ∧ ∀ (i : Nat) (u : Value), us[i]? = some u → ∃ A n c, u = .slice A n c ∧ OwnB w base 5 A n c (textAt L i)
theorem Recs.below {w w' : World} {base : Nat} {us : List Value} {L : List (List Nat)} (h : Recs w base us L) (hb : Below w.heap.size w w') : Recs w' base us L := ⟨h.1, fun i u hu => by
 obtain ⟨A, n, c, e, ho⟩ := h.2 i u hu
 exact ⟨A, n, c, e, ho.below hb⟩⟩
theorem Recs.other {w w' : World} {base : Nat} {us : List Value} {L : List (List Nat)} {row : Option Nat} (h : Recs w base us L) (hg : w.grownBy w' row) (hne : ∀ b cs fr, row = some b → w.heap[b]? ≠ some (.cells cs 5 fr)) : Recs w' base us L := ⟨h.1, fun i u hu => by
 obtain ⟨A, n, c, e, ho⟩ := h.2 i u hu
 exact ⟨A, n, c, e, owns_other ho.1 hg hne, ho.2⟩⟩
theorem Recs.snoc {w : World} {base : Nat} {us : List Value} {L : List (List Nat)} (h : Recs w base us L) {A : Option Addr} {n c : Nat} {b : List Nat} (ho : OwnB w base 5 A n c b) : Recs w base (us ++ [.slice A n c]) (L ++ [b]) := by
 refine ⟨by rw [List.length_append, List.length_append, h.1]; rfl, fun i u hu => ?_⟩
 by_cases hi : i < us.length
 ·rw [List.getElem?_append_left hi] at hu
  obtain ⟨A', n', c', e, ho'⟩ := h.2 i u hu
  refine ⟨A', n', c', e, ?_⟩
  unfold textAt at ho' ⊢
  rw [List.getD_eq_getElem?_getD] at ho' ⊢
  rwa [List.getElem?_append_left (by rw [← h.1]; exact hi)]
 ·rw [List.getElem?_append_right (by omega)] at hu
  have hlt := (List.getElem?_eq_some_iff.1 hu).1
  simp only [List.length_singleton] at hlt
  have hi0 : i - us.length = 0 := by omega
  rw [hi0] at hu
  cases hu
  refine ⟨A, n, c, rfl, ?_⟩
  unfold textAt
  rw [List.getD_eq_getElem?_getD, List.getElem?_append_right (by rw [← h.1]; omega), ← h.1, hi0]
  exact ho
theorem Recs.vals {w : World} {base : Nat} {us : List Value} {L : List (List Nat)} (h : Recs w base us L) (hs : ∀ b ∈ L, b.length ≤ 1000000000) : Vals w w.heap.size us L := by
 refine ⟨h.1, fun i u hu => ?_⟩
 obtain ⟨A, n, c, rfl, ho⟩ := h.2 i u hu
 have hi : i < L.length := by rw [← h.1]; exact (List.getElem?_eq_some_iff.1 hu).1
 have hm : textAt L i ∈ L := by
  unfold textAt
  rw [List.getD_eq_getElem?_getD, List.getElem?_eq_getElem hi]
  exact List.getElem_mem _
 have := hs _ hm
 have hl := ho.len
 exact ⟨A, n, c, rfl, ho.cap.1, ho.cap.2, by omega, ho.bytes⟩
def putC (p : Pr) : Chg := (p.1, p.2, false)
def stepS (s : List (List Nat) × List Chg) (p : Pr) : List (List Nat) × List Chg :=
 if s.2 ≠ [] ∧ 6000 < (transN s.2).length + (chgN (putC p)).length then (s.1 ++ [transN s.2], [putC p]) else (s.1, s.2 ++ [putC p])
def snapS (l : List Pr) : List (List Nat) × List Chg := l.foldl stepS ([], [])
def snapL (l : List Pr) : List (List Nat) := (snapS l).1 ++ [transN (snapS l).2]
theorem snapS_snoc {l : List Pr} {k : Nat} {p : Pr} (h : l.take (k + 1) = l.take k ++ [p]) : snapS (l.take (k + 1)) = stepS (snapS (l.take k)) p := by
 unfold snapS; rw [h, List.foldl_append]; rfl
theorem trans_snoc (l : List Chg) (c : Chg) : (transN (l ++ [c])).length = (transN l).length + (chgN c).length := by
 unfold transN
 simp only [List.length_append, numsB_length, List.map_append, List.flatten_append, List.map_cons, List.map_nil, List.flatten_cons, List.flatten_nil, List.length_cons, List.length_nil]
 omega
theorem trans_nil : (transN []).length = 8 := by unfold transN; rw [List.length_append, numsB_length]; rfl
theorem trans_le (l : List Chg) : (transN l).length ≤ 8 + 8208 * l.length := by
 unfold transN
 rw [List.length_append, numsB_length]
 have : ((l.map chgN).flatten).length ≤ 8208 * l.length := by
  induction l with
  | nil => simp
  | cons c l ih =>
    rw [List.map_cons, List.flatten_cons, List.length_append, List.length_cons]
    have := chgN_len c
    omega
 simp only [List.length_cons, List.length_nil]
 omega
end Go.Proofs.YtcdehejgnnnimaaGreatDoor
namespace Go.Proofs.YtcdehejgnnnimaaGreatDoor
set_option linter.unusedVariables false
set_option linter.unusedSimpArgs false
open Go.RowKit
set_option linter.unusedVariables false
set_option linter.unusedSimpArgs false
theorem info_bytesK : (Tryz.prog.info? 63).map (fun i => (i.zero, i.size, i.bytes)) = some (some (.slice none 0 0), 1, 24) := by kernel_rfl
def SnapIs (l : List Pr) (w : World) (e : Ending) (w' : World) : Prop := ∃ A n c us, e = .returned (.slice A n c) ∧ OwnK 1 one w' w.heap.size 63 A n c us ∧ Recs w' w.heap.size us (snapL l) ∧ Below w.heap.size w w'
theorem info_chgK : (Tryz.prog.info? 52).map (fun i => (i.zero, i.size, i.bytes)) = some (some (.agg #[.string ByteArray.empty, .string ByteArray.empty, .bool false]), 3, 40) := by kernel_rfl
theorem snapS_size {p : Chg → Prop} : ∀ (l : List Pr) (s : List (List Nat) × List Chg), (∀ x ∈ l, p (putC x)) → (∀ c ∈ s.2, p c) → ∀ c ∈ (l.foldl stepS s).2, p c
 | [], s, _, h => h
 | x :: l, s, hl, h => by
   refine snapS_size l (stepS s x) (fun y hy => hl y (List.mem_cons_of_mem _ hy)) (fun c hc => ?_)
   unfold stepS at hc
   split at hc
   ·rw [List.mem_singleton.1 hc]; exact hl x (List.mem_cons_self ..)
   ·rcases List.mem_append.1 hc with h1 | h1
    ·exact h c h1
    ·rw [List.mem_singleton.1 h1]; exact hl x (List.mem_cons_self ..)
theorem stepS_flush {L : List (List Nat)} {cs : List Chg} {p : Pr} (h : cs ≠ []) (h2 : 6000 < (transN cs).length + (chgN (putC p)).length) : stepS (L, cs) p = (L ++ [transN cs], [putC p]) := if_pos ⟨h, h2⟩
theorem stepS_more {L : List (List Nat)} {cs : List Chg} {p : Pr} (h : ¬ (cs ≠ [] ∧ 6000 < (transN cs).length + (chgN (putC p)).length)) : stepS (L, cs) p = (L, cs ++ [putC p]) := if_neg h
def SnapAt (base : Nat) (wx : World) (A : Option Addr) (n c : Nat) (us : List Value) (A5 : Option Addr) (n5 c5 : Nat) (s : List (List Nat) × List Chg) : Prop :=
 OwnK 1 one wx base 63 A n c us ∧ Recs wx base us s.1 ∧ OwnK 3 chgC wx base 52 A5 n5 c5 s.2
theorem SnapAt.below {base : Nat} {w w' : World} {A : Option Addr} {n c : Nat} {us : List Value} {A5 : Option Addr} {n5 c5 : Nat} {s : List (List Nat) × List Chg} (h : SnapAt base w A n c us A5 n5 c5 s) (hb : Below w.heap.size w w') : SnapAt base w' A n c us A5 n5 c5 s :=
 ⟨h.1.below hb, h.2.1.below hb, h.2.2.below hb⟩
set_option maxRecDepth 20000 in
set_option maxHeartbeats 8000000 in
theorem snapshot_any (A : Option Addr) (n c : Nat) (l : List Pr) (w : World) (hl : ColK 2 pairC w w.heap.size A n l) (hs : ∀ x ∈ l, x.1.size ≤ 140737488355328 ∧ x.2.size ≤ 140737488355328) (hn : n ≤ 10000) :
 Calls Tryz.prog 17 #[.slice A n c] w (SnapIs l w) := by
 have HL := Lib.hid hl
 have HS := Lib.hid hs
 have ht0 := transaction_any none 0 0 [] w ColK.nil (fun x hx => (by cases hx)) (by omega)
 have HT0 := Lib.hid ht0
 clear hl hs ht0
 go_enter Tryz.func17, Tryz.ntmps17
 go_wp2_with fail
 refine HT0.out.mono ?_
 rintro e w1 ⟨m, hm, A1, c1, rfl, ho1, hb1⟩
 have hm8 : m = 8 := by have := ho1.len; rw [trans_nil] at this; omega
 subst hm8
 have HB1 := Lib.hid hb1
 clear ho1 hb1 hm HT0
 go_wp2_with fail
 go_loopw [4, 5, 6, 16] (fun o4 o5 o6 i wx => ∃ (k : Nat) (A4 : Option Addr) (n4 c4 : Nat) (us : List Value) (A5 : Option Addr) (n5 c5 : Nat), k ≤ n ∧ i = .int .i64 (k : Int) ∧ o4 = .slice A4 n4 c4 ∧ o5 = .slice A5 n5 c5 ∧ o6 = .int .i64 (((transN (snapS (l.take k)).2).length : Nat) : Int) ∧ SnapAt w.heap.size wx A4 n4 c4 us A5 n5 c5 (snapS (l.take k)) ∧ n4 ≤ k ∧ n5 ≤ k ∧ Below w.heap.size w wx) (fun _ _ _ i _ => n - (intOf i).toNat)
 case atStart => exact ⟨0, none, 0, 0, [], none, 0, 0, Nat.zero_le _, rfl, rfl, rfl, by rw [show (snapS (l.take 0)).2 = [] from rfl, trans_nil] <;> rfl, ⟨OwnK.nil one_len, ⟨rfl, fun i u hu => (by cases hu)⟩, OwnK.nil chgC_len⟩, Nat.le_refl _, Nat.le_refl _, HB1.out⟩
 case round =>
  obtain ⟨k, A4, n4, c4, us, A5, n5, c5, hk, rfl, rfl, rfl, rfl, hat, hn4, hn5, hb⟩ := hrel
  have HB := Lib.hid hb
  have HAT := Lib.hid hat
  have h5l := hat.2.2.len
  have htl := trans_le (snapS (l.take k)).2
  rw [h5l] at htl
  have htk8 : (transN (snapS (l.take k)).2).length ≤ 8 + 8208 * k := Nat.le_trans htl (by omega)
  clear hb hat HB1
  by_cases hlt : k < n
  ·obtain ⟨b, o, a, rfl, hbb, hla, htk, hrow⟩ := (HL.out.below HB.out (Nat.le_refl _)).at_ hlt
   obtain ⟨hsz1, hsz2⟩ := HS.out a (List.mem_of_getElem? hla)
   have HSN := Lib.hid (snapS_snoc htk)
   have HROW := Lib.hid hrow
   have hk0 : (0 : Int) ≤ (k : Int) := by omega
   have hkn : (k : Int) < (n : Int) := by omega
   have hcsz : ∀ c ∈ (snapS (l.take k)).2, c.1.size ≤ 140737488355328 ∧ c.2.1.size ≤ 140737488355328 := snapS_size (p := fun c => c.1.size ≤ 140737488355328 ∧ c.2.1.size ≤ 140737488355328) (l.take k) ([], []) (fun x hx => HS.out x (List.mem_of_mem_take hx)) (fun c hc => (by cases hc))
   obtain ⟨L, cs, hLc⟩ : ∃ L cs, snapS (l.take k) = (L, cs) := ⟨_, _, rfl⟩
   rw [hLc] at HAT HSN h5l htk8 hcsz ⊢
   simp only at h5l htk8 hcsz ⊢
   have HCS := Lib.hid hcsz
   clear hcsz
   clear hla htk hrow htl hLc
   go_wp2_with ((with_reducible show wpList _ _ _ (⟨some 19, _, _, _, _, _⟩ :: _) _ _); refine holdK ?_)
   refine heldK (wpList_load_mid rfl 60 (.tmp 18) rfl b (o + k * 2) rfl (pairC a) _ HROW.out Tryz.underlying60 rfl (by kernel_rfl) ?_)
   obtain ⟨ck, cv⟩ := a
   unfold pairC
   simp only at hsz1 hsz2
   have hcl := chgN_len (ck, cv, false)
   have hch := fun W => changeBytes_any (ck, cv, false) W hsz1 hsz2
   have HCH := Lib.hid hch
   have HB2 := Lib.hid ((HB.out.alloc HB.out.size (.cells #[.string ck, .string cv] 60)).alloc (by have := HB.out.size; simp; omega) (.cells #[.string ck, .string cv, .bool false] 52))
   have HAT2 := Lib.hid ((HAT.out.below ((Below.refl _ _).alloc (Nat.le_refl _) (.cells #[.string ck, .string cv] 60))).below ((Below.refl _ _).alloc (Nat.le_refl _) (.cells #[.string ck, .string cv, .bool false] 52)))
   have hr9 := heap_alloc_new (wr.alloc (.cells #[.string ck, .string cv] 60)) (.cells #[.string ck, .string cv, .bool false] 52)
   have hs9 : (wr.alloc (.cells #[.string ck, .string cv] 60)).heap.size < ((wr.alloc (.cells #[.string ck, .string cv] 60)).alloc (.cells #[.string ck, .string cv, .bool false] 52)).heap.size := by simp
   rw [World.size_alloc] at hr9 hs9
   clear hch HAT
   go_wp2_with fail
   generalize (wr.alloc (.cells #[.string ck, .string cv] 60)).alloc (.cells #[.string ck, .string cv, .bool false] 52) = W2 at *
   obtain ⟨b9, hb9⟩ : ∃ q, wr.heap.size + 1 = q := ⟨_, rfl⟩
   rw [hb9] at hr9 hs9 ⊢
   clear hb9
   refine (HCH.out W2).mono ?_
   rintro e w3 ⟨q, A3, c3, rfl, ho3, hb3⟩
   have hq : (chgN (ck, cv, false)).length = q := ho3.len
   have hr93 := (hb3.block b9 hs9).trans hr9
   have hs93 : b9 < w3.heap.size := Nat.lt_of_lt_of_le hs9 hb3.size
   have HAT3 := Lib.hid (HAT2.out.below hb3)
   have HB3 := Lib.hid (HB2.out.trans (hb3.mono HB2.out.size))
   have HPC : Hid (putC (ck, cv) = (ck, cv, false)) := Lib.hid rfl
   have HTS := Lib.hid (trans_snoc cs (ck, cv, false))
   rw [hq] at hcl HTS
   have HQ := Lib.hid hq
   have HTT : Hid ((transN cs).length ≤ 8 + 8208 * k) := Lib.hid htk8
   obtain ⟨t, ht⟩ : ∃ t, (transN cs).length = t := ⟨_, rfl⟩
   rw [ht] at HTS htk8 HTT ⊢
   have HTE := Lib.hid ht
   have d0 := cell_of_row _ b9 0 _ _ (0, 0) hr93
   have d1 := cell_of_row _ b9 1 _ _ (0, 0) hr93
   have d2 := cell_of_row _ b9 2 _ _ (0, 0) hr93
   have HR9 := Lib.hid hr93
   clear ho3 hb3 hr9 hs9 hr93 hq ht HAT2 HB2 HCH
   by_cases hf : 0 < n5 ∧ 6000 < t + q
   ·obtain ⟨hf1, hf2⟩ := hf
    have hf1' : (0 : Int) < (n5 : Int) := by omega
    have hf2' : (6000 : Int) < (t : Int) + (q : Int) := by omega
    have HST : Hid (snapS (l.take (k + 1)) = (L ++ [transN cs], [(ck, cv, false)])) := Lib.hid (by
     rw [HSN.out, stepS_flush (fun e => by rw [e] at h5l; simp at h5l; omega) (by rw [HPC.out, HTE.out, HQ.out]; exact hf2), HPC.out])
    have htr := transaction_any A5 n5 c5 cs w3 HAT3.out.2.2.col (by
     intro x hx
     exact HCS.out x hx) (by omega)
    have HTR := Lib.hid htr
    clear htr d0 d1 d2
    go_wp2_with fail
    refine HTR.out.mono ?_
    rintro e w4 ⟨m4, hm4, A8, c8, rfl, ho8, hb4⟩
    have HAT4 := Lib.hid (HAT3.out.below hb4)
    have HO8 := Lib.hid (ho8.base_le HB3.out.size)
    have HR94 := Lib.hid ((hb4.block b9 hs93).trans HR9.out)
    have hs94 : b9 < w4.heap.size := Nat.lt_of_lt_of_le hs93 hb4.size
    have HB4 := Lib.hid (HB3.out.trans (hb4.mono HB3.out.size))
    clear ho8 hb4 HTR HAT3
    go_wp2_with ((with_reducible show wpList _ _ _ (⟨some 41, _, _, _, _, _⟩ :: _) _ _); refine holdK ?_)
    have hba : Below w4.heap.size w4 (w4.alloc (.cells #[.slice A8 m4 c8] 63)) := (Below.refl _ _).alloc (Nat.le_refl _) _
    have HAT5 := Lib.hid (HAT4.out.below hba)
    have HO85 := Lib.hid (HO8.out.below hba)
    have HR95 := Lib.hid ((hba.block b9 hs94).trans HR94.out)
    have hs95 : b9 < (w4.alloc (.cells #[.slice A8 m4 c8] 63)).heap.size := Nat.lt_of_lt_of_le hs94 hba.size
    have HB5 := Lib.hid (HB4.out.trans (hba.mono HB4.out.size))
    refine heldK (wpList_append_k (k := 1) (f := one) rfl (.tmp 37) (.tmp 40) 57 rfl Tryz.underlying57 info_bytesK rfl (by omega) (by omega) w.heap.size A4 n4 c4 us rfl HAT5.out.1 w4.heap.size 0 (.slice A8 m4 c8) rfl (by
     intro j v hv
     rw [Nat.zero_add, cell_of_row _ w4.heap.size j _ _ (0, 0) (heap_alloc_new w4 _)]
     unfold one at hv
     simpa [List.getElem?_toArray] using hv) (fun u hu => by unfold one at hu; rw [List.mem_singleton.1 hu]; rfl) (by omega) HB5.out.size ?_)
    intro A6 c6 w6 ho6 hb6 hg6
    have hne := row_type HAT5.out.1.1 (show 63 ≠ 5 by decide)
    have hne2 := row_type HAT5.out.1.1 (show 63 ≠ 52 by decide)
    have hrec := (HAT5.out.2.1.other hg6 hne).snoc (⟨owns_other HO85.out.1 hg6 hne, HO85.out.2⟩ : OwnB w6 w.heap.size 5 A8 m4 c8 (transN cs))
    have hr96 := (hg6.block b9 hs95 (fun e => hne2 b9 _ _ e.symm HR95.out)).trans HR95.out
    have HB6 := Lib.hid (HB5.out.trans hb6)
    have HO6 := Lib.hid ho6
    have HREC := Lib.hid hrec
    have e0 := cell_of_row _ b9 0 _ _ (0, 0) hr96
    have e1 := cell_of_row _ b9 1 _ _ (0, 0) hr96
    have e2 := cell_of_row _ b9 2 _ _ (0, 0) hr96
    clear hba hne hne2 hrec hr96 ho6 hb6 hg6 HAT5 HO85 HR95 HB5 HAT4 HO8 HR94 HB4 hs94 hs95 hm4
    go_wp2_with ((with_reducible show wpList _ _ _ (⟨some 46, _, _, _, _, _⟩ :: _) _ _); refine holdK ?_)
    have hbz : Below w6.heap.size w6 (w6.alloc (.cells #[.string ck, .string cv, .bool false] 52)) := (Below.refl _ _).alloc (Nat.le_refl _) _
    refine heldK (wpList_append_k (k := 3) (f := chgC) rfl (.tmp 43) (.tmp 45) 39 rfl Tryz.underlying39 info_chgK rfl (by omega) (by omega) w.heap.size none 0 0 [] rfl (OwnK.nil chgC_len) w6.heap.size 0 (ck, cv, false) rfl (by
     intro j v hv
     rw [Nat.zero_add, cell_of_row _ w6.heap.size j _ _ (0, 0) (heap_alloc_new w6 _)]
     unfold chgC at hv
     simpa [List.getElem?_toArray] using hv) (chgC_one _) (by omega) (by have := HB6.out.size; simp; omega) ?_)
    intro A7 c7 w7 ho7 hb7 hg7
    have hb67 : Below w6.heap.size w6 w7 := hbz.grown hg7 hbz.size (fun k hk => by cases hk)
    have HAT7 : Hid (SnapAt w.heap.size w7 A6 (n4 + 1) c6 (us ++ [.slice A8 m4 c8]) A7 (0 + 1) c7 (snapS (l.take (k + 1)))) := Lib.hid (by
     rw [HST.out]
     exact ⟨HO6.out.below hb67, HREC.out.below hb67, ho7⟩)
    have HB7 := Lib.hid (HB6.out.trans (hb67.mono HB6.out.size))
    have HLEN : Hid ((transN (snapS (l.take (k + 1))).2).length = 8 + q) := Lib.hid (by
     rw [HST.out]
     have := trans_snoc [] (ck, cv, false)
     rw [trans_nil, HQ.out] at this
     exact this)
    clear ho7 hb7 hg7 hb67 hbz e0 e1 e2 HO6 HREC HB6
    go_wp2_with fail
    go_roundw
    case rel => exact ⟨k + 1, A6, n4 + 1, c6, us ++ [.slice A8 m4 c8], A7, 0 + 1, c7, by omega, by go_num, rfl, rfl, by rw [HLEN.out]; exact congrArg (Value.int IntKind.i64) (by omega), HAT7.out, by omega, by omega, HB7.out⟩
    case measure => simp [intOf]; omega
   ·have HST : Hid (snapS (l.take (k + 1)) = (L, cs ++ [(ck, cv, false)])) := Lib.hid (by
     rw [HSN.out, stepS_more (fun h => hf ⟨by
      have : cs.length ≠ 0 := fun e => h.1 (List.eq_nil_of_length_eq_zero e)
      omega, by have h2 := h.2; rw [HPC.out, HTE.out, HQ.out] at h2; exact h2⟩), HPC.out])
    have hcase : n5 = 0 ∨ (0 < n5 ∧ ¬ 6000 < t + q) := by omega
    clear hf
    rcases hcase with h50 | ⟨hf1, hf2⟩
    all_goals
     first
      | (have hf1' : ¬ (0 : Int) < (n5 : Int) := by omega
         clear h50)
      | (have hf1' : (0 : Int) < (n5 : Int) := by omega
         have hf2' : ¬ (6000 : Int) < (t : Int) + (q : Int) := by omega)
     go_wp2_with ((with_reducible show wpList _ _ _ (⟨some 46, _, _, _, _, _⟩ :: _) _ _); refine holdK ?_)
     have hba : Below w3.heap.size w3 (w3.alloc (.cells #[.string ck, .string cv, .bool false] 52)) := (Below.refl _ _).alloc (Nat.le_refl _) _
     have HAT5 := Lib.hid (HAT3.out.below hba)
     have HB5 := Lib.hid (HB3.out.trans (hba.mono HB3.out.size))
     refine heldK (wpList_append_k (k := 3) (f := chgC) rfl (.tmp 43) (.tmp 45) 39 rfl Tryz.underlying39 info_chgK rfl (by omega) (by omega) w.heap.size A5 n5 c5 cs rfl HAT5.out.2.2 w3.heap.size 0 (ck, cv, false) rfl (by
      intro j v hv
      rw [Nat.zero_add, cell_of_row _ w3.heap.size j _ _ (0, 0) (heap_alloc_new w3 _)]
      unfold chgC at hv
      simpa [List.getElem?_toArray] using hv) (chgC_one _) (by omega) HB5.out.size ?_)
     intro A7 c7 w7 ho7 hb7 hg7
     have hne := row_type HAT5.out.2.2.1 (show 52 ≠ 5 by decide)
     have hne2 := row_type HAT5.out.2.2.1 (show 52 ≠ 63 by decide)
     have HAT7 : Hid (SnapAt w.heap.size w7 A4 n4 c4 us A7 (n5 + 1) c7 (snapS (l.take (k + 1)))) := Lib.hid (by
      rw [HST.out]
      exact ⟨⟨owns_other HAT5.out.1.1 hg7 hne2, HAT5.out.1.2⟩, HAT5.out.2.1.other hg7 hne, ho7⟩)
     have HB7 := Lib.hid (HB5.out.trans hb7)
     have HLEN : Hid ((transN (snapS (l.take (k + 1))).2).length = t + q) := Lib.hid (by rw [HST.out]; exact HTS.out)
     clear ho7 hb7 hg7 hba hne hne2 HAT5 HB5 d0 d1 d2
     go_wp2_with fail
     go_roundw
     case rel => exact ⟨k + 1, A4, n4, c4, us, A7, n5 + 1, c7, by omega, by go_num, rfl, rfl, by rw [HLEN.out]; exact congrArg (Value.int IntKind.i64) (by omega), HAT7.out, by omega, by omega, HB7.out⟩
     case measure => simp [intOf]; omega
  ·have hkn : ¬ (k : Int) < (n : Int) := by omega
   obtain rfl : k = n := by omega
   have hfull : l.take k = l := List.take_of_length_le (by rw [HL.out.1]; exact Nat.le_refl _)
   rw [hfull] at HAT h5l ⊢
   have hcsz : ∀ c ∈ (snapS l).2, c.1.size ≤ 140737488355328 ∧ c.2.1.size ≤ 140737488355328 := snapS_size (p := fun c => c.1.size ≤ 140737488355328 ∧ c.2.1.size ≤ 140737488355328) l ([], []) (fun x hx => HS.out x hx) (fun c hc => (by cases hc))
   have htr := transaction_any A5 n5 c5 (snapS l).2 wr HAT.out.2.2.col hcsz (by omega)
   have HTR := Lib.hid htr
   have HSL : Hid (snapL l = (snapS l).1 ++ [transN (snapS l).2]) := Lib.hid rfl
   clear htr hcsz hfull htl htk8
   go_wp2_with fail
   refine HTR.out.mono ?_
   rintro e w4 ⟨m4, hm4, A8, c8, rfl, ho8, hb4⟩
   have HAT4 := Lib.hid (HAT.out.below hb4)
   have HO8 := Lib.hid (ho8.base_le HB.out.size)
   have HB4 := Lib.hid (HB.out.trans (hb4.mono HB.out.size))
   clear ho8 hb4 HTR HAT hm4
   go_wp2_with ((with_reducible show wpList _ _ _ (⟨some 55, _, _, _, _, _⟩ :: _) _ _); refine holdK ?_)
   have hba : Below w4.heap.size w4 (w4.alloc (.cells #[.slice A8 m4 c8] 63)) := (Below.refl _ _).alloc (Nat.le_refl _) _
   have HAT5 := Lib.hid (HAT4.out.below hba)
   have HO85 := Lib.hid (HO8.out.below hba)
   have HB5 := Lib.hid (HB4.out.trans (hba.mono HB4.out.size))
   refine heldK (wpList_append_k (k := 1) (f := one) rfl (.tmp 51) (.tmp 54) 57 rfl Tryz.underlying57 info_bytesK rfl (by omega) (by omega) w.heap.size A4 n4 c4 us rfl HAT5.out.1 w4.heap.size 0 (.slice A8 m4 c8) rfl (by
    intro j v hv
    rw [Nat.zero_add, cell_of_row _ w4.heap.size j _ _ (0, 0) (heap_alloc_new w4 _)]
    unfold one at hv
    simpa [List.getElem?_toArray] using hv) (fun u hu => by unfold one at hu; rw [List.mem_singleton.1 hu]; rfl) (by omega) HB5.out.size ?_)
   intro A6 c6 w6 ho6 hb6 hg6
   have hne := row_type HAT5.out.1.1 (show 63 ≠ 5 by decide)
   have hrec := (HAT5.out.2.1.other hg6 hne).snoc (⟨owns_other HO85.out.1 hg6 hne, HO85.out.2⟩ : OwnB w6 w.heap.size 5 A8 m4 c8 (transN (snapS l).2))
   rw [← HSL.out] at hrec
   have HB6 := Lib.hid (HB5.out.trans hb6)
   have HO6 := Lib.hid ho6
   have HREC := Lib.hid hrec
   clear hba hne hrec ho6 hb6 hg6 HAT5 HO85 HB5 HAT4 HO8 HB4
   go_wp2_with fail
   go_ret
   exact ⟨A6, n4 + 1, c6, us ++ [.slice A8 m4 c8], rfl, HO6.out, HREC.out, HB6.out⟩
end Go.Proofs.YtcdehejgnnnimaaGreatDoor
namespace Go.Proofs.YtcdehejgnnnimaaGreatDoor
set_option linter.unusedVariables false
set_option linter.unusedSimpArgs false
open Go.RowKit
set_option linter.unusedVariables false
set_option linter.unusedSimpArgs false
theorem textB_le (s : List Nat) : (textB s).length ≤ 4 + s.length := by
 unfold textB
 rw [List.length_append, encB_length, List.length_take]
 omega
theorem put_len {k v : ByteArray} (h : mayB k v = true) : (chgN (putC (k, v))).length ≤ 4176 := by
 unfold mayB keyB at h
 simp only [Bool.and_eq_true, decide_eq_true_eq] at h
 unfold putC
 rw [chg_false, List.length_append, numsB_length]
 simp only [List.map_cons, List.map_nil, textsB_cons, textsB_nil, List.length_append, List.length_cons, List.length_nil]
 have h1 := textB_le (nats k)
 have h2 := textB_le (nats v)
 rw [nats_length] at h1 h2
 omega
theorem transN_nil_len : (transN []).length = 8 := by
 unfold transN
 rw [List.length_append, numsB_length]
 rfl
theorem transN_one_len (c : Chg) : (transN [c]).length = 8 + (chgN c).length := by
 have := trans_snoc [] c
 rw [transN_nil_len] at this
 exact this
theorem transN_len8 (l : List Chg) : 8 ≤ (transN l).length := by
 unfold transN
 rw [List.length_append, numsB_length]
 simp
def SnapOk (s : List (List Nat) × List Chg) : Prop := (∀ b ∈ s.1, okR b) ∧ (transN s.2).length ≤ 6000
theorem SnapOk.step {s : List (List Nat) × List Chg} {p : Pr} (h : SnapOk s) (hp : mayB p.1 p.2 = true) : SnapOk (stepS s p) := by
 have hl : (chgN (putC p)).length ≤ 4176 := put_len hp
 obtain ⟨L, cs⟩ := s
 by_cases hc : cs ≠ [] ∧ 6000 < (transN cs).length + (chgN (putC p)).length
 ·rw [stepS_flush hc.1 hc.2]
  refine ⟨fun b hb => ?_, ?_⟩
  ·rcases List.mem_append.1 hb with h1 | h1
   ·exact h.1 b h1
   ·rw [List.mem_singleton.1 h1]
    exact ⟨by have := transN_len8 cs; omega, h.2⟩
  ·show (transN [putC p]).length ≤ 6000
   rw [transN_one_len]
   omega
 ·rw [stepS_more hc]
  refine ⟨h.1, ?_⟩
  show (transN (cs ++ [putC p])).length ≤ 6000
  rw [trans_snoc]
  by_cases hn : cs = []
  ·subst hn
   rw [transN_nil_len]
   omega
  ·have : ¬ 6000 < (transN cs).length + (chgN (putC p)).length := fun e => hc ⟨hn, e⟩
   omega
theorem SnapOk.steps : ∀ (l : List Pr) (s : List (List Nat) × List Chg), SnapOk s → (∀ p ∈ l, mayB p.1 p.2 = true) → SnapOk (l.foldl stepS s)
 | [], s, h, _ => h
 | p :: l, s, h, hl => SnapOk.steps l (stepS s p) (h.step (hl p (List.mem_cons_self ..))) (fun q hq => hl q (List.mem_cons_of_mem _ hq))
theorem snapL_ok {l : List Pr} (h : ∀ p ∈ l, mayB p.1 p.2 = true) : ∀ b ∈ snapL l, okR b := by
 have hs : SnapOk (snapS l) := SnapOk.steps l _ ⟨fun b hb => (by cases hb), (by show (transN []).length ≤ 6000; rw [transN_nil_len]; omega)⟩ h
 intro b hb
 unfold snapL at hb
 rcases List.mem_append.1 hb with h1 | h1
 ·exact hs.1 b h1
 ·rw [List.mem_singleton.1 h1]
  exact ⟨by have := transN_len8 (snapS l).2; omega, hs.2⟩
theorem snapL_ne (l : List Pr) : snapL l ≠ [] := by unfold snapL; simp
theorem steps_len : ∀ (l : List Pr) (s : List (List Nat) × List Chg), (l.foldl stepS s).1.length ≤ s.1.length + l.length
 | [], s => Nat.le_refl _
 | p :: l, s => by
   refine Nat.le_trans (steps_len l (stepS s p)) ?_
   have : (stepS s p).1.length ≤ s.1.length + 1 := by
    unfold stepS
    split
    ·simp
    ·simp
   rw [List.length_cons]
   omega
theorem snapL_len (l : List Pr) : (snapL l).length ≤ l.length + 1 := by
 unfold snapL
 have := steps_len l ([], [])
 rw [List.length_append]
 unfold snapS
 simp only [List.length_nil, List.length_cons] at this ⊢
 omega
theorem snapL_nil : snapL [] = [transN []] := rfl
theorem sum_nil : sumT (snapL []) = 2 := by
 rw [snapL_nil]
 show takesN (transN []).length + 0 = 2
 rw [transN_nil_len]
 decide
theorem OwnK.rss {w : World} {base n c : Nat} {A : Option Addr} {us : List Value} {L : List (List Nat)} (ho : OwnK 1 one w base 63 A n c us) (hr : Recs w base us L) (hs : ∀ b ∈ L, okR b) : Rss w w.heap.size A n L := by
 have hv : OwnV w base 63 A n c us := by
  have := ho.1
  rw [flat_one] at this
  exact this
 exact hv.rss (hr.vals (fun b hb => by have := (hs b hb).2; omega)) (Nat.le_refl _)
end Go.Proofs.YtcdehejgnnnimaaGreatDoor
