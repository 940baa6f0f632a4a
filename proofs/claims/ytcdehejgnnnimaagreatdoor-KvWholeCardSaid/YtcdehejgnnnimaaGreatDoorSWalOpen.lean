/-
 A part of the proof: see the last text.
-/
import Derived.Test.YtcdehejgnnnimaaGreatDoorSWalGen
import Derived.Test.YtcdehejgnnnimaaGreatDoorSBytes
namespace Go.Proofs.YtcdehejgnnnimaaGreatDoor
open List renaming setIfInBounds_toArray → jA, set_cons_zero → jB, set_cons_succ → jC
set_option linter.unusedVariables false
set_option linter.unusedSimpArgs false
open Go.RowKit
section
variable {P : Program}
theorem wpList_append_oneT {ops : Array Oper} {rest : List Oper} {o : Oper} {a : Act} {w : World} {Q : Exit → Act → World → Prop} (hgd : o.guard = none) (s x : Operand) (t : TypeId)
 (ho : o.op = .call { callee := .builtin .append, args := #[s, x], argTypes := #[t, t] }) {e : TypeId} (ht : P.underlying t = some (.slice e)) {zv : Value} {by_ : Nat}
 (he : (P.info? e).map (fun i => (i.zero, i.size, i.bytes)) = some (some zv, 1, by_)) (hzc : zv.cells.size = 1) (hby : by_ ≤ 24)
 (base : Nat) (A : Option Addr) (n c : Nat) (vs : List Value) (hs : a.eval s = .slice A n c) (hown : OwnV w base e A n c vs)
 (b off : Nat) (v : Value) (hx : a.eval x = .slice (some ⟨b, off, none⟩) 1 1) (hc : w.cell? ⟨b, off, none⟩ = some v) (hv : v.oneCell' = true) (hn : n ≤ 1000000) (hbase : base ≤ w.heap.size)
 (h : ∀ A2 c2 w', OwnV w' base e A2 (n + 1) c2 (vs ++ [v]) → Below base w w' → (∀ (b : Nat) (t : TypeId) (cs : Array Value), t ≠ e → Bk w b t cs → Bk w' b t cs) → wpList P ops Q rest (a.put o.dst (.slice A2 (n + 1) c2)) w') : wpList P ops Q (o :: rest) a w :=
 wpList_plain hgd fun _ hK => by
  obtain ⟨i, hi, hz, hs', hby'⟩ := info_parts he
  obtain ⟨v', w', hrun, h1, h2, _, _⟩ := run_append_own_at (P := P) w base t o.type e i zv 1 by_ ht hi hz hs' hby' hzc (by omega) (.slice A n c) n vs hown ⟨b, off, none⟩ 1 1 [v] rfl
   (fun j u hu => by
    cases j with
    | zero => simp at hu; subst hu; rw [Addr.add_mid, Nat.add_zero]; exact hc
    | succ j => simp at hu) (by simpa using hv) (by unfold maxLen; omega) (Nat.le_trans (Nat.mul_le_mul_left _ hby) (by omega)) hbase
  have hsh : ∃ A2 c2, v' = .slice A2 (n + 1) c2 := by
   rcases h1.2 with ⟨rfl, h0⟩ | ⟨g, cap, cur, rfl, _⟩
   ·rw [h0]; exact ⟨_, _, rfl⟩
   ·exact ⟨_, _, rfl⟩
  obtain ⟨A2, c2, rfl⟩ := hsh
  have hoth : ∀ (b : Nat) (t : TypeId) (cs : Array Value), t ≠ e → Bk w b t cs → Bk w' b t cs := by
   intro b t cs hte hB
   refine hB.grown h2 ?_
   intro heq
   rcases hown.2 with ⟨hv0, _⟩ | ⟨g', cap, cur, hv0, _, hh, _⟩
   ·injection hv0 with hA
    subst hA
    cases heq
   ·injection hv0 with hA
    subst hA
    simp only [Value.ownBlock, Option.some.injEq] at heq
    subst heq
    have : some (Obj.cells cs t (0, 0)) = some (Obj.cells cur e (0, 0)) := (show w.heap[b]? = _ from hB).symm.trans hh
    injection this with this
    injection this with _ h2 _
    exact hte h2
  unfold Oper.wp execOp
  simp only [ho, resolve, invoke, builtin, Sem.run_bind, Sem.run_pure, Result.andThen_ok, List.map_toArray, List.map_cons, List.map_nil, hs, hx, hrun]
  exact hK _ _ (h A2 c2 w' h1 ((Below.refl _ _).grown h2 hbase (fun k hk => (hown.lt k hk).1)) hoth)
end
theorem info_bytes : (Tryz.prog.info? 63).map (fun i => (i.zero, i.size, i.bytes)) = some (some (.slice none 0 0), 1, 24) := by kernel_rfl
def Log (d : Dk) (o size g : Nat) (L : List (List Nat)) : Prop :=
 (∀ b ∈ L, okR b) ∧ (∀ b ∈ L, ∀ x ∈ b, x < 256) ∧ sumT L ≤ size ∧ 1 ≤ g ∧ g ≤ 1099511627776 ∧
 (∀ k, k < L.length → seen d (o + sumT (L.take k)) = markL g k (textAt L k) ∧ ∀ i, i < nck (textAt L k).length → seen d (o + sumT (L.take k) + 1 + i) = chunkL (textAt L k) i) ∧
 (sumT L = size ∨ seen d (o + sumT L) = zsec)
def RecsIn (W : World) (base : Nat) (vs : List Value) (L : List (List Nat)) (k : Nat) : Prop :=
 ∀ i, i < k → ∃ q, vs[i]? = some (.slice (some ⟨q, 0, none⟩) (textAt L i).length (textAt L i).length) ∧ Bk W q 5 ((textAt L i).map bv).toArray ∧ base ≤ q
theorem RecsIn.keep {W W' : World} {base : Nat} {vs : List Value} {L : List (List Nat)} {k : Nat} (h : RecsIn W base vs L k) (hk : ∀ (b : Nat) (cs : Array Value), Bk W b 5 cs → Bk W' b 5 cs) : RecsIn W' base vs L k := fun i hi => by
 obtain ⟨q, h1, h2, h3⟩ := h i hi
 exact ⟨q, h1, hk _ _ h2, h3⟩
theorem RecsIn.next {W : World} {base : Nat} {vs : List Value} {L : List (List Nat)} {k q : Nat} (h : RecsIn W base vs L k) (hl : vs.length = k) (hq : Bk W q 5 ((textAt L k).map bv).toArray) (hb : base ≤ q) : RecsIn W base (vs ++ [.slice (some ⟨q, 0, none⟩) (textAt L k).length (textAt L k).length]) L (k + 1) := fun i hi => by
 by_cases hik : i < k
 ·obtain ⟨q', h1, h2, h3⟩ := h i hik
  exact ⟨q', by rw [List.getElem?_append_left (by omega)]; exact h1, h2, h3⟩
 ·obtain rfl : i = k := by omega
  exact ⟨q, by rw [List.getElem?_append_right (by omega), hl, Nat.sub_self]; rfl, hq, hb⟩
theorem bytes_block {W : World} {q : Nat} {l : List Nat} (h : Bk W q 5 (l.map bv).toArray) (hl : ∀ x ∈ l, x < 256) : Bytes W W.heap.size (some ⟨q, 0, none⟩) l.length l := by
 refine ⟨rfl, hl, fun _ => ⟨q, 0, rfl, h.lt, fun j hj => ?_⟩⟩
 rw [Nat.zero_add, h.cell, List.getElem?_toArray, List.getElem?_map, List.getElem?_eq_getElem hj]
 unfold byteAt
 rw [List.getD_eq_getElem?_getD, List.getElem?_eq_getElem hj]
 rfl
theorem RecsIn.rss {W : World} {base base2 : Nat} {A : Option Addr} {c : Nat} {vs : List Value} {L : List (List Nat)} (h : RecsIn W base vs L L.length) (ho : OwnV W base2 63 A L.length c vs) (hL : ∀ b ∈ L, okR b) (hb : ∀ b ∈ L, ∀ x ∈ b, x < 256) : Rss W W.heap.size A L.length L := by
 refine ⟨rfl, fun hn => ?_⟩
 obtain ⟨g, hA, _, hg, hc⟩ := ho.cells hn
 refine ⟨g, 0, hA, hg, fun i hi => ?_⟩
 obtain ⟨q, h1, h2, _⟩ := h i hi
 have h6 : (textAt L i).length ≤ 6000 := (hL _ (textAt_mem hi)).2
 exact ⟨_, _, _, by rw [Nat.zero_add]; exact hc i _ h1, Nat.le_refl _, by unfold maxLen; omega, by omega, bytes_block h2 (hb _ (textAt_mem hi))⟩
end Go.Proofs.YtcdehejgnnnimaaGreatDoor
namespace Go.Proofs.YtcdehejgnnnimaaGreatDoor
open List renaming setIfInBounds_toArray → jA, set_cons_zero → jB, set_cons_succ → jC
set_option linter.unusedVariables false
set_option linter.unusedSimpArgs false
open Go.RowKit
structure RcRel (w : World) (D : Array Value) (h g o size : Nat) (L : List (List Nat)) (bh : Nat) (k : Nat) (A : Option Addr) (c : Nat) (vs : List Value) (wr : World) : Prop where
 kL : k ≤ L.length
 own : OwnV wr w.heap.size 63 A k c vs
 rcs : RecsIn wr w.heap.size vs L k
 b3 : Bk wr w.heap.size 27 D
 b6 : Bk wr (w.heap.size + 1) 32 #[.int .i64 (h : Int), .int .i64 (g : Int), .int .i64 ((sumT (L.take k) : Nat) : Int), .int .i64 (k : Int)]
 b9 : Bk wr bh 79 #[.int .i64 (o : Int), .int .i64 (size : Int)]
 hb : Below w.heap.size w wr
def RcHead (w : World) (D : Array Value) (h g o size : Nat) (L : List (List Nat)) (bh : Nat) (x : Value) (wr : World) : Prop := ∃ k A c vs, x = .slice A k c ∧ RcRel w D h g o size L bh k A c vs wr
theorem RcRel.below {w wr W : World} {D : Array Value} {h g o size : Nat} {L : List (List Nat)} {bh k c : Nat} {A : Option Addr} {vs : List Value} (H : RcRel w D h g o size L bh k A c vs wr) (hb : Below wr.heap.size wr W) : RcRel w D h g o size L bh k A c vs W :=
 ⟨H.kL, H.own.below hb, H.rcs.keep (fun _ _ hq => hq.below hb hq.lt), H.b3.below hb H.b3.lt, H.b6.below hb H.b6.lt, H.b9.below hb H.b9.lt, H.hb.trans (hb.mono H.hb.size)⟩
theorem Bk.diff {w : World} {a b : Nat} {t t' : TypeId} {cs cs' : Array Value} (h : Bk w a t cs) (h' : Bk w b t' cs') (hne : t ≠ t') : a ≠ b := by
 rintro rfl
 have : some (Obj.cells cs t (0, 0)) = some (Obj.cells cs' t' (0, 0)) := (show w.heap[a]? = _ from h).symm.trans h'
 injection this with this
 injection this with _ h2 _
 exact hne h2
theorem OwnV.box {w : World} {base n c b i : Nat} {e t : TypeId} {A : Option Addr} {vs : List Value} {cs : Array Value} (h : OwnV w base e A n c vs) (hb : Bk w b t cs) (hne : t ≠ e) (u : Value) : OwnV (w.setCell ⟨b, i, none⟩ u) base e A n c vs := by
 refine ⟨h.1, ?_⟩
 rcases h.2 with h0 | ⟨g, cap, cur, hv, hg, hh, r⟩
 ·exact .inl h0
 ·exact .inr ⟨g, cap, cur, hv, hg, Bk.far (show Bk w g e cur from hh) (Bk.diff (show Bk w g e cur from hh) hb (Ne.symm hne)) u, r⟩
theorem RecsIn.box {w : World} {base b i : Nat} {t : TypeId} {vs : List Value} {L : List (List Nat)} {k : Nat} {cs : Array Value} (h : RecsIn w base vs L k) (hb : Bk w b t cs) (hne : t ≠ 5) (u : Value) : RecsIn (w.setCell ⟨b, i, none⟩ u) base vs L k :=
 h.keep fun q cs' hq => hq.far (Bk.diff hq hb (Ne.symm hne)) u
theorem OwnV.st4 {w : World} {base n c b : Nat} {e t : TypeId} {A : Option Addr} {vs : List Value} {u0 u1 u2 u3 : Value} (h : OwnV w base e A n c vs) (hb : Bk w b t #[u0, u1, u2, u3]) (hne : t ≠ e) (a0 a1 a2 a3 : Value) : OwnV (stored4 w b a0 a1 a2 a3) base e A n c vs := by
 unfold stored4
 exact (((h.box hb hne a0).box (hb.put 0 a0) hne a1).box ((hb.put 0 a0).put 1 a1) hne a2).box (((hb.put 0 a0).put 1 a1).put 2 a2) hne a3
theorem RecsIn.st4 {w : World} {base b : Nat} {t : TypeId} {vs : List Value} {L : List (List Nat)} {k : Nat} {u0 u1 u2 u3 : Value} (h : RecsIn w base vs L k) (hb : Bk w b t #[u0, u1, u2, u3]) (hne : t ≠ 5) (a0 a1 a2 a3 : Value) : RecsIn (stored4 w b a0 a1 a2 a3) base vs L k := by
 unfold stored4
 exact (((h.box hb hne a0).box (hb.put 0 a0) hne a1).box ((hb.put 0 a0).put 1 a1) hne a2).box (((hb.put 0 a0).put 1 a1).put 2 a2) hne a3
theorem results_ctt {P : Program} {fn : Func} {p q r : Tmp} {t1 : TypeId} (h : fn.results = #[.cell p t1, .tmp q, .tmp r]) {tmps : Array Value} {w : World} {a1 : Addr} {v1 v2 v3 : Value}
 (h1 : tmps.getD p undef = .pointer (some a1)) (h2 : tmps.getD q undef = v2) (h3 : tmps.getD r undef = v3) (l1 : (loadVar t1 a1).run P w = .ok v1 w) : (results fn tmps).run P w = .ok (.tuple #[v1, v2, v3]) w := by
 have h1' : tmps[p]?.getD undef = .pointer (some a1) := by simpa using h1
 have h2' : tmps[q]?.getD undef = v2 := by simpa using h2
 have h3' : tmps[r]?.getD undef = v3 := by simpa using h3
 simp [results, h, h1', h2', h3', asAddr, l1]
def lenV (v : Value) : Nat := match v with | .slice _ n _ => n | _ => 0
def RcRes (w : World) (h g : Nat) (L : List (List Nat)) (e : Ending) (w' : World) : Prop :=
 ∃ A c vs, e = .returned (.tuple #[logN h g (sumT L) L.length, .slice A L.length c, .bool true]) ∧ OwnV w' w.heap.size 63 A L.length c vs ∧ RecsIn w' w.heap.size vs L L.length ∧ Rss w' w'.heap.size A L.length L ∧ Below w.heap.size w w'
theorem OwnV.cap {w : World} {base n c : Nat} {e : TypeId} {A : Option Addr} {vs : List Value} (h : OwnV w base e A n c vs) : n ≤ c ∧ c ≤ maxLen := by
 rcases h.2 with ⟨hv, h0⟩ | ⟨g, cap, cur, hv, hg, hh, hnc, hcm, hcs, htk⟩
 ·injection hv with _ _ hc
  subst h0; subst hc
  exact ⟨Nat.le_refl _, by unfold maxLen; omega⟩
 ·injection hv with _ _ hc
  subst hc
  exact ⟨hnc, hcm⟩
set_option maxRecDepth 20000 in
set_option maxHeartbeats 8000000 in
theorem records_any (v : Value) (d : Dk) (h g : Nat) (L : List (List Nat)) (w : World) (hd : DkAt w w.heap.size v d) (hr : rightB d = true) (hdn : d.down = false) (hh : h ≤ 1) (hlog : Log d (h * (d.secs.length / 2)) (d.secs.length / 2) g L) (ht : Tab w) :
 Calls Tryz.prog 52 #[v, .int .i64 (h : Int), .int .i64 (g : Int)] w (RcRes w h g L) := by
 have hin : h * (d.secs.length / 2) + d.secs.length / 2 ≤ d.secs.length := by
  have : h = 0 ∨ h = 1 := by omega
  rcases this with rfl | rfl <;> omega
 obtain ⟨A, n0, c, A', n', c', rfl, hx⟩ := hd
 have HD := Lib.hid (show DkAt w w.heap.size (.agg #[.slice A n0 c, .slice A' n' c', .int .i64 d.fuse, .bool d.down]) d from ⟨A, n0, c, A', n', c', rfl, hx⟩)
 have hsl : d.secs.length ≤ 4096 := (rightB_of.1 hr).1
 have HR := Lib.hid hr; have HDN := Lib.hid hdn; have HLOG := Lib.hid hlog; have HTAB := Lib.hid ht
 obtain ⟨D, hD⟩ : ∃ D : Array Value, D = #[.slice A n0 c, .slice A' n' c', .int .i64 d.fuse, .bool d.down] := ⟨_, rfl⟩
 have b3 : Bk ((w.alloc (.cells #[.slice A n0 c, .slice A' n' c', .int .i64 d.fuse, .bool d.down] 27)).alloc (.cells #[.int .i64 0, .int .i64 0, .int .i64 0, .int .i64 0] 32)) w.heap.size 27 #[.slice A n0 c, .slice A' n' c', .int .i64 d.fuse, .bool d.down] := (Bk.new w _ _).alloc _
 have b6 : Bk ((w.alloc (.cells #[.slice A n0 c, .slice A' n' c', .int .i64 d.fuse, .bool d.down] 27)).alloc (.cells #[.int .i64 0, .int .i64 0, .int .i64 0, .int .i64 0] 32)) (w.heap.size + 1) 32 _ := Bk.new2 w _ _ _
 have b0 : Below w.heap.size w ((w.alloc (.cells #[.slice A n0 c, .slice A' n' c', .int .i64 d.fuse, .bool d.down] 27)).alloc (.cells #[.int .i64 0, .int .i64 0, .int .i64 0, .int .i64 0] 32)) := ((Below.refl _ _).alloc (Nat.le_refl _) _).alloc (by simp) _
 clear hx hr hdn hlog ht hD
 go_enter Tryz.func52, Tryz.ntmps52
 go_wp2_with fail
 generalize (w.alloc (.cells #[.slice A n0 c, .slice A' n' c', .int .i64 d.fuse, .bool d.down] 27)).alloc (.cells #[.int .i64 0, .int .i64 0, .int .i64 0, .int .i64 0] 32) = W at *
 refine (halfOf_any _ d h W (HD.out.later b0) hh hsl).mono ?_
 rintro e W1 ⟨rfl, hb1⟩
 unfold halfV
 have HIN := Lib.hid hin
 have HB3 := Lib.hid (b3.below hb1 b3.lt); have HB6 := Lib.hid (b6.below hb1 b6.lt); have HB0 := Lib.hid (b0.trans (hb1.mono b0.size))
 clear b3 b6 b0 hb1 hin
 generalize hoo : h * (d.secs.length / 2) = o at *
 generalize hss : d.secs.length / 2 = size at *
 have hsz4 : size ≤ 2048 := by omega
 have ho4 : o ≤ 4096 := by have := HIN.out; omega
 have HOO := Lib.hid hoo; have HSS := Lib.hid hss
 clear hoo hss
 obtain ⟨⟨v0, v1, v2, v3⟩, x0, x1, x2, x3⟩ := HB6.out.four
 have hz6 := HB6.out.lt
 have hst := stored4_facts HB6.out (.int .i64 (h : Int)) (.int .i64 (g : Int)) (.int .i64 0) (.int .i64 0)
 have hne9 : W1.heap.size ≠ w.heap.size + 1 := by omega
 have hbst := hst.2.2.1 _ _ HB0.out (Nat.le_succ _)
 have HREL : Hid (RcHead w #[.slice A n0 c, .slice A' n' c', .int .i64 d.fuse, .bool d.down] h g o size L W1.heap.size (.slice none 0 0) ((stored4 W1 (w.heap.size + 1) (.int .i64 (h : Int)) (.int .i64 (g : Int)) (.int .i64 0) (.int .i64 0)).alloc (.cells #[.int .i64 (o : Int), .int .i64 (size : Int)] 79))) := Lib.hid ⟨0, none, 0, [], rfl, Nat.zero_le _, OwnV.nil, fun i hi => absurd hi (by omega), (hst.2.2.2 _ _ _ (by omega) HB3.out).alloc _, hst.1.alloc _, Bk.new' _ _ _ _ (by unfold stored4; simp), hbst.alloc hbst.size _⟩
 unfold stored4 at HREL
 clear hst hbst HB3 HB6 HB0
 go_wp2_with fail
 clear v0 v1 v2 v3 x0 x1 x2 x3
 generalize W1.heap.size = bh at *
 go_loopw [7] (fun x wr => RcHead w #[.slice A n0 c, .slice A' n' c', .int .i64 d.fuse, .bool d.down] h g o size L bh x wr) (fun x _ => L.length - lenV x)
 case atStart => exact HREL.out
 case round =>
  clear HREL
  obtain ⟨k, AL, cL, vs, rfl, H⟩ := hrel
  obtain ⟨⟨p0, p1, p2, p3⟩, q0, q1, q2, q3⟩ := H.b3.four
  obtain ⟨⟨r0, r1, r2, r3⟩, s0, s1, s2, s3⟩ := H.b6.four
  obtain ⟨y0, y1⟩ := H.b9.two
  have HH := Lib.hid H
  have hkL := H.kL
  clear H
  obtain ⟨hok, hby, hsum, hg1, hg2, hrec, hend⟩ := HLOG.out
  by_cases hlt : k < L.length
  ·obtain ⟨hmk, hck⟩ := hrec k hlt
   have hn1 : 1 ≤ (textAt L k).length := (hok _ (textAt_mem hlt)).1
   have hn6 : (textAt L k).length ≤ 6000 := (hok _ (textAt_mem hlt)).2
   have hle : sumT (L.take (k + 1)) ≤ sumT L := by
    conv => rhs; rw [← List.take_append_drop (k + 1) L, sumT_append]
    omega
   have HST : Hid (sumT (L.take (k + 1)) = sumT (L.take k) + takesN (textAt L k).length) := Lib.hid (by rw [take_text hlt, sumT_snoc])
   have hfit : sumT (L.take k) + takesN (textAt L k).length ≤ size := by have := HST.out; omega
   have hmlt : moreC 0 (textAt L k) < 4294967296 := moreC_lt _ (by omega) (hby _ (textAt_mem hlt))
   have HCK := Lib.hid hck; have HMK := Lib.hid hmk
   have HBY := Lib.hid (hby _ (textAt_mem hlt))
   have hkl6 : k ≤ 1000000 := by have := sumT_ge hok; omega
   have htk := takesN_ok hn1 hn6
   have HTK := Lib.hid htk
   clear hok hby hsum hrec hend hmk hck hle htk
   generalize hu : sumT (L.take k) = u at *
   have HU := Lib.hid hu
   generalize hnn : (textAt L k).length = n at *
   have HNN := Lib.hid hnn
   clear hu hnn
   have htp : 0 < takesN n := takesN_pos.2 ⟨hn1, hn6⟩
   have hu4 : u ≤ 2048 := by omega
   have hsz9 := takesN_le n
   go_wp2_with fail
   have hc := markAt_yes _ d o size u wr (HD.out.later HH.out.hb) HR.out HDN.out (by omega) (by have := HIN.out; omega) g k n (moreC 0 (textAt L k)) hg1 hg2 hn1 hn6 hmlt (by omega) hfit (by rw [HMK.out, markL, HNN.out])
   unfold halfV markV at hc
   refine hc.mono ?_
   clear hc
   rintro e W2 ⟨rfl, hb2⟩
   have H2 := HH.out.below hb2
   clear HH hb2 p0 p1 p2 p3 q0 q1 q2 q3 r0 r1 r2 r3 s0 s1 s2 s3 y0 y1
   obtain ⟨⟨p0, p1, p2, p3⟩, _⟩ := H2.b3.four
   have b6' := H2.b6
   rw [HU.out] at b6'
   obtain ⟨⟨r0, r1, r2, r3⟩, _⟩ := b6'.four
   clear b6'
   obtain ⟨y0, y1⟩ := H2.b9.two
   have l3 := H2.b3.lt
   have l6 := H2.b6.lt
   have l9 := H2.b9.lt
   have HH2 := Lib.hid H2
   have hgg : ((g : Int) != (g : Int)) = false := by simp
   have hkk : ((k : Int) != (k : Int)) = false := by simp
   clear H2
   go_wp2_with fail
   refine calls_over (fun W' => RcRel w #[.slice A n0 c, .slice A' n' c', .int .i64 d.fuse, .bool d.down] h g o size L bh k AL cL vs W' ∧ Bk W' W2.heap.size 98 #[.int .i64 (g : Int), .int .i64 (k : Int), .int .i64 (n : Int), .int .i64 ((moreC 0 (textAt L k) : Nat) : Int)]) ⟨HH2.out.below ((Below.refl _ _).alloc (Nat.le_refl _) _), Bk.new _ _ _⟩ ?_
   clear p0 p1 p2 p3 r0 r1 r2 r3 y0 y1 HH2
   generalize hb10 : W2.heap.size = b10 at *
   clear hb10
   rintro W3 ⟨H3, hm3⟩
   have hrd := readBytes_any _ d (o + u + 1) n (textAt L k) W3 (HD.out.later H3.hb) HR.out HDN.out (by have := HIN.out; have := HTK.out; unfold nck; omega) hn6 HNN.out HBY.out HCK.out
   have hcast : ((o + u + 1 : Nat) : Int) = (o : Int) + (u : Int) + 1 := by omega
   rw [hcast] at hrd
   ((with_reducible refine hrd.mono ?_); clear hrd hcast)
   rintro e W4 ⟨q, rfl, hby4, hq4, hqge, hb4⟩
   have H4 := H3.below hb4
   have hm4 := hm3.below hb4 hm3.lt
   have hqw : w.heap.size ≤ q := Nat.le_trans H3.hb.size hqge
   clear H3 hm3 hb4 hqge
   have HH4 := Lib.hid H4; have HM4 := Lib.hid hm4; have HBY4 := Lib.hid hby4; have HQ4 := Lib.hid hq4
   clear H4 hm4 hby4 hq4
   generalize hsm : moreC 0 (textAt L k) = sm at *
   have HSM := Lib.hid hsm
   clear hsm
   go_wp2_with fail
   have hm : Tryz.prog.follows .mixedOrders = true := by kernel_rfl
   refine wp_region_held_drew (S := fun W' => RcRel w #[.slice A n0 c, .slice A' n' c', .int .i64 d.fuse, .bool d.down] h g o size L bh k AL cL vs W' ∧ Bk W' b10 98 #[.int .i64 (g : Int), .int .i64 (k : Int), .int .i64 (n : Int), .int .i64 (sm : Int)] ∧ Bk W' q 5 ((textAt L k).map bv).toArray) hm ⟨HH4.out.below ((Below.refl _ _).drew), HM4.out.drew, HQ4.out.drew⟩ (fun hHeld => ?_)
   have HBY5 := Lib.hid (HBY4.out.later ((Below.refl W4.heap.size W4).drew))
   generalize W4.drew = W5 at *
   clear HH4 HM4 HQ4 HBY4
   simp only [List.size_toArray, List.length_cons, List.length_nil, Nat.reduceAdd]
   refine wpAnyH_take (i := 0) (v := .slice (some ⟨q, 0, none⟩) n n) rfl (by kernel_rfl) (by kernel_rfl) (by kernel_rfl) (fun _ _ _ h => h) (Or.inl ⟨by rfl, fun w0 hC => by simp [execOp, Act.eval, Act.put, go_sem]⟩) hHeld ?_
   try simp only [Act.put, jA, jB, jC]
   refine wpAnyH_take (i := 3) (v := .pointer (some ⟨b10, 3, none⟩)) rfl (by kernel_rfl) (by kernel_rfl) (by kernel_rfl) (fun _ _ _ h => h) (Or.inl ⟨by rfl, fun w0 hC => by simp [execOp, Act.eval, Act.put, go_sem]⟩) hHeld ?_
   try simp only [Act.put, jA, jB, jC]
   refine wpAnyH_take (i := 4) (v := .int .i64 (sm : Int)) rfl (by kernel_rfl) (by kernel_rfl) (by kernel_rfl) (fun _ _ _ h => h) (Or.inl ⟨by rfl, fun w0 hC => by have := hC.2.1.four.1; simp [execOp, Act.eval, Act.put, go_sem, this.2.2.2]⟩) hHeld ?_
   try simp only [Act.put, jA, jB, jC]
   refine wpAnyH_ready (rs := [1]) (by kernel_rfl) (by simp) (AllReadyH.cons rfl (fun K hK => ?_) AllReadyH.nil)
   rw [if_pos (by rfl)]
   go_wp2_with fail
   refine (sum_any _ n n (textAt L k) W5 HBY5.out (by omega) (HTAB.out.below hHeld.1.hb HTAB.out.pos)).mono ?_
   rw [HSM.out]
   rintro e W6 ⟨rfl, hb6⟩
   have hS : _ ∧ _ ∧ _ := And.intro (hHeld.1.below hb6) (And.intro (hHeld.2.1.below hb6 hHeld.2.1.lt) (hHeld.2.2.below hb6 hHeld.2.2.lt))
   clear hb6 HBY5
   refine hK.out _ _ hS (fun hHeld => ?_)
   clear hK K
   try simp only [Act.put, jA, jB, jC]
   clear hS
   have hcv : IntKind.i64.wrap (sm : Int) = (sm : Int) := IntWalk.i64_in _ (by omega)
   refine wpAnyH_take (i := 2) (v := .int .i64 (sm : Int)) rfl (by kernel_rfl) (by kernel_rfl) (by kernel_rfl) (fun _ _ _ h => h) (Or.inl ⟨by rfl, fun w0 hC => by simp [execOp, Act.eval, Act.put, go_sem, convert, run_underlying Tryz.underlying124, run_underlying Tryz.underlying3, hcv]⟩) hHeld ?_
   try simp only [Act.put, jA, jB, jC]
   refine wpAnyH_take (i := 5) (v := .bool false) rfl (by kernel_rfl) (by kernel_rfl) (by kernel_rfl) (fun _ _ _ h => h) (Or.inl ⟨by rfl, fun w0 hC => by simp [execOp, Act.eval, Act.put, go_sem]⟩) hHeld ?_
   try simp only [Act.put, jA, jB, jC]
   refine wpAnyH_done (by kernel_rfl) ?_ _
   clear hcv
   obtain ⟨H6, hm6, hq6⟩ := hHeld
   have HH6 := Lib.hid H6; have HM6 := Lib.hid hm6; have HQ6 := Lib.hid hq6
   clear H6 hm6 hq6
   have HOLD : Hid (w.heap.size ≤ W6.heap.size) := Lib.hid HH6.out.hb.size
   go_wp2_with ((with_reducible show wpList _ _ _ (⟨some 66, _, _, _, _, _⟩ :: _) _ _); refine hold ?_)
   refine held (wpList_append_oneT rfl (.tmp 63) (.tmp 65) 57 rfl Tryz.underlying57 info_bytes (by simp [Value.cells]) (by omega) w.heap.size AL k cL vs rfl (HH6.out.own.alloc _) W6.heap.size 0 (.slice (some ⟨q, 0, none⟩) n n) rfl (by rw [cell_of_row _ _ _ _ _ _ (heap_alloc_new W6 _)]; rfl) rfl hkl6 (by rw [World.size_alloc]; have := HOLD.out; omega) ?_)
   intro A2 c2 W7 hown hb7 hoth
   have OWN := Lib.hid hown
   have REC : Hid (RecsIn W7 w.heap.size (vs ++ [.slice (some ⟨q, 0, none⟩) n n]) L (k + 1)) := Lib.hid (by
    have h1 := (HH6.out.rcs.keep (fun b cs hb => hoth b 5 cs (by decide) (hb.alloc _)))
    have h2 := hoth q 5 _ (by decide) (HQ6.out.alloc (.cells #[.slice (some ⟨q, 0, none⟩) n n] 63))
    have := h1.next HH6.out.own.len h2 hqw
    rwa [HNN.out] at this)
   have B3 := Lib.hid (hoth _ _ _ (by decide) (HH6.out.b3.alloc (.cells #[.slice (some ⟨q, 0, none⟩) n n] 63)))
   have B6a := hoth _ _ _ (by decide) (HH6.out.b6.alloc (.cells #[.slice (some ⟨q, 0, none⟩) n n] 63))
   rw [HU.out] at B6a
   have B6 := Lib.hid B6a
   have B9 := Lib.hid (hoth _ _ _ (by decide) (HH6.out.b9.alloc (.cells #[.slice (some ⟨q, 0, none⟩) n n] 63)))
   have B10 := Lib.hid (hoth _ _ _ (by decide) (HM6.out.alloc (.cells #[.slice (some ⟨q, 0, none⟩) n n] 63)))
   have BW := Lib.hid ((HH6.out.hb.alloc HH6.out.hb.size (.cells #[.slice (some ⟨q, 0, none⟩) n n] 63)).trans hb7)
   have hne10 : b10 ≠ w.heap.size + 1 := Bk.diff HM6.out HH6.out.b6 (by decide)
   clear hown hb7 hoth HH6 HM6 HQ6 B6a HOLD
   go_wp2_with fail
   refine wp_region_held_drew (S := fun W' => Bk W' b10 98 #[.int .i64 (g : Int), .int .i64 (k : Int), .int .i64 (n : Int), .int .i64 (sm : Int)]) hm B10.out.drew (fun hHeld => ?_)
   replace OWN := Lib.hid (OWN.out.below ((Below.refl _ _).drew)); replace REC := Lib.hid (REC.out.keep (fun b cs hb => hb.drew)); replace B3 := Lib.hid B3.out.drew; replace B6 := Lib.hid B6.out.drew; replace B9 := Lib.hid B9.out.drew; replace B10 := Lib.hid B10.out.drew; replace BW := Lib.hid BW.out.drew
   generalize W7.drew = W7 at *
   obtain ⟨⟨r0, r1, r2, r3⟩, s0, s1, s2, s3⟩ := B6.out.four
   simp only [List.size_toArray, List.length_cons, List.length_nil, Nat.reduceAdd]
   refine wpAnyH_take (i := 0) (v := .pointer (some ⟨w.heap.size + 1, 2, none⟩)) rfl (by kernel_rfl) (by kernel_rfl) (by kernel_rfl) (fun _ _ _ h => h) (Or.inl ⟨by rfl, fun w0 hC => by simp [execOp, Act.eval, Act.put, go_sem]⟩) hHeld ?_
   try simp only [Act.put, jA, jB, jC]
   refine wpAnyH_take (i := 2) (v := .pointer (some ⟨b10, 2, none⟩)) rfl (by kernel_rfl) (by kernel_rfl) (by kernel_rfl) (fun _ _ _ h => h) (Or.inl ⟨by rfl, fun w0 hC => by simp [execOp, Act.eval, Act.put, go_sem]⟩) hHeld ?_
   try simp only [Act.put, jA, jB, jC]
   refine wpAnyH_take (i := 3) (v := .int .i64 (n : Int)) rfl (by kernel_rfl) (by kernel_rfl) (by kernel_rfl) (fun _ _ _ h => h) (Or.inl ⟨by rfl, fun w0 hC => by have := (show Bk _ _ _ _ from hC).four.1; simp [execOp, Act.eval, Act.put, go_sem, this.2.2.1]⟩) hHeld ?_
   try simp only [Act.put, jA, jB, jC]
   refine wpAnyH_ready (rs := [1, 4]) (by kernel_rfl) (by simp) (AllReadyH.cons rfl (fun K hK => ?_) (AllReadyH.cons rfl (fun K hK => ?_) AllReadyH.nil))
   ·rw [if_pos (by rfl)]
    go_wp2_with fail
    refine hK.out _ _ hHeld (fun hHeld => ?_)
    clear hK K
    try simp only [Act.put, jA, jB, jC]
    refine wpAnyH_ready (rs := [4]) (by kernel_rfl) (by simp) (AllReadyH.cons rfl (fun K hK => ?_) AllReadyH.nil)
    rw [if_pos (by rfl)]
    go_wp2_with fail
    refine (takes_int n _ (by omega)).mono ?_
    rintro e W' ⟨rfl, rfl⟩
    refine hK.out _ _ hHeld (fun hHeld => ?_)
    clear hK K
    try simp only [Act.put, jA, jB, jC]
    have hadd : IntKind.i64.wrap ((u : Int) + ((takesN n : Nat) : Int)) = (u : Int) + ((takesN n : Nat) : Int) := IntWalk.i64_in _ (by omega)
    refine wpAnyH_take (i := 5) (v := .int .i64 ((u : Int) + ((takesN n : Nat) : Int))) rfl (by kernel_rfl) (by kernel_rfl) (by kernel_rfl) (fun _ _ _ h => h) (Or.inl ⟨by rfl, fun w0 hC => by rw [← hadd]; simp [execOp, Act.eval, Act.put, go_sem, hadd]⟩) hHeld ?_
    try simp only [Act.put, jA, jB, jC]
    clear hadd
    refine wpAnyH_take (i := 6) (v := .pointer (some ⟨w.heap.size + 1, 2, none⟩)) rfl (by kernel_rfl) (by kernel_rfl) (by kernel_rfl) (fun _ _ _ h => h) (Or.inl ⟨by rfl, fun w0 hC => by simp [execOp, Act.eval, Act.put, go_sem]⟩) hHeld ?_
    try simp only [Act.put, jA, jB, jC]
    refine wpAnyH_ready (rs := [7]) (by kernel_rfl) (by simp) (AllReadyH.cons rfl (fun K hK => ?_) AllReadyH.nil)
    rw [if_pos (by rfl)]
    go_wp2_with fail
    have b6c := B6.out.put 2 (.int .i64 ((u : Int) + ((takesN n : Nat) : Int)))
    have b10c := B10.out.far (p := ⟨w.heap.size + 1, 2, none⟩) (by show b10 ≠ w.heap.size + 1; exact hne10) (.int .i64 ((u : Int) + ((takesN n : Nat) : Int)))
    have b6d := b6c.put 3 (.int .i64 ((k : Int) + 1))
    have b6e : Bk (W7.setCell ⟨w.heap.size + 1, 2, none⟩ (.int .i64 ((u : Int) + ((takesN n : Nat) : Int)))) (w.heap.size + 1) 32 #[.int .i64 (h : Int), .int .i64 (g : Int), .int .i64 ((u : Int) + ((takesN n : Nat) : Int)), .int .i64 (k : Int)] := b6c
    have HREL : Hid (RcHead w #[.slice A n0 c, .slice A' n' c', .int .i64 d.fuse, .bool d.down] h g o size L bh (.slice A2 (k + 1) c2) ((W7.setCell ⟨w.heap.size + 1, 2, none⟩ (.int .i64 ((u : Int) + ((takesN n : Nat) : Int)))).setCell ⟨w.heap.size + 1, 3, none⟩ (.int .i64 ((k : Int) + 1)))) :=
     Lib.hid ⟨k + 1, A2, c2, _, rfl, hlt, (OWN.out.box B6.out (by decide) _).box b6c (by decide) _, (REC.out.box B6.out (by decide) _).box b6c (by decide) _, (B3.out.far (p := ⟨w.heap.size + 1, 2, none⟩) (by show w.heap.size ≠ w.heap.size + 1; omega) _).far (p := ⟨w.heap.size + 1, 3, none⟩) (by show w.heap.size ≠ w.heap.size + 1; omega) _, by rw [HST.out]; exact b6d, (B9.out.far (p := ⟨w.heap.size + 1, 2, none⟩) (by show bh ≠ w.heap.size + 1; exact hne9) _).far (p := ⟨w.heap.size + 1, 3, none⟩) (by show bh ≠ w.heap.size + 1; exact hne9) _, (BW.out.setCell (p := ⟨w.heap.size + 1, 2, none⟩) (by show w.heap.size ≤ w.heap.size + 1; omega) _).setCell (p := ⟨w.heap.size + 1, 3, none⟩) (by show w.heap.size ≤ w.heap.size + 1; omega) _⟩
    obtain ⟨⟨r0, r1, r2, r3⟩, s0, s1, s2, s3⟩ := b6e.four
    clear b6c b6d b6e OWN REC B3 B9 BW B6 B10
    refine hK.out _ _ b10c (fun hHeld => ?_)
    clear hK K
    try simp only [Act.put, jA, jB, jC]
    clear b10c
    refine wpAnyH_done (by kernel_rfl) ?_ _
    clear hHeld
    generalize takesN n = tk at *
    generalize W7.setCell ⟨w.heap.size + 1, 2, none⟩ (.int .i64 ((u : Int) + (tk : Int))) = W8 at *
    go_wp2
    go_roundw
    case rel => exact HREL.out
    case measure => simp [lenV]; omega
   ·rw [if_pos (by rfl)]
    go_wp2_with fail
    refine (takes_int n _ (by omega)).mono ?_
    rintro e W' ⟨rfl, rfl⟩
    refine hK.out _ _ hHeld (fun hHeld => ?_)
    clear hK K
    try simp only [Act.put, jA, jB, jC]
    refine wpAnyH_ready (rs := [1]) (by kernel_rfl) (by simp) (AllReadyH.cons rfl (fun K hK => ?_) AllReadyH.nil)
    rw [if_pos (by rfl)]
    go_wp2_with fail
    refine hK.out _ _ hHeld (fun hHeld => ?_)
    clear hK K
    try simp only [Act.put, jA, jB, jC]
    have hadd : IntKind.i64.wrap ((u : Int) + ((takesN n : Nat) : Int)) = (u : Int) + ((takesN n : Nat) : Int) := IntWalk.i64_in _ (by omega)
    refine wpAnyH_take (i := 5) (v := .int .i64 ((u : Int) + ((takesN n : Nat) : Int))) rfl (by kernel_rfl) (by kernel_rfl) (by kernel_rfl) (fun _ _ _ h => h) (Or.inl ⟨by rfl, fun w0 hC => by rw [← hadd]; simp [execOp, Act.eval, Act.put, go_sem, hadd]⟩) hHeld ?_
    try simp only [Act.put, jA, jB, jC]
    clear hadd
    refine wpAnyH_take (i := 6) (v := .pointer (some ⟨w.heap.size + 1, 2, none⟩)) rfl (by kernel_rfl) (by kernel_rfl) (by kernel_rfl) (fun _ _ _ h => h) (Or.inl ⟨by rfl, fun w0 hC => by simp [execOp, Act.eval, Act.put, go_sem]⟩) hHeld ?_
    try simp only [Act.put, jA, jB, jC]
    refine wpAnyH_ready (rs := [7]) (by kernel_rfl) (by simp) (AllReadyH.cons rfl (fun K hK => ?_) AllReadyH.nil)
    rw [if_pos (by rfl)]
    go_wp2_with fail
    have b6c := B6.out.put 2 (.int .i64 ((u : Int) + ((takesN n : Nat) : Int)))
    have b10c := B10.out.far (p := ⟨w.heap.size + 1, 2, none⟩) (by show b10 ≠ w.heap.size + 1; exact hne10) (.int .i64 ((u : Int) + ((takesN n : Nat) : Int)))
    have b6d := b6c.put 3 (.int .i64 ((k : Int) + 1))
    have b6e : Bk (W7.setCell ⟨w.heap.size + 1, 2, none⟩ (.int .i64 ((u : Int) + ((takesN n : Nat) : Int)))) (w.heap.size + 1) 32 #[.int .i64 (h : Int), .int .i64 (g : Int), .int .i64 ((u : Int) + ((takesN n : Nat) : Int)), .int .i64 (k : Int)] := b6c
    have HREL : Hid (RcHead w #[.slice A n0 c, .slice A' n' c', .int .i64 d.fuse, .bool d.down] h g o size L bh (.slice A2 (k + 1) c2) ((W7.setCell ⟨w.heap.size + 1, 2, none⟩ (.int .i64 ((u : Int) + ((takesN n : Nat) : Int)))).setCell ⟨w.heap.size + 1, 3, none⟩ (.int .i64 ((k : Int) + 1)))) :=
     Lib.hid ⟨k + 1, A2, c2, _, rfl, hlt, (OWN.out.box B6.out (by decide) _).box b6c (by decide) _, (REC.out.box B6.out (by decide) _).box b6c (by decide) _, (B3.out.far (p := ⟨w.heap.size + 1, 2, none⟩) (by show w.heap.size ≠ w.heap.size + 1; omega) _).far (p := ⟨w.heap.size + 1, 3, none⟩) (by show w.heap.size ≠ w.heap.size + 1; omega) _, by rw [HST.out]; exact b6d, (B9.out.far (p := ⟨w.heap.size + 1, 2, none⟩) (by show bh ≠ w.heap.size + 1; exact hne9) _).far (p := ⟨w.heap.size + 1, 3, none⟩) (by show bh ≠ w.heap.size + 1; exact hne9) _, (BW.out.setCell (p := ⟨w.heap.size + 1, 2, none⟩) (by show w.heap.size ≤ w.heap.size + 1; omega) _).setCell (p := ⟨w.heap.size + 1, 3, none⟩) (by show w.heap.size ≤ w.heap.size + 1; omega) _⟩
    obtain ⟨⟨r0, r1, r2, r3⟩, s0, s1, s2, s3⟩ := b6e.four
    clear b6c b6d b6e OWN REC B3 B9 BW B6 B10
    refine hK.out _ _ b10c (fun hHeld => ?_)
    clear hK K
    try simp only [Act.put, jA, jB, jC]
    clear b10c
    refine wpAnyH_done (by kernel_rfl) ?_ _
    clear hHeld
    generalize takesN n = tk at *
    generalize W7.setCell ⟨w.heap.size + 1, 2, none⟩ (.int .i64 ((u : Int) + (tk : Int))) = W8 at *
    go_wp2
    go_roundw
    case rel => exact HREL.out
    case measure => simp [lenV]; omega
  ·have hkn : k = L.length := by omega
   have hc : ∀ W, Below w.heap.size w W → Calls Tryz.prog 72 #[.agg #[.slice A n0 c, .slice A' n' c', .int .i64 d.fuse, .bool d.down], .agg #[.int .i64 (o : Int), .int .i64 (size : Int)], .int .i64 ((sumT (L.take k) : Nat) : Int)] W fun e w' => e = .returned (.tuple #[.agg #[.int .i64 0, .int .i64 0, .int .i64 0, .int .i64 0], .bool false]) ∧ Below W.heap.size W w' := by
    intro W hW
    rw [hkn, List.take_length]
    by_cases hfull : size ≤ sumT L
    ·exact markAt_end _ d o size (sumT L) W (HD.out.later hW) HR.out HDN.out hfull
    ·rcases hend with h1 | h1
     ·omega
     ·exact markAt_zero _ d o size (sumT L) W (HD.out.later hW) HR.out HDN.out (by omega) (by have := HIN.out; omega) h1
   have HC := Lib.hid (hc wr HH.out.hb)
   have HOK := Lib.hid hok; have HBB := Lib.hid hby
   have HKN := Lib.hid hkn
   have hu4 : sumT (L.take k) ≤ 2048 := by rw [hkn, List.take_length]; omega
   clear hc hok hby hsum hrec hend hkn
   generalize hu : sumT (L.take k) = u at *
   have HU := Lib.hid hu
   clear hu
   go_wp2_with fail
   refine HC.out.mono ?_
   rintro e W2 ⟨rfl, hb2⟩
   have H2 := HH.out.below hb2
   clear HH hb2 HC p0 p1 p2 p3 q0 q1 q2 q3 r0 r1 r2 r3 s0 s1 s2 s3 y0 y1
   have b6' := H2.b6
   rw [HU.out] at b6'
   have HB6 := Lib.hid b6'
   obtain ⟨⟨r0, r1, r2, r3⟩, s0, s1, s2, s3⟩ := b6'.four
   have l6 := H2.b6.lt
   have HH2 := Lib.hid H2
   clear H2 b6'
   have hst := stored4_facts HB6.out (.int .i64 (h : Int)) (.int .i64 (g : Int)) (.int .i64 (u : Int)) (.int .i64 (k : Int))
   have h1 := (HH2.out.own.st4 HB6.out (by decide) (.int .i64 (h : Int)) (.int .i64 (g : Int)) (.int .i64 (u : Int)) (.int .i64 (k : Int))).alloc (.cells #[.int .i64 0, .int .i64 0, .int .i64 0, .int .i64 0] 98)
   have h2 := (HH2.out.rcs.st4 HB6.out (by decide) (.int .i64 (h : Int)) (.int .i64 (g : Int)) (.int .i64 (u : Int)) (.int .i64 (k : Int))).keep (fun b cs hb => hb.alloc (.cells #[.int .i64 0, .int .i64 0, .int .i64 0, .int .i64 0] 98))
   have h3 := hst.2.2.1 _ _ HH2.out.hb (Nat.le_succ _)
   have HFIN : Hid (OwnV _ w.heap.size 63 AL k cL vs ∧ RecsIn _ w.heap.size vs L k ∧ Below w.heap.size w _ ∧ Bk _ (w.heap.size + 1) 32 #[.int .i64 (h : Int), .int .i64 (g : Int), .int .i64 (u : Int), .int .i64 (k : Int)]) := Lib.hid ⟨h1, h2, h3.alloc h3.size (.cells #[.int .i64 0, .int .i64 0, .int .i64 0, .int .i64 0] 98), hst.1.alloc (.cells #[.int .i64 0, .int .i64 0, .int .i64 0, .int .i64 0] 98)⟩
   unfold stored4 at HFIN
   clear hst h1 h2 h3 HH2 HB6
   go_wp2
   refine post_over (fun W' => OwnV W' w.heap.size 63 AL k cL vs ∧ RecsIn W' w.heap.size vs L k ∧ Below w.heap.size w W' ∧ Bk W' (w.heap.size + 1) 32 #[.int .i64 (h : Int), .int .i64 (g : Int), .int .i64 (u : Int), .int .i64 (k : Int)]) HFIN.out ?_
   clear HFIN r0 r1 r2 r3 s0 s1 s2 s3
   rintro W9 ⟨h1, h2, h3, h4⟩
   have hkn := HKN.out
   refine bodyPost_ret (v := .tuple #[.agg #[.int .i64 (h : Int), .int .i64 (g : Int), .int .i64 (u : Int), .int .i64 (k : Int)], .slice AL k cL, .bool true]) ?_ rfl ?_
   ·exact results_ctt (fn := Tryz.f52) (a1 := ⟨w.heap.size + 1, 0, none⟩) rfl rfl rfl rfl (load_log4 h4)
   ·have hu := HU.out
    subst hkn
    rw [List.take_length] at hu
    refine ⟨AL, cL, vs, ?_, h1, h2, h2.rss h1 HOK.out HBB.out, h3⟩
    rw [← hu]
    rfl
end Go.Proofs.YtcdehejgnnnimaaGreatDoor
namespace Go.Proofs.YtcdehejgnnnimaaGreatDoor
open List renaming setIfInBounds_toArray → jA, set_cons_zero → jB, set_cons_succ → jC
set_option linter.unusedVariables false
set_option linter.unusedSimpArgs false
open Go.RowKit
def GenIs (d : Dk) (o size G : Nat) : Prop := (G = 0 ∧ HeadNo d o) ∨ HeadYes d o size G
theorem gen_any (v : Value) (d : Dk) (h G : Nat) (w : World) (hd : DkAt w w.heap.size v d) (hr : rightB d = true) (hdn : d.down = false) (hh : h ≤ 1) (hz : 0 < d.secs.length / 2) (hg : GenIs d (h * (d.secs.length / 2)) (d.secs.length / 2) G) :
 Calls Tryz.prog 51 #[v, .int .i64 (h : Int)] w fun e w' => e = .returned (.int .i64 (G : Int)) ∧ Below w.heap.size w w' := by
 rcases hg with ⟨rfl, hg⟩ | hg
 ·exact generation_no v d h w hd hr hdn hh hz hg
 ·exact generation_yes v d h G w hd hr hdn hh hg
theorem Log.head {d : Dk} {o size g : Nat} {L : List (List Nat)} (h : Log d o size g L) (hne : L ≠ []) : HeadYes d o size g := by
 obtain ⟨hok, hby, hsum, hg1, hg2, hrec, _⟩ := h
 have hl : 0 < L.length := List.length_pos_iff.2 hne
 have h0 := (hrec 0 hl).1
 have hk := hok _ (textAt_mem hl)
 refine ⟨(textAt L 0).length, moreC 0 (textAt L 0), hg1, hg2, hk.1, hk.2, moreC_lt _ (by omega) (hby _ (textAt_mem hl)), ?_, ?_⟩
 ·have : sumT (L.take 1) ≤ sumT L := by
   conv => rhs; rw [← List.take_append_drop 1 L, sumT_append]
   omega
  rw [take_text hl, sumT_snoc, List.take_zero, sumT_nil, Nat.zero_add] at this
  exact Nat.le_trans this hsum
 ·simpa [sumT, markL] using h0
theorem Log.fits {d : Dk} {h g : Nat} {L : List (List Nat)} (hl : Log d (h * (d.secs.length / 2)) (d.secs.length / 2) g L) (hne : L ≠ []) (hh : h ≤ 1) : LogFits d h g (sumT L) L.length := by
 obtain ⟨hok, hby, hsum, hg1, hg2, _⟩ := hl
 have hp : 0 < L.length := List.length_pos_iff.2 hne
 have := sumT_ge hok
 exact ⟨hh, hg1, hg2, by omega, hsum, by omega, by omega⟩
def OpRes (w : World) (x : Dk × Int) (h g : Nat) (L : List (List Nat)) (e : Ending) (w' : World) : Prop :=
 ∃ v A c, e = .returned (.tuple #[v, logN (1 - h) (g + 1) (sumT L) L.length, .slice A L.length c, .int .i64 x.2]) ∧ DkAt w' w'.heap.size v x.1 ∧ L.length ≤ c ∧ c ≤ maxLen ∧ Rss w' w'.heap.size A L.length L ∧ Below w.heap.size w w' ∧ (0 < L.length → ∃ b, A = some ⟨b, 0, none⟩ ∧ w.heap.size ≤ b)
def OpFall (w : World) (x : Dk × Int) (e : Ending) (w' : World) : Prop :=
 ∃ v, e = .returned (.tuple #[v, logN 0 0 0 0, .slice none 0 0, .int .i64 9]) ∧ DkAt w' w'.heap.size v x.1 ∧ Below w.heap.size w w'
theorem results_cctt {P : Program} {fn : Func} {p q r s : Tmp} {t1 t2 : TypeId} (h : fn.results = #[.cell p t1, .cell q t2, .tmp r, .tmp s]) {tmps : Array Value} {w : World} {a1 a2 : Addr} {v1 v2 v3 v4 : Value}
 (h1 : tmps.getD p undef = .pointer (some a1)) (h2 : tmps.getD q undef = .pointer (some a2)) (h3 : tmps.getD r undef = v3) (h4 : tmps.getD s undef = v4) (l1 : (loadVar t1 a1).run P w = .ok v1 w) (l2 : (loadVar t2 a2).run P w = .ok v2 w) : (results fn tmps).run P w = .ok (.tuple #[v1, v2, v3, v4]) w := by
 have h1' : tmps[p]?.getD undef = .pointer (some a1) := by simpa using h1
 have h2' : tmps[q]?.getD undef = .pointer (some a2) := by simpa using h2
 have h3' : tmps[r]?.getD undef = v3 := by simpa using h3
 have h4' : tmps[s]?.getD undef = v4 := by simpa using h4
 simp [results, h, h1', h2', h3', h4', asAddr, l1, l2]
theorem OwnV.at0 {w : World} {base base2 c : Nat} {A : Option Addr} {L : List (List Nat)} {vs : List Value} (h : OwnV w base 63 A L.length c vs) (hne : L ≠ []) (hb : base2 ≤ base) : 0 < L.length → ∃ b, A = some ⟨b, 0, none⟩ ∧ base2 ≤ b := fun hp => by
 obtain ⟨g, e, hg, _⟩ := h.cells hp
 exact ⟨g, e, by omega⟩
structure OpnB (w : World) (D : Array Value) (W : World) : Prop where
 b1 : Bk W w.heap.size 27 D
 b2 : Bk W (w.heap.size + 1) 27 #[.slice none 0 0, .slice none 0 0, .int .i64 0, .bool false]
 b3 : Bk W (w.heap.size + 1 + 1) 32 #[.int .i64 0, .int .i64 0, .int .i64 0, .int .i64 0]
 hb : Below w.heap.size w W
theorem OpnB.below {w W W' : World} {D : Array Value} (H : OpnB w D W) (hb : Below W.heap.size W W') : OpnB w D W' :=
 ⟨H.b1.below hb H.b1.lt, H.b2.below hb H.b2.lt, H.b3.below hb H.b3.lt, H.hb.trans (hb.mono H.hb.size)⟩
set_option maxRecDepth 20000 in
set_option maxHeartbeats 8000000 in
theorem open_ok0 (v : Value) (d : Dk) (G0 G1 : Nat) (L : List (List Nat)) (w : World) (hd : DkAt w w.heap.size v d) (hr : rightB d = true) (hdn : d.down = false) (hg0 : GenIs d (0 * (d.secs.length / 2)) (d.secs.length / 2) G0) (hg1 : GenIs d (1 * (d.secs.length / 2)) (d.secs.length / 2) G1) (hcmp : G1 ≤ G0)
 (hlog : Log d (0 * (d.secs.length / 2)) (d.secs.length / 2) G0 L) (hne : L ≠ []) (hgm : G0 < 1099511627776) (ht : Tab w) (hx : (runM d (layD (d.secs.length / 2) (d.secs.length / 2) (G0 + 1) L)).2 = 0) :
 Calls Tryz.prog 26 #[v] w (OpRes w (runM d (layD (d.secs.length / 2) (d.secs.length / 2) (G0 + 1) L)) 0 G0 L) := by
 have hz : 0 < d.secs.length / 2 := by
  have h1 := hlog.2.2.1
  have h2 := sumT_ge hlog.1
  have h3 : 0 < L.length := List.length_pos_iff.2 hne
  omega
 have hgp : 1 ≤ G0 := hlog.2.2.2.1
 have hlf : L.length ≤ 1000000 := by
  have h1 := hlog.2.2.1
  have h2 := sumT_ge hlog.1
  have h3 := (rightB_of.1 hr).1
  omega
 generalize hX : runM d (layD (d.secs.length / 2) (d.secs.length / 2) (G0 + 1) L) = x at *
 have HX := Lib.hid hX; have HX0 := Lib.hid hx
 have hxi : (x.2 != 0) = false := by simp [hx]
 obtain ⟨A, n0, c, A', n', c', rfl, hxx⟩ := hd
 have HD := Lib.hid (show DkAt w w.heap.size (.agg #[.slice A n0 c, .slice A' n' c', .int .i64 d.fuse, .bool false]) d from ⟨A, n0, c, A', n', c', by rw [hdn], hxx⟩)
 have HR := Lib.hid hr; have HDN := Lib.hid hdn; have HG0 := Lib.hid hg0; have HG1 := Lib.hid hg1; have HLOG := Lib.hid hlog; have HNE := Lib.hid hne; have HTAB := Lib.hid ht
 have HOB : Hid (OpnB w #[.slice A n0 c, .slice A' n' c', .int .i64 d.fuse, .bool false] (((w.alloc (.cells #[.slice A n0 c, .slice A' n' c', .int .i64 d.fuse, .bool false] 27)).alloc (.cells #[.slice none 0 0, .slice none 0 0, .int .i64 0, .bool false] 27)).alloc (.cells #[.int .i64 0, .int .i64 0, .int .i64 0, .int .i64 0] 32))) := Lib.hid ⟨((Bk.new w _ _).alloc _).alloc _, (Bk.new2 w _ _ _).alloc _, Bk.new3 w _ _ _ _, (((Below.refl _ _).alloc (Nat.le_refl _) _).alloc (by simp) _).alloc (by simp only [World.size_alloc]; omega) _⟩
 clear hxx hr hg0 hg1 hlog hne ht hX hx
 rw [hdn]
 clear hdn
 go_enter Tryz.func26, Tryz.ntmps26
 go_wp2_with fail
 generalize ((w.alloc (.cells #[.slice A n0 c, .slice A' n' c', .int .i64 d.fuse, .bool false] 27)).alloc (.cells #[.slice none 0 0, .slice none 0 0, .int .i64 0, .bool false] 27)).alloc (.cells #[.int .i64 0, .int .i64 0, .int .i64 0, .int .i64 0] 32) = W0 at *
 refine (right_any _ d W0 (HD.out.later HOB.out.hb)).mono ?_
 rw [HR.out]
 rintro e W ⟨rfl, hbR⟩
 have HB := Lib.hid (HOB.out.below hbR)
 clear HOB hbR
 obtain ⟨⟨p0, p1, p2, p3⟩, _⟩ := HB.out.b1.four
 have hl1 := HB.out.b1.lt
 go_wp2_with fail
 have hm : Tryz.prog.follows .mixedOrders = true := by kernel_rfl
 have e32 : ∀ args w, (callFunc 51 args).run Tryz.prog w = .ok (.enter 51 args) w := enters_of Tryz.func51 (by kernel_rfl) rfl
 refine wp_region_quiet (C := fun W' => Below W.heap.size W W') hm (by kernel_rfl) (show Below W.heap.size W W.drew from (Below.refl _ _).drew) ?_
 refine quiet_val (v := .agg #[.slice A n0 c, .slice A' n' c', .int .i64 d.fuse, .bool false]) (by rfl) (fun W' hC => by have := (HB.out.b1.below hC hl1).four.1; simp [execOp, Act.eval, Act.put, go_sem, this.1, this.2.1, this.2.2.1, this.2.2.2]) ?_
 simp only [Act.put, jA, jB, jC]
 refine quiet_call (v := .int .i64 (G1 : Int)) (f := 51) (args := #[.agg #[.slice A n0 c, .slice A' n' c', .int .i64 d.fuse, .bool false], .int .i64 1]) (by rfl) (fun W' hC => exec_fn rfl rfl (by simp [Act.eval]) (e32 _ _)) (fun W' hC => (gen_any _ d 1 G1 W' (HD.out.later (HB.out.hb.trans (hC.mono HB.out.hb.size))) HR.out HDN.out (by omega) hz HG1.out).mono (fun _ _ hh => ⟨hh.1, hC.trans (hh.2.mono hC.size)⟩)) ?_
 simp only [Act.put, jA, jB, jC]
 refine quiet_val (v := .agg #[.slice A n0 c, .slice A' n' c', .int .i64 d.fuse, .bool false]) (by rfl) (fun W' hC => by have := (HB.out.b1.below hC hl1).four.1; simp [execOp, Act.eval, Act.put, go_sem, this.1, this.2.1, this.2.2.1, this.2.2.2]) ?_
 simp only [Act.put, jA, jB, jC]
 refine quiet_call (v := .int .i64 (G0 : Int)) (f := 51) (args := #[.agg #[.slice A n0 c, .slice A' n' c', .int .i64 d.fuse, .bool false], .int .i64 0]) (by rfl) (fun W' hC => exec_fn rfl rfl (by simp [Act.eval]) (e32 _ _)) (fun W' hC => (gen_any _ d 0 G0 W' (HD.out.later (HB.out.hb.trans (hC.mono HB.out.hb.size))) HR.out HDN.out (by omega) hz HG0.out).mono (fun _ _ hh => ⟨hh.1, hC.trans (hh.2.mono hC.size)⟩)) ?_
 simp only [Act.put, jA, jB, jC]
 refine quiet_val (v := .bool false) (by rfl) (fun W' hC => by simp [execOp, Act.eval, Act.put, go_sem]; omega) ?_
 simp only [Act.put, jA, jB, jC]
 refine wpQuiet_nil ?_
 intro W2 hC
 have HB2 := Lib.hid (HB.out.below hC)
 clear hC HB p0 p1 p2 p3 hl1 e32
 obtain ⟨⟨p0, p1, p2, p3⟩, _⟩ := HB2.out.b1.four
 go_wp2_with fail
 refine (gen_any _ d 0 G0 W2 (HD.out.later HB2.out.hb) HR.out HDN.out (by omega) hz HG0.out).mono ?_
 rintro e W3 ⟨rfl, hb3⟩
 have HB3 := Lib.hid (HB2.out.below hb3)
 have hb33 : w.heap.size ≤ W3.heap.size := HB3.out.hb.size
 clear hb3 HB2 p0 p1 p2 p3
 obtain ⟨⟨p0, p1, p2, p3⟩, _⟩ := HB3.out.b1.four
 have hgi : ((G0 : Int) == 0) = false := by simp; omega
 go_wp2_with fail
 refine (records_any _ d 0 G0 L W3 (HD.out.later HB3.out.hb) HR.out HDN.out (by omega) HLOG.out (HTAB.out.below HB3.out.hb HTAB.out.pos)).mono ?_
 rintro e W4 ⟨AL, cL, vs, rfl, hown, hrec, hrss, hb4⟩
 unfold logN
 have HB4 := Lib.hid (HB3.out.below hb4)
 have HOWN := Lib.hid hown; have HREC := Lib.hid hrec; have HRSS := Lib.hid hrss
 clear hown hrec hrss hb4 HB3 p0 p1 p2 p3
 obtain ⟨⟨p0, p1, p2, p3⟩, _⟩ := HB4.out.b1.four
 have hl1 := HB4.out.b1.lt
 have hl2 := HB4.out.b2.lt
 have hl3 := HB4.out.b3.lt
 have hb8n : W4.heap.size ≠ w.heap.size ∧ W4.heap.size ≠ w.heap.size + 1 ∧ W4.heap.size ≠ w.heap.size + 1 + 1 := by omega
 go_wp2_with fail
 refine calls_over (fun W' => OpnB w #[.slice A n0 c, .slice A' n' c', .int .i64 d.fuse, .bool false] W' ∧ Bk W' W4.heap.size 32 #[.int .i64 0, .int .i64 (G0 : Int), .int .i64 ((sumT L : Nat) : Int), .int .i64 (L.length : Int)] ∧ OwnV W' W3.heap.size 63 AL L.length cL vs ∧ RecsIn W' W3.heap.size vs L L.length) ⟨HB4.out.below ((Below.refl _ _).alloc (Nat.le_refl _) _), Bk.new _ _ _, HOWN.out.alloc _, HREC.out.keep (fun b cs hb => hb.alloc _)⟩ ?_
 have hb8g : w.heap.size ≤ W4.heap.size := Nat.le_of_lt hl1
 clear p0 p1 p2 p3 hl1 hl2 hl3 HB4 HOWN HREC HRSS
 generalize W4.heap.size = b8 at *
 rintro W5 ⟨HB5, h8, hown, hrec⟩
 have hok := HLOG.out.1
 have hbb := HLOG.out.2.1
 have hcl : x.2 = 0 → cmpLog x 0 G0 (sumT L) L.length L = .agg #[.int .i64 1, .int .i64 ((G0 : Int) + 1), .int .i64 ((sumT L : Nat) : Int), .int .i64 (L.length : Int)] := fun h0 => by unfold cmpLog logN; rw [if_pos h0]; simp
 have hc := compact_run0 _ d G0 (sumT L) L.length AL L.length cL L W5 (HD.out.later HB5.hb) HR.out (HLOG.out.fits HNE.out (by omega)) (hrec.rss hown hok hbb) hlf hok HNE.out HLOG.out.2.2.1 hgm (HTAB.out.below HB5.hb HTAB.out.pos) (.inl (by rw [HX.out]; exact HX0.out))
 rw [HX.out, hcl HX0.out] at hc
 unfold logN at hc
 refine hc.mono ?_
 clear hc hcl
 rintro e W6 ⟨v6, rfl, hd6, hb6⟩
 obtain ⟨A2, n2, c2, A2', n2', c2', rfl, hx6⟩ := hd6
 have hd6 : DkAt W6 W6.heap.size (.agg #[.slice A2 n2 c2, .slice A2' n2' c2', .int .i64 x.1.fuse, .bool x.1.down]) x.1 := ⟨A2, n2, c2, A2', n2', c2', rfl, hx6⟩
 have HB6 := HB5.below hb6
 replace h8 := h8.below hb6 h8.lt
 replace hown := hown.below hb6
 replace hrec := hrec.keep (fun b cs hb => hb.below hb6 hb.lt)
 clear hx6 hb6 HB5 hok hbb
 have hf1 := stored4_facts HB6.b1 (.slice A2 n2 c2) (.slice A2' n2' c2') (.int .i64 x.1.fuse) (.bool x.1.down)
 have h8' := hf1.2.2.2 _ _ _ hb8n.1 h8
 have hf8 := stored4_facts h8' (.int .i64 1) (.int .i64 ((G0 : Int) + 1)) (.int .i64 ((sumT L : Nat) : Int)) (.int .i64 (L.length : Int))
 have HG : Hid ((fun W' => (Bk W' w.heap.size 27 #[.slice A2 n2 c2, .slice A2' n2' c2', .int .i64 x.1.fuse, .bool x.1.down] ∧ Bk W' b8 32 #[.int .i64 1, .int .i64 ((G0 : Int) + 1), .int .i64 ((sumT L : Nat) : Int), .int .i64 (L.length : Int)] ∧ Bk W' (w.heap.size + 1) 27 #[.slice none 0 0, .slice none 0 0, .int .i64 0, .bool false] ∧ Bk W' (w.heap.size + 1 + 1) 32 #[.int .i64 0, .int .i64 0, .int .i64 0, .int .i64 0]) ∧ DkAt W' W'.heap.size (.agg #[.slice A2 n2 c2, .slice A2' n2' c2', .int .i64 x.1.fuse, .bool x.1.down]) x.1 ∧ Below w.heap.size w W' ∧ OwnV W' W3.heap.size 63 AL L.length cL vs ∧ RecsIn W' W3.heap.size vs L L.length) (stored4 (stored4 W6 w.heap.size (.slice A2 n2 c2) (.slice A2' n2' c2') (.int .i64 x.1.fuse) (.bool x.1.down)) b8 (.int .i64 1) (.int .i64 ((G0 : Int) + 1)) (.int .i64 ((sumT L : Nat) : Int)) (.int .i64 (L.length : Int)))) := Lib.hid ⟨⟨hf8.2.2.2 _ _ _ hb8n.1.symm hf1.1, hf8.1, hf8.2.2.2 _ _ _ hb8n.2.1.symm (hf1.2.2.2 _ _ _ (by omega) HB6.b2), hf8.2.2.2 _ _ _ hb8n.2.2.symm (hf1.2.2.2 _ _ _ (by omega) HB6.b3)⟩, hf8.2.1 _ _ (hf1.2.1 _ _ hd6), hf8.2.2.1 _ _ (hf1.2.2.1 _ _ HB6.hb (Nat.le_refl _)) (by omega), (hown.st4 HB6.b1 (by decide) _ _ _ _).st4 h8' (by decide) _ _ _ _, (hrec.st4 HB6.b1 (by decide) _ _ _ _).st4 h8' (by decide) _ _ _ _⟩
 unfold stored4 at HG
 have HH6 := Lib.hid HB6
 obtain ⟨⟨p0, p1, p2, p3⟩, q0, q1, q2, q3⟩ := HB6.b1.four
 obtain ⟨⟨r0, r1, r2, r3⟩, s0, s1, s2, s3⟩ := h8.four
 clear hf1 h8' hf8 HB6 h8 hown hrec hd6
 generalize hg9 : ((G0 : Int) + 1) = g9 at *
 have HG9 := Lib.hid hg9
 clear hg9
 go_wp2_with fail
 refine code_over (fun W' => (Bk W' w.heap.size 27 #[.slice A2 n2 c2, .slice A2' n2' c2', .int .i64 x.1.fuse, .bool x.1.down] ∧ Bk W' b8 32 #[.int .i64 1, .int .i64 g9, .int .i64 ((sumT L : Nat) : Int), .int .i64 (L.length : Int)] ∧ Bk W' (w.heap.size + 1) 27 #[.slice none 0 0, .slice none 0 0, .int .i64 0, .bool false] ∧ Bk W' (w.heap.size + 1 + 1) 32 #[.int .i64 0, .int .i64 0, .int .i64 0, .int .i64 0]) ∧ DkAt W' W'.heap.size (.agg #[.slice A2 n2 c2, .slice A2' n2' c2', .int .i64 x.1.fuse, .bool x.1.down]) x.1 ∧ Below w.heap.size w W' ∧ OwnV W' W3.heap.size 63 AL L.length cL vs ∧ RecsIn W' W3.heap.size vs L L.length) HG.out ?_
 clear p0 p1 p2 p3 q0 q1 q2 q3 r0 r1 r2 r3 s0 s1 s2 s3 HG HH6
 rintro W7 ⟨⟨k1, k8, k2, k3⟩, hd7, hb7, hown, hrec⟩
 have HT := two_boxes (x := x.1) 1 g9 ((sumT L : Nat) : Int) (L.length : Int) k2 k3 (by omega) hd7 hb7 (by omega) (by omega)
 have HOW : Hid (OwnV _ W3.heap.size 63 AL L.length cL vs) := Lib.hid ((hown.st4 k2 (by decide) (.slice A2 n2 c2) (.slice A2' n2' c2') (.int .i64 x.1.fuse) (.bool x.1.down)).st4 ((stored4_facts k2 (.slice A2 n2 c2) (.slice A2' n2' c2') (.int .i64 x.1.fuse) (.bool x.1.down)).2.2.2 _ _ _ (by omega) k3) (by decide) (.int .i64 1) (.int .i64 g9) (.int .i64 ((sumT L : Nat) : Int)) (.int .i64 (L.length : Int)))
 have HRC : Hid (RecsIn _ W3.heap.size vs L L.length) := Lib.hid ((hrec.st4 k2 (by decide) (.slice A2 n2 c2) (.slice A2' n2' c2') (.int .i64 x.1.fuse) (.bool x.1.down)).st4 ((stored4_facts k2 (.slice A2 n2 c2) (.slice A2' n2' c2') (.int .i64 x.1.fuse) (.bool x.1.down)).2.2.2 _ _ _ (by omega) k3) (by decide) (.int .i64 1) (.int .i64 g9) (.int .i64 ((sumT L : Nat) : Int)) (.int .i64 (L.length : Int)))
 have HFIN := Lib.hid (And.intro HT.out.drew (And.intro (HOW.out.below ((Below.refl _ _).drew)) (HRC.out.keep (fun b cs hb => hb.drew))))
 clear HT HOW HRC
 unfold stored4 at HFIN
 obtain ⟨⟨p0, p1, p2, p3⟩, q0, q1, q2, q3⟩ := k1.four
 obtain ⟨⟨r0, r1, r2, r3⟩, s0, s1, s2, s3⟩ := k8.four
 obtain ⟨⟨t0, t1, t2, t3⟩, u0, u1, u2, u3⟩ := k2.four
 obtain ⟨⟨v0, v1, v2, v3⟩, x0, x1, x2, x3⟩ := k3.four
 have hn1 : b8 ≠ w.heap.size := hb8n.1
 have hn2 : b8 ≠ w.heap.size + 1 := hb8n.2.1
 have hn3 : b8 ≠ w.heap.size + 1 + 1 := hb8n.2.2
 clear k1 k8 k2 k3 hd7 hb7 hown hrec hb8n hb8g
 have HHL := Lib.hid hlf
 clear hlf hcmp hgm hgp hz hgi
 generalize hsu : ((sumT L : Nat) : Int) = su at *
 generalize hle : (L.length : Int) = le at *
 have HSU := Lib.hid hsu; have HLE := Lib.hid hle
 clear hsu hle
 go_region
 refine post_over (fun W' => Lies w (w.heap.size + 1) (w.heap.size + 1 + 1) A2 A2' n2 c2 n2' c2' x.1 1 g9 su le W' ∧ OwnV W' W3.heap.size 63 AL L.length cL vs ∧ RecsIn W' W3.heap.size vs L L.length) HFIN.out ?_
 rintro W' ⟨hl, hown, hrec⟩
 clear p0 p1 p2 p3 q0 q1 q2 q3 r0 r1 r2 r3 s0 s1 s2 s3 t0 t1 t2 t3 u0 u1 u2 u3 v0 v1 v2 v3 x0 x1 x2 x3 HFIN
 have HL9 := Lib.hid hl
 have HRS := Lib.hid (hrec.rss hown HLOG.out.1 HLOG.out.2.1)
 have HCAP := Lib.hid hown.cap
 have HAT := Lib.hid (hown.at0 HNE.out hb33)
 clear hl hown hrec
 go_wp2
 refine bodyPost_ret (v := .tuple #[.agg #[.slice A2 n2 c2, .slice A2' n2' c2', .int .i64 x.1.fuse, .bool x.1.down], .agg #[.int .i64 1, .int .i64 g9, .int .i64 su, .int .i64 le], .slice AL L.length cL, .int .i64 0]) ?_ rfl ⟨_, AL, cL, ?_, HL9.out.2.2.1, HCAP.out.1, HCAP.out.2, HRS.out, HL9.out.2.2.2, HAT.out⟩
 ·exact results_cctt (fn := Tryz.f26) (a1 := ⟨w.heap.size + 1, 0, none⟩) (a2 := ⟨w.heap.size + 1 + 1, 0, none⟩) rfl rfl rfl rfl rfl (load_box4 HL9.out.1) (load_log4 HL9.out.2.1)
 ·rw [HX0.out, ← HSU.out, ← HLE.out, ← HG9.out]
  unfold logN
  simp
set_option maxRecDepth 20000 in
set_option maxHeartbeats 8000000 in
theorem open_ok1 (v : Value) (d : Dk) (G0 G1 : Nat) (L : List (List Nat)) (w : World) (hd : DkAt w w.heap.size v d) (hr : rightB d = true) (hdn : d.down = false) (hg0 : GenIs d (0 * (d.secs.length / 2)) (d.secs.length / 2) G0) (hg1 : GenIs d (1 * (d.secs.length / 2)) (d.secs.length / 2) G1) (hcmp : G0 < G1)
 (hlog : Log d (1 * (d.secs.length / 2)) (d.secs.length / 2) G1 L) (hne : L ≠ []) (hgm : G1 < 1099511627776) (ht : Tab w) (hx : (runM d (layD 0 (d.secs.length / 2) (G1 + 1) L)).2 = 0) :
 Calls Tryz.prog 26 #[v] w (OpRes w (runM d (layD 0 (d.secs.length / 2) (G1 + 1) L)) 1 G1 L) := by
 have hz : 0 < d.secs.length / 2 := by
  have h1 := hlog.2.2.1
  have h2 := sumT_ge hlog.1
  have h3 : 0 < L.length := List.length_pos_iff.2 hne
  omega
 have hgp : 1 ≤ G1 := hlog.2.2.2.1
 have hlf : L.length ≤ 1000000 := by
  have h1 := hlog.2.2.1
  have h2 := sumT_ge hlog.1
  have h3 := (rightB_of.1 hr).1
  omega
 generalize hX : runM d (layD 0 (d.secs.length / 2) (G1 + 1) L) = x at *
 have HX := Lib.hid hX; have HX0 := Lib.hid hx
 have hxi : (x.2 != 0) = false := by simp [hx]
 obtain ⟨A, n0, c, A', n', c', rfl, hxx⟩ := hd
 have HD := Lib.hid (show DkAt w w.heap.size (.agg #[.slice A n0 c, .slice A' n' c', .int .i64 d.fuse, .bool false]) d from ⟨A, n0, c, A', n', c', by rw [hdn], hxx⟩)
 have HR := Lib.hid hr; have HDN := Lib.hid hdn; have HG0 := Lib.hid hg0; have HG1 := Lib.hid hg1; have HLOG := Lib.hid hlog; have HNE := Lib.hid hne; have HTAB := Lib.hid ht
 have HOB : Hid (OpnB w #[.slice A n0 c, .slice A' n' c', .int .i64 d.fuse, .bool false] (((w.alloc (.cells #[.slice A n0 c, .slice A' n' c', .int .i64 d.fuse, .bool false] 27)).alloc (.cells #[.slice none 0 0, .slice none 0 0, .int .i64 0, .bool false] 27)).alloc (.cells #[.int .i64 0, .int .i64 0, .int .i64 0, .int .i64 0] 32))) := Lib.hid ⟨((Bk.new w _ _).alloc _).alloc _, (Bk.new2 w _ _ _).alloc _, Bk.new3 w _ _ _ _, (((Below.refl _ _).alloc (Nat.le_refl _) _).alloc (by simp) _).alloc (by simp only [World.size_alloc]; omega) _⟩
 clear hxx hr hg0 hg1 hlog hne ht hX hx
 rw [hdn]
 clear hdn
 go_enter Tryz.func26, Tryz.ntmps26
 go_wp2_with fail
 generalize ((w.alloc (.cells #[.slice A n0 c, .slice A' n' c', .int .i64 d.fuse, .bool false] 27)).alloc (.cells #[.slice none 0 0, .slice none 0 0, .int .i64 0, .bool false] 27)).alloc (.cells #[.int .i64 0, .int .i64 0, .int .i64 0, .int .i64 0] 32) = W0 at *
 refine (right_any _ d W0 (HD.out.later HOB.out.hb)).mono ?_
 rw [HR.out]
 rintro e W ⟨rfl, hbR⟩
 have HB := Lib.hid (HOB.out.below hbR)
 clear HOB hbR
 obtain ⟨⟨p0, p1, p2, p3⟩, _⟩ := HB.out.b1.four
 have hl1 := HB.out.b1.lt
 go_wp2_with fail
 have hm : Tryz.prog.follows .mixedOrders = true := by kernel_rfl
 have e32 : ∀ args w, (callFunc 51 args).run Tryz.prog w = .ok (.enter 51 args) w := enters_of Tryz.func51 (by kernel_rfl) rfl
 refine wp_region_quiet (C := fun W' => Below W.heap.size W W') hm (by kernel_rfl) (show Below W.heap.size W W.drew from (Below.refl _ _).drew) ?_
 refine quiet_val (v := .agg #[.slice A n0 c, .slice A' n' c', .int .i64 d.fuse, .bool false]) (by rfl) (fun W' hC => by have := (HB.out.b1.below hC hl1).four.1; simp [execOp, Act.eval, Act.put, go_sem, this.1, this.2.1, this.2.2.1, this.2.2.2]) ?_
 simp only [Act.put, jA, jB, jC]
 refine quiet_call (v := .int .i64 (G1 : Int)) (f := 51) (args := #[.agg #[.slice A n0 c, .slice A' n' c', .int .i64 d.fuse, .bool false], .int .i64 1]) (by rfl) (fun W' hC => exec_fn rfl rfl (by simp [Act.eval]) (e32 _ _)) (fun W' hC => (gen_any _ d 1 G1 W' (HD.out.later (HB.out.hb.trans (hC.mono HB.out.hb.size))) HR.out HDN.out (by omega) hz HG1.out).mono (fun _ _ hh => ⟨hh.1, hC.trans (hh.2.mono hC.size)⟩)) ?_
 simp only [Act.put, jA, jB, jC]
 refine quiet_val (v := .agg #[.slice A n0 c, .slice A' n' c', .int .i64 d.fuse, .bool false]) (by rfl) (fun W' hC => by have := (HB.out.b1.below hC hl1).four.1; simp [execOp, Act.eval, Act.put, go_sem, this.1, this.2.1, this.2.2.1, this.2.2.2]) ?_
 simp only [Act.put, jA, jB, jC]
 refine quiet_call (v := .int .i64 (G0 : Int)) (f := 51) (args := #[.agg #[.slice A n0 c, .slice A' n' c', .int .i64 d.fuse, .bool false], .int .i64 0]) (by rfl) (fun W' hC => exec_fn rfl rfl (by simp [Act.eval]) (e32 _ _)) (fun W' hC => (gen_any _ d 0 G0 W' (HD.out.later (HB.out.hb.trans (hC.mono HB.out.hb.size))) HR.out HDN.out (by omega) hz HG0.out).mono (fun _ _ hh => ⟨hh.1, hC.trans (hh.2.mono hC.size)⟩)) ?_
 simp only [Act.put, jA, jB, jC]
 refine quiet_val (v := .bool true) (by rfl) (fun W' hC => by simp [execOp, Act.eval, Act.put, go_sem]; omega) ?_
 simp only [Act.put, jA, jB, jC]
 refine wpQuiet_nil ?_
 intro W2 hC
 have HB2 := Lib.hid (HB.out.below hC)
 clear hC HB p0 p1 p2 p3 hl1 e32
 obtain ⟨⟨p0, p1, p2, p3⟩, _⟩ := HB2.out.b1.four
 go_wp2_with fail
 refine (gen_any _ d 1 G1 W2 (HD.out.later HB2.out.hb) HR.out HDN.out (by omega) hz HG1.out).mono ?_
 rintro e W3 ⟨rfl, hb3⟩
 have HB3 := Lib.hid (HB2.out.below hb3)
 have hb33 : w.heap.size ≤ W3.heap.size := HB3.out.hb.size
 clear hb3 HB2 p0 p1 p2 p3
 obtain ⟨⟨p0, p1, p2, p3⟩, _⟩ := HB3.out.b1.four
 have hgi : ((G1 : Int) == 0) = false := by simp; omega
 go_wp2_with fail
 refine (records_any _ d 1 G1 L W3 (HD.out.later HB3.out.hb) HR.out HDN.out (by omega) HLOG.out (HTAB.out.below HB3.out.hb HTAB.out.pos)).mono ?_
 rintro e W4 ⟨AL, cL, vs, rfl, hown, hrec, hrss, hb4⟩
 unfold logN
 have HB4 := Lib.hid (HB3.out.below hb4)
 have HOWN := Lib.hid hown; have HREC := Lib.hid hrec; have HRSS := Lib.hid hrss
 clear hown hrec hrss hb4 HB3 p0 p1 p2 p3
 obtain ⟨⟨p0, p1, p2, p3⟩, _⟩ := HB4.out.b1.four
 have hl1 := HB4.out.b1.lt
 have hl2 := HB4.out.b2.lt
 have hl3 := HB4.out.b3.lt
 have hb8n : W4.heap.size ≠ w.heap.size ∧ W4.heap.size ≠ w.heap.size + 1 ∧ W4.heap.size ≠ w.heap.size + 1 + 1 := by omega
 go_wp2_with fail
 refine calls_over (fun W' => OpnB w #[.slice A n0 c, .slice A' n' c', .int .i64 d.fuse, .bool false] W' ∧ Bk W' W4.heap.size 32 #[.int .i64 1, .int .i64 (G1 : Int), .int .i64 ((sumT L : Nat) : Int), .int .i64 (L.length : Int)] ∧ OwnV W' W3.heap.size 63 AL L.length cL vs ∧ RecsIn W' W3.heap.size vs L L.length) ⟨HB4.out.below ((Below.refl _ _).alloc (Nat.le_refl _) _), Bk.new _ _ _, HOWN.out.alloc _, HREC.out.keep (fun b cs hb => hb.alloc _)⟩ ?_
 have hb8g : w.heap.size ≤ W4.heap.size := Nat.le_of_lt hl1
 clear p0 p1 p2 p3 hl1 hl2 hl3 HB4 HOWN HREC HRSS
 generalize W4.heap.size = b8 at *
 rintro W5 ⟨HB5, h8, hown, hrec⟩
 have hok := HLOG.out.1
 have hbb := HLOG.out.2.1
 have hcl : x.2 = 0 → cmpLog x 1 G1 (sumT L) L.length L = .agg #[.int .i64 0, .int .i64 ((G1 : Int) + 1), .int .i64 ((sumT L : Nat) : Int), .int .i64 (L.length : Int)] := fun h0 => by unfold cmpLog logN; rw [if_pos h0]; simp
 have hc := compact_run1 _ d G1 (sumT L) L.length AL L.length cL L W5 (HD.out.later HB5.hb) HR.out (HLOG.out.fits HNE.out (by omega)) (hrec.rss hown hok hbb) hlf hok HNE.out HLOG.out.2.2.1 hgm (HTAB.out.below HB5.hb HTAB.out.pos) (.inl (by rw [HX.out]; exact HX0.out))
 rw [HX.out, hcl HX0.out] at hc
 unfold logN at hc
 refine hc.mono ?_
 clear hc hcl
 rintro e W6 ⟨v6, rfl, hd6, hb6⟩
 obtain ⟨A2, n2, c2, A2', n2', c2', rfl, hx6⟩ := hd6
 have hd6 : DkAt W6 W6.heap.size (.agg #[.slice A2 n2 c2, .slice A2' n2' c2', .int .i64 x.1.fuse, .bool x.1.down]) x.1 := ⟨A2, n2, c2, A2', n2', c2', rfl, hx6⟩
 have HB6 := HB5.below hb6
 replace h8 := h8.below hb6 h8.lt
 replace hown := hown.below hb6
 replace hrec := hrec.keep (fun b cs hb => hb.below hb6 hb.lt)
 clear hx6 hb6 HB5 hok hbb
 have hf1 := stored4_facts HB6.b1 (.slice A2 n2 c2) (.slice A2' n2' c2') (.int .i64 x.1.fuse) (.bool x.1.down)
 have h8' := hf1.2.2.2 _ _ _ hb8n.1 h8
 have hf8 := stored4_facts h8' (.int .i64 0) (.int .i64 ((G1 : Int) + 1)) (.int .i64 ((sumT L : Nat) : Int)) (.int .i64 (L.length : Int))
 have HG : Hid ((fun W' => (Bk W' w.heap.size 27 #[.slice A2 n2 c2, .slice A2' n2' c2', .int .i64 x.1.fuse, .bool x.1.down] ∧ Bk W' b8 32 #[.int .i64 0, .int .i64 ((G1 : Int) + 1), .int .i64 ((sumT L : Nat) : Int), .int .i64 (L.length : Int)] ∧ Bk W' (w.heap.size + 1) 27 #[.slice none 0 0, .slice none 0 0, .int .i64 0, .bool false] ∧ Bk W' (w.heap.size + 1 + 1) 32 #[.int .i64 0, .int .i64 0, .int .i64 0, .int .i64 0]) ∧ DkAt W' W'.heap.size (.agg #[.slice A2 n2 c2, .slice A2' n2' c2', .int .i64 x.1.fuse, .bool x.1.down]) x.1 ∧ Below w.heap.size w W' ∧ OwnV W' W3.heap.size 63 AL L.length cL vs ∧ RecsIn W' W3.heap.size vs L L.length) (stored4 (stored4 W6 w.heap.size (.slice A2 n2 c2) (.slice A2' n2' c2') (.int .i64 x.1.fuse) (.bool x.1.down)) b8 (.int .i64 0) (.int .i64 ((G1 : Int) + 1)) (.int .i64 ((sumT L : Nat) : Int)) (.int .i64 (L.length : Int)))) := Lib.hid ⟨⟨hf8.2.2.2 _ _ _ hb8n.1.symm hf1.1, hf8.1, hf8.2.2.2 _ _ _ hb8n.2.1.symm (hf1.2.2.2 _ _ _ (by omega) HB6.b2), hf8.2.2.2 _ _ _ hb8n.2.2.symm (hf1.2.2.2 _ _ _ (by omega) HB6.b3)⟩, hf8.2.1 _ _ (hf1.2.1 _ _ hd6), hf8.2.2.1 _ _ (hf1.2.2.1 _ _ HB6.hb (Nat.le_refl _)) (by omega), (hown.st4 HB6.b1 (by decide) _ _ _ _).st4 h8' (by decide) _ _ _ _, (hrec.st4 HB6.b1 (by decide) _ _ _ _).st4 h8' (by decide) _ _ _ _⟩
 unfold stored4 at HG
 have HH6 := Lib.hid HB6
 obtain ⟨⟨p0, p1, p2, p3⟩, q0, q1, q2, q3⟩ := HB6.b1.four
 obtain ⟨⟨r0, r1, r2, r3⟩, s0, s1, s2, s3⟩ := h8.four
 clear hf1 h8' hf8 HB6 h8 hown hrec hd6
 generalize hg9 : ((G1 : Int) + 1) = g9 at *
 have HG9 := Lib.hid hg9
 clear hg9
 go_wp2_with fail
 refine code_over (fun W' => (Bk W' w.heap.size 27 #[.slice A2 n2 c2, .slice A2' n2' c2', .int .i64 x.1.fuse, .bool x.1.down] ∧ Bk W' b8 32 #[.int .i64 0, .int .i64 g9, .int .i64 ((sumT L : Nat) : Int), .int .i64 (L.length : Int)] ∧ Bk W' (w.heap.size + 1) 27 #[.slice none 0 0, .slice none 0 0, .int .i64 0, .bool false] ∧ Bk W' (w.heap.size + 1 + 1) 32 #[.int .i64 0, .int .i64 0, .int .i64 0, .int .i64 0]) ∧ DkAt W' W'.heap.size (.agg #[.slice A2 n2 c2, .slice A2' n2' c2', .int .i64 x.1.fuse, .bool x.1.down]) x.1 ∧ Below w.heap.size w W' ∧ OwnV W' W3.heap.size 63 AL L.length cL vs ∧ RecsIn W' W3.heap.size vs L L.length) HG.out ?_
 clear p0 p1 p2 p3 q0 q1 q2 q3 r0 r1 r2 r3 s0 s1 s2 s3 HG HH6
 rintro W7 ⟨⟨k1, k8, k2, k3⟩, hd7, hb7, hown, hrec⟩
 have HT := two_boxes (x := x.1) 0 g9 ((sumT L : Nat) : Int) (L.length : Int) k2 k3 (by omega) hd7 hb7 (by omega) (by omega)
 have HOW : Hid (OwnV _ W3.heap.size 63 AL L.length cL vs) := Lib.hid ((hown.st4 k2 (by decide) (.slice A2 n2 c2) (.slice A2' n2' c2') (.int .i64 x.1.fuse) (.bool x.1.down)).st4 ((stored4_facts k2 (.slice A2 n2 c2) (.slice A2' n2' c2') (.int .i64 x.1.fuse) (.bool x.1.down)).2.2.2 _ _ _ (by omega) k3) (by decide) (.int .i64 0) (.int .i64 g9) (.int .i64 ((sumT L : Nat) : Int)) (.int .i64 (L.length : Int)))
 have HRC : Hid (RecsIn _ W3.heap.size vs L L.length) := Lib.hid ((hrec.st4 k2 (by decide) (.slice A2 n2 c2) (.slice A2' n2' c2') (.int .i64 x.1.fuse) (.bool x.1.down)).st4 ((stored4_facts k2 (.slice A2 n2 c2) (.slice A2' n2' c2') (.int .i64 x.1.fuse) (.bool x.1.down)).2.2.2 _ _ _ (by omega) k3) (by decide) (.int .i64 0) (.int .i64 g9) (.int .i64 ((sumT L : Nat) : Int)) (.int .i64 (L.length : Int)))
 have HFIN := Lib.hid (And.intro HT.out.drew (And.intro (HOW.out.below ((Below.refl _ _).drew)) (HRC.out.keep (fun b cs hb => hb.drew))))
 clear HT HOW HRC
 unfold stored4 at HFIN
 obtain ⟨⟨p0, p1, p2, p3⟩, q0, q1, q2, q3⟩ := k1.four
 obtain ⟨⟨r0, r1, r2, r3⟩, s0, s1, s2, s3⟩ := k8.four
 obtain ⟨⟨t0, t1, t2, t3⟩, u0, u1, u2, u3⟩ := k2.four
 obtain ⟨⟨v0, v1, v2, v3⟩, x0, x1, x2, x3⟩ := k3.four
 have hn1 : b8 ≠ w.heap.size := hb8n.1
 have hn2 : b8 ≠ w.heap.size + 1 := hb8n.2.1
 have hn3 : b8 ≠ w.heap.size + 1 + 1 := hb8n.2.2
 clear k1 k8 k2 k3 hd7 hb7 hown hrec hb8n hb8g
 have HHL := Lib.hid hlf
 clear hlf hcmp hgm hgp hz hgi
 generalize hsu : ((sumT L : Nat) : Int) = su at *
 generalize hle : (L.length : Int) = le at *
 have HSU := Lib.hid hsu; have HLE := Lib.hid hle
 clear hsu hle
 go_region
 refine post_over (fun W' => Lies w (w.heap.size + 1) (w.heap.size + 1 + 1) A2 A2' n2 c2 n2' c2' x.1 0 g9 su le W' ∧ OwnV W' W3.heap.size 63 AL L.length cL vs ∧ RecsIn W' W3.heap.size vs L L.length) HFIN.out ?_
 rintro W' ⟨hl, hown, hrec⟩
 clear p0 p1 p2 p3 q0 q1 q2 q3 r0 r1 r2 r3 s0 s1 s2 s3 t0 t1 t2 t3 u0 u1 u2 u3 v0 v1 v2 v3 x0 x1 x2 x3 HFIN
 have HL9 := Lib.hid hl
 have HRS := Lib.hid (hrec.rss hown HLOG.out.1 HLOG.out.2.1)
 have HCAP := Lib.hid hown.cap
 have HAT := Lib.hid (hown.at0 HNE.out hb33)
 clear hl hown hrec
 go_wp2
 refine bodyPost_ret (v := .tuple #[.agg #[.slice A2 n2 c2, .slice A2' n2' c2', .int .i64 x.1.fuse, .bool x.1.down], .agg #[.int .i64 0, .int .i64 g9, .int .i64 su, .int .i64 le], .slice AL L.length cL, .int .i64 0]) ?_ rfl ⟨_, AL, cL, ?_, HL9.out.2.2.1, HCAP.out.1, HCAP.out.2, HRS.out, HL9.out.2.2.2, HAT.out⟩
 ·exact results_cctt (fn := Tryz.f26) (a1 := ⟨w.heap.size + 1, 0, none⟩) (a2 := ⟨w.heap.size + 1 + 1, 0, none⟩) rfl rfl rfl rfl rfl (load_box4 HL9.out.1) (load_log4 HL9.out.2.1)
 ·rw [HX0.out, ← HSU.out, ← HLE.out, ← HG9.out]
  unfold logN
  simp
end Go.Proofs.YtcdehejgnnnimaaGreatDoor
