/-
  Contracts over package wal: the records of a half, as they are read.
-/
import Derived.Test.YtofbpkaebngnlaaDoorQWalRecs
namespace Go.Proofs.YtofbpkaebngnlaaDoor
set_option linter.unusedVariables false
set_option linter.unusedSimpArgs false
set_option linter.unusedVariables false
set_option linter.unusedSimpArgs false
open Go.RowKit

/-- what holds at the head of a round -/
structure RcRel (w : World) (D : Array Value) (h g o size : Nat) (L : List (List Nat)) (bh : Nat) (k : Nat) (A : Option Addr) (c : Nat) (vs : List Value) (wr : World) : Prop where
  kL : k ≤ L.length
  own : OwnV wr w.heap.size 32 A k c vs
  rcs : RecsIn wr w.heap.size vs L k
  b3 : Bk wr w.heap.size 28 D
  b6 : Bk wr (w.heap.size + 1) 35 #[.int .i64 (h : Int), .int .i64 (g : Int), .int .i64 ((sumT (L.take k) : Nat) : Int), .int .i64 (k : Int)]
  b9 : Bk wr bh 53 #[.int .i64 (o : Int), .int .i64 (size : Int)]
  hb : Below w.heap.size w wr
def RcHead (w : World) (D : Array Value) (h g o size : Nat) (L : List (List Nat)) (bh : Nat) (x : Value) (wr : World) : Prop := ∃ k A c vs, x = .slice A k c ∧ RcRel w D h g o size L bh k A c vs wr
theorem RcRel.below {w wr W : World} {D : Array Value} {h g o size : Nat} {L : List (List Nat)} {bh k c : Nat} {A : Option Addr} {vs : List Value} (H : RcRel w D h g o size L bh k A c vs wr) (hb : Below wr.heap.size wr W) : RcRel w D h g o size L bh k A c vs W :=
  ⟨H.kL, H.own.below hb, H.rcs.keep (fun _ _ hq => hq.below hb hq.lt), H.b3.below hb H.b3.lt, H.b6.below hb H.b6.lt, H.b9.below hb H.b9.lt, H.hb.trans (hb.mono H.hb.size)⟩
theorem Bk.diff {w : World} {a b : Nat} {t t' : TypeId} {cs cs' : Array Value} (h : Bk w a t cs) (h' : Bk w b t' cs') (hne : t ≠ t') : a ≠ b := by
  rintro rfl
  have : some (Obj.cells cs t (0, 0)) = some (Obj.cells cs' t' (0, 0)) := (show w.heap[a]? = _ from h).symm.trans h'
  injection this with this
  injection this with _ h2 _
  exact hne h2
theorem OwnV.box {w : World} {base n c b i : Nat} {e t : TypeId} {A : Option Addr} {vs : List Value} {cs : Array Value} (h : OwnV w base e A n c vs) (hb : Bk w b t cs) (hne : t ≠ e) (u : Value) : OwnV (w.setCell ⟨b, i, none⟩ u) base e A n c vs := by
  refine ⟨h.1, ?_⟩
  rcases h.2 with h0 | ⟨g, cap, cur, hv, hg, hh, r⟩
  · exact .inl h0
  · exact .inr ⟨g, cap, cur, hv, hg, Bk.far (show Bk w g e cur from hh) (Bk.diff (show Bk w g e cur from hh) hb (Ne.symm hne)) u, r⟩
theorem RecsIn.box {w : World} {base b i : Nat} {t : TypeId} {vs : List Value} {L : List (List Nat)} {k : Nat} {cs : Array Value} (h : RecsIn w base vs L k) (hb : Bk w b t cs) (hne : t ≠ 5) (u : Value) : RecsIn (w.setCell ⟨b, i, none⟩ u) base vs L k :=
  h.keep fun q cs' hq => hq.far (Bk.diff hq hb (Ne.symm hne)) u
theorem OwnV.st4 {w : World} {base n c b : Nat} {e t : TypeId} {A : Option Addr} {vs : List Value} {u0 u1 u2 u3 : Value} (h : OwnV w base e A n c vs) (hb : Bk w b t #[u0, u1, u2, u3]) (hne : t ≠ e) (a0 a1 a2 a3 : Value) : OwnV (stored4 w b a0 a1 a2 a3) base e A n c vs := by
  unfold stored4
  exact (((h.box hb hne a0).box (hb.put 0 a0) hne a1).box ((hb.put 0 a0).put 1 a1) hne a2).box (((hb.put 0 a0).put 1 a1).put 2 a2) hne a3
theorem RecsIn.st4 {w : World} {base b : Nat} {t : TypeId} {vs : List Value} {L : List (List Nat)} {k : Nat} {u0 u1 u2 u3 : Value} (h : RecsIn w base vs L k) (hb : Bk w b t #[u0, u1, u2, u3]) (hne : t ≠ 5) (a0 a1 a2 a3 : Value) : RecsIn (stored4 w b a0 a1 a2 a3) base vs L k := by
  unfold stored4
  exact (((h.box hb hne a0).box (hb.put 0 a0) hne a1).box ((hb.put 0 a0).put 1 a1) hne a2).box (((hb.put 0 a0).put 1 a1).put 2 a2) hne a3
theorem results_ctt {P : Program} {fn : Func} {p q r : Tmp} {t1 : TypeId} (h : fn.results = #[.cell p t1, .tmp q, .tmp r]) {tmps : Array Value} {w : World} {a1 : Addr} {v1 v2 v3 : Value}
    (h1 : tmps.getD p undef = .pointer (some a1)) (h2 : tmps.getD q undef = v2) (h3 : tmps.getD r undef = v3) (l1 : (loadVar t1 a1).run P w = .ok v1 w) : (results fn tmps).run P w = .ok (.tuple #[v1, v2, v3]) w := by
  have h1' : tmps[p]?.getD undef = .pointer (some a1) := by simpa using h1
  have h2' : tmps[q]?.getD undef = v2 := by simpa using h2
  have h3' : tmps[r]?.getD undef = v3 := by simpa using h3
  simp [results, h, h1', h2', h3', asAddr, l1]
def lenV (v : Value) : Nat := match v with | .slice _ n _ => n | _ => 0
/-- what records answers -/
def RcRes (w : World) (h g : Nat) (L : List (List Nat)) (e : Ending) (w' : World) : Prop :=
  ∃ A c vs, e = .returned (.tuple #[logN h g (sumT L) L.length, .slice A L.length c, .bool true]) ∧ OwnV w' w.heap.size 32 A L.length c vs ∧ RecsIn w' w.heap.size vs L L.length ∧ Rss w' w'.heap.size A L.length L ∧ Below w.heap.size w w'
theorem OwnV.cap {w : World} {base n c : Nat} {e : TypeId} {A : Option Addr} {vs : List Value} (h : OwnV w base e A n c vs) : n ≤ c ∧ c ≤ maxLen := by
  rcases h.2 with ⟨hv, h0⟩ | ⟨g, cap, cur, hv, hg, hh, hnc, hcm, hcs, htk⟩
  · injection hv with _ _ hc
    subst h0; subst hc
    exact ⟨Nat.le_refl _, by unfold maxLen; omega⟩
  · injection hv with _ _ hc
    subst hc
    exact ⟨hnc, hcm⟩

set_option maxRecDepth 20000 in
set_option maxHeartbeats 8000000 in
theorem records_any (v : Value) (d : Dk) (h g : Nat) (L : List (List Nat)) (w : World) (hd : DkAt w w.heap.size v d) (hr : rightB d = true) (hdn : d.down = false) (hh : h ≤ 1) (hlog : Log d (h * (d.secs.length / 2)) (d.secs.length / 2) g L) (ht : Tab w) :
    Calls Tryd.prog 32 #[v, .int .i64 (h : Int), .int .i64 (g : Int)] w (RcRes w h g L) := by
  have hin : h * (d.secs.length / 2) + d.secs.length / 2 ≤ d.secs.length := by
    have : h = 0 ∨ h = 1 := by omega
    rcases this with rfl | rfl <;> omega
  obtain ⟨A, n0, c, A', n', c', rfl, hx⟩ := hd
  have HD := Lib.hid (show DkAt w w.heap.size (.agg #[.slice A n0 c, .slice A' n' c', .int .i64 d.fuse, .bool d.down]) d from ⟨A, n0, c, A', n', c', rfl, hx⟩)
  have hsl : d.secs.length ≤ 4096 := (rightB_of.1 hr).1
  have HR := Lib.hid hr; have HDN := Lib.hid hdn; have HLOG := Lib.hid hlog; have HTAB := Lib.hid ht
  obtain ⟨D, hD⟩ : ∃ D : Array Value, D = #[.slice A n0 c, .slice A' n' c', .int .i64 d.fuse, .bool d.down] := ⟨_, rfl⟩
  have b3 : Bk ((w.alloc (.cells #[.slice A n0 c, .slice A' n' c', .int .i64 d.fuse, .bool d.down] 28)).alloc (.cells #[.int .i64 0, .int .i64 0, .int .i64 0, .int .i64 0] 35)) w.heap.size 28 #[.slice A n0 c, .slice A' n' c', .int .i64 d.fuse, .bool d.down] := (Bk.new w _ _).alloc _
  have b6 : Bk ((w.alloc (.cells #[.slice A n0 c, .slice A' n' c', .int .i64 d.fuse, .bool d.down] 28)).alloc (.cells #[.int .i64 0, .int .i64 0, .int .i64 0, .int .i64 0] 35)) (w.heap.size + 1) 35 _ := Bk.new2 w _ _ _
  have b0 : Below w.heap.size w ((w.alloc (.cells #[.slice A n0 c, .slice A' n' c', .int .i64 d.fuse, .bool d.down] 28)).alloc (.cells #[.int .i64 0, .int .i64 0, .int .i64 0, .int .i64 0] 35)) := ((Below.refl _ _).alloc (Nat.le_refl _) _).alloc (by simp) _
  clear hx hr hdn hlog ht hD
  go_enter Tryd.func32, Tryd.ntmps32
  go_wp2_with fail
  generalize (w.alloc (.cells #[.slice A n0 c, .slice A' n' c', .int .i64 d.fuse, .bool d.down] 28)).alloc (.cells #[.int .i64 0, .int .i64 0, .int .i64 0, .int .i64 0] 35) = W at *
  refine (halfOf_any _ d h W (HD.out.later b0) hh hsl).mono ?_
  rintro e W1 ⟨rfl, hb1⟩
  unfold halfV
  have HIN := Lib.hid hin
  have HB3 := Lib.hid (b3.below hb1 b3.lt); have HB6 := Lib.hid (b6.below hb1 b6.lt); have HB0 := Lib.hid (b0.trans (hb1.mono b0.size))
  clear b3 b6 b0 hb1 hin
  generalize hoo : h * (d.secs.length / 2) = o at *
  generalize hss : d.secs.length / 2 = size at *
  have hsz4 : size ≤ 2048 := by omega
  have ho4 : o ≤ 4096 := by have := HIN.out; omega
  have HOO := Lib.hid hoo; have HSS := Lib.hid hss
  clear hoo hss
  obtain ⟨⟨v0, v1, v2, v3⟩, x0, x1, x2, x3⟩ := HB6.out.four
  have hz6 := HB6.out.lt
  have hst := stored4_facts HB6.out (.int .i64 (h : Int)) (.int .i64 (g : Int)) (.int .i64 0) (.int .i64 0)
  have hne9 : W1.heap.size ≠ w.heap.size + 1 := by omega
  have hbst := hst.2.2.1 _ _ HB0.out (Nat.le_succ _)
  have HREL : Hid (RcHead w #[.slice A n0 c, .slice A' n' c', .int .i64 d.fuse, .bool d.down] h g o size L W1.heap.size (.slice none 0 0) ((stored4 W1 (w.heap.size + 1) (.int .i64 (h : Int)) (.int .i64 (g : Int)) (.int .i64 0) (.int .i64 0)).alloc (.cells #[.int .i64 (o : Int), .int .i64 (size : Int)] 53))) := Lib.hid ⟨0, none, 0, [], rfl, Nat.zero_le _, OwnV.nil, fun i hi => absurd hi (by omega), (hst.2.2.2 _ _ _ (by omega) HB3.out).alloc _, hst.1.alloc _, Bk.new' _ _ _ _ (by unfold stored4; simp), hbst.alloc hbst.size _⟩
  unfold stored4 at HREL
  clear hst hbst HB3 HB6 HB0
  go_wp2_with fail
  clear v0 v1 v2 v3 x0 x1 x2 x3
  generalize W1.heap.size = bh at *
  go_loopw [7] (fun x wr => RcHead w #[.slice A n0 c, .slice A' n' c', .int .i64 d.fuse, .bool d.down] h g o size L bh x wr) (fun x _ => L.length - lenV x)
  case atStart => exact HREL.out
  case round =>
    clear HREL
    obtain ⟨k, AL, cL, vs, rfl, H⟩ := hrel
    obtain ⟨⟨p0, p1, p2, p3⟩, q0, q1, q2, q3⟩ := H.b3.four
    obtain ⟨⟨r0, r1, r2, r3⟩, s0, s1, s2, s3⟩ := H.b6.four
    obtain ⟨y0, y1⟩ := H.b9.two
    have HH := Lib.hid H
    have hkL := H.kL
    clear H
    obtain ⟨hok, hby, hsum, hg1, hg2, hrec, hend⟩ := HLOG.out
    by_cases hlt : k < L.length
    · obtain ⟨hmk, hck⟩ := hrec k hlt
      have hn1 : 1 ≤ (textAt L k).length := (hok _ (textAt_mem hlt)).1
      have hn6 : (textAt L k).length ≤ 6000 := (hok _ (textAt_mem hlt)).2
      have hle : sumT (L.take (k + 1)) ≤ sumT L := by
        conv => rhs; rw [← List.take_append_drop (k + 1) L, sumT_append]
        omega
      have HST : Hid (sumT (L.take (k + 1)) = sumT (L.take k) + takesN (textAt L k).length) := Lib.hid (by rw [take_text hlt, sumT_snoc])
      have hfit : sumT (L.take k) + takesN (textAt L k).length ≤ size := by have := HST.out; omega
      have hmlt : moreC 0 (textAt L k) < 4294967296 := moreC_lt _ (by omega) (hby _ (textAt_mem hlt))
      have HCK := Lib.hid hck; have HMK := Lib.hid hmk
      have HBY := Lib.hid (hby _ (textAt_mem hlt))
      have hkl6 : k ≤ 1000000 := by have := sumT_ge hok; omega
      have htk := takesN_ok hn1 hn6
      have HTK := Lib.hid htk
      clear hok hby hsum hrec hend hmk hck hle htk
      generalize hu : sumT (L.take k) = u at *
      have HU := Lib.hid hu
      generalize hnn : (textAt L k).length = n at *
      have HNN := Lib.hid hnn
      clear hu hnn
      have htp : 0 < takesN n := takesN_pos.2 ⟨hn1, hn6⟩
      have hu4 : u ≤ 2048 := by omega
      have hsz9 := takesN_le n
      go_wp2_with fail
      have hc := markAt_yes _ d o size u wr (HD.out.later HH.out.hb) HR.out HDN.out (by omega) (by have := HIN.out; omega) g k n (moreC 0 (textAt L k)) hg1 hg2 hn1 hn6 hmlt (by omega) hfit (by rw [HMK.out, markL, HNN.out])
      unfold halfV markV at hc
      refine hc.mono ?_
      clear hc
      rintro e W2 ⟨rfl, hb2⟩
      have H2 := HH.out.below hb2
      clear HH hb2 p0 p1 p2 p3 q0 q1 q2 q3 r0 r1 r2 r3 s0 s1 s2 s3 y0 y1
      obtain ⟨⟨p0, p1, p2, p3⟩, _⟩ := H2.b3.four
      have b6' := H2.b6
      rw [HU.out] at b6'
      obtain ⟨⟨r0, r1, r2, r3⟩, _⟩ := b6'.four
      clear b6'
      obtain ⟨y0, y1⟩ := H2.b9.two
      have l3 := H2.b3.lt
      have l6 := H2.b6.lt
      have l9 := H2.b9.lt
      have HH2 := Lib.hid H2
      have hgg : ((g : Int) != (g : Int)) = false := by simp
      have hkk : ((k : Int) != (k : Int)) = false := by simp
      clear H2
      go_wp2_with fail
      refine calls_over (fun W' => RcRel w #[.slice A n0 c, .slice A' n' c', .int .i64 d.fuse, .bool d.down] h g o size L bh k AL cL vs W' ∧ Bk W' W2.heap.size 66 #[.int .i64 (g : Int), .int .i64 (k : Int), .int .i64 (n : Int), .int .i64 ((moreC 0 (textAt L k) : Nat) : Int)]) ⟨HH2.out.below ((Below.refl _ _).alloc (Nat.le_refl _) _), Bk.new _ _ _⟩ ?_
      clear p0 p1 p2 p3 r0 r1 r2 r3 y0 y1 HH2
      generalize hb10 : W2.heap.size = b10 at *
      clear hb10
      rintro W3 ⟨H3, hm3⟩
      have hrd := readBytes_any _ d (o + u + 1) n (textAt L k) W3 (HD.out.later H3.hb) HR.out HDN.out (by have := HIN.out; have := HTK.out; unfold nck; omega) hn6 HNN.out HBY.out HCK.out
      have hcast : ((o + u + 1 : Nat) : Int) = (o : Int) + (u : Int) + 1 := by omega
      rw [hcast] at hrd
      ((with_reducible refine hrd.mono ?_); clear hrd hcast)
      rintro e W4 ⟨q, rfl, hby4, hq4, hqge, hb4⟩
      have H4 := H3.below hb4
      have hm4 := hm3.below hb4 hm3.lt
      have hqw : w.heap.size ≤ q := Nat.le_trans H3.hb.size hqge
      clear H3 hm3 hb4 hqge
      have HH4 := Lib.hid H4; have HM4 := Lib.hid hm4; have HBY4 := Lib.hid hby4; have HQ4 := Lib.hid hq4
      clear H4 hm4 hby4 hq4
      generalize hsm : moreC 0 (textAt L k) = sm at *
      have HSM := Lib.hid hsm
      clear hsm
      go_wp2_with fail
      have hm : Tryd.prog.follows .mixedOrders = true := by kernel_rfl
      refine wp_region_held_drew (S := fun W' => RcRel w #[.slice A n0 c, .slice A' n' c', .int .i64 d.fuse, .bool d.down] h g o size L bh k AL cL vs W' ∧ Bk W' b10 66 #[.int .i64 (g : Int), .int .i64 (k : Int), .int .i64 (n : Int), .int .i64 (sm : Int)] ∧ Bk W' q 5 ((textAt L k).map bv).toArray) hm ⟨HH4.out.below ((Below.refl _ _).drew), HM4.out.drew, HQ4.out.drew⟩ (fun hHeld => ?_)
      have HBY5 := Lib.hid (HBY4.out.later ((Below.refl W4.heap.size W4).drew))
      generalize W4.drew = W5 at *
      clear HH4 HM4 HQ4 HBY4
      simp only [List.size_toArray, List.length_cons, List.length_nil, Nat.reduceAdd]
      refine wpAnyH_take (i := 0) (v := .slice (some ⟨q, 0, none⟩) n n) rfl (by kernel_rfl) (by kernel_rfl) (by kernel_rfl) (fun _ _ _ h => h) (Or.inl ⟨by rfl, fun w0 hC => by simp [execOp, Act.eval, Act.put, go_sem]⟩) hHeld ?_
      try simp only [Act.put, List.setIfInBounds_toArray, List.set_cons_zero, List.set_cons_succ, List.getElem_toArray, List.getElem_cons_zero, List.getElem_cons_succ]
      refine wpAnyH_take (i := 3) (v := .pointer (some ⟨b10, 3, none⟩)) rfl (by kernel_rfl) (by kernel_rfl) (by kernel_rfl) (fun _ _ _ h => h) (Or.inl ⟨by rfl, fun w0 hC => by simp [execOp, Act.eval, Act.put, go_sem]⟩) hHeld ?_
      try simp only [Act.put, List.setIfInBounds_toArray, List.set_cons_zero, List.set_cons_succ, List.getElem_toArray, List.getElem_cons_zero, List.getElem_cons_succ]
      refine wpAnyH_take (i := 4) (v := .int .i64 (sm : Int)) rfl (by kernel_rfl) (by kernel_rfl) (by kernel_rfl) (fun _ _ _ h => h) (Or.inl ⟨by rfl, fun w0 hC => by have := hC.2.1.four.1; simp [execOp, Act.eval, Act.put, go_sem, this.2.2.2]⟩) hHeld ?_
      try simp only [Act.put, List.setIfInBounds_toArray, List.set_cons_zero, List.set_cons_succ, List.getElem_toArray, List.getElem_cons_zero, List.getElem_cons_succ]
      refine wpAnyH_ready (rs := [1]) (by kernel_rfl) (by simp) (AllReadyH.cons rfl (fun K hK => ?_) AllReadyH.nil)
      rw [if_pos (by rfl)]
      go_wp2_with fail
      refine (sum_any _ n n (textAt L k) W5 HBY5.out (by omega) (HTAB.out.below hHeld.1.hb HTAB.out.pos)).mono ?_
      rw [HSM.out]
      rintro e W6 ⟨rfl, hb6⟩
      have hS : _ ∧ _ ∧ _ := And.intro (hHeld.1.below hb6) (And.intro (hHeld.2.1.below hb6 hHeld.2.1.lt) (hHeld.2.2.below hb6 hHeld.2.2.lt))
      clear hb6 HBY5
      refine hK.out _ _ hS (fun hHeld => ?_)
      clear hK K
      try simp only [Act.put, List.setIfInBounds_toArray, List.set_cons_zero, List.set_cons_succ, List.getElem_toArray, List.getElem_cons_zero, List.getElem_cons_succ]
      clear hS
      have hcv : IntKind.i64.wrap (sm : Int) = (sm : Int) := IntWalk.i64_in _ (by omega)
      refine wpAnyH_take (i := 2) (v := .int .i64 (sm : Int)) rfl (by kernel_rfl) (by kernel_rfl) (by kernel_rfl) (fun _ _ _ h => h) (Or.inl ⟨by rfl, fun w0 hC => by simp [execOp, Act.eval, Act.put, go_sem, convert, run_underlying Tryd.underlying83, run_underlying Tryd.underlying3, hcv]⟩) hHeld ?_
      try simp only [Act.put, List.setIfInBounds_toArray, List.set_cons_zero, List.set_cons_succ, List.getElem_toArray, List.getElem_cons_zero, List.getElem_cons_succ]
      refine wpAnyH_take (i := 5) (v := .bool false) rfl (by kernel_rfl) (by kernel_rfl) (by kernel_rfl) (fun _ _ _ h => h) (Or.inl ⟨by rfl, fun w0 hC => by simp [execOp, Act.eval, Act.put, go_sem]⟩) hHeld ?_
      try simp only [Act.put, List.setIfInBounds_toArray, List.set_cons_zero, List.set_cons_succ, List.getElem_toArray, List.getElem_cons_zero, List.getElem_cons_succ]
      refine wpAnyH_done (by kernel_rfl) ?_ _
      clear hcv
      obtain ⟨H6, hm6, hq6⟩ := hHeld
      have HH6 := Lib.hid H6; have HM6 := Lib.hid hm6; have HQ6 := Lib.hid hq6
      clear H6 hm6 hq6
      have HOLD : Hid (w.heap.size ≤ W6.heap.size) := Lib.hid HH6.out.hb.size
      go_wp2_with ((with_reducible show wpList _ _ _ (⟨some 66, _, _, _, _, _⟩ :: _) _ _); refine hold ?_)
      refine held (wpList_append_oneT rfl (.tmp 63) (.tmp 65) 33 rfl Tryd.underlying33 info_bytes (by simp [Value.cells]) (by omega) w.heap.size AL k cL vs rfl (HH6.out.own.alloc _) W6.heap.size 0 (.slice (some ⟨q, 0, none⟩) n n) rfl (by rw [cell_of_row _ _ _ _ _ _ (heap_alloc_new W6 _)]; rfl) rfl hkl6 (by rw [World.size_alloc]; have := HOLD.out; omega) ?_)
      intro A2 c2 W7 hown hb7 hoth
      have OWN := Lib.hid hown
      have REC : Hid (RecsIn W7 w.heap.size (vs ++ [.slice (some ⟨q, 0, none⟩) n n]) L (k + 1)) := Lib.hid (by
        have h1 := (HH6.out.rcs.keep (fun b cs hb => hoth b 5 cs (by decide) (hb.alloc _)))
        have h2 := hoth q 5 _ (by decide) (HQ6.out.alloc (.cells #[.slice (some ⟨q, 0, none⟩) n n] 32))
        have := h1.next HH6.out.own.len h2 hqw
        rwa [HNN.out] at this)
      have B3 := Lib.hid (hoth _ _ _ (by decide) (HH6.out.b3.alloc (.cells #[.slice (some ⟨q, 0, none⟩) n n] 32)))
      have B6a := hoth _ _ _ (by decide) (HH6.out.b6.alloc (.cells #[.slice (some ⟨q, 0, none⟩) n n] 32))
      rw [HU.out] at B6a
      have B6 := Lib.hid B6a
      have B9 := Lib.hid (hoth _ _ _ (by decide) (HH6.out.b9.alloc (.cells #[.slice (some ⟨q, 0, none⟩) n n] 32)))
      have B10 := Lib.hid (hoth _ _ _ (by decide) (HM6.out.alloc (.cells #[.slice (some ⟨q, 0, none⟩) n n] 32)))
      have BW := Lib.hid ((HH6.out.hb.alloc HH6.out.hb.size (.cells #[.slice (some ⟨q, 0, none⟩) n n] 32)).trans hb7)
      have hne10 : b10 ≠ w.heap.size + 1 := Bk.diff HM6.out HH6.out.b6 (by decide)
      clear hown hb7 hoth HH6 HM6 HQ6 B6a HOLD
      go_wp2_with fail
      refine wp_region_held_drew (S := fun W' => Bk W' b10 66 #[.int .i64 (g : Int), .int .i64 (k : Int), .int .i64 (n : Int), .int .i64 (sm : Int)]) hm B10.out.drew (fun hHeld => ?_)
      replace OWN := Lib.hid (OWN.out.below ((Below.refl _ _).drew)); replace REC := Lib.hid (REC.out.keep (fun b cs hb => hb.drew)); replace B3 := Lib.hid B3.out.drew; replace B6 := Lib.hid B6.out.drew; replace B9 := Lib.hid B9.out.drew; replace B10 := Lib.hid B10.out.drew; replace BW := Lib.hid BW.out.drew
      generalize W7.drew = W7 at *
      obtain ⟨⟨r0, r1, r2, r3⟩, s0, s1, s2, s3⟩ := B6.out.four
      simp only [List.size_toArray, List.length_cons, List.length_nil, Nat.reduceAdd]
      refine wpAnyH_take (i := 0) (v := .pointer (some ⟨w.heap.size + 1, 2, none⟩)) rfl (by kernel_rfl) (by kernel_rfl) (by kernel_rfl) (fun _ _ _ h => h) (Or.inl ⟨by rfl, fun w0 hC => by simp [execOp, Act.eval, Act.put, go_sem]⟩) hHeld ?_
      try simp only [Act.put, List.setIfInBounds_toArray, List.set_cons_zero, List.set_cons_succ, List.getElem_toArray, List.getElem_cons_zero, List.getElem_cons_succ]
      refine wpAnyH_take (i := 2) (v := .pointer (some ⟨b10, 2, none⟩)) rfl (by kernel_rfl) (by kernel_rfl) (by kernel_rfl) (fun _ _ _ h => h) (Or.inl ⟨by rfl, fun w0 hC => by simp [execOp, Act.eval, Act.put, go_sem]⟩) hHeld ?_
      try simp only [Act.put, List.setIfInBounds_toArray, List.set_cons_zero, List.set_cons_succ, List.getElem_toArray, List.getElem_cons_zero, List.getElem_cons_succ]
      refine wpAnyH_take (i := 3) (v := .int .i64 (n : Int)) rfl (by kernel_rfl) (by kernel_rfl) (by kernel_rfl) (fun _ _ _ h => h) (Or.inl ⟨by rfl, fun w0 hC => by have := (show Bk _ _ _ _ from hC).four.1; simp [execOp, Act.eval, Act.put, go_sem, this.2.2.1]⟩) hHeld ?_
      try simp only [Act.put, List.setIfInBounds_toArray, List.set_cons_zero, List.set_cons_succ, List.getElem_toArray, List.getElem_cons_zero, List.getElem_cons_succ]
      refine wpAnyH_ready (rs := [1, 4]) (by kernel_rfl) (by simp) (AllReadyH.cons rfl (fun K hK => ?_) (AllReadyH.cons rfl (fun K hK => ?_) AllReadyH.nil))
      · rw [if_pos (by rfl)]
        go_wp2_with fail
        refine hK.out _ _ hHeld (fun hHeld => ?_)
        clear hK K
        try simp only [Act.put, List.setIfInBounds_toArray, List.set_cons_zero, List.set_cons_succ, List.getElem_toArray, List.getElem_cons_zero, List.getElem_cons_succ]
        refine wpAnyH_ready (rs := [4]) (by kernel_rfl) (by simp) (AllReadyH.cons rfl (fun K hK => ?_) AllReadyH.nil)
        rw [if_pos (by rfl)]
        go_wp2_with fail
        refine (takes_int n _ (by omega)).mono ?_
        rintro e W' ⟨rfl, rfl⟩
        refine hK.out _ _ hHeld (fun hHeld => ?_)
        clear hK K
        try simp only [Act.put, List.setIfInBounds_toArray, List.set_cons_zero, List.set_cons_succ, List.getElem_toArray, List.getElem_cons_zero, List.getElem_cons_succ]
        have hadd : IntKind.i64.wrap ((u : Int) + ((takesN n : Nat) : Int)) = (u : Int) + ((takesN n : Nat) : Int) := IntWalk.i64_in _ (by omega)
        refine wpAnyH_take (i := 5) (v := .int .i64 ((u : Int) + ((takesN n : Nat) : Int))) rfl (by kernel_rfl) (by kernel_rfl) (by kernel_rfl) (fun _ _ _ h => h) (Or.inl ⟨by rfl, fun w0 hC => by rw [← hadd]; simp [execOp, Act.eval, Act.put, go_sem, hadd]⟩) hHeld ?_
        try simp only [Act.put, List.setIfInBounds_toArray, List.set_cons_zero, List.set_cons_succ, List.getElem_toArray, List.getElem_cons_zero, List.getElem_cons_succ]
        clear hadd
        refine wpAnyH_take (i := 6) (v := .pointer (some ⟨w.heap.size + 1, 2, none⟩)) rfl (by kernel_rfl) (by kernel_rfl) (by kernel_rfl) (fun _ _ _ h => h) (Or.inl ⟨by rfl, fun w0 hC => by simp [execOp, Act.eval, Act.put, go_sem]⟩) hHeld ?_
        try simp only [Act.put, List.setIfInBounds_toArray, List.set_cons_zero, List.set_cons_succ, List.getElem_toArray, List.getElem_cons_zero, List.getElem_cons_succ]
        refine wpAnyH_ready (rs := [7]) (by kernel_rfl) (by simp) (AllReadyH.cons rfl (fun K hK => ?_) AllReadyH.nil)
        rw [if_pos (by rfl)]
        go_wp2_with fail
        have b6c := B6.out.put 2 (.int .i64 ((u : Int) + ((takesN n : Nat) : Int)))
        have b10c := B10.out.far (p := ⟨w.heap.size + 1, 2, none⟩) (by show b10 ≠ w.heap.size + 1; exact hne10) (.int .i64 ((u : Int) + ((takesN n : Nat) : Int)))
        have b6d := b6c.put 3 (.int .i64 ((k : Int) + 1))
        have b6e : Bk (W7.setCell ⟨w.heap.size + 1, 2, none⟩ (.int .i64 ((u : Int) + ((takesN n : Nat) : Int)))) (w.heap.size + 1) 35 #[.int .i64 (h : Int), .int .i64 (g : Int), .int .i64 ((u : Int) + ((takesN n : Nat) : Int)), .int .i64 (k : Int)] := b6c
        have HREL : Hid (RcHead w #[.slice A n0 c, .slice A' n' c', .int .i64 d.fuse, .bool d.down] h g o size L bh (.slice A2 (k + 1) c2) ((W7.setCell ⟨w.heap.size + 1, 2, none⟩ (.int .i64 ((u : Int) + ((takesN n : Nat) : Int)))).setCell ⟨w.heap.size + 1, 3, none⟩ (.int .i64 ((k : Int) + 1)))) :=
          Lib.hid ⟨k + 1, A2, c2, _, rfl, hlt, (OWN.out.box B6.out (by decide) _).box b6c (by decide) _, (REC.out.box B6.out (by decide) _).box b6c (by decide) _, (B3.out.far (p := ⟨w.heap.size + 1, 2, none⟩) (by show w.heap.size ≠ w.heap.size + 1; omega) _).far (p := ⟨w.heap.size + 1, 3, none⟩) (by show w.heap.size ≠ w.heap.size + 1; omega) _, by rw [HST.out]; exact b6d, (B9.out.far (p := ⟨w.heap.size + 1, 2, none⟩) (by show bh ≠ w.heap.size + 1; exact hne9) _).far (p := ⟨w.heap.size + 1, 3, none⟩) (by show bh ≠ w.heap.size + 1; exact hne9) _, (BW.out.setCell (p := ⟨w.heap.size + 1, 2, none⟩) (by show w.heap.size ≤ w.heap.size + 1; omega) _).setCell (p := ⟨w.heap.size + 1, 3, none⟩) (by show w.heap.size ≤ w.heap.size + 1; omega) _⟩
        obtain ⟨⟨r0, r1, r2, r3⟩, s0, s1, s2, s3⟩ := b6e.four
        clear b6c b6d b6e OWN REC B3 B9 BW B6 B10
        refine hK.out _ _ b10c (fun hHeld => ?_)
        clear hK K
        try simp only [Act.put, List.setIfInBounds_toArray, List.set_cons_zero, List.set_cons_succ, List.getElem_toArray, List.getElem_cons_zero, List.getElem_cons_succ]
        clear b10c
        refine wpAnyH_done (by kernel_rfl) ?_ _
        clear hHeld
        generalize takesN n = tk at *
        generalize W7.setCell ⟨w.heap.size + 1, 2, none⟩ (.int .i64 ((u : Int) + (tk : Int))) = W8 at *
        go_wp2
        go_roundw
        case rel => exact HREL.out
        case measure => simp [lenV]; omega
      · rw [if_pos (by rfl)]
        go_wp2_with fail
        refine (takes_int n _ (by omega)).mono ?_
        rintro e W' ⟨rfl, rfl⟩
        refine hK.out _ _ hHeld (fun hHeld => ?_)
        clear hK K
        try simp only [Act.put, List.setIfInBounds_toArray, List.set_cons_zero, List.set_cons_succ, List.getElem_toArray, List.getElem_cons_zero, List.getElem_cons_succ]
        refine wpAnyH_ready (rs := [1]) (by kernel_rfl) (by simp) (AllReadyH.cons rfl (fun K hK => ?_) AllReadyH.nil)
        rw [if_pos (by rfl)]
        go_wp2_with fail
        refine hK.out _ _ hHeld (fun hHeld => ?_)
        clear hK K
        try simp only [Act.put, List.setIfInBounds_toArray, List.set_cons_zero, List.set_cons_succ, List.getElem_toArray, List.getElem_cons_zero, List.getElem_cons_succ]
        have hadd : IntKind.i64.wrap ((u : Int) + ((takesN n : Nat) : Int)) = (u : Int) + ((takesN n : Nat) : Int) := IntWalk.i64_in _ (by omega)
        refine wpAnyH_take (i := 5) (v := .int .i64 ((u : Int) + ((takesN n : Nat) : Int))) rfl (by kernel_rfl) (by kernel_rfl) (by kernel_rfl) (fun _ _ _ h => h) (Or.inl ⟨by rfl, fun w0 hC => by rw [← hadd]; simp [execOp, Act.eval, Act.put, go_sem, hadd]⟩) hHeld ?_
        try simp only [Act.put, List.setIfInBounds_toArray, List.set_cons_zero, List.set_cons_succ, List.getElem_toArray, List.getElem_cons_zero, List.getElem_cons_succ]
        clear hadd
        refine wpAnyH_take (i := 6) (v := .pointer (some ⟨w.heap.size + 1, 2, none⟩)) rfl (by kernel_rfl) (by kernel_rfl) (by kernel_rfl) (fun _ _ _ h => h) (Or.inl ⟨by rfl, fun w0 hC => by simp [execOp, Act.eval, Act.put, go_sem]⟩) hHeld ?_
        try simp only [Act.put, List.setIfInBounds_toArray, List.set_cons_zero, List.set_cons_succ, List.getElem_toArray, List.getElem_cons_zero, List.getElem_cons_succ]
        refine wpAnyH_ready (rs := [7]) (by kernel_rfl) (by simp) (AllReadyH.cons rfl (fun K hK => ?_) AllReadyH.nil)
        rw [if_pos (by rfl)]
        go_wp2_with fail
        have b6c := B6.out.put 2 (.int .i64 ((u : Int) + ((takesN n : Nat) : Int)))
        have b10c := B10.out.far (p := ⟨w.heap.size + 1, 2, none⟩) (by show b10 ≠ w.heap.size + 1; exact hne10) (.int .i64 ((u : Int) + ((takesN n : Nat) : Int)))
        have b6d := b6c.put 3 (.int .i64 ((k : Int) + 1))
        have b6e : Bk (W7.setCell ⟨w.heap.size + 1, 2, none⟩ (.int .i64 ((u : Int) + ((takesN n : Nat) : Int)))) (w.heap.size + 1) 35 #[.int .i64 (h : Int), .int .i64 (g : Int), .int .i64 ((u : Int) + ((takesN n : Nat) : Int)), .int .i64 (k : Int)] := b6c
        have HREL : Hid (RcHead w #[.slice A n0 c, .slice A' n' c', .int .i64 d.fuse, .bool d.down] h g o size L bh (.slice A2 (k + 1) c2) ((W7.setCell ⟨w.heap.size + 1, 2, none⟩ (.int .i64 ((u : Int) + ((takesN n : Nat) : Int)))).setCell ⟨w.heap.size + 1, 3, none⟩ (.int .i64 ((k : Int) + 1)))) :=
          Lib.hid ⟨k + 1, A2, c2, _, rfl, hlt, (OWN.out.box B6.out (by decide) _).box b6c (by decide) _, (REC.out.box B6.out (by decide) _).box b6c (by decide) _, (B3.out.far (p := ⟨w.heap.size + 1, 2, none⟩) (by show w.heap.size ≠ w.heap.size + 1; omega) _).far (p := ⟨w.heap.size + 1, 3, none⟩) (by show w.heap.size ≠ w.heap.size + 1; omega) _, by rw [HST.out]; exact b6d, (B9.out.far (p := ⟨w.heap.size + 1, 2, none⟩) (by show bh ≠ w.heap.size + 1; exact hne9) _).far (p := ⟨w.heap.size + 1, 3, none⟩) (by show bh ≠ w.heap.size + 1; exact hne9) _, (BW.out.setCell (p := ⟨w.heap.size + 1, 2, none⟩) (by show w.heap.size ≤ w.heap.size + 1; omega) _).setCell (p := ⟨w.heap.size + 1, 3, none⟩) (by show w.heap.size ≤ w.heap.size + 1; omega) _⟩
        obtain ⟨⟨r0, r1, r2, r3⟩, s0, s1, s2, s3⟩ := b6e.four
        clear b6c b6d b6e OWN REC B3 B9 BW B6 B10
        refine hK.out _ _ b10c (fun hHeld => ?_)
        clear hK K
        try simp only [Act.put, List.setIfInBounds_toArray, List.set_cons_zero, List.set_cons_succ, List.getElem_toArray, List.getElem_cons_zero, List.getElem_cons_succ]
        clear b10c
        refine wpAnyH_done (by kernel_rfl) ?_ _
        clear hHeld
        generalize takesN n = tk at *
        generalize W7.setCell ⟨w.heap.size + 1, 2, none⟩ (.int .i64 ((u : Int) + (tk : Int))) = W8 at *
        go_wp2
        go_roundw
        case rel => exact HREL.out
        case measure => simp [lenV]; omega
    · have hkn : k = L.length := by omega
      have hc : ∀ W, Below w.heap.size w W → Calls Tryd.prog 44 #[.agg #[.slice A n0 c, .slice A' n' c', .int .i64 d.fuse, .bool d.down], .agg #[.int .i64 (o : Int), .int .i64 (size : Int)], .int .i64 ((sumT (L.take k) : Nat) : Int)] W fun e w' => e = .returned (.tuple #[.agg #[.int .i64 0, .int .i64 0, .int .i64 0, .int .i64 0], .bool false]) ∧ Below W.heap.size W w' := by
        intro W hW
        rw [hkn, List.take_length]
        by_cases hfull : size ≤ sumT L
        · exact markAt_end _ d o size (sumT L) W (HD.out.later hW) HR.out HDN.out hfull
        · rcases hend with h1 | h1
          · omega
          · exact markAt_zero _ d o size (sumT L) W (HD.out.later hW) HR.out HDN.out (by omega) (by have := HIN.out; omega) h1
      have HC := Lib.hid (hc wr HH.out.hb)
      have HOK := Lib.hid hok; have HBB := Lib.hid hby
      have HKN := Lib.hid hkn
      have hu4 : sumT (L.take k) ≤ 2048 := by rw [hkn, List.take_length]; omega
      clear hc hok hby hsum hrec hend hkn
      generalize hu : sumT (L.take k) = u at *
      have HU := Lib.hid hu
      clear hu
      go_wp2_with fail
      refine HC.out.mono ?_
      rintro e W2 ⟨rfl, hb2⟩
      have H2 := HH.out.below hb2
      clear HH hb2 HC p0 p1 p2 p3 q0 q1 q2 q3 r0 r1 r2 r3 s0 s1 s2 s3 y0 y1
      have b6' := H2.b6
      rw [HU.out] at b6'
      have HB6 := Lib.hid b6'
      obtain ⟨⟨r0, r1, r2, r3⟩, s0, s1, s2, s3⟩ := b6'.four
      have l6 := H2.b6.lt
      have HH2 := Lib.hid H2
      clear H2 b6'
      have hst := stored4_facts HB6.out (.int .i64 (h : Int)) (.int .i64 (g : Int)) (.int .i64 (u : Int)) (.int .i64 (k : Int))
      have h1 := (HH2.out.own.st4 HB6.out (by decide) (.int .i64 (h : Int)) (.int .i64 (g : Int)) (.int .i64 (u : Int)) (.int .i64 (k : Int))).alloc (.cells #[.int .i64 0, .int .i64 0, .int .i64 0, .int .i64 0] 66)
      have h2 := (HH2.out.rcs.st4 HB6.out (by decide) (.int .i64 (h : Int)) (.int .i64 (g : Int)) (.int .i64 (u : Int)) (.int .i64 (k : Int))).keep (fun b cs hb => hb.alloc (.cells #[.int .i64 0, .int .i64 0, .int .i64 0, .int .i64 0] 66))
      have h3 := hst.2.2.1 _ _ HH2.out.hb (Nat.le_succ _)
      have HFIN : Hid (OwnV _ w.heap.size 32 AL k cL vs ∧ RecsIn _ w.heap.size vs L k ∧ Below w.heap.size w _ ∧ Bk _ (w.heap.size + 1) 35 #[.int .i64 (h : Int), .int .i64 (g : Int), .int .i64 (u : Int), .int .i64 (k : Int)]) := Lib.hid ⟨h1, h2, h3.alloc h3.size (.cells #[.int .i64 0, .int .i64 0, .int .i64 0, .int .i64 0] 66), hst.1.alloc (.cells #[.int .i64 0, .int .i64 0, .int .i64 0, .int .i64 0] 66)⟩
      unfold stored4 at HFIN
      clear hst h1 h2 h3 HH2 HB6
      go_wp2
      refine post_over (fun W' => OwnV W' w.heap.size 32 AL k cL vs ∧ RecsIn W' w.heap.size vs L k ∧ Below w.heap.size w W' ∧ Bk W' (w.heap.size + 1) 35 #[.int .i64 (h : Int), .int .i64 (g : Int), .int .i64 (u : Int), .int .i64 (k : Int)]) HFIN.out ?_
      clear HFIN r0 r1 r2 r3 s0 s1 s2 s3
      rintro W9 ⟨h1, h2, h3, h4⟩
      have hkn := HKN.out
      refine bodyPost_ret (v := .tuple #[.agg #[.int .i64 (h : Int), .int .i64 (g : Int), .int .i64 (u : Int), .int .i64 (k : Int)], .slice AL k cL, .bool true]) ?_ rfl ?_
      · exact results_ctt (fn := Tryd.f32) (a1 := ⟨w.heap.size + 1, 0, none⟩) rfl rfl rfl rfl (load_log4 h4)
      · have hu := HU.out
        subst hkn
        rw [List.take_length] at hu
        refine ⟨AL, cL, vs, ?_, h1, h2, h2.rss h1 HOK.out HBB.out, h3⟩
        rw [← hu]
        rfl
end Go.Proofs.YtofbpkaebngnlaaDoor
