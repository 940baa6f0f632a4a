/-
  Contracts over package wal: Open.
-/
import Derived.Test.YtofbpkaebngnlaaDoorQWalRecsB
namespace Go.Proofs.YtofbpkaebngnlaaDoor
set_option linter.unusedVariables false
set_option linter.unusedSimpArgs false
set_option linter.unusedVariables false
set_option linter.unusedSimpArgs false
open Go.RowKit

/-- a half's generation, as its first sector tells it -/
def GenIs (d : Dk) (o size G : Nat) : Prop := (G = 0 ∧ HeadNo d o) ∨ HeadYes d o size G
theorem gen_any (v : Value) (d : Dk) (h G : Nat) (w : World) (hd : DkAt w w.heap.size v d) (hr : rightB d = true) (hdn : d.down = false) (hh : h ≤ 1) (hz : 0 < d.secs.length / 2) (hg : GenIs d (h * (d.secs.length / 2)) (d.secs.length / 2) G) :
    Calls Tryd.prog 31 #[v, .int .i64 (h : Int)] w fun e w' => e = .returned (.int .i64 (G : Int)) ∧ Below w.heap.size w w' := by
  rcases hg with ⟨rfl, hg⟩ | hg
  · exact generation_no v d h w hd hr hdn hh hz hg
  · exact generation_yes v d h G w hd hr hdn hh hg
theorem Log.head {d : Dk} {o size g : Nat} {L : List (List Nat)} (h : Log d o size g L) (hne : L ≠ []) : HeadYes d o size g := by
  obtain ⟨hok, hby, hsum, hg1, hg2, hrec, _⟩ := h
  have hl : 0 < L.length := List.length_pos_iff.2 hne
  have h0 := (hrec 0 hl).1
  have hk := hok _ (textAt_mem hl)
  refine ⟨(textAt L 0).length, moreC 0 (textAt L 0), hg1, hg2, hk.1, hk.2, moreC_lt _ (by omega) (hby _ (textAt_mem hl)), ?_, ?_⟩
  · have : sumT (L.take 1) ≤ sumT L := by
      conv => rhs; rw [← List.take_append_drop 1 L, sumT_append]
      omega
    rw [take_text hl, sumT_snoc, List.take_zero, sumT_nil, Nat.zero_add] at this
    exact Nat.le_trans this hsum
  · simpa [sumT, markL] using h0
theorem Log.fits {d : Dk} {h g : Nat} {L : List (List Nat)} (hl : Log d (h * (d.secs.length / 2)) (d.secs.length / 2) g L) (hne : L ≠ []) (hh : h ≤ 1) : LogFits d h g (sumT L) L.length := by
  obtain ⟨hok, hby, hsum, hg1, hg2, _⟩ := hl
  have hp : 0 < L.length := List.length_pos_iff.2 hne
  have := sumT_ge hok
  exact ⟨hh, hg1, hg2, by omega, hsum, by omega, by omega⟩
/-- what Open answers, if nothing falls -/
def OpRes (w : World) (x : Dk × Int) (h g : Nat) (L : List (List Nat)) (e : Ending) (w' : World) : Prop :=
  ∃ v A c, e = .returned (.tuple #[v, logN (1 - h) (g + 1) (sumT L) L.length, .slice A L.length c, .int .i64 x.2]) ∧ DkAt w' w'.heap.size v x.1 ∧ L.length ≤ c ∧ c ≤ maxLen ∧ Rss w' w'.heap.size A L.length L ∧ Below w.heap.size w w' ∧ (0 < L.length → ∃ b, A = some ⟨b, 0, none⟩ ∧ w.heap.size ≤ b)
/-- what Open answers, if it falls -/
def OpFall (w : World) (x : Dk × Int) (e : Ending) (w' : World) : Prop :=
  ∃ v, e = .returned (.tuple #[v, logN 0 0 0 0, .slice none 0 0, .int .i64 9]) ∧ DkAt w' w'.heap.size v x.1 ∧ Below w.heap.size w w'
theorem results_cctt {P : Program} {fn : Func} {p q r s : Tmp} {t1 t2 : TypeId} (h : fn.results = #[.cell p t1, .cell q t2, .tmp r, .tmp s]) {tmps : Array Value} {w : World} {a1 a2 : Addr} {v1 v2 v3 v4 : Value}
    (h1 : tmps.getD p undef = .pointer (some a1)) (h2 : tmps.getD q undef = .pointer (some a2)) (h3 : tmps.getD r undef = v3) (h4 : tmps.getD s undef = v4) (l1 : (loadVar t1 a1).run P w = .ok v1 w) (l2 : (loadVar t2 a2).run P w = .ok v2 w) : (results fn tmps).run P w = .ok (.tuple #[v1, v2, v3, v4]) w := by
  have h1' : tmps[p]?.getD undef = .pointer (some a1) := by simpa using h1
  have h2' : tmps[q]?.getD undef = .pointer (some a2) := by simpa using h2
  have h3' : tmps[r]?.getD undef = v3 := by simpa using h3
  have h4' : tmps[s]?.getD undef = v4 := by simpa using h4
  simp [results, h, h1', h2', h3', h4', asAddr, l1, l2]
theorem OwnV.at0 {w : World} {base base2 c : Nat} {A : Option Addr} {L : List (List Nat)} {vs : List Value} (h : OwnV w base 32 A L.length c vs) (hne : L ≠ []) (hb : base2 ≤ base) : 0 < L.length → ∃ b, A = some ⟨b, 0, none⟩ ∧ base2 ≤ b := fun hp => by
  obtain ⟨g, e, hg, _⟩ := h.cells hp
  exact ⟨g, e, by omega⟩
/-- the boxes of Open -/
structure OpnB (w : World) (D : Array Value) (W : World) : Prop where
  b1 : Bk W w.heap.size 28 D
  b2 : Bk W (w.heap.size + 1) 28 #[.slice none 0 0, .slice none 0 0, .int .i64 0, .bool false]
  b3 : Bk W (w.heap.size + 1 + 1) 35 #[.int .i64 0, .int .i64 0, .int .i64 0, .int .i64 0]
  hb : Below w.heap.size w W
theorem OpnB.below {w W W' : World} {D : Array Value} (H : OpnB w D W) (hb : Below W.heap.size W W') : OpnB w D W' :=
  ⟨H.b1.below hb H.b1.lt, H.b2.below hb H.b2.lt, H.b3.below hb H.b3.lt, H.hb.trans (hb.mono H.hb.size)⟩

set_option maxRecDepth 20000 in
set_option maxHeartbeats 8000000 in
theorem open_ok0 (v : Value) (d : Dk) (G0 G1 : Nat) (L : List (List Nat)) (w : World) (hd : DkAt w w.heap.size v d) (hr : rightB d = true) (hdn : d.down = false) (hg0 : GenIs d (0 * (d.secs.length / 2)) (d.secs.length / 2) G0) (hg1 : GenIs d (1 * (d.secs.length / 2)) (d.secs.length / 2) G1) (hcmp : G1 ≤ G0)
    (hlog : Log d (0 * (d.secs.length / 2)) (d.secs.length / 2) G0 L) (hne : L ≠ []) (hgm : G0 < 1099511627776) (ht : Tab w) (hx : (runM d (layD (d.secs.length / 2) (d.secs.length / 2) (G0 + 1) L)).2 = 0) :
    Calls Tryd.prog 11 #[v] w (OpRes w (runM d (layD (d.secs.length / 2) (d.secs.length / 2) (G0 + 1) L)) 0 G0 L) := by
  have hz : 0 < d.secs.length / 2 := by
    have h1 := hlog.2.2.1
    have h2 := sumT_ge hlog.1
    have h3 : 0 < L.length := List.length_pos_iff.2 hne
    omega
  have hgp : 1 ≤ G0 := hlog.2.2.2.1
  have hlf : L.length ≤ 1000000 := by
    have h1 := hlog.2.2.1
    have h2 := sumT_ge hlog.1
    have h3 := (rightB_of.1 hr).1
    omega
  generalize hX : runM d (layD (d.secs.length / 2) (d.secs.length / 2) (G0 + 1) L) = x at *
  have HX := Lib.hid hX; have HX0 := Lib.hid hx
  have hxi : (x.2 != 0) = false := by simp [hx]
  obtain ⟨A, n0, c, A', n', c', rfl, hxx⟩ := hd
  have HD := Lib.hid (show DkAt w w.heap.size (.agg #[.slice A n0 c, .slice A' n' c', .int .i64 d.fuse, .bool false]) d from ⟨A, n0, c, A', n', c', by rw [hdn], hxx⟩)
  have HR := Lib.hid hr; have HDN := Lib.hid hdn; have HG0 := Lib.hid hg0; have HG1 := Lib.hid hg1; have HLOG := Lib.hid hlog; have HNE := Lib.hid hne; have HTAB := Lib.hid ht
  have HOB : Hid (OpnB w #[.slice A n0 c, .slice A' n' c', .int .i64 d.fuse, .bool false] (((w.alloc (.cells #[.slice A n0 c, .slice A' n' c', .int .i64 d.fuse, .bool false] 28)).alloc (.cells #[.slice none 0 0, .slice none 0 0, .int .i64 0, .bool false] 28)).alloc (.cells #[.int .i64 0, .int .i64 0, .int .i64 0, .int .i64 0] 35))) := Lib.hid ⟨((Bk.new w _ _).alloc _).alloc _, (Bk.new2 w _ _ _).alloc _, Bk.new3 w _ _ _ _, (((Below.refl _ _).alloc (Nat.le_refl _) _).alloc (by simp) _).alloc (by simp only [World.size_alloc]; omega) _⟩
  clear hxx hr hg0 hg1 hlog hne ht hX hx
  rw [hdn]
  clear hdn
  go_enter Tryd.func11, Tryd.ntmps11
  go_wp2_with fail
  generalize ((w.alloc (.cells #[.slice A n0 c, .slice A' n' c', .int .i64 d.fuse, .bool false] 28)).alloc (.cells #[.slice none 0 0, .slice none 0 0, .int .i64 0, .bool false] 28)).alloc (.cells #[.int .i64 0, .int .i64 0, .int .i64 0, .int .i64 0] 35) = W0 at *
  refine (right_any _ d W0 (HD.out.later HOB.out.hb)).mono ?_
  rw [HR.out]
  rintro e W ⟨rfl, hbR⟩
  have HB := Lib.hid (HOB.out.below hbR)
  clear HOB hbR
  obtain ⟨⟨p0, p1, p2, p3⟩, _⟩ := HB.out.b1.four
  have hl1 := HB.out.b1.lt
  go_wp2_with fail
  have hm : Tryd.prog.follows .mixedOrders = true := by kernel_rfl
  have e32 : ∀ args w, (callFunc 31 args).run Tryd.prog w = .ok (.enter 31 args) w := enters_of Tryd.func31 (by kernel_rfl) rfl
  refine wp_region_quiet (C := fun W' => Below W.heap.size W W') hm (by kernel_rfl) (show Below W.heap.size W W.drew from (Below.refl _ _).drew) ?_
  refine quiet_val (v := .agg #[.slice A n0 c, .slice A' n' c', .int .i64 d.fuse, .bool false]) (by rfl) (fun W' hC => by have := (HB.out.b1.below hC hl1).four.1; simp [execOp, Act.eval, Act.put, go_sem, this.1, this.2.1, this.2.2.1, this.2.2.2]) ?_
  simp only [Act.put, List.setIfInBounds_toArray, List.set_cons_zero, List.set_cons_succ]
  refine quiet_call (v := .int .i64 (G1 : Int)) (f := 31) (args := #[.agg #[.slice A n0 c, .slice A' n' c', .int .i64 d.fuse, .bool false], .int .i64 1]) (by rfl) (fun W' hC => exec_fn rfl rfl (by simp [Act.eval]) (e32 _ _)) (fun W' hC => (gen_any _ d 1 G1 W' (HD.out.later (HB.out.hb.trans (hC.mono HB.out.hb.size))) HR.out HDN.out (by omega) hz HG1.out).mono (fun _ _ hh => ⟨hh.1, hC.trans (hh.2.mono hC.size)⟩)) ?_
  simp only [Act.put, List.setIfInBounds_toArray, List.set_cons_zero, List.set_cons_succ]
  refine quiet_val (v := .agg #[.slice A n0 c, .slice A' n' c', .int .i64 d.fuse, .bool false]) (by rfl) (fun W' hC => by have := (HB.out.b1.below hC hl1).four.1; simp [execOp, Act.eval, Act.put, go_sem, this.1, this.2.1, this.2.2.1, this.2.2.2]) ?_
  simp only [Act.put, List.setIfInBounds_toArray, List.set_cons_zero, List.set_cons_succ]
  refine quiet_call (v := .int .i64 (G0 : Int)) (f := 31) (args := #[.agg #[.slice A n0 c, .slice A' n' c', .int .i64 d.fuse, .bool false], .int .i64 0]) (by rfl) (fun W' hC => exec_fn rfl rfl (by simp [Act.eval]) (e32 _ _)) (fun W' hC => (gen_any _ d 0 G0 W' (HD.out.later (HB.out.hb.trans (hC.mono HB.out.hb.size))) HR.out HDN.out (by omega) hz HG0.out).mono (fun _ _ hh => ⟨hh.1, hC.trans (hh.2.mono hC.size)⟩)) ?_
  simp only [Act.put, List.setIfInBounds_toArray, List.set_cons_zero, List.set_cons_succ]
  refine quiet_val (v := .bool false) (by rfl) (fun W' hC => by simp [execOp, Act.eval, Act.put, go_sem]; omega) ?_
  simp only [Act.put, List.setIfInBounds_toArray, List.set_cons_zero, List.set_cons_succ]
  refine wpQuiet_nil ?_
  intro W2 hC
  have HB2 := Lib.hid (HB.out.below hC)
  clear hC HB p0 p1 p2 p3 hl1 e32
  obtain ⟨⟨p0, p1, p2, p3⟩, _⟩ := HB2.out.b1.four
  go_wp2_with fail
  refine (gen_any _ d 0 G0 W2 (HD.out.later HB2.out.hb) HR.out HDN.out (by omega) hz HG0.out).mono ?_
  rintro e W3 ⟨rfl, hb3⟩
  have HB3 := Lib.hid (HB2.out.below hb3)
  have hb33 : w.heap.size ≤ W3.heap.size := HB3.out.hb.size
  clear hb3 HB2 p0 p1 p2 p3
  obtain ⟨⟨p0, p1, p2, p3⟩, _⟩ := HB3.out.b1.four
  have hgi : ((G0 : Int) == 0) = false := by simp; omega
  go_wp2_with fail
  refine (records_any _ d 0 G0 L W3 (HD.out.later HB3.out.hb) HR.out HDN.out (by omega) HLOG.out (HTAB.out.below HB3.out.hb HTAB.out.pos)).mono ?_
  rintro e W4 ⟨AL, cL, vs, rfl, hown, hrec, hrss, hb4⟩
  unfold logN
  have HB4 := Lib.hid (HB3.out.below hb4)
  have HOWN := Lib.hid hown; have HREC := Lib.hid hrec; have HRSS := Lib.hid hrss
  clear hown hrec hrss hb4 HB3 p0 p1 p2 p3
  obtain ⟨⟨p0, p1, p2, p3⟩, _⟩ := HB4.out.b1.four
  have hl1 := HB4.out.b1.lt
  have hl2 := HB4.out.b2.lt
  have hl3 := HB4.out.b3.lt
  have hb8n : W4.heap.size ≠ w.heap.size ∧ W4.heap.size ≠ w.heap.size + 1 ∧ W4.heap.size ≠ w.heap.size + 1 + 1 := by omega
  go_wp2_with fail
  refine calls_over (fun W' => OpnB w #[.slice A n0 c, .slice A' n' c', .int .i64 d.fuse, .bool false] W' ∧ Bk W' W4.heap.size 35 #[.int .i64 0, .int .i64 (G0 : Int), .int .i64 ((sumT L : Nat) : Int), .int .i64 (L.length : Int)] ∧ OwnV W' W3.heap.size 32 AL L.length cL vs ∧ RecsIn W' W3.heap.size vs L L.length) ⟨HB4.out.below ((Below.refl _ _).alloc (Nat.le_refl _) _), Bk.new _ _ _, HOWN.out.alloc _, HREC.out.keep (fun b cs hb => hb.alloc _)⟩ ?_
  have hb8g : w.heap.size ≤ W4.heap.size := Nat.le_of_lt hl1
  clear p0 p1 p2 p3 hl1 hl2 hl3 HB4 HOWN HREC HRSS
  generalize W4.heap.size = b8 at *
  rintro W5 ⟨HB5, h8, hown, hrec⟩
  have hok := HLOG.out.1
  have hbb := HLOG.out.2.1
  have hcl : x.2 = 0 → cmpLog x 0 G0 (sumT L) L.length L = .agg #[.int .i64 1, .int .i64 ((G0 : Int) + 1), .int .i64 ((sumT L : Nat) : Int), .int .i64 (L.length : Int)] := fun h0 => by unfold cmpLog logN; rw [if_pos h0]; simp
  have hc := compact_run0 _ d G0 (sumT L) L.length AL L.length cL L W5 (HD.out.later HB5.hb) HR.out (HLOG.out.fits HNE.out (by omega)) (hrec.rss hown hok hbb) hlf hok HNE.out HLOG.out.2.2.1 hgm (HTAB.out.below HB5.hb HTAB.out.pos) (.inl (by rw [HX.out]; exact HX0.out))
  rw [HX.out, hcl HX0.out] at hc
  unfold logN at hc
  refine hc.mono ?_
  clear hc hcl
  rintro e W6 ⟨v6, rfl, hd6, hb6⟩
  obtain ⟨A2, n2, c2, A2', n2', c2', rfl, hx6⟩ := hd6
  have hd6 : DkAt W6 W6.heap.size (.agg #[.slice A2 n2 c2, .slice A2' n2' c2', .int .i64 x.1.fuse, .bool x.1.down]) x.1 := ⟨A2, n2, c2, A2', n2', c2', rfl, hx6⟩
  have HB6 := HB5.below hb6
  replace h8 := h8.below hb6 h8.lt
  replace hown := hown.below hb6
  replace hrec := hrec.keep (fun b cs hb => hb.below hb6 hb.lt)
  clear hx6 hb6 HB5 hok hbb
  have hf1 := stored4_facts HB6.b1 (.slice A2 n2 c2) (.slice A2' n2' c2') (.int .i64 x.1.fuse) (.bool x.1.down)
  have h8' := hf1.2.2.2 _ _ _ hb8n.1 h8
  have hf8 := stored4_facts h8' (.int .i64 1) (.int .i64 ((G0 : Int) + 1)) (.int .i64 ((sumT L : Nat) : Int)) (.int .i64 (L.length : Int))
  have HG : Hid ((fun W' => (Bk W' w.heap.size 28 #[.slice A2 n2 c2, .slice A2' n2' c2', .int .i64 x.1.fuse, .bool x.1.down] ∧ Bk W' b8 35 #[.int .i64 1, .int .i64 ((G0 : Int) + 1), .int .i64 ((sumT L : Nat) : Int), .int .i64 (L.length : Int)] ∧ Bk W' (w.heap.size + 1) 28 #[.slice none 0 0, .slice none 0 0, .int .i64 0, .bool false] ∧ Bk W' (w.heap.size + 1 + 1) 35 #[.int .i64 0, .int .i64 0, .int .i64 0, .int .i64 0]) ∧ DkAt W' W'.heap.size (.agg #[.slice A2 n2 c2, .slice A2' n2' c2', .int .i64 x.1.fuse, .bool x.1.down]) x.1 ∧ Below w.heap.size w W' ∧ OwnV W' W3.heap.size 32 AL L.length cL vs ∧ RecsIn W' W3.heap.size vs L L.length) (stored4 (stored4 W6 w.heap.size (.slice A2 n2 c2) (.slice A2' n2' c2') (.int .i64 x.1.fuse) (.bool x.1.down)) b8 (.int .i64 1) (.int .i64 ((G0 : Int) + 1)) (.int .i64 ((sumT L : Nat) : Int)) (.int .i64 (L.length : Int)))) := Lib.hid ⟨⟨hf8.2.2.2 _ _ _ hb8n.1.symm hf1.1, hf8.1, hf8.2.2.2 _ _ _ hb8n.2.1.symm (hf1.2.2.2 _ _ _ (by omega) HB6.b2), hf8.2.2.2 _ _ _ hb8n.2.2.symm (hf1.2.2.2 _ _ _ (by omega) HB6.b3)⟩, hf8.2.1 _ _ (hf1.2.1 _ _ hd6), hf8.2.2.1 _ _ (hf1.2.2.1 _ _ HB6.hb (Nat.le_refl _)) (by omega), (hown.st4 HB6.b1 (by decide) _ _ _ _).st4 h8' (by decide) _ _ _ _, (hrec.st4 HB6.b1 (by decide) _ _ _ _).st4 h8' (by decide) _ _ _ _⟩
  unfold stored4 at HG
  have HH6 := Lib.hid HB6
  obtain ⟨⟨p0, p1, p2, p3⟩, q0, q1, q2, q3⟩ := HB6.b1.four
  obtain ⟨⟨r0, r1, r2, r3⟩, s0, s1, s2, s3⟩ := h8.four
  clear hf1 h8' hf8 HB6 h8 hown hrec hd6
  generalize hg9 : ((G0 : Int) + 1) = g9 at *
  have HG9 := Lib.hid hg9
  clear hg9
  go_wp2_with fail
  refine code_over (fun W' => (Bk W' w.heap.size 28 #[.slice A2 n2 c2, .slice A2' n2' c2', .int .i64 x.1.fuse, .bool x.1.down] ∧ Bk W' b8 35 #[.int .i64 1, .int .i64 g9, .int .i64 ((sumT L : Nat) : Int), .int .i64 (L.length : Int)] ∧ Bk W' (w.heap.size + 1) 28 #[.slice none 0 0, .slice none 0 0, .int .i64 0, .bool false] ∧ Bk W' (w.heap.size + 1 + 1) 35 #[.int .i64 0, .int .i64 0, .int .i64 0, .int .i64 0]) ∧ DkAt W' W'.heap.size (.agg #[.slice A2 n2 c2, .slice A2' n2' c2', .int .i64 x.1.fuse, .bool x.1.down]) x.1 ∧ Below w.heap.size w W' ∧ OwnV W' W3.heap.size 32 AL L.length cL vs ∧ RecsIn W' W3.heap.size vs L L.length) HG.out ?_
  clear p0 p1 p2 p3 q0 q1 q2 q3 r0 r1 r2 r3 s0 s1 s2 s3 HG HH6
  rintro W7 ⟨⟨k1, k8, k2, k3⟩, hd7, hb7, hown, hrec⟩
  have HT := two_boxes (x := x.1) 1 g9 ((sumT L : Nat) : Int) (L.length : Int) k2 k3 (by omega) hd7 hb7 (by omega) (by omega)
  have HOW : Hid (OwnV _ W3.heap.size 32 AL L.length cL vs) := Lib.hid ((hown.st4 k2 (by decide) (.slice A2 n2 c2) (.slice A2' n2' c2') (.int .i64 x.1.fuse) (.bool x.1.down)).st4 ((stored4_facts k2 (.slice A2 n2 c2) (.slice A2' n2' c2') (.int .i64 x.1.fuse) (.bool x.1.down)).2.2.2 _ _ _ (by omega) k3) (by decide) (.int .i64 1) (.int .i64 g9) (.int .i64 ((sumT L : Nat) : Int)) (.int .i64 (L.length : Int)))
  have HRC : Hid (RecsIn _ W3.heap.size vs L L.length) := Lib.hid ((hrec.st4 k2 (by decide) (.slice A2 n2 c2) (.slice A2' n2' c2') (.int .i64 x.1.fuse) (.bool x.1.down)).st4 ((stored4_facts k2 (.slice A2 n2 c2) (.slice A2' n2' c2') (.int .i64 x.1.fuse) (.bool x.1.down)).2.2.2 _ _ _ (by omega) k3) (by decide) (.int .i64 1) (.int .i64 g9) (.int .i64 ((sumT L : Nat) : Int)) (.int .i64 (L.length : Int)))
  have HFIN := Lib.hid (And.intro HT.out.drew (And.intro (HOW.out.below ((Below.refl _ _).drew)) (HRC.out.keep (fun b cs hb => hb.drew))))
  clear HT HOW HRC
  unfold stored4 at HFIN
  obtain ⟨⟨p0, p1, p2, p3⟩, q0, q1, q2, q3⟩ := k1.four
  obtain ⟨⟨r0, r1, r2, r3⟩, s0, s1, s2, s3⟩ := k8.four
  obtain ⟨⟨t0, t1, t2, t3⟩, u0, u1, u2, u3⟩ := k2.four
  obtain ⟨⟨v0, v1, v2, v3⟩, x0, x1, x2, x3⟩ := k3.four
  have hn1 : b8 ≠ w.heap.size := hb8n.1
  have hn2 : b8 ≠ w.heap.size + 1 := hb8n.2.1
  have hn3 : b8 ≠ w.heap.size + 1 + 1 := hb8n.2.2
  clear k1 k8 k2 k3 hd7 hb7 hown hrec hb8n hb8g
  have HHL := Lib.hid hlf
  clear hlf hcmp hgm hgp hz hgi
  generalize hsu : ((sumT L : Nat) : Int) = su at *
  generalize hle : (L.length : Int) = le at *
  have HSU := Lib.hid hsu; have HLE := Lib.hid hle
  clear hsu hle
  go_region
  refine post_over (fun W' => Lies w (w.heap.size + 1) (w.heap.size + 1 + 1) A2 A2' n2 c2 n2' c2' x.1 1 g9 su le W' ∧ OwnV W' W3.heap.size 32 AL L.length cL vs ∧ RecsIn W' W3.heap.size vs L L.length) HFIN.out ?_
  rintro W' ⟨hl, hown, hrec⟩
  clear p0 p1 p2 p3 q0 q1 q2 q3 r0 r1 r2 r3 s0 s1 s2 s3 t0 t1 t2 t3 u0 u1 u2 u3 v0 v1 v2 v3 x0 x1 x2 x3 HFIN
  have HL9 := Lib.hid hl
  have HRS := Lib.hid (hrec.rss hown HLOG.out.1 HLOG.out.2.1)
  have HCAP := Lib.hid hown.cap
  have HAT := Lib.hid (hown.at0 HNE.out hb33)
  clear hl hown hrec
  go_wp2
  refine bodyPost_ret (v := .tuple #[.agg #[.slice A2 n2 c2, .slice A2' n2' c2', .int .i64 x.1.fuse, .bool x.1.down], .agg #[.int .i64 1, .int .i64 g9, .int .i64 su, .int .i64 le], .slice AL L.length cL, .int .i64 0]) ?_ rfl ⟨_, AL, cL, ?_, HL9.out.2.2.1, HCAP.out.1, HCAP.out.2, HRS.out, HL9.out.2.2.2, HAT.out⟩
  · exact results_cctt (fn := Tryd.f11) (a1 := ⟨w.heap.size + 1, 0, none⟩) (a2 := ⟨w.heap.size + 1 + 1, 0, none⟩) rfl rfl rfl rfl rfl (load_box4 HL9.out.1) (load_log4 HL9.out.2.1)
  · rw [HX0.out, ← HSU.out, ← HLE.out, ← HG9.out]
    unfold logN
    simp

set_option maxRecDepth 20000 in
set_option maxHeartbeats 8000000 in
theorem open_ok1 (v : Value) (d : Dk) (G0 G1 : Nat) (L : List (List Nat)) (w : World) (hd : DkAt w w.heap.size v d) (hr : rightB d = true) (hdn : d.down = false) (hg0 : GenIs d (0 * (d.secs.length / 2)) (d.secs.length / 2) G0) (hg1 : GenIs d (1 * (d.secs.length / 2)) (d.secs.length / 2) G1) (hcmp : G0 < G1)
    (hlog : Log d (1 * (d.secs.length / 2)) (d.secs.length / 2) G1 L) (hne : L ≠ []) (hgm : G1 < 1099511627776) (ht : Tab w) (hx : (runM d (layD 0 (d.secs.length / 2) (G1 + 1) L)).2 = 0) :
    Calls Tryd.prog 11 #[v] w (OpRes w (runM d (layD 0 (d.secs.length / 2) (G1 + 1) L)) 1 G1 L) := by
  have hz : 0 < d.secs.length / 2 := by
    have h1 := hlog.2.2.1
    have h2 := sumT_ge hlog.1
    have h3 : 0 < L.length := List.length_pos_iff.2 hne
    omega
  have hgp : 1 ≤ G1 := hlog.2.2.2.1
  have hlf : L.length ≤ 1000000 := by
    have h1 := hlog.2.2.1
    have h2 := sumT_ge hlog.1
    have h3 := (rightB_of.1 hr).1
    omega
  generalize hX : runM d (layD 0 (d.secs.length / 2) (G1 + 1) L) = x at *
  have HX := Lib.hid hX; have HX0 := Lib.hid hx
  have hxi : (x.2 != 0) = false := by simp [hx]
  obtain ⟨A, n0, c, A', n', c', rfl, hxx⟩ := hd
  have HD := Lib.hid (show DkAt w w.heap.size (.agg #[.slice A n0 c, .slice A' n' c', .int .i64 d.fuse, .bool false]) d from ⟨A, n0, c, A', n', c', by rw [hdn], hxx⟩)
  have HR := Lib.hid hr; have HDN := Lib.hid hdn; have HG0 := Lib.hid hg0; have HG1 := Lib.hid hg1; have HLOG := Lib.hid hlog; have HNE := Lib.hid hne; have HTAB := Lib.hid ht
  have HOB : Hid (OpnB w #[.slice A n0 c, .slice A' n' c', .int .i64 d.fuse, .bool false] (((w.alloc (.cells #[.slice A n0 c, .slice A' n' c', .int .i64 d.fuse, .bool false] 28)).alloc (.cells #[.slice none 0 0, .slice none 0 0, .int .i64 0, .bool false] 28)).alloc (.cells #[.int .i64 0, .int .i64 0, .int .i64 0, .int .i64 0] 35))) := Lib.hid ⟨((Bk.new w _ _).alloc _).alloc _, (Bk.new2 w _ _ _).alloc _, Bk.new3 w _ _ _ _, (((Below.refl _ _).alloc (Nat.le_refl _) _).alloc (by simp) _).alloc (by simp only [World.size_alloc]; omega) _⟩
  clear hxx hr hg0 hg1 hlog hne ht hX hx
  rw [hdn]
  clear hdn
  go_enter Tryd.func11, Tryd.ntmps11
  go_wp2_with fail
  generalize ((w.alloc (.cells #[.slice A n0 c, .slice A' n' c', .int .i64 d.fuse, .bool false] 28)).alloc (.cells #[.slice none 0 0, .slice none 0 0, .int .i64 0, .bool false] 28)).alloc (.cells #[.int .i64 0, .int .i64 0, .int .i64 0, .int .i64 0] 35) = W0 at *
  refine (right_any _ d W0 (HD.out.later HOB.out.hb)).mono ?_
  rw [HR.out]
  rintro e W ⟨rfl, hbR⟩
  have HB := Lib.hid (HOB.out.below hbR)
  clear HOB hbR
  obtain ⟨⟨p0, p1, p2, p3⟩, _⟩ := HB.out.b1.four
  have hl1 := HB.out.b1.lt
  go_wp2_with fail
  have hm : Tryd.prog.follows .mixedOrders = true := by kernel_rfl
  have e32 : ∀ args w, (callFunc 31 args).run Tryd.prog w = .ok (.enter 31 args) w := enters_of Tryd.func31 (by kernel_rfl) rfl
  refine wp_region_quiet (C := fun W' => Below W.heap.size W W') hm (by kernel_rfl) (show Below W.heap.size W W.drew from (Below.refl _ _).drew) ?_
  refine quiet_val (v := .agg #[.slice A n0 c, .slice A' n' c', .int .i64 d.fuse, .bool false]) (by rfl) (fun W' hC => by have := (HB.out.b1.below hC hl1).four.1; simp [execOp, Act.eval, Act.put, go_sem, this.1, this.2.1, this.2.2.1, this.2.2.2]) ?_
  simp only [Act.put, List.setIfInBounds_toArray, List.set_cons_zero, List.set_cons_succ]
  refine quiet_call (v := .int .i64 (G1 : Int)) (f := 31) (args := #[.agg #[.slice A n0 c, .slice A' n' c', .int .i64 d.fuse, .bool false], .int .i64 1]) (by rfl) (fun W' hC => exec_fn rfl rfl (by simp [Act.eval]) (e32 _ _)) (fun W' hC => (gen_any _ d 1 G1 W' (HD.out.later (HB.out.hb.trans (hC.mono HB.out.hb.size))) HR.out HDN.out (by omega) hz HG1.out).mono (fun _ _ hh => ⟨hh.1, hC.trans (hh.2.mono hC.size)⟩)) ?_
  simp only [Act.put, List.setIfInBounds_toArray, List.set_cons_zero, List.set_cons_succ]
  refine quiet_val (v := .agg #[.slice A n0 c, .slice A' n' c', .int .i64 d.fuse, .bool false]) (by rfl) (fun W' hC => by have := (HB.out.b1.below hC hl1).four.1; simp [execOp, Act.eval, Act.put, go_sem, this.1, this.2.1, this.2.2.1, this.2.2.2]) ?_
  simp only [Act.put, List.setIfInBounds_toArray, List.set_cons_zero, List.set_cons_succ]
  refine quiet_call (v := .int .i64 (G0 : Int)) (f := 31) (args := #[.agg #[.slice A n0 c, .slice A' n' c', .int .i64 d.fuse, .bool false], .int .i64 0]) (by rfl) (fun W' hC => exec_fn rfl rfl (by simp [Act.eval]) (e32 _ _)) (fun W' hC => (gen_any _ d 0 G0 W' (HD.out.later (HB.out.hb.trans (hC.mono HB.out.hb.size))) HR.out HDN.out (by omega) hz HG0.out).mono (fun _ _ hh => ⟨hh.1, hC.trans (hh.2.mono hC.size)⟩)) ?_
  simp only [Act.put, List.setIfInBounds_toArray, List.set_cons_zero, List.set_cons_succ]
  refine quiet_val (v := .bool true) (by rfl) (fun W' hC => by simp [execOp, Act.eval, Act.put, go_sem]; omega) ?_
  simp only [Act.put, List.setIfInBounds_toArray, List.set_cons_zero, List.set_cons_succ]
  refine wpQuiet_nil ?_
  intro W2 hC
  have HB2 := Lib.hid (HB.out.below hC)
  clear hC HB p0 p1 p2 p3 hl1 e32
  obtain ⟨⟨p0, p1, p2, p3⟩, _⟩ := HB2.out.b1.four
  go_wp2_with fail
  refine (gen_any _ d 1 G1 W2 (HD.out.later HB2.out.hb) HR.out HDN.out (by omega) hz HG1.out).mono ?_
  rintro e W3 ⟨rfl, hb3⟩
  have HB3 := Lib.hid (HB2.out.below hb3)
  have hb33 : w.heap.size ≤ W3.heap.size := HB3.out.hb.size
  clear hb3 HB2 p0 p1 p2 p3
  obtain ⟨⟨p0, p1, p2, p3⟩, _⟩ := HB3.out.b1.four
  have hgi : ((G1 : Int) == 0) = false := by simp; omega
  go_wp2_with fail
  refine (records_any _ d 1 G1 L W3 (HD.out.later HB3.out.hb) HR.out HDN.out (by omega) HLOG.out (HTAB.out.below HB3.out.hb HTAB.out.pos)).mono ?_
  rintro e W4 ⟨AL, cL, vs, rfl, hown, hrec, hrss, hb4⟩
  unfold logN
  have HB4 := Lib.hid (HB3.out.below hb4)
  have HOWN := Lib.hid hown; have HREC := Lib.hid hrec; have HRSS := Lib.hid hrss
  clear hown hrec hrss hb4 HB3 p0 p1 p2 p3
  obtain ⟨⟨p0, p1, p2, p3⟩, _⟩ := HB4.out.b1.four
  have hl1 := HB4.out.b1.lt
  have hl2 := HB4.out.b2.lt
  have hl3 := HB4.out.b3.lt
  have hb8n : W4.heap.size ≠ w.heap.size ∧ W4.heap.size ≠ w.heap.size + 1 ∧ W4.heap.size ≠ w.heap.size + 1 + 1 := by omega
  go_wp2_with fail
  refine calls_over (fun W' => OpnB w #[.slice A n0 c, .slice A' n' c', .int .i64 d.fuse, .bool false] W' ∧ Bk W' W4.heap.size 35 #[.int .i64 1, .int .i64 (G1 : Int), .int .i64 ((sumT L : Nat) : Int), .int .i64 (L.length : Int)] ∧ OwnV W' W3.heap.size 32 AL L.length cL vs ∧ RecsIn W' W3.heap.size vs L L.length) ⟨HB4.out.below ((Below.refl _ _).alloc (Nat.le_refl _) _), Bk.new _ _ _, HOWN.out.alloc _, HREC.out.keep (fun b cs hb => hb.alloc _)⟩ ?_
  have hb8g : w.heap.size ≤ W4.heap.size := Nat.le_of_lt hl1
  clear p0 p1 p2 p3 hl1 hl2 hl3 HB4 HOWN HREC HRSS
  generalize W4.heap.size = b8 at *
  rintro W5 ⟨HB5, h8, hown, hrec⟩
  have hok := HLOG.out.1
  have hbb := HLOG.out.2.1
  have hcl : x.2 = 0 → cmpLog x 1 G1 (sumT L) L.length L = .agg #[.int .i64 0, .int .i64 ((G1 : Int) + 1), .int .i64 ((sumT L : Nat) : Int), .int .i64 (L.length : Int)] := fun h0 => by unfold cmpLog logN; rw [if_pos h0]; simp
  have hc := compact_run1 _ d G1 (sumT L) L.length AL L.length cL L W5 (HD.out.later HB5.hb) HR.out (HLOG.out.fits HNE.out (by omega)) (hrec.rss hown hok hbb) hlf hok HNE.out HLOG.out.2.2.1 hgm (HTAB.out.below HB5.hb HTAB.out.pos) (.inl (by rw [HX.out]; exact HX0.out))
  rw [HX.out, hcl HX0.out] at hc
  unfold logN at hc
  refine hc.mono ?_
  clear hc hcl
  rintro e W6 ⟨v6, rfl, hd6, hb6⟩
  obtain ⟨A2, n2, c2, A2', n2', c2', rfl, hx6⟩ := hd6
  have hd6 : DkAt W6 W6.heap.size (.agg #[.slice A2 n2 c2, .slice A2' n2' c2', .int .i64 x.1.fuse, .bool x.1.down]) x.1 := ⟨A2, n2, c2, A2', n2', c2', rfl, hx6⟩
  have HB6 := HB5.below hb6
  replace h8 := h8.below hb6 h8.lt
  replace hown := hown.below hb6
  replace hrec := hrec.keep (fun b cs hb => hb.below hb6 hb.lt)
  clear hx6 hb6 HB5 hok hbb
  have hf1 := stored4_facts HB6.b1 (.slice A2 n2 c2) (.slice A2' n2' c2') (.int .i64 x.1.fuse) (.bool x.1.down)
  have h8' := hf1.2.2.2 _ _ _ hb8n.1 h8
  have hf8 := stored4_facts h8' (.int .i64 0) (.int .i64 ((G1 : Int) + 1)) (.int .i64 ((sumT L : Nat) : Int)) (.int .i64 (L.length : Int))
  have HG : Hid ((fun W' => (Bk W' w.heap.size 28 #[.slice A2 n2 c2, .slice A2' n2' c2', .int .i64 x.1.fuse, .bool x.1.down] ∧ Bk W' b8 35 #[.int .i64 0, .int .i64 ((G1 : Int) + 1), .int .i64 ((sumT L : Nat) : Int), .int .i64 (L.length : Int)] ∧ Bk W' (w.heap.size + 1) 28 #[.slice none 0 0, .slice none 0 0, .int .i64 0, .bool false] ∧ Bk W' (w.heap.size + 1 + 1) 35 #[.int .i64 0, .int .i64 0, .int .i64 0, .int .i64 0]) ∧ DkAt W' W'.heap.size (.agg #[.slice A2 n2 c2, .slice A2' n2' c2', .int .i64 x.1.fuse, .bool x.1.down]) x.1 ∧ Below w.heap.size w W' ∧ OwnV W' W3.heap.size 32 AL L.length cL vs ∧ RecsIn W' W3.heap.size vs L L.length) (stored4 (stored4 W6 w.heap.size (.slice A2 n2 c2) (.slice A2' n2' c2') (.int .i64 x.1.fuse) (.bool x.1.down)) b8 (.int .i64 0) (.int .i64 ((G1 : Int) + 1)) (.int .i64 ((sumT L : Nat) : Int)) (.int .i64 (L.length : Int)))) := Lib.hid ⟨⟨hf8.2.2.2 _ _ _ hb8n.1.symm hf1.1, hf8.1, hf8.2.2.2 _ _ _ hb8n.2.1.symm (hf1.2.2.2 _ _ _ (by omega) HB6.b2), hf8.2.2.2 _ _ _ hb8n.2.2.symm (hf1.2.2.2 _ _ _ (by omega) HB6.b3)⟩, hf8.2.1 _ _ (hf1.2.1 _ _ hd6), hf8.2.2.1 _ _ (hf1.2.2.1 _ _ HB6.hb (Nat.le_refl _)) (by omega), (hown.st4 HB6.b1 (by decide) _ _ _ _).st4 h8' (by decide) _ _ _ _, (hrec.st4 HB6.b1 (by decide) _ _ _ _).st4 h8' (by decide) _ _ _ _⟩
  unfold stored4 at HG
  have HH6 := Lib.hid HB6
  obtain ⟨⟨p0, p1, p2, p3⟩, q0, q1, q2, q3⟩ := HB6.b1.four
  obtain ⟨⟨r0, r1, r2, r3⟩, s0, s1, s2, s3⟩ := h8.four
  clear hf1 h8' hf8 HB6 h8 hown hrec hd6
  generalize hg9 : ((G1 : Int) + 1) = g9 at *
  have HG9 := Lib.hid hg9
  clear hg9
  go_wp2_with fail
  refine code_over (fun W' => (Bk W' w.heap.size 28 #[.slice A2 n2 c2, .slice A2' n2' c2', .int .i64 x.1.fuse, .bool x.1.down] ∧ Bk W' b8 35 #[.int .i64 0, .int .i64 g9, .int .i64 ((sumT L : Nat) : Int), .int .i64 (L.length : Int)] ∧ Bk W' (w.heap.size + 1) 28 #[.slice none 0 0, .slice none 0 0, .int .i64 0, .bool false] ∧ Bk W' (w.heap.size + 1 + 1) 35 #[.int .i64 0, .int .i64 0, .int .i64 0, .int .i64 0]) ∧ DkAt W' W'.heap.size (.agg #[.slice A2 n2 c2, .slice A2' n2' c2', .int .i64 x.1.fuse, .bool x.1.down]) x.1 ∧ Below w.heap.size w W' ∧ OwnV W' W3.heap.size 32 AL L.length cL vs ∧ RecsIn W' W3.heap.size vs L L.length) HG.out ?_
  clear p0 p1 p2 p3 q0 q1 q2 q3 r0 r1 r2 r3 s0 s1 s2 s3 HG HH6
  rintro W7 ⟨⟨k1, k8, k2, k3⟩, hd7, hb7, hown, hrec⟩
  have HT := two_boxes (x := x.1) 0 g9 ((sumT L : Nat) : Int) (L.length : Int) k2 k3 (by omega) hd7 hb7 (by omega) (by omega)
  have HOW : Hid (OwnV _ W3.heap.size 32 AL L.length cL vs) := Lib.hid ((hown.st4 k2 (by decide) (.slice A2 n2 c2) (.slice A2' n2' c2') (.int .i64 x.1.fuse) (.bool x.1.down)).st4 ((stored4_facts k2 (.slice A2 n2 c2) (.slice A2' n2' c2') (.int .i64 x.1.fuse) (.bool x.1.down)).2.2.2 _ _ _ (by omega) k3) (by decide) (.int .i64 0) (.int .i64 g9) (.int .i64 ((sumT L : Nat) : Int)) (.int .i64 (L.length : Int)))
  have HRC : Hid (RecsIn _ W3.heap.size vs L L.length) := Lib.hid ((hrec.st4 k2 (by decide) (.slice A2 n2 c2) (.slice A2' n2' c2') (.int .i64 x.1.fuse) (.bool x.1.down)).st4 ((stored4_facts k2 (.slice A2 n2 c2) (.slice A2' n2' c2') (.int .i64 x.1.fuse) (.bool x.1.down)).2.2.2 _ _ _ (by omega) k3) (by decide) (.int .i64 0) (.int .i64 g9) (.int .i64 ((sumT L : Nat) : Int)) (.int .i64 (L.length : Int)))
  have HFIN := Lib.hid (And.intro HT.out.drew (And.intro (HOW.out.below ((Below.refl _ _).drew)) (HRC.out.keep (fun b cs hb => hb.drew))))
  clear HT HOW HRC
  unfold stored4 at HFIN
  obtain ⟨⟨p0, p1, p2, p3⟩, q0, q1, q2, q3⟩ := k1.four
  obtain ⟨⟨r0, r1, r2, r3⟩, s0, s1, s2, s3⟩ := k8.four
  obtain ⟨⟨t0, t1, t2, t3⟩, u0, u1, u2, u3⟩ := k2.four
  obtain ⟨⟨v0, v1, v2, v3⟩, x0, x1, x2, x3⟩ := k3.four
  have hn1 : b8 ≠ w.heap.size := hb8n.1
  have hn2 : b8 ≠ w.heap.size + 1 := hb8n.2.1
  have hn3 : b8 ≠ w.heap.size + 1 + 1 := hb8n.2.2
  clear k1 k8 k2 k3 hd7 hb7 hown hrec hb8n hb8g
  have HHL := Lib.hid hlf
  clear hlf hcmp hgm hgp hz hgi
  generalize hsu : ((sumT L : Nat) : Int) = su at *
  generalize hle : (L.length : Int) = le at *
  have HSU := Lib.hid hsu; have HLE := Lib.hid hle
  clear hsu hle
  go_region
  refine post_over (fun W' => Lies w (w.heap.size + 1) (w.heap.size + 1 + 1) A2 A2' n2 c2 n2' c2' x.1 0 g9 su le W' ∧ OwnV W' W3.heap.size 32 AL L.length cL vs ∧ RecsIn W' W3.heap.size vs L L.length) HFIN.out ?_
  rintro W' ⟨hl, hown, hrec⟩
  clear p0 p1 p2 p3 q0 q1 q2 q3 r0 r1 r2 r3 s0 s1 s2 s3 t0 t1 t2 t3 u0 u1 u2 u3 v0 v1 v2 v3 x0 x1 x2 x3 HFIN
  have HL9 := Lib.hid hl
  have HRS := Lib.hid (hrec.rss hown HLOG.out.1 HLOG.out.2.1)
  have HCAP := Lib.hid hown.cap
  have HAT := Lib.hid (hown.at0 HNE.out hb33)
  clear hl hown hrec
  go_wp2
  refine bodyPost_ret (v := .tuple #[.agg #[.slice A2 n2 c2, .slice A2' n2' c2', .int .i64 x.1.fuse, .bool x.1.down], .agg #[.int .i64 0, .int .i64 g9, .int .i64 su, .int .i64 le], .slice AL L.length cL, .int .i64 0]) ?_ rfl ⟨_, AL, cL, ?_, HL9.out.2.2.1, HCAP.out.1, HCAP.out.2, HRS.out, HL9.out.2.2.2, HAT.out⟩
  · exact results_cctt (fn := Tryd.f11) (a1 := ⟨w.heap.size + 1, 0, none⟩) (a2 := ⟨w.heap.size + 1 + 1, 0, none⟩) rfl rfl rfl rfl rfl (load_box4 HL9.out.1) (load_log4 HL9.out.2.1)
  · rw [HX0.out, ← HSU.out, ← HLE.out, ← HG9.out]
    unfold logN
    simp
end Go.Proofs.YtofbpkaebngnlaaDoor
