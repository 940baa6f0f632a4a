/-
 A part of the proof: see the last text.
-/
import Derived.Test.YtcdehejgnnnimaaGreatDoorSWalRead
import Derived.Test.YtcdehejgnnnimaaGreatDoorSSecWords
namespace Go.Proofs.YtcdehejgnnnimaaGreatDoor
open List renaming setIfInBounds_toArray → jA, set_cons_zero → jB, set_cons_succ → jC, getElem_toArray → jD, getElem_cons_zero → jE, getElem_cons_succ → jF
set_option linter.unusedVariables false
set_option linter.unusedSimpArgs false
open Go.RowKit
theorem take8 (x : Nat) (r : List Nat) : takeV (encB 8 x ++ r) 0 8 = encB 8 x := by
 unfold takeV
 rw [if_pos ⟨rfl, by rw [List.length_append, encB_length]; omega⟩, List.take_append_of_le_length (by rw [encB_length]; omega), List.take_of_length_le (by rw [encB_length]; omega)]
theorem rest8 (x : Nat) (r : List Nat) : takeL (encB 8 x ++ r) 0 8 = r := by
 unfold takeL
 rw [if_pos ⟨rfl, by rw [List.length_append, encB_length]; omega⟩, List.drop_append, encB_length, List.drop_eq_nil_of_le (by rw [encB_length]; omega)]
 simp
theorem err8 (x : Nat) (r : List Nat) : takeE (encB 8 x ++ r) 0 8 = 0 := by
 unfold takeE
 rw [if_neg (by rw [List.length_append, encB_length]; omega)]
theorem num8 {x : Nat} (h : x ≤ 4611686018427387904) (r : List Nat) : numV (encB 8 x ++ r) 0 = x ∧ numE (encB 8 x ++ r) 0 = 0 := by
 have hd : decB (encB 8 x) = x := decB_encB 8 x (by omega)
 unfold numV numE
 rw [take8, hd, err8, if_neg (by omega), if_neg (by omega)]
 exact ⟨rfl, rfl⟩
def numL (g k n s : Nat) : List Nat := encB 8 g ++ (encB 8 k ++ (encB 8 n ++ (encB 8 s ++ List.replicate 28 0)))
theorem numL_length (g k n s : Nat) : (numL g k n s).length = 60 := by simp [numL, encB_length]
theorem numL_lt (g k n s : Nat) : ∀ x ∈ numL g k n s, x < 256 := by
 intro x hx
 simp only [numL, List.mem_append, List.mem_replicate] at hx
 rcases hx with h | h | h | h | h
 ·exact encB_lt _ _ x h
 ·exact encB_lt _ _ x h
 ·exact encB_lt _ _ x h
 ·exact encB_lt _ _ x h
 ·omega
theorem markN_num (g k n s : Nat) : markN g k n s = [87, 76, 79, 71] ++ numL g k n s := by simp [markN, numL]
theorem zsec_num : zsec = secN ([0, 0, 0, 0] ++ numL 0 0 0 0) := by decide +kernel
theorem bytes_sec {w : World} {b : Nat} {t : TypeId} {h4 r : List Nat} (h : Bk w b t (secv (secN (h4 ++ r))).toArray) (h4l : h4.length = 4) (hr : r.length = 60) (hrb : ∀ x ∈ r, x < 256) : Bytes w w.heap.size (some ⟨b, 4, none⟩) 60 r := by
 refine ⟨hr, hrb, fun _ => ⟨b, 4, rfl, h.lt, fun i hi => ?_⟩⟩
 rw [h.cell, secv_bv, List.getElem?_toArray, List.getElem?_map, List.getElem?_append_right (by omega), h4l, show 4 + i - 4 = i by omega, List.getElem?_eq_getElem (by omega)]
 unfold byteAt
 rw [List.getD_eq_getElem?_getD, List.getElem?_eq_getElem (by omega)]
 rfl
theorem eql_secs (W : World) {a b : List Int} (ha : a.length = 64) (hb : b.length = 64) (hab : a = b) : (binOp .eql 84 (.agg (secv a).toArray) (.agg (secv b).toArray)).run Tryz.prog W = .ok (.bool true) W := by
 have hi28 : Tryz.prog.info? 5 = some (Tryz.prog.info? 5).get! := by kernel_rfl
 rw [run_eql_sec W Tryz.underlying84 Tryz.underlying5 hi28 (by kernel_rfl) ha hb]
 simp [hab]
theorem guard_sec (w : World) (x y : Operand) (a b : Array Value) : (eqGuard .eql 84 x y (.agg a) (.agg b)).run Tryz.prog w = .ok () w := by
 have h : Tryz.prog.eqGuardType Tryz.prog.depth 84 = false := by kernel_rfl
 simp [eqGuard, h]
theorem exec_eqs {P : Program} {w : World} {o : Oper} {ρ : Operand → Value} {t yt : TypeId} {x y : Operand} (ho : o.op = .binOp .eql t x y yt) {vx vy v : Value} (hx : ρ x = vx) (hy : ρ y = vy) (hg : (eqGuard .eql t x y vx vy).run P w = .ok () w) (h : (binOp .eql t vx vy).run P w = .ok v w) : (execOp ρ o).run P w = .ok (.value v) w := by
 unfold execOp
 simp [ho, hx, hy, hg, h]
theorem results_ct {P : Program} {fn : Func} {p r : Tmp} {t1 : TypeId} (h : fn.results = #[.cell p t1, .tmp r]) {tmps : Array Value} {w : World} {a1 : Addr} {v1 v3 : Value}
 (h1 : tmps.getD p undef = .pointer (some a1)) (h3 : tmps.getD r undef = v3) (l1 : (loadVar t1 a1).run P w = .ok v1 w) : (results fn tmps).run P w = .ok (.tuple #[v1, v3]) w := by
 have h1' : tmps[p]?.getD undef = .pointer (some a1) := by simpa using h1
 have h3' : tmps[r]?.getD undef = v3 := by simpa using h3
 simp [results, h, h1', h3', asAddr, l1]
theorem load_mark4 {w : World} {b : Nat} {z0 z1 z2 z3 : Int} (h : Bk w b 98 #[.int .i64 z0, .int .i64 z1, .int .i64 z2, .int .i64 z3]) :
 (loadVar 98 ⟨b, 0, none⟩).run Tryz.prog w = .ok (.agg #[.int .i64 z0, .int .i64 z1, .int .i64 z2, .int .i64 z3]) w := by
 obtain ⟨⟨g0, g1, g2, g3⟩, _⟩ := h.four
 simp [go_sem, g0, g1, g2, g3]
set_option maxRecDepth 20000 in
set_option maxHeartbeats 8000000 in
theorem markIn_yes (g k n s : Nat) (w : World) (hg1 : 1 ≤ g) (hg2 : g ≤ 1099511627776) (hn1 : 1 ≤ n) (hn6 : n ≤ 6000) (hs : s < 4294967296) (hk : k ≤ 4611686018427387904) :
 Calls Tryz.prog 88 #[.agg (secv (secN (markN g k n s))).toArray] w fun e w' => e = .returned (.tuple #[markV g k n s, .bool true]) ∧ Below w.heap.size w w' := by
 rw [markN_num]
 obtain ⟨h4, hh4⟩ : ∃ h4, h4 = [87, 76, 79, 71] := ⟨_, rfl⟩
 rw [← hh4]
 have H4 := Lib.hid hh4
 have hl4 : h4.length = 4 := by rw [hh4]; rfl
 clear hh4
 have hgb : g ≤ 4611686018427387904 := by omega
 have hnb : n ≤ 4611686018427387904 := by omega
 have hsb : s ≤ 4611686018427387904 := by omega
 have hl64 : (secN (h4 ++ numL g k n s)).length = 64 := by rw [secN_length, List.length_append, hl4, numL_length]
 have HL64 := Lib.hid hl64
 have HL4 := Lib.hid hl4
 have hrl := numL_length g k n s
 have hrb := numL_lt g k n s
 have B1 : Bk ((w.alloc (.cells (secv (secN (h4 ++ numL g k n s))).toArray 84)).alloc (.cells #[.int .i64 0, .int .i64 0, .int .i64 0, .int .i64 0] 98)) w.heap.size 84 _ := (Bk.new w _ _).alloc _
 have B2 : Bk ((w.alloc (.cells (secv (secN (h4 ++ numL g k n s))).toArray 84)).alloc (.cells #[.int .i64 0, .int .i64 0, .int .i64 0, .int .i64 0] 98)) (w.heap.size + 1) 98 _ := Bk.new2 w _ _ _
 have hb0 : Below w.heap.size w ((w.alloc (.cells (secv (secN (h4 ++ numL g k n s))).toArray 84)).alloc (.cells #[.int .i64 0, .int .i64 0, .int .i64 0, .int .i64 0] 98)) := ((Below.refl _ _).alloc (Nat.le_refl _) _).alloc (by simp) _
 have hBy := bytes_sec B1 hl4 hrl hrb
 have HRL := Lib.hid hrl; have HRB := Lib.hid hrb
 clear hl64 hl4 hrl hrb
 go_enter Tryz.func88, Tryz.ntmps88
 go_wp2_with fail
 generalize (w.alloc (.cells (secv (secN (h4 ++ numL g k n s))).toArray 84)).alloc (.cells #[.int .i64 0, .int .i64 0, .int .i64 0, .int .i64 0] 98) = W at *
 refine (pFrom_any _ 60 60 _ (numL g k n s) W hBy).mono ?_
 rintro e W0 ⟨rfl, hr0, hbf⟩
 have HB1 := Lib.hid (B1.below hbf B1.lt)
 have HB2 := Lib.hid (B2.below hbf B2.lt)
 have HB0 := Lib.hid (hb0.trans (hbf.mono hb0.size))
 have hrb0 : w.heap.size + 1 < W.heap.size := B2.lt
 have HR0 : Hid (RdP W0 W.heap.size (encB 8 g ++ (encB 8 k ++ (encB 8 n ++ (encB 8 s ++ List.replicate 28 0)))) 0) := Lib.hid hr0
 have HG0 := Lib.hid (World.grownBy.refl W0 (some W.heap.size))
 clear B1 B2 hb0 hBy hr0 hbf
 generalize W.heap.size = rb at *
 have hlb : ∀ x ∈ encB 8 g ++ (encB 8 k ++ (encB 8 n ++ (encB 8 s ++ List.replicate 28 0))), x < 256 := HRB.out
 have HLB := Lib.hid hlb
 clear hlb
 go_wp2_with fail
 refine (pNum_any rb 0 (encB 8 g ++ (encB 8 k ++ (encB 8 n ++ (encB 8 s ++ List.replicate 28 0)))) W0 HR0.out (by simp [encB_length]) HLB.out).mono ?_
 rw [(num8 hgb _).1, (num8 hgb _).2, rest8]
 rintro e W1 ⟨rfl, hr, hgr⟩
 have HR1 := Lib.hid hr
 have HG1 := Lib.hid (grownBy_trans HG0.out hgr)
 clear hr hgr HR0 HG0
 go_wp2_with fail
 refine (pNum_any rb 0 (encB 8 k ++ (encB 8 n ++ (encB 8 s ++ List.replicate 28 0))) W1 HR1.out (by simp [encB_length]) (fun x hx => HLB.out x (List.mem_append_right _ hx))).mono ?_
 rw [(num8 hk _).1, (num8 hk _).2, rest8]
 rintro e W2 ⟨rfl, hr, hgr⟩
 have HR2 := Lib.hid hr
 have HG2 := Lib.hid (grownBy_trans HG1.out hgr)
 clear hr hgr HR1 HG1
 go_wp2_with fail
 refine (pNum_any rb 0 (encB 8 n ++ (encB 8 s ++ List.replicate 28 0)) W2 HR2.out (by simp [encB_length]) (fun x hx => HLB.out x (List.mem_append_right _ (List.mem_append_right _ hx)))).mono ?_
 rw [(num8 hnb _).1, (num8 hnb _).2, rest8]
 rintro e W3 ⟨rfl, hr, hgr⟩
 have HR3 := Lib.hid hr
 have HG3 := Lib.hid (grownBy_trans HG2.out hgr)
 clear hr hgr HR2 HG2
 go_wp2_with fail
 refine (pNum_any rb 0 (encB 8 s ++ List.replicate 28 0) W3 HR3.out (by simp [encB_length]) (fun x hx => HLB.out x (List.mem_append_right _ (List.mem_append_right _ (List.mem_append_right _ hx))))).mono ?_
 rw [(num8 hsb _).1, (num8 hsb _).2, rest8]
 rintro e W4 ⟨rfl, hr, hgr⟩
 have HR4 := Lib.hid hr
 have HG4 := Lib.hid (grownBy_trans HG3.out hgr)
 clear hr hgr HR3 HG3
 have hB1 := HB1.out.grown HG4.out (fun e => by injection e with e; omega)
 have hB2 := HB2.out.grown HG4.out (fun e => by injection e with e; omega)
 have hB0 := HB0.out.trans (Below.of_grown HG4.out (by omega) HB0.out.size)
 clear HB1 HB2 HB0 HG4 HR4 HLB
 go_wp2_with fail
 have hm : Tryz.prog.follows .mixedOrders = true := by kernel_rfl
 have c1 : Bk (W4.alloc (.cells #[.int .i64 (g : Int), .int .i64 (k : Int), .int .i64 (n : Int), .int .i64 (s : Int)] 98)).drew w.heap.size 84 (secv (secN (h4 ++ numL g k n s))).toArray := (hB1.alloc _).drew
 have c2 : Bk (W4.alloc (.cells #[.int .i64 (g : Int), .int .i64 (k : Int), .int .i64 (n : Int), .int .i64 (s : Int)] 98)).drew (w.heap.size + 1) 98 #[.int .i64 0, .int .i64 0, .int .i64 0, .int .i64 0] := (hB2.alloc _).drew
 have c5 : Bk (W4.alloc (.cells #[.int .i64 (g : Int), .int .i64 (k : Int), .int .i64 (n : Int), .int .i64 (s : Int)] 98)).drew W4.heap.size 98 #[.int .i64 (g : Int), .int .i64 (k : Int), .int .i64 (n : Int), .int .i64 (s : Int)] := (Bk.new W4 _ _).drew
 have c0 : Below w.heap.size w (W4.alloc (.cells #[.int .i64 (g : Int), .int .i64 (k : Int), .int .i64 (n : Int), .int .i64 (s : Int)] 98)).drew := (hB0.alloc hB0.size _).drew
 have hn5 : W4.heap.size ≠ w.heap.size + 1 := by have := hB2.lt; omega
 refine wp_region_held_drew (S := fun W' => Bk W' w.heap.size 84 (secv (secN (h4 ++ numL g k n s))).toArray ∧ Bk W' W4.heap.size 98 #[.int .i64 (g : Int), .int .i64 (k : Int), .int .i64 (n : Int), .int .i64 (s : Int)] ∧ Below w.heap.size w W') hm ⟨c1, c5, c0⟩ (fun hHeld => ?_)
 generalize (W4.alloc (.cells #[.int .i64 (g : Int), .int .i64 (k : Int), .int .i64 (n : Int), .int .i64 (s : Int)] 98)).drew = W5 at *
 have HC2 := Lib.hid c2
 clear c1 c2 c5 c0 hB1 hB2 hB0
 generalize W4.heap.size = b5 at *
 simp only [List.size_toArray, List.length_cons, List.length_nil, Nat.reduceAdd]
 refine wpAnyH_take (i := 0) (v := .agg #[.int .i64 (g : Int), .int .i64 (k : Int), .int .i64 (n : Int), .int .i64 (s : Int)]) rfl (by kernel_rfl) (by kernel_rfl) (by kernel_rfl) (fun _ _ _ h => h) (Or.inl ⟨by rfl, fun w0 hC => by have := hC.2.1.four.1; simp [execOp, Act.eval, Act.put, go_sem, this.1, this.2.1, this.2.2.1, this.2.2.2]⟩) hHeld ?_
 try simp only [Act.put, jA, jB, jC, jD, jE, jF]
 refine wpAnyH_take (i := 1) (v := .pointer (some ⟨b5, 0, none⟩)) rfl (by kernel_rfl) (by kernel_rfl) (by kernel_rfl) (fun _ _ _ h => h) (Or.inl ⟨by rfl, fun w0 hC => by simp [execOp, Act.eval, Act.put, go_sem]⟩) hHeld ?_
 try simp only [Act.put, jA, jB, jC, jD, jE, jF]
 refine wpAnyH_take (i := 2) (v := .int .i64 (g : Int)) rfl (by kernel_rfl) (by kernel_rfl) (by kernel_rfl) (fun _ _ _ h => h) (Or.inl ⟨by rfl, fun w0 hC => by have := hC.2.1.four.1; simp [execOp, Act.eval, Act.put, go_sem, this.1, this.2.1, this.2.2.1, this.2.2.2]⟩) hHeld ?_
 try simp only [Act.put, jA, jB, jC, jD, jE, jF]
 refine wpAnyH_ready (rs := [3]) (by kernel_rfl) (by simp) (AllReadyH.cons rfl (fun K hK => ?_) AllReadyH.nil)
 rw [if_pos (by rfl)]
 go_wp2_with fail
 refine (genMay_any (g : Int) W5).mono ?_
 rw [show (decide (1 ≤ (g : Int)) && decide ((g : Int) ≤ 1099511627776)) = true from by simp; omega]
 rintro e W6 ⟨rfl, rfl⟩
 refine hK.out _ _ hHeld (fun hHeld => ?_)
 clear hK K
 try simp only [Act.put, jA, jB, jC, jD, jE, jF]
 refine wpAnyH_take (i := 4) (v := .bool true) rfl (by kernel_rfl) (by kernel_rfl) (by kernel_rfl) (fun _ _ _ h => h) (Or.inl ⟨by rfl, fun w0 hC => by simp [execOp, Act.eval, Act.put, go_sem]⟩) hHeld ?_
 try simp only [Act.put, jA, jB, jC, jD, jE, jF]
 refine wpAnyH_take (i := 5) (v := .pointer (some ⟨b5, 2, none⟩)) rfl (by kernel_rfl) (by kernel_rfl) (by kernel_rfl) (fun _ _ _ h => h) (Or.inl ⟨by rfl, fun w0 hC => by simp [execOp, Act.eval, Act.put, go_sem]⟩) hHeld ?_
 try simp only [Act.put, jA, jB, jC, jD, jE, jF]
 refine wpAnyH_take (i := 6) (v := .int .i64 (n : Int)) rfl (by kernel_rfl) (by kernel_rfl) (by kernel_rfl) (fun _ _ _ h => h) (Or.inl ⟨by rfl, fun w0 hC => by have := hC.2.1.four.1; simp [execOp, Act.eval, Act.put, go_sem, this.1, this.2.1, this.2.2.1, this.2.2.2]⟩) hHeld ?_
 try simp only [Act.put, jA, jB, jC, jD, jE, jF]
 refine wpAnyH_ready (rs := [7]) (by kernel_rfl) (by simp) (AllReadyH.cons rfl (fun K hK => ?_) AllReadyH.nil)
 rw [if_pos (by rfl)]
 go_wp2_with fail
 refine (takes_int n W5 (by omega)).mono ?_
 rintro e W6 ⟨rfl, rfl⟩
 refine hK.out _ _ hHeld (fun hHeld => ?_)
 clear hK K
 try simp only [Act.put, jA, jB, jC, jD, jE, jF]
 have htp : 0 < takesN n := takesN_pos.2 ⟨hn1, hn6⟩
 refine wpAnyH_take (i := 8) (v := .bool true) rfl (by kernel_rfl) (by kernel_rfl) (by kernel_rfl) (fun _ _ _ h => h) (Or.inl ⟨by rfl, fun w0 hC => by simp [execOp, Act.eval, Act.put, go_sem]; omega⟩) hHeld ?_
 try simp only [Act.put, jA, jB, jC, jD, jE, jF]
 refine wpAnyH_take (i := 9) (v := .bool true) rfl (by kernel_rfl) (by kernel_rfl) (by kernel_rfl) (fun _ _ _ h => h) (Or.inl ⟨by rfl, fun w0 hC => by simp [execOp, Act.eval, Act.put, go_sem]⟩) hHeld ?_
 try simp only [Act.put, jA, jB, jC, jD, jE, jF]
 refine wpAnyH_take (i := 10) (v := .bool true) rfl (by kernel_rfl) (by kernel_rfl) (by kernel_rfl) (fun _ _ _ h => h) (Or.inl ⟨by rfl, fun w0 hC => by simp [execOp, Act.eval, Act.put, go_sem]⟩) hHeld ?_
 try simp only [Act.put, jA, jB, jC, jD, jE, jF]
 refine wpAnyH_take (i := 11) (v := .pointer (some ⟨b5, 3, none⟩)) rfl (by kernel_rfl) (by kernel_rfl) (by kernel_rfl) (fun _ _ _ h => h) (Or.inl ⟨by rfl, fun w0 hC => by simp [execOp, Act.eval, Act.put, go_sem]⟩) hHeld ?_
 try simp only [Act.put, jA, jB, jC, jD, jE, jF]
 refine wpAnyH_take (i := 12) (v := .int .i64 (s : Int)) rfl (by kernel_rfl) (by kernel_rfl) (by kernel_rfl) (fun _ _ _ h => h) (Or.inl ⟨by rfl, fun w0 hC => by have := hC.2.1.four.1; simp [execOp, Act.eval, Act.put, go_sem, this.1, this.2.1, this.2.2.1, this.2.2.2]⟩) hHeld ?_
 try simp only [Act.put, jA, jB, jC, jD, jE, jF]
 refine wpAnyH_take (i := 13) (v := .bool true) rfl (by kernel_rfl) (by kernel_rfl) (by kernel_rfl) (fun _ _ _ h => h) (Or.inl ⟨by rfl, fun w0 hC => by simp [execOp, Act.eval, Act.put, go_sem]; omega⟩) hHeld ?_
 try simp only [Act.put, jA, jB, jC, jD, jE, jF]
 refine wpAnyH_take (i := 14) (v := .bool true) rfl (by kernel_rfl) (by kernel_rfl) (by kernel_rfl) (fun _ _ _ h => h) (Or.inl ⟨by rfl, fun w0 hC => by simp [execOp, Act.eval, Act.put, go_sem]⟩) hHeld ?_
 try simp only [Act.put, jA, jB, jC, jD, jE, jF]
 refine wpAnyH_take (i := 15) (v := .bool true) rfl (by kernel_rfl) (by kernel_rfl) (by kernel_rfl) (fun _ _ _ h => h) (Or.inl ⟨by rfl, fun w0 hC => by simp [execOp, Act.eval, Act.put, go_sem]⟩) hHeld ?_
 try simp only [Act.put, jA, jB, jC, jD, jE, jF]
 refine wpAnyH_take (i := 16) (v := .agg (secv (secN (h4 ++ numL g k n s))).toArray) rfl (by kernel_rfl) (by kernel_rfl) (by kernel_rfl) (fun _ _ _ h => h) (Or.inl ⟨by rfl, fun w0 hC => exec_loadw rfl rfl hC.1.rng Tryz.underlying84 rfl (size_secA HL64.out)⟩) hHeld ?_
 try simp only [Act.put, jA, jB, jC, jD, jE, jF]
 refine wpAnyH_take (i := 17) (v := .agg #[.int .i64 (g : Int), .int .i64 (k : Int), .int .i64 (n : Int), .int .i64 (s : Int)]) rfl (by kernel_rfl) (by kernel_rfl) (by kernel_rfl) (fun _ _ _ h => h) (Or.inl ⟨by rfl, fun w0 hC => by have := hC.2.1.four.1; simp [execOp, Act.eval, Act.put, go_sem, this.1, this.2.1, this.2.2.1, this.2.2.2]⟩) hHeld ?_
 try simp only [Act.put, jA, jB, jC, jD, jE, jF]
 refine wpAnyH_ready (rs := [18]) (by kernel_rfl) (by simp) (AllReadyH.cons rfl (fun K hK => ?_) AllReadyH.nil)
 rw [if_pos (by rfl)]
 go_wp2_with fail
 refine (sector_any g k n s W5 hgb hk hnb hsb).mono ?_
 rintro e W6 ⟨rfl, hb6⟩
 have hS : _ ∧ _ ∧ _ := And.intro (hHeld.1.below hb6 hHeld.1.lt) (And.intro (hHeld.2.1.below hb6 hHeld.2.1.lt) (hHeld.2.2.trans (hb6.mono hHeld.2.2.size)))
 replace HC2 := Lib.hid (HC2.out.below hb6 HC2.out.lt)
 clear hb6
 refine hK.out _ _ hS (fun hHeld => ?_)
 clear hK K
 try simp only [Act.put, jA, jB, jC, jD, jE, jF]
 clear hS
 have HEQ : Hid (secN (h4 ++ numL g k n s) = secN (markN g k n s)) := Lib.hid (by rw [markN_num, H4.out])
 refine wpAnyH_take (i := 19) (v := .bool true) rfl (by kernel_rfl) (by kernel_rfl) (by kernel_rfl) (fun _ _ _ h => h) (Or.inl ⟨by rfl, fun w0 hC => exec_eqs rfl rfl rfl (guard_sec _ _ _ _ _) (eql_secs _ HL64.out (by rw [← HEQ.out]; exact HL64.out) HEQ.out)⟩) hHeld ?_
 try simp only [Act.put, jA, jB, jC, jD, jE, jF]
 refine wpAnyH_take (i := 20) (v := .bool true) rfl (by kernel_rfl) (by kernel_rfl) (by kernel_rfl) (fun _ _ _ h => h) (Or.inl ⟨by rfl, fun w0 hC => by simp [execOp, Act.eval, Act.put, go_sem]⟩) hHeld ?_
 try simp only [Act.put, jA, jB, jC, jD, jE, jF]
 obtain ⟨⟨v0, v1, v2, v3⟩, x0, x1, x2, x3⟩ := HC2.out.four
 have hst := stored4_facts HC2.out (.int .i64 (g : Int)) (.int .i64 (k : Int)) (.int .i64 (n : Int)) (.int .i64 (s : Int))
 have hS : Hid ((Bk (stored4 W6 (w.heap.size + 1) (.int .i64 (g : Int)) (.int .i64 (k : Int)) (.int .i64 (n : Int)) (.int .i64 (s : Int))) w.heap.size 84 (secv (secN (h4 ++ numL g k n s))).toArray ∧ Bk (stored4 W6 (w.heap.size + 1) (.int .i64 (g : Int)) (.int .i64 (k : Int)) (.int .i64 (n : Int)) (.int .i64 (s : Int))) b5 98 #[.int .i64 (g : Int), .int .i64 (k : Int), .int .i64 (n : Int), .int .i64 (s : Int)] ∧ Below w.heap.size w (stored4 W6 (w.heap.size + 1) (.int .i64 (g : Int)) (.int .i64 (k : Int)) (.int .i64 (n : Int)) (.int .i64 (s : Int)))) ∧ Bk (stored4 W6 (w.heap.size + 1) (.int .i64 (g : Int)) (.int .i64 (k : Int)) (.int .i64 (n : Int)) (.int .i64 (s : Int))) (w.heap.size + 1) 98 #[.int .i64 (g : Int), .int .i64 (k : Int), .int .i64 (n : Int), .int .i64 (s : Int)]) :=
  Lib.hid ⟨⟨hst.2.2.2 _ _ _ (by omega) hHeld.1, hst.2.2.2 _ _ _ hn5 hHeld.2.1, hst.2.2.1 _ _ hHeld.2.2 (by omega)⟩, hst.1⟩
 unfold stored4 at hS
 clear hst HC2
 refine wpAnyH_ready (rs := [21]) (by kernel_rfl) (by simp) (AllReadyH.cons rfl (fun K hK => ?_) AllReadyH.nil)
 rw [if_pos (by rfl)]
 go_wp2_with fail
 refine hK.out _ _ hS.out.1 (fun hHeld => ?_)
 clear hK K
 try simp only [Act.put, jA, jB, jC, jD, jE, jF]
 clear v0 v1 v2 v3 x0 x1 x2 x3
 have HR := Lib.hid (And.intro hHeld.2.2 hS.out.2)
 refine wpAnyH_ready (rs := [22]) (by kernel_rfl) (by simp) (AllReadyH.cons rfl (fun K hK => ?_) AllReadyH.nil)
 rw [if_pos (by rfl)]
 go_wp2_with fail
 refine hK.out _ _ hHeld (fun hHeld => ?_)
 clear hK K
 try simp only [Act.put, jA, jB, jC, jD, jE, jF]
 refine wpAnyH_done (by kernel_rfl) ?_ _
 clear hHeld hS
 refine post_over (fun W' => Below w.heap.size w W' ∧ Bk W' (w.heap.size + 1) 98 #[.int .i64 (g : Int), .int .i64 (k : Int), .int .i64 (n : Int), .int .i64 (s : Int)]) HR.out ?_
 intro W' HW
 have HW' := Lib.hid HW
 clear HW HR
 go_wp2
 refine bodyPost_ret (v := .tuple #[.agg #[.int .i64 (g : Int), .int .i64 (k : Int), .int .i64 (n : Int), .int .i64 (s : Int)], .bool true]) ?_ rfl ⟨rfl, HW'.out.1⟩
 exact results_ct (fn := Tryz.f88) (a1 := ⟨w.heap.size + 1, 0, none⟩) rfl rfl rfl (load_mark4 HW'.out.2)
set_option maxRecDepth 20000 in
set_option maxHeartbeats 8000000 in
theorem markIn_zero (w : World) :
 Calls Tryz.prog 88 #[.agg (secv zsec).toArray] w fun e w' => e = .returned (.tuple #[markV 0 0 0 0, .bool false]) ∧ Below w.heap.size w w' := by
 rw [zsec_num]
 obtain ⟨h4, hh4⟩ : ∃ h4 : List Nat, h4 = [0, 0, 0, 0] := ⟨_, rfl⟩
 rw [← hh4]
 have hl4 : h4.length = 4 := by rw [hh4]; rfl
 clear hh4
 obtain ⟨g, hg⟩ : ∃ g : Nat, g = 0 := ⟨_, rfl⟩
 obtain ⟨k, hk0⟩ : ∃ k : Nat, k = 0 := ⟨_, rfl⟩
 obtain ⟨n, hn0⟩ : ∃ n : Nat, n = 0 := ⟨_, rfl⟩
 obtain ⟨s, hs0⟩ : ∃ s : Nat, s = 0 := ⟨_, rfl⟩
 have hgb : g ≤ 4611686018427387904 := by omega
 have hk : k ≤ 4611686018427387904 := by omega
 have hnb : n ≤ 4611686018427387904 := by omega
 have hsb : s ≤ 4611686018427387904 := by omega
 have hnum : numL 0 0 0 0 = numL g k n s := by rw [hg, hk0, hn0, hs0]
 have hmk : markV 0 0 0 0 = markV g k n s := by rw [hg, hk0, hn0, hs0]
 rw [hnum, hmk]
 have hg1 : ¬ 1 ≤ g := by omega
 clear hg hk0 hn0 hs0 hnum hmk
 have hl64 : (secN (h4 ++ numL g k n s)).length = 64 := by rw [secN_length, List.length_append, hl4, numL_length]
 have HL64 := Lib.hid hl64
 have HL4 := Lib.hid hl4
 have hrl := numL_length g k n s
 have hrb := numL_lt g k n s
 have B1 : Bk ((w.alloc (.cells (secv (secN (h4 ++ numL g k n s))).toArray 84)).alloc (.cells #[.int .i64 0, .int .i64 0, .int .i64 0, .int .i64 0] 98)) w.heap.size 84 _ := (Bk.new w _ _).alloc _
 have B2 : Bk ((w.alloc (.cells (secv (secN (h4 ++ numL g k n s))).toArray 84)).alloc (.cells #[.int .i64 0, .int .i64 0, .int .i64 0, .int .i64 0] 98)) (w.heap.size + 1) 98 _ := Bk.new2 w _ _ _
 have hb0 : Below w.heap.size w ((w.alloc (.cells (secv (secN (h4 ++ numL g k n s))).toArray 84)).alloc (.cells #[.int .i64 0, .int .i64 0, .int .i64 0, .int .i64 0] 98)) := ((Below.refl _ _).alloc (Nat.le_refl _) _).alloc (by simp) _
 have hBy := bytes_sec B1 hl4 hrl hrb
 have HRL := Lib.hid hrl; have HRB := Lib.hid hrb
 clear hl64 hl4 hrl hrb
 go_enter Tryz.func88, Tryz.ntmps88
 go_wp2_with fail
 generalize (w.alloc (.cells (secv (secN (h4 ++ numL g k n s))).toArray 84)).alloc (.cells #[.int .i64 0, .int .i64 0, .int .i64 0, .int .i64 0] 98) = W at *
 refine (pFrom_any _ 60 60 _ (numL g k n s) W hBy).mono ?_
 rintro e W0 ⟨rfl, hr0, hbf⟩
 have HB1 := Lib.hid (B1.below hbf B1.lt)
 have HB2 := Lib.hid (B2.below hbf B2.lt)
 have HB0 := Lib.hid (hb0.trans (hbf.mono hb0.size))
 have hrb0 : w.heap.size + 1 < W.heap.size := B2.lt
 have HR0 : Hid (RdP W0 W.heap.size (encB 8 g ++ (encB 8 k ++ (encB 8 n ++ (encB 8 s ++ List.replicate 28 0)))) 0) := Lib.hid hr0
 have HG0 := Lib.hid (World.grownBy.refl W0 (some W.heap.size))
 clear B1 B2 hb0 hBy hr0 hbf
 generalize W.heap.size = rb at *
 have hlb : ∀ x ∈ encB 8 g ++ (encB 8 k ++ (encB 8 n ++ (encB 8 s ++ List.replicate 28 0))), x < 256 := HRB.out
 have HLB := Lib.hid hlb
 clear hlb
 go_wp2_with fail
 refine (pNum_any rb 0 (encB 8 g ++ (encB 8 k ++ (encB 8 n ++ (encB 8 s ++ List.replicate 28 0)))) W0 HR0.out (by simp [encB_length]) HLB.out).mono ?_
 rw [(num8 hgb _).1, (num8 hgb _).2, rest8]
 rintro e W1 ⟨rfl, hr, hgr⟩
 have HR1 := Lib.hid hr
 have HG1 := Lib.hid (grownBy_trans HG0.out hgr)
 clear hr hgr HR0 HG0
 go_wp2_with fail
 refine (pNum_any rb 0 (encB 8 k ++ (encB 8 n ++ (encB 8 s ++ List.replicate 28 0))) W1 HR1.out (by simp [encB_length]) (fun x hx => HLB.out x (List.mem_append_right _ hx))).mono ?_
 rw [(num8 hk _).1, (num8 hk _).2, rest8]
 rintro e W2 ⟨rfl, hr, hgr⟩
 have HR2 := Lib.hid hr
 have HG2 := Lib.hid (grownBy_trans HG1.out hgr)
 clear hr hgr HR1 HG1
 go_wp2_with fail
 refine (pNum_any rb 0 (encB 8 n ++ (encB 8 s ++ List.replicate 28 0)) W2 HR2.out (by simp [encB_length]) (fun x hx => HLB.out x (List.mem_append_right _ (List.mem_append_right _ hx)))).mono ?_
 rw [(num8 hnb _).1, (num8 hnb _).2, rest8]
 rintro e W3 ⟨rfl, hr, hgr⟩
 have HR3 := Lib.hid hr
 have HG3 := Lib.hid (grownBy_trans HG2.out hgr)
 clear hr hgr HR2 HG2
 go_wp2_with fail
 refine (pNum_any rb 0 (encB 8 s ++ List.replicate 28 0) W3 HR3.out (by simp [encB_length]) (fun x hx => HLB.out x (List.mem_append_right _ (List.mem_append_right _ (List.mem_append_right _ hx))))).mono ?_
 rw [(num8 hsb _).1, (num8 hsb _).2, rest8]
 rintro e W4 ⟨rfl, hr, hgr⟩
 have HR4 := Lib.hid hr
 have HG4 := Lib.hid (grownBy_trans HG3.out hgr)
 clear hr hgr HR3 HG3
 have hB1 := HB1.out.grown HG4.out (fun e => by injection e with e; omega)
 have hB2 := HB2.out.grown HG4.out (fun e => by injection e with e; omega)
 have hB0 := HB0.out.trans (Below.of_grown HG4.out (by omega) HB0.out.size)
 clear HB1 HB2 HB0 HG4 HR4 HLB
 go_wp2_with fail
 have hm : Tryz.prog.follows .mixedOrders = true := by kernel_rfl
 have c1 : Bk (W4.alloc (.cells #[.int .i64 (g : Int), .int .i64 (k : Int), .int .i64 (n : Int), .int .i64 (s : Int)] 98)).drew w.heap.size 84 (secv (secN (h4 ++ numL g k n s))).toArray := (hB1.alloc _).drew
 have c2 : Bk (W4.alloc (.cells #[.int .i64 (g : Int), .int .i64 (k : Int), .int .i64 (n : Int), .int .i64 (s : Int)] 98)).drew (w.heap.size + 1) 98 #[.int .i64 0, .int .i64 0, .int .i64 0, .int .i64 0] := (hB2.alloc _).drew
 have c5 : Bk (W4.alloc (.cells #[.int .i64 (g : Int), .int .i64 (k : Int), .int .i64 (n : Int), .int .i64 (s : Int)] 98)).drew W4.heap.size 98 #[.int .i64 (g : Int), .int .i64 (k : Int), .int .i64 (n : Int), .int .i64 (s : Int)] := (Bk.new W4 _ _).drew
 have c0 : Below w.heap.size w (W4.alloc (.cells #[.int .i64 (g : Int), .int .i64 (k : Int), .int .i64 (n : Int), .int .i64 (s : Int)] 98)).drew := (hB0.alloc hB0.size _).drew
 have hn5 : W4.heap.size ≠ w.heap.size + 1 := by have := hB2.lt; omega
 refine wp_region_held_drew (S := fun W' => Bk W' w.heap.size 84 (secv (secN (h4 ++ numL g k n s))).toArray ∧ Bk W' W4.heap.size 98 #[.int .i64 (g : Int), .int .i64 (k : Int), .int .i64 (n : Int), .int .i64 (s : Int)] ∧ Below w.heap.size w W') hm ⟨c1, c5, c0⟩ (fun hHeld => ?_)
 generalize (W4.alloc (.cells #[.int .i64 (g : Int), .int .i64 (k : Int), .int .i64 (n : Int), .int .i64 (s : Int)] 98)).drew = W5 at *
 have HC2 := Lib.hid c2
 clear c1 c2 c5 c0 hB1 hB2 hB0
 generalize W4.heap.size = b5 at *
 simp only [List.size_toArray, List.length_cons, List.length_nil, Nat.reduceAdd]
 refine wpAnyH_take (i := 0) (v := .agg #[.int .i64 (g : Int), .int .i64 (k : Int), .int .i64 (n : Int), .int .i64 (s : Int)]) rfl (by kernel_rfl) (by kernel_rfl) (by kernel_rfl) (fun _ _ _ h => h) (Or.inl ⟨by rfl, fun w0 hC => by have := hC.2.1.four.1; simp [execOp, Act.eval, Act.put, go_sem, this.1, this.2.1, this.2.2.1, this.2.2.2]⟩) hHeld ?_
 try simp only [Act.put, jA, jB, jC, jD, jE, jF]
 refine wpAnyH_take (i := 1) (v := .pointer (some ⟨b5, 0, none⟩)) rfl (by kernel_rfl) (by kernel_rfl) (by kernel_rfl) (fun _ _ _ h => h) (Or.inl ⟨by rfl, fun w0 hC => by simp [execOp, Act.eval, Act.put, go_sem]⟩) hHeld ?_
 try simp only [Act.put, jA, jB, jC, jD, jE, jF]
 refine wpAnyH_take (i := 2) (v := .int .i64 (g : Int)) rfl (by kernel_rfl) (by kernel_rfl) (by kernel_rfl) (fun _ _ _ h => h) (Or.inl ⟨by rfl, fun w0 hC => by have := hC.2.1.four.1; simp [execOp, Act.eval, Act.put, go_sem, this.1, this.2.1, this.2.2.1, this.2.2.2]⟩) hHeld ?_
 try simp only [Act.put, jA, jB, jC, jD, jE, jF]
 refine wpAnyH_ready (rs := [3]) (by kernel_rfl) (by simp) (AllReadyH.cons rfl (fun K hK => ?_) AllReadyH.nil)
 rw [if_pos (by rfl)]
 go_wp2_with fail
 refine (genMay_any (g : Int) W5).mono ?_
 rw [show (decide (1 ≤ (g : Int)) && decide ((g : Int) ≤ 1099511627776)) = false from by simp; omega]
 rintro e W6 ⟨rfl, rfl⟩
 refine hK.out _ _ hHeld (fun hHeld => ?_)
 clear hK K
 try simp only [Act.put, jA, jB, jC, jD, jE, jF]
 refine wpAnyH_take (i := 4) (v := .bool false) rfl (by kernel_rfl) (by kernel_rfl) (by kernel_rfl) (fun _ _ _ h => h) (Or.inl ⟨by rfl, fun w0 hC => by simp [execOp, Act.eval, Act.put, go_sem]⟩) hHeld ?_
 try simp only [Act.put, jA, jB, jC, jD, jE, jF]
 refine wpAnyH_take (i := 5) (v := undef) rfl (by kernel_rfl) (by kernel_rfl) (by kernel_rfl) (fun _ _ _ h => h) (Or.inr ⟨by rfl, rfl⟩) hHeld ?_
 try simp only [Act.put, jA, jB, jC, jD, jE, jF]
 refine wpAnyH_take (i := 6) (v := undef) rfl (by kernel_rfl) (by kernel_rfl) (by kernel_rfl) (fun _ _ _ h => h) (Or.inr ⟨by rfl, rfl⟩) hHeld ?_
 try simp only [Act.put, jA, jB, jC, jD, jE, jF]
 refine wpAnyH_take (i := 7) (v := undef) rfl (by kernel_rfl) (by kernel_rfl) (by kernel_rfl) (fun _ _ _ h => h) (Or.inr ⟨by rfl, rfl⟩) hHeld ?_
 try simp only [Act.put, jA, jB, jC, jD, jE, jF]
 refine wpAnyH_take (i := 8) (v := undef) rfl (by kernel_rfl) (by kernel_rfl) (by kernel_rfl) (fun _ _ _ h => h) (Or.inr ⟨by rfl, rfl⟩) hHeld ?_
 try simp only [Act.put, jA, jB, jC, jD, jE, jF]
 refine wpAnyH_take (i := 9) (v := .bool false) rfl (by kernel_rfl) (by kernel_rfl) (by kernel_rfl) (fun _ _ _ h => h) (Or.inl ⟨by rfl, fun w0 hC => by simp [execOp, Act.eval, Act.put, go_sem]⟩) hHeld ?_
 try simp only [Act.put, jA, jB, jC, jD, jE, jF]
 refine wpAnyH_take (i := 10) (v := .bool false) rfl (by kernel_rfl) (by kernel_rfl) (by kernel_rfl) (fun _ _ _ h => h) (Or.inl ⟨by rfl, fun w0 hC => by simp [execOp, Act.eval, Act.put, go_sem]⟩) hHeld ?_
 try simp only [Act.put, jA, jB, jC, jD, jE, jF]
 refine wpAnyH_take (i := 11) (v := undef) rfl (by kernel_rfl) (by kernel_rfl) (by kernel_rfl) (fun _ _ _ h => h) (Or.inr ⟨by rfl, rfl⟩) hHeld ?_
 try simp only [Act.put, jA, jB, jC, jD, jE, jF]
 refine wpAnyH_take (i := 12) (v := undef) rfl (by kernel_rfl) (by kernel_rfl) (by kernel_rfl) (fun _ _ _ h => h) (Or.inr ⟨by rfl, rfl⟩) hHeld ?_
 try simp only [Act.put, jA, jB, jC, jD, jE, jF]
 refine wpAnyH_take (i := 13) (v := undef) rfl (by kernel_rfl) (by kernel_rfl) (by kernel_rfl) (fun _ _ _ h => h) (Or.inr ⟨by rfl, rfl⟩) hHeld ?_
 try simp only [Act.put, jA, jB, jC, jD, jE, jF]
 refine wpAnyH_take (i := 14) (v := .bool false) rfl (by kernel_rfl) (by kernel_rfl) (by kernel_rfl) (fun _ _ _ h => h) (Or.inl ⟨by rfl, fun w0 hC => by simp [execOp, Act.eval, Act.put, go_sem]⟩) hHeld ?_
 try simp only [Act.put, jA, jB, jC, jD, jE, jF]
 refine wpAnyH_take (i := 15) (v := .bool false) rfl (by kernel_rfl) (by kernel_rfl) (by kernel_rfl) (fun _ _ _ h => h) (Or.inl ⟨by rfl, fun w0 hC => by simp [execOp, Act.eval, Act.put, go_sem]⟩) hHeld ?_
 try simp only [Act.put, jA, jB, jC, jD, jE, jF]
 refine wpAnyH_take (i := 16) (v := undef) rfl (by kernel_rfl) (by kernel_rfl) (by kernel_rfl) (fun _ _ _ h => h) (Or.inr ⟨by rfl, rfl⟩) hHeld ?_
 try simp only [Act.put, jA, jB, jC, jD, jE, jF]
 refine wpAnyH_take (i := 17) (v := undef) rfl (by kernel_rfl) (by kernel_rfl) (by kernel_rfl) (fun _ _ _ h => h) (Or.inr ⟨by rfl, rfl⟩) hHeld ?_
 try simp only [Act.put, jA, jB, jC, jD, jE, jF]
 refine wpAnyH_take (i := 18) (v := undef) rfl (by kernel_rfl) (by kernel_rfl) (by kernel_rfl) (fun _ _ _ h => h) (Or.inr ⟨by rfl, rfl⟩) hHeld ?_
 try simp only [Act.put, jA, jB, jC, jD, jE, jF]
 refine wpAnyH_take (i := 19) (v := undef) rfl (by kernel_rfl) (by kernel_rfl) (by kernel_rfl) (fun _ _ _ h => h) (Or.inr ⟨by rfl, rfl⟩) hHeld ?_
 try simp only [Act.put, jA, jB, jC, jD, jE, jF]
 refine wpAnyH_take (i := 20) (v := .bool false) rfl (by kernel_rfl) (by kernel_rfl) (by kernel_rfl) (fun _ _ _ h => h) (Or.inl ⟨by rfl, fun w0 hC => by simp [execOp, Act.eval, Act.put, go_sem]⟩) hHeld ?_
 try simp only [Act.put, jA, jB, jC, jD, jE, jF]
 obtain ⟨⟨v0, v1, v2, v3⟩, x0, x1, x2, x3⟩ := HC2.out.four
 have hst := stored4_facts HC2.out (.int .i64 (g : Int)) (.int .i64 (k : Int)) (.int .i64 (n : Int)) (.int .i64 (s : Int))
 have hS : Hid ((Bk (stored4 W5 (w.heap.size + 1) (.int .i64 (g : Int)) (.int .i64 (k : Int)) (.int .i64 (n : Int)) (.int .i64 (s : Int))) w.heap.size 84 (secv (secN (h4 ++ numL g k n s))).toArray ∧ Bk (stored4 W5 (w.heap.size + 1) (.int .i64 (g : Int)) (.int .i64 (k : Int)) (.int .i64 (n : Int)) (.int .i64 (s : Int))) b5 98 #[.int .i64 (g : Int), .int .i64 (k : Int), .int .i64 (n : Int), .int .i64 (s : Int)] ∧ Below w.heap.size w (stored4 W5 (w.heap.size + 1) (.int .i64 (g : Int)) (.int .i64 (k : Int)) (.int .i64 (n : Int)) (.int .i64 (s : Int)))) ∧ Bk (stored4 W5 (w.heap.size + 1) (.int .i64 (g : Int)) (.int .i64 (k : Int)) (.int .i64 (n : Int)) (.int .i64 (s : Int))) (w.heap.size + 1) 98 #[.int .i64 (g : Int), .int .i64 (k : Int), .int .i64 (n : Int), .int .i64 (s : Int)]) :=
  Lib.hid ⟨⟨hst.2.2.2 _ _ _ (by omega) hHeld.1, hst.2.2.2 _ _ _ hn5 hHeld.2.1, hst.2.2.1 _ _ hHeld.2.2 (by omega)⟩, hst.1⟩
 unfold stored4 at hS
 clear hst HC2
 refine wpAnyH_ready (rs := [21]) (by kernel_rfl) (by simp) (AllReadyH.cons rfl (fun K hK => ?_) AllReadyH.nil)
 rw [if_pos (by rfl)]
 go_wp2_with fail
 refine hK.out _ _ hS.out.1 (fun hHeld => ?_)
 clear hK K
 try simp only [Act.put, jA, jB, jC, jD, jE, jF]
 clear v0 v1 v2 v3 x0 x1 x2 x3
 have HR := Lib.hid (And.intro hHeld.2.2 hS.out.2)
 refine wpAnyH_ready (rs := [22]) (by kernel_rfl) (by simp) (AllReadyH.cons rfl (fun K hK => ?_) AllReadyH.nil)
 rw [if_pos (by rfl)]
 go_wp2_with fail
 refine hK.out _ _ hHeld (fun hHeld => ?_)
 clear hK K
 try simp only [Act.put, jA, jB, jC, jD, jE, jF]
 refine wpAnyH_done (by kernel_rfl) ?_ _
 clear hHeld hS
 refine post_over (fun W' => Below w.heap.size w W' ∧ Bk W' (w.heap.size + 1) 98 #[.int .i64 (g : Int), .int .i64 (k : Int), .int .i64 (n : Int), .int .i64 (s : Int)]) HR.out ?_
 intro W' HW
 have HW' := Lib.hid HW
 clear HW HR
 go_wp2
 refine bodyPost_ret (v := .tuple #[.agg #[.int .i64 (g : Int), .int .i64 (k : Int), .int .i64 (n : Int), .int .i64 (s : Int)], .bool false]) ?_ rfl ⟨rfl, HW'.out.1⟩
 exact results_ct (fn := Tryz.f88) (a1 := ⟨w.heap.size + 1, 0, none⟩) rfl rfl rfl (load_mark4 HW'.out.2)
end Go.Proofs.YtcdehejgnnnimaaGreatDoor
namespace Go.Proofs.YtcdehejgnnnimaaGreatDoor
open List renaming setIfInBounds_toArray → jA, set_cons_zero → jB, set_cons_succ → jC, getElem_toArray → jD, getElem_cons_zero → jE, getElem_cons_succ → jF
set_option linter.unusedVariables false
set_option linter.unusedSimpArgs false
open Go.RowKit
set_option maxRecDepth 20000 in
set_option maxHeartbeats 4000000 in
theorem markAt_end (v : Value) (d : Dk) (o size a : Nat) (w : World) (hd : DkAt w w.heap.size v d) (hr : rightB d = true) (hdn : d.down = false) (ha : size ≤ a) :
 Calls Tryz.prog 72 #[v, halfV o size, .int .i64 (a : Int)] w fun e w' => e = .returned (.tuple #[markV 0 0 0 0, .bool false]) ∧ Below w.heap.size w w' := by
 have hai : (size : Int) ≤ (a : Int) := by omega
 obtain ⟨A, n0, c, A', n', c', rfl, hx⟩ := hd
 have HD := Lib.hid (show DkAt w w.heap.size (.agg #[.slice A n0 c, .slice A' n' c', .int .i64 d.fuse, .bool d.down]) d from ⟨A, n0, c, A', n', c', rfl, hx⟩)
 have HR := Lib.hid hr; have HDN := Lib.hid hdn
 have hsl : d.secs.length ≤ 4096 := (rightB_of.1 hr).1
 clear hx hr hdn
 have b3 : Bk (((w.alloc (.cells #[.slice A n0 c, .slice A' n' c', .int .i64 d.fuse, .bool d.down] 27)).alloc (.cells #[.int .i64 (o : Int), .int .i64 (size : Int)] 79)).alloc (.cells #[.int .i64 0, .int .i64 0, .int .i64 0, .int .i64 0] 98)) w.heap.size 27 _ := ((Bk.new w _ _).alloc _).alloc _
 have b4 : Bk (((w.alloc (.cells #[.slice A n0 c, .slice A' n' c', .int .i64 d.fuse, .bool d.down] 27)).alloc (.cells #[.int .i64 (o : Int), .int .i64 (size : Int)] 79)).alloc (.cells #[.int .i64 0, .int .i64 0, .int .i64 0, .int .i64 0] 98)) (w.heap.size + 1) 79 _ := (Bk.new2 w _ _ _).alloc _
 have b6 : Bk (((w.alloc (.cells #[.slice A n0 c, .slice A' n' c', .int .i64 d.fuse, .bool d.down] 27)).alloc (.cells #[.int .i64 (o : Int), .int .i64 (size : Int)] 79)).alloc (.cells #[.int .i64 0, .int .i64 0, .int .i64 0, .int .i64 0] 98)) (w.heap.size + 1 + 1) 98 _ := Bk.new3 w _ _ _ _
 have b0 : Below w.heap.size w (((w.alloc (.cells #[.slice A n0 c, .slice A' n' c', .int .i64 d.fuse, .bool d.down] 27)).alloc (.cells #[.int .i64 (o : Int), .int .i64 (size : Int)] 79)).alloc (.cells #[.int .i64 0, .int .i64 0, .int .i64 0, .int .i64 0] 98)) := (((Below.refl _ _).alloc (Nat.le_refl _) _).alloc (by simp) _).alloc (by simp only [World.size_alloc]; omega) _
 unfold halfV
 go_enter Tryz.func72, Tryz.ntmps72
 have HB6 := Lib.hid b6; have HB0 := Lib.hid b0
 obtain ⟨y0, y1⟩ := b4.two
 clear b3 b4 b6 b0
 go_wp2
 refine bodyPost_ret (v := .tuple #[.agg #[.int .i64 0, .int .i64 0, .int .i64 0, .int .i64 0], .bool false]) ?_ rfl ⟨rfl, HB0.out⟩
 exact results_ct (fn := Tryz.f72) (a1 := ⟨w.heap.size + 1 + 1, 0, none⟩) rfl rfl rfl (load_mark4 HB6.out)
set_option maxRecDepth 20000 in
set_option maxHeartbeats 4000000 in
theorem markAt_yes (v : Value) (d : Dk) (o size a : Nat) (w : World) (hd : DkAt w w.heap.size v d) (hr : rightB d = true) (hdn : d.down = false) (ha : a < size) (hin : o + a < d.secs.length) (g k n s : Nat) (hg1 : 1 ≤ g) (hg2 : g ≤ 1099511627776) (hn1 : 1 ≤ n) (hn6 : n ≤ 6000) (hs : s < 4294967296) (hk : k ≤ 4611686018427387904) (hfit : a + takesN n ≤ size) (hsee : seen d (o + a) = secN (markN g k n s)) :
 Calls Tryz.prog 72 #[v, halfV o size, .int .i64 (a : Int)] w fun e w' => e = .returned (.tuple #[markV g k n s, .bool true]) ∧ Below w.heap.size w w' := by
 have hai : ¬ (size : Int) ≤ (a : Int) := by omega
 have HSEE := Lib.hid hsee
 clear hsee
 obtain ⟨A, n0, c, A', n', c', rfl, hx⟩ := hd
 have HD := Lib.hid (show DkAt w w.heap.size (.agg #[.slice A n0 c, .slice A' n' c', .int .i64 d.fuse, .bool d.down]) d from ⟨A, n0, c, A', n', c', rfl, hx⟩)
 have HR := Lib.hid hr; have HDN := Lib.hid hdn
 have hsl : d.secs.length ≤ 4096 := (rightB_of.1 hr).1
 clear hx hr hdn
 have b3 : Bk (((w.alloc (.cells #[.slice A n0 c, .slice A' n' c', .int .i64 d.fuse, .bool d.down] 27)).alloc (.cells #[.int .i64 (o : Int), .int .i64 (size : Int)] 79)).alloc (.cells #[.int .i64 0, .int .i64 0, .int .i64 0, .int .i64 0] 98)) w.heap.size 27 _ := ((Bk.new w _ _).alloc _).alloc _
 have b4 : Bk (((w.alloc (.cells #[.slice A n0 c, .slice A' n' c', .int .i64 d.fuse, .bool d.down] 27)).alloc (.cells #[.int .i64 (o : Int), .int .i64 (size : Int)] 79)).alloc (.cells #[.int .i64 0, .int .i64 0, .int .i64 0, .int .i64 0] 98)) (w.heap.size + 1) 79 _ := (Bk.new2 w _ _ _).alloc _
 have b6 : Bk (((w.alloc (.cells #[.slice A n0 c, .slice A' n' c', .int .i64 d.fuse, .bool d.down] 27)).alloc (.cells #[.int .i64 (o : Int), .int .i64 (size : Int)] 79)).alloc (.cells #[.int .i64 0, .int .i64 0, .int .i64 0, .int .i64 0] 98)) (w.heap.size + 1 + 1) 98 _ := Bk.new3 w _ _ _ _
 have b0 : Below w.heap.size w (((w.alloc (.cells #[.slice A n0 c, .slice A' n' c', .int .i64 d.fuse, .bool d.down] 27)).alloc (.cells #[.int .i64 (o : Int), .int .i64 (size : Int)] 79)).alloc (.cells #[.int .i64 0, .int .i64 0, .int .i64 0, .int .i64 0] 98)) := (((Below.refl _ _).alloc (Nat.le_refl _) _).alloc (by simp) _).alloc (by simp only [World.size_alloc]; omega) _
 unfold halfV
 go_enter Tryz.func72, Tryz.ntmps72
 have HB3 := Lib.hid b3; have HB4 := Lib.hid b4; have HB6 := Lib.hid b6; have HB0 := Lib.hid b0
 obtain ⟨y0, y1⟩ := b4.two
 obtain ⟨⟨p0, p1, p2, p3⟩, _⟩ := b3.four
 have ho4 : o + a ≤ 4096 := by omega
 clear b3 b4 b6 b0
 go_wp2_with fail
 generalize ((w.alloc (.cells #[.slice A n0 c, .slice A' n' c', .int .i64 d.fuse, .bool d.down] 27)).alloc (.cells #[.int .i64 (o : Int), .int .i64 (size : Int)] 79)).alloc (.cells #[.int .i64 0, .int .i64 0, .int .i64 0, .int .i64 0] 98) = W at *
 have hrd := wread_any _ d (o + a) W (HD.out.later HB0.out) HR.out HDN.out hin
 rw [HSEE.out, Int.natCast_add] at hrd
 refine hrd.mono ?_
 clear hrd
 rintro e W1 ⟨rfl, hb1⟩
 replace HB3 := Lib.hid (HB3.out.below hb1 HB3.out.lt); replace HB4 := Lib.hid (HB4.out.below hb1 HB4.out.lt); replace HB6 := Lib.hid (HB6.out.below hb1 HB6.out.lt); replace HB0 := Lib.hid (HB0.out.trans (hb1.mono HB0.out.size))
 clear hb1 y0 y1 p0 p1 p2 p3
 go_wp2_with fail
 refine (markIn_yes g k n s W1 hg1 hg2 hn1 hn6 hs hk).mono ?_

 unfold markV
 rintro e W2 ⟨rfl, hb2⟩
 replace HB3 := Lib.hid (HB3.out.below hb2 HB3.out.lt); replace HB4 := Lib.hid (HB4.out.below hb2 HB4.out.lt); replace HB6 := Lib.hid (HB6.out.below hb2 HB6.out.lt); replace HB0 := Lib.hid (HB0.out.trans (hb2.mono HB0.out.size))
 clear hb2
 go_wp2_with fail
 have hm : Tryz.prog.follows .mixedOrders = true := by kernel_rfl
 have hne6 : w.heap.size + 1 + 1 ≠ W2.heap.size := by have := HB6.out.lt; omega
 have hge8 : w.heap.size ≤ W2.heap.size := HB0.out.size
 have c8 : Bk (W2.alloc (.cells #[.int .i64 (g : Int), .int .i64 (k : Int), .int .i64 (n : Int), .int .i64 (s : Int)] 98)).drew W2.heap.size 98 #[.int .i64 (g : Int), .int .i64 (k : Int), .int .i64 (n : Int), .int .i64 (s : Int)] := (Bk.new W2 _ _).drew
 have c4 : Bk (W2.alloc (.cells #[.int .i64 (g : Int), .int .i64 (k : Int), .int .i64 (n : Int), .int .i64 (s : Int)] 98)).drew (w.heap.size + 1) 79 #[.int .i64 (o : Int), .int .i64 (size : Int)] := (HB4.out.alloc _).drew
 have c6 : Bk (W2.alloc (.cells #[.int .i64 (g : Int), .int .i64 (k : Int), .int .i64 (n : Int), .int .i64 (s : Int)] 98)).drew (w.heap.size + 1 + 1) 98 #[.int .i64 0, .int .i64 0, .int .i64 0, .int .i64 0] := (HB6.out.alloc _).drew
 have c0 : Below w.heap.size w (W2.alloc (.cells #[.int .i64 (g : Int), .int .i64 (k : Int), .int .i64 (n : Int), .int .i64 (s : Int)] 98)).drew := (HB0.out.alloc HB0.out.size _).drew
 refine wp_region_held_drew (S := fun W' => Bk W' W2.heap.size 98 #[.int .i64 (g : Int), .int .i64 (k : Int), .int .i64 (n : Int), .int .i64 (s : Int)] ∧ Bk W' (w.heap.size + 1) 79 #[.int .i64 (o : Int), .int .i64 (size : Int)] ∧ Below w.heap.size w W') hm ⟨c8, c4, c0⟩ (fun hHeld => ?_)
 generalize (W2.alloc (.cells #[.int .i64 (g : Int), .int .i64 (k : Int), .int .i64 (n : Int), .int .i64 (s : Int)] 98)).drew = W5 at *
 have HC6 := Lib.hid c6
 clear c8 c4 c6 c0 HB3 HB4 HB6 HB0
 generalize W2.heap.size = b8 at *
 simp only [List.size_toArray, List.length_cons, List.length_nil, Nat.reduceAdd]
 refine wpAnyH_take (i := 0) (v := .agg #[.int .i64 (g : Int), .int .i64 (k : Int), .int .i64 (n : Int), .int .i64 (s : Int)]) rfl (by kernel_rfl) (by kernel_rfl) (by kernel_rfl) (fun _ _ _ h => h) (Or.inl ⟨by rfl, fun w0 hC => by have := hC.1.four.1; simp [execOp, Act.eval, Act.put, go_sem, this.1, this.2.1, this.2.2.1, this.2.2.2]⟩) hHeld ?_
 try simp only [Act.put, jA, jB, jC, jD, jE, jF]
 refine wpAnyH_take (i := 1) (v := .bool true) rfl (by kernel_rfl) (by kernel_rfl) (by kernel_rfl) (fun _ _ _ h => h) (Or.inl ⟨by rfl, fun w0 hC => by simp [execOp, Act.eval, Act.put, go_sem]⟩) hHeld ?_
 try simp only [Act.put, jA, jB, jC, jD, jE, jF]
 refine wpAnyH_take (i := 2) (v := .bool true) rfl (by kernel_rfl) (by kernel_rfl) (by kernel_rfl) (fun _ _ _ h => h) (Or.inl ⟨by rfl, fun w0 hC => by simp [execOp, Act.eval, Act.put, go_sem]⟩) hHeld ?_
 try simp only [Act.put, jA, jB, jC, jD, jE, jF]
 refine wpAnyH_take (i := 3) (v := .int .i64 (a : Int)) rfl (by kernel_rfl) (by kernel_rfl) (by kernel_rfl) (fun _ _ _ h => h) (Or.inl ⟨by rfl, fun w0 hC => by simp [execOp, Act.eval, Act.put, go_sem]⟩) hHeld ?_
 try simp only [Act.put, jA, jB, jC, jD, jE, jF]
 refine wpAnyH_take (i := 4) (v := .pointer (some ⟨b8, 2, none⟩)) rfl (by kernel_rfl) (by kernel_rfl) (by kernel_rfl) (fun _ _ _ h => h) (Or.inl ⟨by rfl, fun w0 hC => by simp [execOp, Act.eval, Act.put, go_sem]⟩) hHeld ?_
 try simp only [Act.put, jA, jB, jC, jD, jE, jF]
 refine wpAnyH_take (i := 5) (v := .int .i64 (n : Int)) rfl (by kernel_rfl) (by kernel_rfl) (by kernel_rfl) (fun _ _ _ h => h) (Or.inl ⟨by rfl, fun w0 hC => by have := hC.1.four.1; simp [execOp, Act.eval, Act.put, go_sem, this.1, this.2.1, this.2.2.1, this.2.2.2]⟩) hHeld ?_
 try simp only [Act.put, jA, jB, jC, jD, jE, jF]
 refine wpAnyH_take (i := 8) (v := .pointer (some ⟨w.heap.size + 1, 1, none⟩)) rfl (by kernel_rfl) (by kernel_rfl) (by kernel_rfl) (fun _ _ _ h => h) (Or.inl ⟨by rfl, fun w0 hC => by simp [execOp, Act.eval, Act.put, go_sem]⟩) hHeld ?_
 try simp only [Act.put, jA, jB, jC, jD, jE, jF]
 refine wpAnyH_take (i := 9) (v := .int .i64 (size : Int)) rfl (by kernel_rfl) (by kernel_rfl) (by kernel_rfl) (fun _ _ _ h => h) (Or.inl ⟨by rfl, fun w0 hC => by have := hC.2.1.two; simp [execOp, Act.eval, Act.put, go_sem, this.2]⟩) hHeld ?_
 try simp only [Act.put, jA, jB, jC, jD, jE, jF]
 refine wpAnyH_ready (rs := [6]) (by kernel_rfl) (by simp) (AllReadyH.cons rfl (fun K hK => ?_) AllReadyH.nil)
 rw [if_pos (by rfl)]
 go_wp2_with fail
 refine (takes_int n W5 (by omega)).mono ?_
 rintro e W6 ⟨rfl, rfl⟩
 have hsz9 := takesN_le n
 refine hK.out _ _ hHeld (fun hHeld => ?_)
 clear hK K
 try simp only [Act.put, jA, jB, jC, jD, jE, jF]
 have hadd : IntKind.i64.wrap ((a : Int) + ((takesN n : Nat) : Int)) = (a : Int) + ((takesN n : Nat) : Int) := IntWalk.i64_in _ (by omega)
 refine wpAnyH_take (i := 7) (v := .int .i64 ((a : Int) + ((takesN n : Nat) : Int))) rfl (by kernel_rfl) (by kernel_rfl) (by kernel_rfl) (fun _ _ _ h => h) (Or.inl ⟨by rfl, fun w0 hC => by rw [← hadd]; simp [execOp, Act.eval, Act.put, go_sem, hadd]⟩) hHeld ?_
 try simp only [Act.put, jA, jB, jC, jD, jE, jF]
 refine wpAnyH_take (i := 10) (v := .bool true) rfl (by kernel_rfl) (by kernel_rfl) (by kernel_rfl) (fun _ _ _ h => h) (Or.inl ⟨by rfl, fun w0 hC => by simp [execOp, Act.eval, Act.put, go_sem]; omega⟩) hHeld ?_
 try simp only [Act.put, jA, jB, jC, jD, jE, jF]
 refine wpAnyH_take (i := 11) (v := .bool true) rfl (by kernel_rfl) (by kernel_rfl) (by kernel_rfl) (fun _ _ _ h => h) (Or.inl ⟨by rfl, fun w0 hC => by simp [execOp, Act.eval, Act.put, go_sem]⟩) hHeld ?_
 try simp only [Act.put, jA, jB, jC, jD, jE, jF]
 obtain ⟨⟨v0, v1, v2, v3⟩, x0, x1, x2, x3⟩ := HC6.out.four
 have hst := stored4_facts HC6.out (.int .i64 (g : Int)) (.int .i64 (k : Int)) (.int .i64 (n : Int)) (.int .i64 (s : Int))
 have hS : Hid ((Bk (stored4 W5 (w.heap.size + 1 + 1) (.int .i64 (g : Int)) (.int .i64 (k : Int)) (.int .i64 (n : Int)) (.int .i64 (s : Int))) b8 98 #[.int .i64 (g : Int), .int .i64 (k : Int), .int .i64 (n : Int), .int .i64 (s : Int)] ∧ Bk (stored4 W5 (w.heap.size + 1 + 1) (.int .i64 (g : Int)) (.int .i64 (k : Int)) (.int .i64 (n : Int)) (.int .i64 (s : Int))) (w.heap.size + 1) 79 #[.int .i64 (o : Int), .int .i64 (size : Int)] ∧ Below w.heap.size w (stored4 W5 (w.heap.size + 1 + 1) (.int .i64 (g : Int)) (.int .i64 (k : Int)) (.int .i64 (n : Int)) (.int .i64 (s : Int)))) ∧ Bk (stored4 W5 (w.heap.size + 1 + 1) (.int .i64 (g : Int)) (.int .i64 (k : Int)) (.int .i64 (n : Int)) (.int .i64 (s : Int))) (w.heap.size + 1 + 1) 98 #[.int .i64 (g : Int), .int .i64 (k : Int), .int .i64 (n : Int), .int .i64 (s : Int)]) :=
  Lib.hid ⟨⟨hst.2.2.2 _ _ _ hne6.symm hHeld.1, hst.2.2.2 _ _ _ (by omega) hHeld.2.1, hst.2.2.1 _ _ hHeld.2.2 (by omega)⟩, hst.1⟩
 unfold stored4 at hS
 clear hst HC6
 refine wpAnyH_ready (rs := [12]) (by kernel_rfl) (by simp) (AllReadyH.cons rfl (fun K hK => ?_) AllReadyH.nil)
 rw [if_pos (by rfl)]
 go_wp2_with fail
 refine hK.out _ _ hS.out.1 (fun hHeld => ?_)
 clear hK K
 try simp only [Act.put, jA, jB, jC, jD, jE, jF]
 clear v0 v1 v2 v3 x0 x1 x2 x3
 have HRR := Lib.hid (And.intro hHeld.2.2 hS.out.2)
 refine wpAnyH_ready (rs := [13]) (by kernel_rfl) (by simp) (AllReadyH.cons rfl (fun K hK => ?_) AllReadyH.nil)
 rw [if_pos (by rfl)]
 go_wp2_with fail
 refine hK.out _ _ hHeld (fun hHeld => ?_)
 clear hK K
 try simp only [Act.put, jA, jB, jC, jD, jE, jF]
 refine wpAnyH_done (by kernel_rfl) ?_ _
 clear hHeld hS
 refine post_over (fun W' => Below w.heap.size w W' ∧ Bk W' (w.heap.size + 1 + 1) 98 #[.int .i64 (g : Int), .int .i64 (k : Int), .int .i64 (n : Int), .int .i64 (s : Int)]) HRR.out ?_
 intro W' HW
 have HW' := Lib.hid HW
 clear HW HRR
 go_wp2
 refine bodyPost_ret (v := .tuple #[.agg #[.int .i64 (g : Int), .int .i64 (k : Int), .int .i64 (n : Int), .int .i64 (s : Int)], .bool true]) ?_ rfl ⟨rfl, HW'.out.1⟩
 exact results_ct (fn := Tryz.f72) (a1 := ⟨w.heap.size + 1 + 1, 0, none⟩) rfl rfl rfl (load_mark4 HW'.out.2)
set_option maxRecDepth 20000 in
set_option maxHeartbeats 4000000 in
theorem markAt_zero (v : Value) (d : Dk) (o size a : Nat) (w : World) (hd : DkAt w w.heap.size v d) (hr : rightB d = true) (hdn : d.down = false) (ha : a < size) (hin : o + a < d.secs.length) (hsee : seen d (o + a) = zsec) :
 Calls Tryz.prog 72 #[v, halfV o size, .int .i64 (a : Int)] w fun e w' => e = .returned (.tuple #[markV 0 0 0 0, .bool false]) ∧ Below w.heap.size w w' := by
 have hai : ¬ (size : Int) ≤ (a : Int) := by omega
 have HSEE := Lib.hid hsee
 clear hsee
 obtain ⟨g, hg⟩ : ∃ g : Nat, g = 0 := ⟨_, rfl⟩
 obtain ⟨k, hk0⟩ : ∃ k : Nat, k = 0 := ⟨_, rfl⟩
 obtain ⟨n, hn0⟩ : ∃ n : Nat, n = 0 := ⟨_, rfl⟩
 obtain ⟨s, hs0⟩ : ∃ s : Nat, s = 0 := ⟨_, rfl⟩
 have HMK : Hid (markV 0 0 0 0 = markV g k n s) := Lib.hid (by rw [hg, hk0, hn0, hs0])
 rw [HMK.out]
 clear hg hk0 hn0 hs0
 obtain ⟨A, n0, c, A', n', c', rfl, hx⟩ := hd
 have HD := Lib.hid (show DkAt w w.heap.size (.agg #[.slice A n0 c, .slice A' n' c', .int .i64 d.fuse, .bool d.down]) d from ⟨A, n0, c, A', n', c', rfl, hx⟩)
 have HR := Lib.hid hr; have HDN := Lib.hid hdn
 have hsl : d.secs.length ≤ 4096 := (rightB_of.1 hr).1
 clear hx hr hdn
 have b3 : Bk (((w.alloc (.cells #[.slice A n0 c, .slice A' n' c', .int .i64 d.fuse, .bool d.down] 27)).alloc (.cells #[.int .i64 (o : Int), .int .i64 (size : Int)] 79)).alloc (.cells #[.int .i64 0, .int .i64 0, .int .i64 0, .int .i64 0] 98)) w.heap.size 27 _ := ((Bk.new w _ _).alloc _).alloc _
 have b4 : Bk (((w.alloc (.cells #[.slice A n0 c, .slice A' n' c', .int .i64 d.fuse, .bool d.down] 27)).alloc (.cells #[.int .i64 (o : Int), .int .i64 (size : Int)] 79)).alloc (.cells #[.int .i64 0, .int .i64 0, .int .i64 0, .int .i64 0] 98)) (w.heap.size + 1) 79 _ := (Bk.new2 w _ _ _).alloc _
 have b6 : Bk (((w.alloc (.cells #[.slice A n0 c, .slice A' n' c', .int .i64 d.fuse, .bool d.down] 27)).alloc (.cells #[.int .i64 (o : Int), .int .i64 (size : Int)] 79)).alloc (.cells #[.int .i64 0, .int .i64 0, .int .i64 0, .int .i64 0] 98)) (w.heap.size + 1 + 1) 98 _ := Bk.new3 w _ _ _ _
 have b0 : Below w.heap.size w (((w.alloc (.cells #[.slice A n0 c, .slice A' n' c', .int .i64 d.fuse, .bool d.down] 27)).alloc (.cells #[.int .i64 (o : Int), .int .i64 (size : Int)] 79)).alloc (.cells #[.int .i64 0, .int .i64 0, .int .i64 0, .int .i64 0] 98)) := (((Below.refl _ _).alloc (Nat.le_refl _) _).alloc (by simp) _).alloc (by simp only [World.size_alloc]; omega) _
 unfold halfV
 go_enter Tryz.func72, Tryz.ntmps72
 have HB3 := Lib.hid b3; have HB4 := Lib.hid b4; have HB6 := Lib.hid b6; have HB0 := Lib.hid b0
 obtain ⟨y0, y1⟩ := b4.two
 obtain ⟨⟨p0, p1, p2, p3⟩, _⟩ := b3.four
 have ho4 : o + a ≤ 4096 := by omega
 clear b3 b4 b6 b0
 go_wp2_with fail
 generalize ((w.alloc (.cells #[.slice A n0 c, .slice A' n' c', .int .i64 d.fuse, .bool d.down] 27)).alloc (.cells #[.int .i64 (o : Int), .int .i64 (size : Int)] 79)).alloc (.cells #[.int .i64 0, .int .i64 0, .int .i64 0, .int .i64 0] 98) = W at *
 have hrd := wread_any _ d (o + a) W (HD.out.later HB0.out) HR.out HDN.out hin
 rw [HSEE.out, Int.natCast_add] at hrd
 refine hrd.mono ?_
 clear hrd
 rintro e W1 ⟨rfl, hb1⟩
 replace HB3 := Lib.hid (HB3.out.below hb1 HB3.out.lt); replace HB4 := Lib.hid (HB4.out.below hb1 HB4.out.lt); replace HB6 := Lib.hid (HB6.out.below hb1 HB6.out.lt); replace HB0 := Lib.hid (HB0.out.trans (hb1.mono HB0.out.size))
 clear hb1 y0 y1 p0 p1 p2 p3
 go_wp2_with fail
 refine (markIn_zero W1).mono ?_
 rw [HMK.out]
 unfold markV
 rintro e W2 ⟨rfl, hb2⟩
 replace HB3 := Lib.hid (HB3.out.below hb2 HB3.out.lt); replace HB4 := Lib.hid (HB4.out.below hb2 HB4.out.lt); replace HB6 := Lib.hid (HB6.out.below hb2 HB6.out.lt); replace HB0 := Lib.hid (HB0.out.trans (hb2.mono HB0.out.size))
 clear hb2
 go_wp2_with fail
 have hm : Tryz.prog.follows .mixedOrders = true := by kernel_rfl
 have hne6 : w.heap.size + 1 + 1 ≠ W2.heap.size := by have := HB6.out.lt; omega
 have hge8 : w.heap.size ≤ W2.heap.size := HB0.out.size
 have c8 : Bk (W2.alloc (.cells #[.int .i64 (g : Int), .int .i64 (k : Int), .int .i64 (n : Int), .int .i64 (s : Int)] 98)).drew W2.heap.size 98 #[.int .i64 (g : Int), .int .i64 (k : Int), .int .i64 (n : Int), .int .i64 (s : Int)] := (Bk.new W2 _ _).drew
 have c4 : Bk (W2.alloc (.cells #[.int .i64 (g : Int), .int .i64 (k : Int), .int .i64 (n : Int), .int .i64 (s : Int)] 98)).drew (w.heap.size + 1) 79 #[.int .i64 (o : Int), .int .i64 (size : Int)] := (HB4.out.alloc _).drew
 have c6 : Bk (W2.alloc (.cells #[.int .i64 (g : Int), .int .i64 (k : Int), .int .i64 (n : Int), .int .i64 (s : Int)] 98)).drew (w.heap.size + 1 + 1) 98 #[.int .i64 0, .int .i64 0, .int .i64 0, .int .i64 0] := (HB6.out.alloc _).drew
 have c0 : Below w.heap.size w (W2.alloc (.cells #[.int .i64 (g : Int), .int .i64 (k : Int), .int .i64 (n : Int), .int .i64 (s : Int)] 98)).drew := (HB0.out.alloc HB0.out.size _).drew
 refine wp_region_held_drew (S := fun W' => Bk W' W2.heap.size 98 #[.int .i64 (g : Int), .int .i64 (k : Int), .int .i64 (n : Int), .int .i64 (s : Int)] ∧ Bk W' (w.heap.size + 1) 79 #[.int .i64 (o : Int), .int .i64 (size : Int)] ∧ Below w.heap.size w W') hm ⟨c8, c4, c0⟩ (fun hHeld => ?_)
 generalize (W2.alloc (.cells #[.int .i64 (g : Int), .int .i64 (k : Int), .int .i64 (n : Int), .int .i64 (s : Int)] 98)).drew = W5 at *
 have HC6 := Lib.hid c6
 clear c8 c4 c6 c0 HB3 HB4 HB6 HB0
 generalize W2.heap.size = b8 at *
 simp only [List.size_toArray, List.length_cons, List.length_nil, Nat.reduceAdd]
 refine wpAnyH_take (i := 0) (v := .agg #[.int .i64 (g : Int), .int .i64 (k : Int), .int .i64 (n : Int), .int .i64 (s : Int)]) rfl (by kernel_rfl) (by kernel_rfl) (by kernel_rfl) (fun _ _ _ h => h) (Or.inl ⟨by rfl, fun w0 hC => by have := hC.1.four.1; simp [execOp, Act.eval, Act.put, go_sem, this.1, this.2.1, this.2.2.1, this.2.2.2]⟩) hHeld ?_
 try simp only [Act.put, jA, jB, jC, jD, jE, jF]
 refine wpAnyH_take (i := 1) (v := .bool false) rfl (by kernel_rfl) (by kernel_rfl) (by kernel_rfl) (fun _ _ _ h => h) (Or.inl ⟨by rfl, fun w0 hC => by simp [execOp, Act.eval, Act.put, go_sem]⟩) hHeld ?_
 try simp only [Act.put, jA, jB, jC, jD, jE, jF]
 refine wpAnyH_take (i := 2) (v := .bool false) rfl (by kernel_rfl) (by kernel_rfl) (by kernel_rfl) (fun _ _ _ h => h) (Or.inl ⟨by rfl, fun w0 hC => by simp [execOp, Act.eval, Act.put, go_sem]⟩) hHeld ?_
 try simp only [Act.put, jA, jB, jC, jD, jE, jF]
 refine wpAnyH_take (i := 3) (v := undef) rfl (by kernel_rfl) (by kernel_rfl) (by kernel_rfl) (fun _ _ _ h => h) (Or.inr ⟨by rfl, rfl⟩) hHeld ?_
 try simp only [Act.put, jA, jB, jC, jD, jE, jF]
 refine wpAnyH_take (i := 4) (v := undef) rfl (by kernel_rfl) (by kernel_rfl) (by kernel_rfl) (fun _ _ _ h => h) (Or.inr ⟨by rfl, rfl⟩) hHeld ?_
 try simp only [Act.put, jA, jB, jC, jD, jE, jF]
 refine wpAnyH_take (i := 5) (v := undef) rfl (by kernel_rfl) (by kernel_rfl) (by kernel_rfl) (fun _ _ _ h => h) (Or.inr ⟨by rfl, rfl⟩) hHeld ?_
 try simp only [Act.put, jA, jB, jC, jD, jE, jF]
 refine wpAnyH_take (i := 6) (v := undef) rfl (by kernel_rfl) (by kernel_rfl) (by kernel_rfl) (fun _ _ _ h => h) (Or.inr ⟨by rfl, rfl⟩) hHeld ?_
 try simp only [Act.put, jA, jB, jC, jD, jE, jF]
 refine wpAnyH_take (i := 7) (v := undef) rfl (by kernel_rfl) (by kernel_rfl) (by kernel_rfl) (fun _ _ _ h => h) (Or.inr ⟨by rfl, rfl⟩) hHeld ?_
 try simp only [Act.put, jA, jB, jC, jD, jE, jF]
 refine wpAnyH_take (i := 8) (v := undef) rfl (by kernel_rfl) (by kernel_rfl) (by kernel_rfl) (fun _ _ _ h => h) (Or.inr ⟨by rfl, rfl⟩) hHeld ?_
 try simp only [Act.put, jA, jB, jC, jD, jE, jF]
 refine wpAnyH_take (i := 9) (v := undef) rfl (by kernel_rfl) (by kernel_rfl) (by kernel_rfl) (fun _ _ _ h => h) (Or.inr ⟨by rfl, rfl⟩) hHeld ?_
 try simp only [Act.put, jA, jB, jC, jD, jE, jF]
 refine wpAnyH_take (i := 10) (v := undef) rfl (by kernel_rfl) (by kernel_rfl) (by kernel_rfl) (fun _ _ _ h => h) (Or.inr ⟨by rfl, rfl⟩) hHeld ?_
 try simp only [Act.put, jA, jB, jC, jD, jE, jF]
 refine wpAnyH_take (i := 11) (v := .bool false) rfl (by kernel_rfl) (by kernel_rfl) (by kernel_rfl) (fun _ _ _ h => h) (Or.inl ⟨by rfl, fun w0 hC => by simp [execOp, Act.eval, Act.put, go_sem]⟩) hHeld ?_
 try simp only [Act.put, jA, jB, jC, jD, jE, jF]
 obtain ⟨⟨v0, v1, v2, v3⟩, x0, x1, x2, x3⟩ := HC6.out.four
 have hst := stored4_facts HC6.out (.int .i64 (g : Int)) (.int .i64 (k : Int)) (.int .i64 (n : Int)) (.int .i64 (s : Int))
 have hS : Hid ((Bk (stored4 W5 (w.heap.size + 1 + 1) (.int .i64 (g : Int)) (.int .i64 (k : Int)) (.int .i64 (n : Int)) (.int .i64 (s : Int))) b8 98 #[.int .i64 (g : Int), .int .i64 (k : Int), .int .i64 (n : Int), .int .i64 (s : Int)] ∧ Bk (stored4 W5 (w.heap.size + 1 + 1) (.int .i64 (g : Int)) (.int .i64 (k : Int)) (.int .i64 (n : Int)) (.int .i64 (s : Int))) (w.heap.size + 1) 79 #[.int .i64 (o : Int), .int .i64 (size : Int)] ∧ Below w.heap.size w (stored4 W5 (w.heap.size + 1 + 1) (.int .i64 (g : Int)) (.int .i64 (k : Int)) (.int .i64 (n : Int)) (.int .i64 (s : Int)))) ∧ Bk (stored4 W5 (w.heap.size + 1 + 1) (.int .i64 (g : Int)) (.int .i64 (k : Int)) (.int .i64 (n : Int)) (.int .i64 (s : Int))) (w.heap.size + 1 + 1) 98 #[.int .i64 (g : Int), .int .i64 (k : Int), .int .i64 (n : Int), .int .i64 (s : Int)]) :=
  Lib.hid ⟨⟨hst.2.2.2 _ _ _ hne6.symm hHeld.1, hst.2.2.2 _ _ _ (by omega) hHeld.2.1, hst.2.2.1 _ _ hHeld.2.2 (by omega)⟩, hst.1⟩
 unfold stored4 at hS
 clear hst HC6
 refine wpAnyH_ready (rs := [12]) (by kernel_rfl) (by simp) (AllReadyH.cons rfl (fun K hK => ?_) AllReadyH.nil)
 rw [if_pos (by rfl)]
 go_wp2_with fail
 refine hK.out _ _ hS.out.1 (fun hHeld => ?_)
 clear hK K
 try simp only [Act.put, jA, jB, jC, jD, jE, jF]
 clear v0 v1 v2 v3 x0 x1 x2 x3
 have HRR := Lib.hid (And.intro hHeld.2.2 hS.out.2)
 refine wpAnyH_ready (rs := [13]) (by kernel_rfl) (by simp) (AllReadyH.cons rfl (fun K hK => ?_) AllReadyH.nil)
 rw [if_pos (by rfl)]
 go_wp2_with fail
 refine hK.out _ _ hHeld (fun hHeld => ?_)
 clear hK K
 try simp only [Act.put, jA, jB, jC, jD, jE, jF]
 refine wpAnyH_done (by kernel_rfl) ?_ _
 clear hHeld hS
 refine post_over (fun W' => Below w.heap.size w W' ∧ Bk W' (w.heap.size + 1 + 1) 98 #[.int .i64 (g : Int), .int .i64 (k : Int), .int .i64 (n : Int), .int .i64 (s : Int)]) HRR.out ?_
 intro W' HW
 have HW' := Lib.hid HW
 clear HW HRR
 go_wp2
 refine bodyPost_ret (v := .tuple #[.agg #[.int .i64 (g : Int), .int .i64 (k : Int), .int .i64 (n : Int), .int .i64 (s : Int)], .bool false]) ?_ rfl ⟨rfl, HW'.out.1⟩
 exact results_ct (fn := Tryz.f72) (a1 := ⟨w.heap.size + 1 + 1, 0, none⟩) rfl rfl rfl (load_mark4 HW'.out.2)
end Go.Proofs.YtcdehejgnnnimaaGreatDoor
