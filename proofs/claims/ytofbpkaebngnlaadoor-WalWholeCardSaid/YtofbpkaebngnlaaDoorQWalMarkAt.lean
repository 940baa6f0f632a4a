/-
  Contracts over package wal: the mark of a half's sector.
-/
import Derived.Test.YtofbpkaebngnlaaDoorQWalMarkIn
namespace Go.Proofs.YtofbpkaebngnlaaDoor
set_option linter.unusedVariables false
set_option linter.unusedSimpArgs false
set_option linter.unusedVariables false
set_option linter.unusedSimpArgs false
open Go.RowKit

theorem load_markV {w : World} {b : Nat} {z0 z1 z2 z3 : Int} (h : Bk w b 66 #[.int .i64 z0, .int .i64 z1, .int .i64 z2, .int .i64 z3]) :
    (loadVar 66 ⟨b, 0, none⟩).run Tryd.prog w = .ok (.agg #[.int .i64 z0, .int .i64 z1, .int .i64 z2, .int .i64 z3]) w := load_mark4 h


set_option maxRecDepth 20000 in
set_option maxHeartbeats 4000000 in
theorem markAt_end (v : Value) (d : Dk) (o size a : Nat) (w : World) (hd : DkAt w w.heap.size v d) (hr : rightB d = true) (hdn : d.down = false) (ha : size ≤ a) :
    Calls Tryd.prog 44 #[v, halfV o size, .int .i64 (a : Int)] w fun e w' => e = .returned (.tuple #[markV 0 0 0 0, .bool false]) ∧ Below w.heap.size w w' := by
  have hai : (size : Int) ≤ (a : Int) := by omega
  obtain ⟨A, n0, c, A', n', c', rfl, hx⟩ := hd
  have HD := Lib.hid (show DkAt w w.heap.size (.agg #[.slice A n0 c, .slice A' n' c', .int .i64 d.fuse, .bool d.down]) d from ⟨A, n0, c, A', n', c', rfl, hx⟩)
  have HR := Lib.hid hr; have HDN := Lib.hid hdn
  have hsl : d.secs.length ≤ 4096 := (rightB_of.1 hr).1
  clear hx hr hdn
  have b3 : Bk (((w.alloc (.cells #[.slice A n0 c, .slice A' n' c', .int .i64 d.fuse, .bool d.down] 28)).alloc (.cells #[.int .i64 (o : Int), .int .i64 (size : Int)] 53)).alloc (.cells #[.int .i64 0, .int .i64 0, .int .i64 0, .int .i64 0] 66)) w.heap.size 28 _ := ((Bk.new w _ _).alloc _).alloc _
  have b4 : Bk (((w.alloc (.cells #[.slice A n0 c, .slice A' n' c', .int .i64 d.fuse, .bool d.down] 28)).alloc (.cells #[.int .i64 (o : Int), .int .i64 (size : Int)] 53)).alloc (.cells #[.int .i64 0, .int .i64 0, .int .i64 0, .int .i64 0] 66)) (w.heap.size + 1) 53 _ := (Bk.new2 w _ _ _).alloc _
  have b6 : Bk (((w.alloc (.cells #[.slice A n0 c, .slice A' n' c', .int .i64 d.fuse, .bool d.down] 28)).alloc (.cells #[.int .i64 (o : Int), .int .i64 (size : Int)] 53)).alloc (.cells #[.int .i64 0, .int .i64 0, .int .i64 0, .int .i64 0] 66)) (w.heap.size + 1 + 1) 66 _ := Bk.new3 w _ _ _ _
  have b0 : Below w.heap.size w (((w.alloc (.cells #[.slice A n0 c, .slice A' n' c', .int .i64 d.fuse, .bool d.down] 28)).alloc (.cells #[.int .i64 (o : Int), .int .i64 (size : Int)] 53)).alloc (.cells #[.int .i64 0, .int .i64 0, .int .i64 0, .int .i64 0] 66)) := (((Below.refl _ _).alloc (Nat.le_refl _) _).alloc (by simp) _).alloc (by simp only [World.size_alloc]; omega) _
  unfold halfV
  go_enter Tryd.func44, Tryd.ntmps44
  have HB6 := Lib.hid b6; have HB0 := Lib.hid b0
  obtain ⟨y0, y1⟩ := b4.two
  clear b3 b4 b6 b0
  go_wp2
  refine bodyPost_ret (v := .tuple #[.agg #[.int .i64 0, .int .i64 0, .int .i64 0, .int .i64 0], .bool false]) ?_ rfl ⟨rfl, HB0.out⟩
  exact results_ct (fn := Tryd.f44) (a1 := ⟨w.heap.size + 1 + 1, 0, none⟩) rfl rfl rfl (load_mark4 HB6.out)


set_option maxRecDepth 20000 in
set_option maxHeartbeats 4000000 in
theorem markAt_yes (v : Value) (d : Dk) (o size a : Nat) (w : World) (hd : DkAt w w.heap.size v d) (hr : rightB d = true) (hdn : d.down = false) (ha : a < size) (hin : o + a < d.secs.length) (g k n s : Nat) (hg1 : 1 ≤ g) (hg2 : g ≤ 1099511627776) (hn1 : 1 ≤ n) (hn6 : n ≤ 6000) (hs : s < 4294967296) (hk : k ≤ 4611686018427387904) (hfit : a + takesN n ≤ size) (hsee : seen d (o + a) = secN (markN g k n s)) :
    Calls Tryd.prog 44 #[v, halfV o size, .int .i64 (a : Int)] w fun e w' => e = .returned (.tuple #[markV g k n s, .bool true]) ∧ Below w.heap.size w w' := by
  have hai : ¬ (size : Int) ≤ (a : Int) := by omega
  have HSEE := Lib.hid hsee
  clear hsee
  obtain ⟨A, n0, c, A', n', c', rfl, hx⟩ := hd
  have HD := Lib.hid (show DkAt w w.heap.size (.agg #[.slice A n0 c, .slice A' n' c', .int .i64 d.fuse, .bool d.down]) d from ⟨A, n0, c, A', n', c', rfl, hx⟩)
  have HR := Lib.hid hr; have HDN := Lib.hid hdn
  have hsl : d.secs.length ≤ 4096 := (rightB_of.1 hr).1
  clear hx hr hdn
  have b3 : Bk (((w.alloc (.cells #[.slice A n0 c, .slice A' n' c', .int .i64 d.fuse, .bool d.down] 28)).alloc (.cells #[.int .i64 (o : Int), .int .i64 (size : Int)] 53)).alloc (.cells #[.int .i64 0, .int .i64 0, .int .i64 0, .int .i64 0] 66)) w.heap.size 28 _ := ((Bk.new w _ _).alloc _).alloc _
  have b4 : Bk (((w.alloc (.cells #[.slice A n0 c, .slice A' n' c', .int .i64 d.fuse, .bool d.down] 28)).alloc (.cells #[.int .i64 (o : Int), .int .i64 (size : Int)] 53)).alloc (.cells #[.int .i64 0, .int .i64 0, .int .i64 0, .int .i64 0] 66)) (w.heap.size + 1) 53 _ := (Bk.new2 w _ _ _).alloc _
  have b6 : Bk (((w.alloc (.cells #[.slice A n0 c, .slice A' n' c', .int .i64 d.fuse, .bool d.down] 28)).alloc (.cells #[.int .i64 (o : Int), .int .i64 (size : Int)] 53)).alloc (.cells #[.int .i64 0, .int .i64 0, .int .i64 0, .int .i64 0] 66)) (w.heap.size + 1 + 1) 66 _ := Bk.new3 w _ _ _ _
  have b0 : Below w.heap.size w (((w.alloc (.cells #[.slice A n0 c, .slice A' n' c', .int .i64 d.fuse, .bool d.down] 28)).alloc (.cells #[.int .i64 (o : Int), .int .i64 (size : Int)] 53)).alloc (.cells #[.int .i64 0, .int .i64 0, .int .i64 0, .int .i64 0] 66)) := (((Below.refl _ _).alloc (Nat.le_refl _) _).alloc (by simp) _).alloc (by simp only [World.size_alloc]; omega) _
  unfold halfV
  go_enter Tryd.func44, Tryd.ntmps44
  have HB3 := Lib.hid b3; have HB4 := Lib.hid b4; have HB6 := Lib.hid b6; have HB0 := Lib.hid b0
  obtain ⟨y0, y1⟩ := b4.two
  obtain ⟨⟨p0, p1, p2, p3⟩, _⟩ := b3.four
  have ho4 : o + a ≤ 4096 := by omega
  clear b3 b4 b6 b0
  go_wp2_with fail
  generalize ((w.alloc (.cells #[.slice A n0 c, .slice A' n' c', .int .i64 d.fuse, .bool d.down] 28)).alloc (.cells #[.int .i64 (o : Int), .int .i64 (size : Int)] 53)).alloc (.cells #[.int .i64 0, .int .i64 0, .int .i64 0, .int .i64 0] 66) = W at *
  have hrd := wread_any _ d (o + a) W (HD.out.later HB0.out) HR.out HDN.out hin
  rw [HSEE.out, Int.natCast_add] at hrd
  refine hrd.mono ?_
  clear hrd
  rintro e W1 ⟨rfl, hb1⟩
  replace HB3 := Lib.hid (HB3.out.below hb1 HB3.out.lt); replace HB4 := Lib.hid (HB4.out.below hb1 HB4.out.lt); replace HB6 := Lib.hid (HB6.out.below hb1 HB6.out.lt); replace HB0 := Lib.hid (HB0.out.trans (hb1.mono HB0.out.size))
  clear hb1 y0 y1 p0 p1 p2 p3
  go_wp2_with fail
  refine (markIn_yes g k n s W1 hg1 hg2 hn1 hn6 hs hk).mono ?_
  
  unfold markV
  rintro e W2 ⟨rfl, hb2⟩
  replace HB3 := Lib.hid (HB3.out.below hb2 HB3.out.lt); replace HB4 := Lib.hid (HB4.out.below hb2 HB4.out.lt); replace HB6 := Lib.hid (HB6.out.below hb2 HB6.out.lt); replace HB0 := Lib.hid (HB0.out.trans (hb2.mono HB0.out.size))
  clear hb2
  go_wp2_with fail
  have hm : Tryd.prog.follows .mixedOrders = true := by kernel_rfl
  have hne6 : w.heap.size + 1 + 1 ≠ W2.heap.size := by have := HB6.out.lt; omega
  have hge8 : w.heap.size ≤ W2.heap.size := HB0.out.size
  have c8 : Bk (W2.alloc (.cells #[.int .i64 (g : Int), .int .i64 (k : Int), .int .i64 (n : Int), .int .i64 (s : Int)] 66)).drew W2.heap.size 66 #[.int .i64 (g : Int), .int .i64 (k : Int), .int .i64 (n : Int), .int .i64 (s : Int)] := (Bk.new W2 _ _).drew
  have c4 : Bk (W2.alloc (.cells #[.int .i64 (g : Int), .int .i64 (k : Int), .int .i64 (n : Int), .int .i64 (s : Int)] 66)).drew (w.heap.size + 1) 53 #[.int .i64 (o : Int), .int .i64 (size : Int)] := (HB4.out.alloc _).drew
  have c6 : Bk (W2.alloc (.cells #[.int .i64 (g : Int), .int .i64 (k : Int), .int .i64 (n : Int), .int .i64 (s : Int)] 66)).drew (w.heap.size + 1 + 1) 66 #[.int .i64 0, .int .i64 0, .int .i64 0, .int .i64 0] := (HB6.out.alloc _).drew
  have c0 : Below w.heap.size w (W2.alloc (.cells #[.int .i64 (g : Int), .int .i64 (k : Int), .int .i64 (n : Int), .int .i64 (s : Int)] 66)).drew := (HB0.out.alloc HB0.out.size _).drew
  refine wp_region_held_drew (S := fun W' => Bk W' W2.heap.size 66 #[.int .i64 (g : Int), .int .i64 (k : Int), .int .i64 (n : Int), .int .i64 (s : Int)] ∧ Bk W' (w.heap.size + 1) 53 #[.int .i64 (o : Int), .int .i64 (size : Int)] ∧ Below w.heap.size w W') hm ⟨c8, c4, c0⟩ (fun hHeld => ?_)
  generalize (W2.alloc (.cells #[.int .i64 (g : Int), .int .i64 (k : Int), .int .i64 (n : Int), .int .i64 (s : Int)] 66)).drew = W5 at *
  have HC6 := Lib.hid c6
  clear c8 c4 c6 c0 HB3 HB4 HB6 HB0
  generalize W2.heap.size = b8 at *
  simp only [List.size_toArray, List.length_cons, List.length_nil, Nat.reduceAdd]
  refine wpAnyH_take (i := 0) (v := .agg #[.int .i64 (g : Int), .int .i64 (k : Int), .int .i64 (n : Int), .int .i64 (s : Int)]) rfl (by kernel_rfl) (by kernel_rfl) (by kernel_rfl) (fun _ _ _ h => h) (Or.inl ⟨by rfl, fun w0 hC => by have := hC.1.four.1; simp [execOp, Act.eval, Act.put, go_sem, this.1, this.2.1, this.2.2.1, this.2.2.2]⟩) hHeld ?_
  try simp only [Act.put, List.setIfInBounds_toArray, List.set_cons_zero, List.set_cons_succ, List.getElem_toArray, List.getElem_cons_zero, List.getElem_cons_succ]
  refine wpAnyH_take (i := 1) (v := .bool true) rfl (by kernel_rfl) (by kernel_rfl) (by kernel_rfl) (fun _ _ _ h => h) (Or.inl ⟨by rfl, fun w0 hC => by simp [execOp, Act.eval, Act.put, go_sem]⟩) hHeld ?_
  try simp only [Act.put, List.setIfInBounds_toArray, List.set_cons_zero, List.set_cons_succ, List.getElem_toArray, List.getElem_cons_zero, List.getElem_cons_succ]
  refine wpAnyH_take (i := 2) (v := .bool true) rfl (by kernel_rfl) (by kernel_rfl) (by kernel_rfl) (fun _ _ _ h => h) (Or.inl ⟨by rfl, fun w0 hC => by simp [execOp, Act.eval, Act.put, go_sem]⟩) hHeld ?_
  try simp only [Act.put, List.setIfInBounds_toArray, List.set_cons_zero, List.set_cons_succ, List.getElem_toArray, List.getElem_cons_zero, List.getElem_cons_succ]
  refine wpAnyH_take (i := 3) (v := .int .i64 (a : Int)) rfl (by kernel_rfl) (by kernel_rfl) (by kernel_rfl) (fun _ _ _ h => h) (Or.inl ⟨by rfl, fun w0 hC => by simp [execOp, Act.eval, Act.put, go_sem]⟩) hHeld ?_
  try simp only [Act.put, List.setIfInBounds_toArray, List.set_cons_zero, List.set_cons_succ, List.getElem_toArray, List.getElem_cons_zero, List.getElem_cons_succ]
  refine wpAnyH_take (i := 4) (v := .pointer (some ⟨b8, 2, none⟩)) rfl (by kernel_rfl) (by kernel_rfl) (by kernel_rfl) (fun _ _ _ h => h) (Or.inl ⟨by rfl, fun w0 hC => by simp [execOp, Act.eval, Act.put, go_sem]⟩) hHeld ?_
  try simp only [Act.put, List.setIfInBounds_toArray, List.set_cons_zero, List.set_cons_succ, List.getElem_toArray, List.getElem_cons_zero, List.getElem_cons_succ]
  refine wpAnyH_take (i := 5) (v := .int .i64 (n : Int)) rfl (by kernel_rfl) (by kernel_rfl) (by kernel_rfl) (fun _ _ _ h => h) (Or.inl ⟨by rfl, fun w0 hC => by have := hC.1.four.1; simp [execOp, Act.eval, Act.put, go_sem, this.1, this.2.1, this.2.2.1, this.2.2.2]⟩) hHeld ?_
  try simp only [Act.put, List.setIfInBounds_toArray, List.set_cons_zero, List.set_cons_succ, List.getElem_toArray, List.getElem_cons_zero, List.getElem_cons_succ]
  refine wpAnyH_take (i := 8) (v := .pointer (some ⟨w.heap.size + 1, 1, none⟩)) rfl (by kernel_rfl) (by kernel_rfl) (by kernel_rfl) (fun _ _ _ h => h) (Or.inl ⟨by rfl, fun w0 hC => by simp [execOp, Act.eval, Act.put, go_sem]⟩) hHeld ?_
  try simp only [Act.put, List.setIfInBounds_toArray, List.set_cons_zero, List.set_cons_succ, List.getElem_toArray, List.getElem_cons_zero, List.getElem_cons_succ]
  refine wpAnyH_take (i := 9) (v := .int .i64 (size : Int)) rfl (by kernel_rfl) (by kernel_rfl) (by kernel_rfl) (fun _ _ _ h => h) (Or.inl ⟨by rfl, fun w0 hC => by have := hC.2.1.two; simp [execOp, Act.eval, Act.put, go_sem, this.2]⟩) hHeld ?_
  try simp only [Act.put, List.setIfInBounds_toArray, List.set_cons_zero, List.set_cons_succ, List.getElem_toArray, List.getElem_cons_zero, List.getElem_cons_succ]
  refine wpAnyH_ready (rs := [6]) (by kernel_rfl) (by simp) (AllReadyH.cons rfl (fun K hK => ?_) AllReadyH.nil)
  rw [if_pos (by rfl)]
  go_wp2_with fail
  refine (takes_int n W5 (by omega)).mono ?_
  rintro e W6 ⟨rfl, rfl⟩
  have hsz9 := takesN_le n
  refine hK.out _ _ hHeld (fun hHeld => ?_)
  clear hK K
  try simp only [Act.put, List.setIfInBounds_toArray, List.set_cons_zero, List.set_cons_succ, List.getElem_toArray, List.getElem_cons_zero, List.getElem_cons_succ]
  have hadd : IntKind.i64.wrap ((a : Int) + ((takesN n : Nat) : Int)) = (a : Int) + ((takesN n : Nat) : Int) := IntWalk.i64_in _ (by omega)
  refine wpAnyH_take (i := 7) (v := .int .i64 ((a : Int) + ((takesN n : Nat) : Int))) rfl (by kernel_rfl) (by kernel_rfl) (by kernel_rfl) (fun _ _ _ h => h) (Or.inl ⟨by rfl, fun w0 hC => by rw [← hadd]; simp [execOp, Act.eval, Act.put, go_sem, hadd]⟩) hHeld ?_
  try simp only [Act.put, List.setIfInBounds_toArray, List.set_cons_zero, List.set_cons_succ, List.getElem_toArray, List.getElem_cons_zero, List.getElem_cons_succ]
  refine wpAnyH_take (i := 10) (v := .bool true) rfl (by kernel_rfl) (by kernel_rfl) (by kernel_rfl) (fun _ _ _ h => h) (Or.inl ⟨by rfl, fun w0 hC => by simp [execOp, Act.eval, Act.put, go_sem]; omega⟩) hHeld ?_
  try simp only [Act.put, List.setIfInBounds_toArray, List.set_cons_zero, List.set_cons_succ, List.getElem_toArray, List.getElem_cons_zero, List.getElem_cons_succ]
  refine wpAnyH_take (i := 11) (v := .bool true) rfl (by kernel_rfl) (by kernel_rfl) (by kernel_rfl) (fun _ _ _ h => h) (Or.inl ⟨by rfl, fun w0 hC => by simp [execOp, Act.eval, Act.put, go_sem]⟩) hHeld ?_
  try simp only [Act.put, List.setIfInBounds_toArray, List.set_cons_zero, List.set_cons_succ, List.getElem_toArray, List.getElem_cons_zero, List.getElem_cons_succ]
  obtain ⟨⟨v0, v1, v2, v3⟩, x0, x1, x2, x3⟩ := HC6.out.four
  have hst := stored4_facts HC6.out (.int .i64 (g : Int)) (.int .i64 (k : Int)) (.int .i64 (n : Int)) (.int .i64 (s : Int))
  have hS : Hid ((Bk (stored4 W5 (w.heap.size + 1 + 1) (.int .i64 (g : Int)) (.int .i64 (k : Int)) (.int .i64 (n : Int)) (.int .i64 (s : Int))) b8 66 #[.int .i64 (g : Int), .int .i64 (k : Int), .int .i64 (n : Int), .int .i64 (s : Int)] ∧ Bk (stored4 W5 (w.heap.size + 1 + 1) (.int .i64 (g : Int)) (.int .i64 (k : Int)) (.int .i64 (n : Int)) (.int .i64 (s : Int))) (w.heap.size + 1) 53 #[.int .i64 (o : Int), .int .i64 (size : Int)] ∧ Below w.heap.size w (stored4 W5 (w.heap.size + 1 + 1) (.int .i64 (g : Int)) (.int .i64 (k : Int)) (.int .i64 (n : Int)) (.int .i64 (s : Int)))) ∧ Bk (stored4 W5 (w.heap.size + 1 + 1) (.int .i64 (g : Int)) (.int .i64 (k : Int)) (.int .i64 (n : Int)) (.int .i64 (s : Int))) (w.heap.size + 1 + 1) 66 #[.int .i64 (g : Int), .int .i64 (k : Int), .int .i64 (n : Int), .int .i64 (s : Int)]) :=
    Lib.hid ⟨⟨hst.2.2.2 _ _ _ hne6.symm hHeld.1, hst.2.2.2 _ _ _ (by omega) hHeld.2.1, hst.2.2.1 _ _ hHeld.2.2 (by omega)⟩, hst.1⟩
  unfold stored4 at hS
  clear hst HC6
  refine wpAnyH_ready (rs := [12]) (by kernel_rfl) (by simp) (AllReadyH.cons rfl (fun K hK => ?_) AllReadyH.nil)
  rw [if_pos (by rfl)]
  go_wp2_with fail
  refine hK.out _ _ hS.out.1 (fun hHeld => ?_)
  clear hK K
  try simp only [Act.put, List.setIfInBounds_toArray, List.set_cons_zero, List.set_cons_succ, List.getElem_toArray, List.getElem_cons_zero, List.getElem_cons_succ]
  clear v0 v1 v2 v3 x0 x1 x2 x3
  have HRR := Lib.hid (And.intro hHeld.2.2 hS.out.2)
  refine wpAnyH_ready (rs := [13]) (by kernel_rfl) (by simp) (AllReadyH.cons rfl (fun K hK => ?_) AllReadyH.nil)
  rw [if_pos (by rfl)]
  go_wp2_with fail
  refine hK.out _ _ hHeld (fun hHeld => ?_)
  clear hK K
  try simp only [Act.put, List.setIfInBounds_toArray, List.set_cons_zero, List.set_cons_succ, List.getElem_toArray, List.getElem_cons_zero, List.getElem_cons_succ]
  refine wpAnyH_done (by kernel_rfl) ?_ _
  clear hHeld hS
  refine post_over (fun W' => Below w.heap.size w W' ∧ Bk W' (w.heap.size + 1 + 1) 66 #[.int .i64 (g : Int), .int .i64 (k : Int), .int .i64 (n : Int), .int .i64 (s : Int)]) HRR.out ?_
  intro W' HW
  have HW' := Lib.hid HW
  clear HW HRR
  go_wp2
  refine bodyPost_ret (v := .tuple #[.agg #[.int .i64 (g : Int), .int .i64 (k : Int), .int .i64 (n : Int), .int .i64 (s : Int)], .bool true]) ?_ rfl ⟨rfl, HW'.out.1⟩
  exact results_ct (fn := Tryd.f44) (a1 := ⟨w.heap.size + 1 + 1, 0, none⟩) rfl rfl rfl (load_mark4 HW'.out.2)


set_option maxRecDepth 20000 in
set_option maxHeartbeats 4000000 in
theorem markAt_zero (v : Value) (d : Dk) (o size a : Nat) (w : World) (hd : DkAt w w.heap.size v d) (hr : rightB d = true) (hdn : d.down = false) (ha : a < size) (hin : o + a < d.secs.length) (hsee : seen d (o + a) = zsec) :
    Calls Tryd.prog 44 #[v, halfV o size, .int .i64 (a : Int)] w fun e w' => e = .returned (.tuple #[markV 0 0 0 0, .bool false]) ∧ Below w.heap.size w w' := by
  have hai : ¬ (size : Int) ≤ (a : Int) := by omega
  have HSEE := Lib.hid hsee
  clear hsee
  obtain ⟨g, hg⟩ : ∃ g : Nat, g = 0 := ⟨_, rfl⟩
  obtain ⟨k, hk0⟩ : ∃ k : Nat, k = 0 := ⟨_, rfl⟩
  obtain ⟨n, hn0⟩ : ∃ n : Nat, n = 0 := ⟨_, rfl⟩
  obtain ⟨s, hs0⟩ : ∃ s : Nat, s = 0 := ⟨_, rfl⟩
  have HMK : Hid (markV 0 0 0 0 = markV g k n s) := Lib.hid (by rw [hg, hk0, hn0, hs0])
  rw [HMK.out]
  clear hg hk0 hn0 hs0
  obtain ⟨A, n0, c, A', n', c', rfl, hx⟩ := hd
  have HD := Lib.hid (show DkAt w w.heap.size (.agg #[.slice A n0 c, .slice A' n' c', .int .i64 d.fuse, .bool d.down]) d from ⟨A, n0, c, A', n', c', rfl, hx⟩)
  have HR := Lib.hid hr; have HDN := Lib.hid hdn
  have hsl : d.secs.length ≤ 4096 := (rightB_of.1 hr).1
  clear hx hr hdn
  have b3 : Bk (((w.alloc (.cells #[.slice A n0 c, .slice A' n' c', .int .i64 d.fuse, .bool d.down] 28)).alloc (.cells #[.int .i64 (o : Int), .int .i64 (size : Int)] 53)).alloc (.cells #[.int .i64 0, .int .i64 0, .int .i64 0, .int .i64 0] 66)) w.heap.size 28 _ := ((Bk.new w _ _).alloc _).alloc _
  have b4 : Bk (((w.alloc (.cells #[.slice A n0 c, .slice A' n' c', .int .i64 d.fuse, .bool d.down] 28)).alloc (.cells #[.int .i64 (o : Int), .int .i64 (size : Int)] 53)).alloc (.cells #[.int .i64 0, .int .i64 0, .int .i64 0, .int .i64 0] 66)) (w.heap.size + 1) 53 _ := (Bk.new2 w _ _ _).alloc _
  have b6 : Bk (((w.alloc (.cells #[.slice A n0 c, .slice A' n' c', .int .i64 d.fuse, .bool d.down] 28)).alloc (.cells #[.int .i64 (o : Int), .int .i64 (size : Int)] 53)).alloc (.cells #[.int .i64 0, .int .i64 0, .int .i64 0, .int .i64 0] 66)) (w.heap.size + 1 + 1) 66 _ := Bk.new3 w _ _ _ _
  have b0 : Below w.heap.size w (((w.alloc (.cells #[.slice A n0 c, .slice A' n' c', .int .i64 d.fuse, .bool d.down] 28)).alloc (.cells #[.int .i64 (o : Int), .int .i64 (size : Int)] 53)).alloc (.cells #[.int .i64 0, .int .i64 0, .int .i64 0, .int .i64 0] 66)) := (((Below.refl _ _).alloc (Nat.le_refl _) _).alloc (by simp) _).alloc (by simp only [World.size_alloc]; omega) _
  unfold halfV
  go_enter Tryd.func44, Tryd.ntmps44
  have HB3 := Lib.hid b3; have HB4 := Lib.hid b4; have HB6 := Lib.hid b6; have HB0 := Lib.hid b0
  obtain ⟨y0, y1⟩ := b4.two
  obtain ⟨⟨p0, p1, p2, p3⟩, _⟩ := b3.four
  have ho4 : o + a ≤ 4096 := by omega
  clear b3 b4 b6 b0
  go_wp2_with fail
  generalize ((w.alloc (.cells #[.slice A n0 c, .slice A' n' c', .int .i64 d.fuse, .bool d.down] 28)).alloc (.cells #[.int .i64 (o : Int), .int .i64 (size : Int)] 53)).alloc (.cells #[.int .i64 0, .int .i64 0, .int .i64 0, .int .i64 0] 66) = W at *
  have hrd := wread_any _ d (o + a) W (HD.out.later HB0.out) HR.out HDN.out hin
  rw [HSEE.out, Int.natCast_add] at hrd
  refine hrd.mono ?_
  clear hrd
  rintro e W1 ⟨rfl, hb1⟩
  replace HB3 := Lib.hid (HB3.out.below hb1 HB3.out.lt); replace HB4 := Lib.hid (HB4.out.below hb1 HB4.out.lt); replace HB6 := Lib.hid (HB6.out.below hb1 HB6.out.lt); replace HB0 := Lib.hid (HB0.out.trans (hb1.mono HB0.out.size))
  clear hb1 y0 y1 p0 p1 p2 p3
  go_wp2_with fail
  refine (markIn_zero W1).mono ?_
  rw [HMK.out]
  unfold markV
  rintro e W2 ⟨rfl, hb2⟩
  replace HB3 := Lib.hid (HB3.out.below hb2 HB3.out.lt); replace HB4 := Lib.hid (HB4.out.below hb2 HB4.out.lt); replace HB6 := Lib.hid (HB6.out.below hb2 HB6.out.lt); replace HB0 := Lib.hid (HB0.out.trans (hb2.mono HB0.out.size))
  clear hb2
  go_wp2_with fail
  have hm : Tryd.prog.follows .mixedOrders = true := by kernel_rfl
  have hne6 : w.heap.size + 1 + 1 ≠ W2.heap.size := by have := HB6.out.lt; omega
  have hge8 : w.heap.size ≤ W2.heap.size := HB0.out.size
  have c8 : Bk (W2.alloc (.cells #[.int .i64 (g : Int), .int .i64 (k : Int), .int .i64 (n : Int), .int .i64 (s : Int)] 66)).drew W2.heap.size 66 #[.int .i64 (g : Int), .int .i64 (k : Int), .int .i64 (n : Int), .int .i64 (s : Int)] := (Bk.new W2 _ _).drew
  have c4 : Bk (W2.alloc (.cells #[.int .i64 (g : Int), .int .i64 (k : Int), .int .i64 (n : Int), .int .i64 (s : Int)] 66)).drew (w.heap.size + 1) 53 #[.int .i64 (o : Int), .int .i64 (size : Int)] := (HB4.out.alloc _).drew
  have c6 : Bk (W2.alloc (.cells #[.int .i64 (g : Int), .int .i64 (k : Int), .int .i64 (n : Int), .int .i64 (s : Int)] 66)).drew (w.heap.size + 1 + 1) 66 #[.int .i64 0, .int .i64 0, .int .i64 0, .int .i64 0] := (HB6.out.alloc _).drew
  have c0 : Below w.heap.size w (W2.alloc (.cells #[.int .i64 (g : Int), .int .i64 (k : Int), .int .i64 (n : Int), .int .i64 (s : Int)] 66)).drew := (HB0.out.alloc HB0.out.size _).drew
  refine wp_region_held_drew (S := fun W' => Bk W' W2.heap.size 66 #[.int .i64 (g : Int), .int .i64 (k : Int), .int .i64 (n : Int), .int .i64 (s : Int)] ∧ Bk W' (w.heap.size + 1) 53 #[.int .i64 (o : Int), .int .i64 (size : Int)] ∧ Below w.heap.size w W') hm ⟨c8, c4, c0⟩ (fun hHeld => ?_)
  generalize (W2.alloc (.cells #[.int .i64 (g : Int), .int .i64 (k : Int), .int .i64 (n : Int), .int .i64 (s : Int)] 66)).drew = W5 at *
  have HC6 := Lib.hid c6
  clear c8 c4 c6 c0 HB3 HB4 HB6 HB0
  generalize W2.heap.size = b8 at *
  simp only [List.size_toArray, List.length_cons, List.length_nil, Nat.reduceAdd]
  refine wpAnyH_take (i := 0) (v := .agg #[.int .i64 (g : Int), .int .i64 (k : Int), .int .i64 (n : Int), .int .i64 (s : Int)]) rfl (by kernel_rfl) (by kernel_rfl) (by kernel_rfl) (fun _ _ _ h => h) (Or.inl ⟨by rfl, fun w0 hC => by have := hC.1.four.1; simp [execOp, Act.eval, Act.put, go_sem, this.1, this.2.1, this.2.2.1, this.2.2.2]⟩) hHeld ?_
  try simp only [Act.put, List.setIfInBounds_toArray, List.set_cons_zero, List.set_cons_succ, List.getElem_toArray, List.getElem_cons_zero, List.getElem_cons_succ]
  refine wpAnyH_take (i := 1) (v := .bool false) rfl (by kernel_rfl) (by kernel_rfl) (by kernel_rfl) (fun _ _ _ h => h) (Or.inl ⟨by rfl, fun w0 hC => by simp [execOp, Act.eval, Act.put, go_sem]⟩) hHeld ?_
  try simp only [Act.put, List.setIfInBounds_toArray, List.set_cons_zero, List.set_cons_succ, List.getElem_toArray, List.getElem_cons_zero, List.getElem_cons_succ]
  refine wpAnyH_take (i := 2) (v := .bool false) rfl (by kernel_rfl) (by kernel_rfl) (by kernel_rfl) (fun _ _ _ h => h) (Or.inl ⟨by rfl, fun w0 hC => by simp [execOp, Act.eval, Act.put, go_sem]⟩) hHeld ?_
  try simp only [Act.put, List.setIfInBounds_toArray, List.set_cons_zero, List.set_cons_succ, List.getElem_toArray, List.getElem_cons_zero, List.getElem_cons_succ]
  refine wpAnyH_take (i := 3) (v := undef) rfl (by kernel_rfl) (by kernel_rfl) (by kernel_rfl) (fun _ _ _ h => h) (Or.inr ⟨by rfl, rfl⟩) hHeld ?_
  try simp only [Act.put, List.setIfInBounds_toArray, List.set_cons_zero, List.set_cons_succ, List.getElem_toArray, List.getElem_cons_zero, List.getElem_cons_succ]
  refine wpAnyH_take (i := 4) (v := undef) rfl (by kernel_rfl) (by kernel_rfl) (by kernel_rfl) (fun _ _ _ h => h) (Or.inr ⟨by rfl, rfl⟩) hHeld ?_
  try simp only [Act.put, List.setIfInBounds_toArray, List.set_cons_zero, List.set_cons_succ, List.getElem_toArray, List.getElem_cons_zero, List.getElem_cons_succ]
  refine wpAnyH_take (i := 5) (v := undef) rfl (by kernel_rfl) (by kernel_rfl) (by kernel_rfl) (fun _ _ _ h => h) (Or.inr ⟨by rfl, rfl⟩) hHeld ?_
  try simp only [Act.put, List.setIfInBounds_toArray, List.set_cons_zero, List.set_cons_succ, List.getElem_toArray, List.getElem_cons_zero, List.getElem_cons_succ]
  refine wpAnyH_take (i := 6) (v := undef) rfl (by kernel_rfl) (by kernel_rfl) (by kernel_rfl) (fun _ _ _ h => h) (Or.inr ⟨by rfl, rfl⟩) hHeld ?_
  try simp only [Act.put, List.setIfInBounds_toArray, List.set_cons_zero, List.set_cons_succ, List.getElem_toArray, List.getElem_cons_zero, List.getElem_cons_succ]
  refine wpAnyH_take (i := 7) (v := undef) rfl (by kernel_rfl) (by kernel_rfl) (by kernel_rfl) (fun _ _ _ h => h) (Or.inr ⟨by rfl, rfl⟩) hHeld ?_
  try simp only [Act.put, List.setIfInBounds_toArray, List.set_cons_zero, List.set_cons_succ, List.getElem_toArray, List.getElem_cons_zero, List.getElem_cons_succ]
  refine wpAnyH_take (i := 8) (v := undef) rfl (by kernel_rfl) (by kernel_rfl) (by kernel_rfl) (fun _ _ _ h => h) (Or.inr ⟨by rfl, rfl⟩) hHeld ?_
  try simp only [Act.put, List.setIfInBounds_toArray, List.set_cons_zero, List.set_cons_succ, List.getElem_toArray, List.getElem_cons_zero, List.getElem_cons_succ]
  refine wpAnyH_take (i := 9) (v := undef) rfl (by kernel_rfl) (by kernel_rfl) (by kernel_rfl) (fun _ _ _ h => h) (Or.inr ⟨by rfl, rfl⟩) hHeld ?_
  try simp only [Act.put, List.setIfInBounds_toArray, List.set_cons_zero, List.set_cons_succ, List.getElem_toArray, List.getElem_cons_zero, List.getElem_cons_succ]
  refine wpAnyH_take (i := 10) (v := undef) rfl (by kernel_rfl) (by kernel_rfl) (by kernel_rfl) (fun _ _ _ h => h) (Or.inr ⟨by rfl, rfl⟩) hHeld ?_
  try simp only [Act.put, List.setIfInBounds_toArray, List.set_cons_zero, List.set_cons_succ, List.getElem_toArray, List.getElem_cons_zero, List.getElem_cons_succ]
  refine wpAnyH_take (i := 11) (v := .bool false) rfl (by kernel_rfl) (by kernel_rfl) (by kernel_rfl) (fun _ _ _ h => h) (Or.inl ⟨by rfl, fun w0 hC => by simp [execOp, Act.eval, Act.put, go_sem]⟩) hHeld ?_
  try simp only [Act.put, List.setIfInBounds_toArray, List.set_cons_zero, List.set_cons_succ, List.getElem_toArray, List.getElem_cons_zero, List.getElem_cons_succ]
  obtain ⟨⟨v0, v1, v2, v3⟩, x0, x1, x2, x3⟩ := HC6.out.four
  have hst := stored4_facts HC6.out (.int .i64 (g : Int)) (.int .i64 (k : Int)) (.int .i64 (n : Int)) (.int .i64 (s : Int))
  have hS : Hid ((Bk (stored4 W5 (w.heap.size + 1 + 1) (.int .i64 (g : Int)) (.int .i64 (k : Int)) (.int .i64 (n : Int)) (.int .i64 (s : Int))) b8 66 #[.int .i64 (g : Int), .int .i64 (k : Int), .int .i64 (n : Int), .int .i64 (s : Int)] ∧ Bk (stored4 W5 (w.heap.size + 1 + 1) (.int .i64 (g : Int)) (.int .i64 (k : Int)) (.int .i64 (n : Int)) (.int .i64 (s : Int))) (w.heap.size + 1) 53 #[.int .i64 (o : Int), .int .i64 (size : Int)] ∧ Below w.heap.size w (stored4 W5 (w.heap.size + 1 + 1) (.int .i64 (g : Int)) (.int .i64 (k : Int)) (.int .i64 (n : Int)) (.int .i64 (s : Int)))) ∧ Bk (stored4 W5 (w.heap.size + 1 + 1) (.int .i64 (g : Int)) (.int .i64 (k : Int)) (.int .i64 (n : Int)) (.int .i64 (s : Int))) (w.heap.size + 1 + 1) 66 #[.int .i64 (g : Int), .int .i64 (k : Int), .int .i64 (n : Int), .int .i64 (s : Int)]) :=
    Lib.hid ⟨⟨hst.2.2.2 _ _ _ hne6.symm hHeld.1, hst.2.2.2 _ _ _ (by omega) hHeld.2.1, hst.2.2.1 _ _ hHeld.2.2 (by omega)⟩, hst.1⟩
  unfold stored4 at hS
  clear hst HC6
  refine wpAnyH_ready (rs := [12]) (by kernel_rfl) (by simp) (AllReadyH.cons rfl (fun K hK => ?_) AllReadyH.nil)
  rw [if_pos (by rfl)]
  go_wp2_with fail
  refine hK.out _ _ hS.out.1 (fun hHeld => ?_)
  clear hK K
  try simp only [Act.put, List.setIfInBounds_toArray, List.set_cons_zero, List.set_cons_succ, List.getElem_toArray, List.getElem_cons_zero, List.getElem_cons_succ]
  clear v0 v1 v2 v3 x0 x1 x2 x3
  have HRR := Lib.hid (And.intro hHeld.2.2 hS.out.2)
  refine wpAnyH_ready (rs := [13]) (by kernel_rfl) (by simp) (AllReadyH.cons rfl (fun K hK => ?_) AllReadyH.nil)
  rw [if_pos (by rfl)]
  go_wp2_with fail
  refine hK.out _ _ hHeld (fun hHeld => ?_)
  clear hK K
  try simp only [Act.put, List.setIfInBounds_toArray, List.set_cons_zero, List.set_cons_succ, List.getElem_toArray, List.getElem_cons_zero, List.getElem_cons_succ]
  refine wpAnyH_done (by kernel_rfl) ?_ _
  clear hHeld hS
  refine post_over (fun W' => Below w.heap.size w W' ∧ Bk W' (w.heap.size + 1 + 1) 66 #[.int .i64 (g : Int), .int .i64 (k : Int), .int .i64 (n : Int), .int .i64 (s : Int)]) HRR.out ?_
  intro W' HW
  have HW' := Lib.hid HW
  clear HW HRR
  go_wp2
  refine bodyPost_ret (v := .tuple #[.agg #[.int .i64 (g : Int), .int .i64 (k : Int), .int .i64 (n : Int), .int .i64 (s : Int)], .bool false]) ?_ rfl ⟨rfl, HW'.out.1⟩
  exact results_ct (fn := Tryd.f44) (a1 := ⟨w.heap.size + 1 + 1, 0, none⟩) rfl rfl rfl (load_mark4 HW'.out.2)

end Go.Proofs.YtofbpkaebngnlaaDoor

