/-
  Laws on append and on slice literals for the walks over the document's own functions on disks: rows of many cells in memory of one's own. And what the document's own Copy answers, its writes in memory of one's own.
-/
import Derived.Test.YtfejnfohbagnkaaRefCopy
import Derived.Test.YtfejnfohbagnkaaRefStart
import Derived.Great.BuildSlice
namespace Go.Proofs.Ytfejnfohbagnkaa
open Go.RowKit

def RowsOwn (w : World) (base : Nat) (e : TypeId) (k : Nat) (v : Value) (n : Nat) (xs : List (List Value)) : Prop :=
  w.ownsRow base e k v n xs.flatten ∧ xs.length = n ∧ ∀ x ∈ xs, x.length = k

theorem RowsOwn.out {w : World} {base k n : Nat} {e : TypeId} {v : Value} {xs : List (List Value)} (h : RowsOwn w base e k v n xs) : RowsOut w base e k v n xs := by
  obtain ⟨⟨_, ho⟩, hl, hk⟩ := h
  rcases ho with ⟨rfl, h0⟩ | ⟨g', cap, cur, rfl, hgg, hh, hnc, hcm, hcs, htk⟩
  · subst h0
    exact ⟨none, 0, rfl, Nat.le_refl _, by unfold maxLen; omega, hl, hk, fun h => absurd h (by omega)⟩
  · refine ⟨_, cap, rfl, hnc, hcm, hl, hk, fun _ => ⟨g', cur, rfl, hgg, hh, ?_, fun j u hu => ?_⟩⟩
    · rw [hcs]; exact Nat.mul_le_mul_right k hnc
    · rw [← htk, List.getElem?_take] at hu
      split at hu
      · simpa using hu
      · cases hu
theorem RowsOwn.to {w w' : World} {base k n : Nat} {e : TypeId} {v : Value} {xs : List (List Value)} (h : RowsOwn w base e k v n xs) (hb : ∀ (g : Nat) (cs : Array Value), base ≤ g → Bk w g e cs → Bk w' g e cs) : RowsOwn w' base e k v n xs := by
  obtain ⟨⟨h1, ho⟩, hl, hk⟩ := h
  refine ⟨⟨h1, ?_⟩, hl, hk⟩
  rcases ho with h | ⟨g', cap, cur, e1, hgg, hh, hr⟩
  · exact .inl h
  · exact .inr ⟨g', cap, cur, e1, hgg, hb g' cur hgg hh, hr⟩
theorem RowsOwn.below {w w' : World} {base k n : Nat} {e : TypeId} {v : Value} {xs : List (List Value)} (h : RowsOwn w base e k v n xs) (hb : Below w.heap.size w w') : RowsOwn w' base e k v n xs := h.to fun _ _ _ h => h.below hb h.lt
theorem RowsOwn.alloc {w : World} {base k n : Nat} {e : TypeId} {v : Value} {xs : List (List Value)} (h : RowsOwn w base e k v n xs) (o : Obj) : RowsOwn (w.alloc o) base e k v n xs := h.below ((Below.refl _ _).alloc (Nat.le_refl _) _)
theorem RowsOwn.box {w : World} {base k n : Nat} {e : TypeId} {v : Value} {xs : List (List Value)} (h : RowsOwn w base e k v n xs) {p : Addr} (hp : p.block < base) (u : Value) : RowsOwn (w.setCell p u) base e k v n xs := h.to fun _ _ hg h => h.far (by omega) _
theorem RowsOwn.low {w : World} {base base' k n : Nat} {e : TypeId} {v : Value} {xs : List (List Value)} (h : RowsOwn w base e k v n xs) (hb : base' ≤ base) : RowsOwn w base' e k v n xs := by
  obtain ⟨⟨h1, ho⟩, hl, hk⟩ := h
  refine ⟨⟨h1, ?_⟩, hl, hk⟩
  rcases ho with h | ⟨g', cap, cur, e1, hgg, hr⟩
  · exact .inl h
  · exact .inr ⟨g', cap, cur, e1, by omega, hr⟩
theorem RowsOwn.nil_or {w : World} {base k n : Nat} {e : TypeId} {v : Value} {xs : List (List Value)} (h : RowsOwn w base e k v n xs) : ∃ A c, v = .slice A n c := by
  obtain ⟨⟨_, ho⟩, _⟩ := h
  rcases ho with ⟨rfl, rfl⟩ | ⟨g', cap, cur, rfl, _⟩
  · exact ⟨_, _, rfl⟩
  · exact ⟨_, _, rfl⟩
theorem RowsOut.typed {w w' : World} {base k n : Nat} {e : TypeId} {v : Value} {xs : List (List Value)} (h : RowsOut w base e k v n xs) (hb : ∀ (g : Nat) (cs : Array Value), Bk w g e cs → Bk w' g e cs) : RowsOut w' base e k v n xs := by
  obtain ⟨A, c, rfl, h1, h2, h3, h4, h5⟩ := h
  exact ⟨A, c, rfl, h1, h2, h3, h4, fun hn => by
    obtain ⟨g, cs, e1, e2, e3, e4⟩ := h5 hn
    exact ⟨g, cs, e1, e2, hb g cs e3, e4⟩⟩

section
variable {P : Program}
/-- append of rows to rows of one's own -/
theorem run_append_rows_own (w : World) (t ty e : TypeId) (z : Value) (k bytes : Nat) (ht : P.underlying t = some (.slice e)) (he : (P.info? e).map (fun i => (i.zero, i.size, i.bytes)) = some (some z, k, bytes))
    (hzs : z.cells.size = k) (hk : 0 < k) (hby : bytes ≤ 1000) (base : Nat) (v : Value) (n : Nat) (xs : List (List Value)) (hv : RowsOwn w base e k v n xs) (hbase : base ≤ w.heap.size)
    (B : Nat) (ad : Addr) (m c : Nat) (ys : List (List Value)) (hA : Arr w B k (some ad) m ys) (h1 : ∀ x ∈ ys, ∀ v ∈ x, v.oneCell' = true) (hn : n + m ≤ 1000000) :
    ∃ v' w', (Builtin.append_ #[t, t] ty #[v, .slice (some ad) m c]).run P w = .ok v' w' ∧ RowsOwn w' base e k v' (n + m) (xs ++ ys) ∧ w.grownBy w' v.ownBlock := by
  obtain ⟨i, hi, hz, hs, hb⟩ := info_parts he
  obtain ⟨hown, hxl, hxk⟩ := hv
  have hl : ys.flatten.length = m * k := Arr.flat_length hA
  have hnews : ∀ (j : Nat) (u : Value), ys.flatten[j]? = some u → w.cell? (ad.add j) = some u := by
    intro j u hu
    rcases Nat.eq_zero_or_pos m with h | h
    · have : j < ys.flatten.length := (List.getElem?_eq_some_iff.1 hu).1
      rw [hl, h] at this
      omega
    · obtain ⟨b, o, h', _, hc⟩ := hA.2.2 h
      injection h' with h'
      subst h'
      rw [Addr.add_mid]
      exact Arr.flat hA.2.1 hc j u hu
  have h1' : ∀ u ∈ ys.flatten, u.oneCell' = true := by
    intro v hv
    obtain ⟨x, hx, hvx⟩ := List.mem_flatten.1 hv
    exact h1 x hx v hvx
  have hbb : (n + m) * bytes ≤ 140737488355328 := by
    have := Nat.mul_le_mul hn hby
    omega
  obtain ⟨v', w', hrun, ho, hgr, _, _⟩ := run_append_own_at (P := P) w base t ty e i z k bytes ht hi hz hs hb hzs hk v n xs.flatten hown ad m c ys.flatten hl hnews h1' (by unfold maxLen; omega) hbb hbase
  refine ⟨v', w', hrun, ⟨by rw [List.flatten_append]; exact ho, by rw [List.length_append, hxl, hA.1], fun x hx => ?_⟩, hgr⟩
  rcases List.mem_append.1 hx with h | h
  · exact hxk x h
  · exact hA.2.1 x h

/-- what append to rows of one's own leaves as it was -/
theorem grown_others {w w' : World} {base k n : Nat} {e : TypeId} {v : Value} {xs : List (List Value)} (hv : RowsOwn w base e k v n xs) (hg : w.grownBy w' v.ownBlock) :
    (∀ (b : Nat) (t : TypeId) (cs : Array Value), t ≠ e → Bk w b t cs → Bk w' b t cs) ∧ (base ≤ w.heap.size → Below base w w') := by
  have hne : ∀ (b : Nat) (t : TypeId) (cs : Array Value), t ≠ e → Bk w b t cs → some b ≠ v.ownBlock := by
    intro b t cs ht hB heq
    rcases hv.1.2 with ⟨rfl, _⟩ | ⟨g', cap, cur, rfl, _, hh, _⟩
    · cases heq
    · simp only [Value.ownBlock, Option.some.injEq] at heq
      subst heq
      have : some (Obj.cells cs t (0, 0)) = some (Obj.cells cur e (0, 0)) := (show w.heap[b]? = _ from hB).symm.trans hh
      injection this with this
      injection this with _ h2 _
      exact ht h2
  refine ⟨fun b t cs ht hB => (hg.block b hB.lt (hne b t cs ht hB)).trans hB, fun hb => ⟨hg.os, hg.tape, hg.output, hg.size, fun b hlt => hg.block b (by omega) fun heq => ?_⟩⟩
  rcases hv.1.2 with ⟨rfl, _⟩ | ⟨g', cap, cur, rfl, hge, _⟩
  · cases heq
  · simp only [Value.ownBlock, Option.some.injEq] at heq
    omega

theorem wpList_append_rows_own {ops : Array Oper} {rest : List Oper} {o : Oper} {a : Act} {w : World} {Q : Exit → Act → World → Prop} (hgd : o.guard = none) (s x : Operand) (t : TypeId)
    (ho : o.op = .call { callee := .builtin .append, args := #[s, x], argTypes := #[t, t] }) (e : TypeId) (z : Value) (k bytes : Nat) (ht : P.underlying t = some (.slice e))
    (he : (P.info? e).map (fun i => (i.zero, i.size, i.bytes)) = some (some z, k, bytes))
    (hzs : z.cells.size = k) (hk : 0 < k) (hby : bytes ≤ 1000) (base : Nat) (v : Value) (hs : a.eval s = v) (n : Nat) (xs : List (List Value)) (hv : RowsOwn w base e k v n xs) (hbase : base ≤ w.heap.size)
    (B : Nat) (ad : Addr) (m c : Nat) (ys : List (List Value)) (hx : a.eval x = .slice (some ad) m c) (hA : Arr w B k (some ad) m ys) (h1 : ∀ x ∈ ys, ∀ v ∈ x, v.oneCell' = true) (hn : n + m ≤ 1000000)
    (h : ∀ v' w', RowsOwn w' base e k v' (n + m) (xs ++ ys) → (∀ (b : Nat) (t : TypeId) (cs : Array Value), t ≠ e → Bk w b t cs → Bk w' b t cs) → Below base w w' → wpList P ops Q rest (a.put o.dst v') w') : wpList P ops Q (o :: rest) a w :=
  wpList_plain hgd fun _ hK => by
    obtain ⟨v', w', hrun, h2, h3⟩ := run_append_rows_own (P := P) w t o.type e z k bytes ht he hzs hk hby base v n xs hv hbase B ad m c ys hA h1 hn
    obtain ⟨h4, h5⟩ := grown_others hv h3
    refine wp_value (v := v') (w' := w') ?_ (hK _ _ (h v' w' h2 h4 (h5 hbase)))
    unfold execOp
    simp only [ho]
    simp [resolve, invoke, builtin, hs, hx, hrun]

/-- append(T{}, xs...), the rows one's own -/
theorem run_append_rows2 (w : World) (t ty e : TypeId) (z : Value) (k bytes : Nat) (ht : P.underlying t = some (.slice e)) (he : (P.info? e).map (fun i => (i.zero, i.size, i.bytes)) = some (some z, k, bytes))
    (hzs : z.cells.size = k) (hk : 0 < k) (hby : bytes ≤ 1000) (g : Nat) (hB : Bk w g e #[])
    (B : Nat) (A : Option Addr) (n c : Nat) (xs : List (List Value)) (hA : Arr w B k A n xs) (h1 : ∀ x ∈ xs, ∀ v ∈ x, v.oneCell' = true) (hn : n ≤ 1000000) :
    ∃ v' w', (Builtin.append_ #[t, t] ty #[.slice (some ⟨g, 0, none⟩) 0 0, .slice A n c]).run P w = .ok v' w' ∧ RowsOwn w' g e k v' n xs ∧ w.grownBy w' (some g) := by
  have hown : RowsOwn w g e k (.slice (some ⟨g, 0, none⟩) 0 0) 0 [] := ⟨⟨by simp, .inr ⟨g, 0, #[], rfl, Nat.le_refl _, hB, Nat.le_refl _, by unfold maxLen; omega, by simp, by simp⟩⟩, rfl, by simp⟩
  cases A with
  | none =>
    have hn0 : n = 0 := by
      rcases Nat.eq_zero_or_pos n with h | h
      · exact h
      · obtain ⟨b, o, h', _⟩ := hA.2.2 h; cases h'
    subst hn0
    obtain ⟨i, hi, _⟩ := info_parts he
    have hx : xs = [] := List.eq_nil_of_length_eq_zero hA.1
    subst hx
    exact ⟨_, w, run_append_nil_rows w t ty e i ht hi g #[] hB c, hown, World.grownBy.refl w _⟩
  | some ad =>
    obtain ⟨v', w', h2, h3, h4⟩ := run_append_rows_own (P := P) w t ty e z k bytes ht he hzs hk hby g _ 0 [] hown (Nat.le_of_lt hB.lt) B ad n c xs hA h1 (by omega)
    rw [Nat.zero_add, List.nil_append] at h3
    exact ⟨v', w', h2, h3, h4⟩

theorem wpList_append_rows2 {ops : Array Oper} {rest : List Oper} {o : Oper} {a : Act} {w : World} {Q : Exit → Act → World → Prop} (hgd : o.guard = none) (s x : Operand) (t : TypeId)
    (ho : o.op = .call { callee := .builtin .append, args := #[s, x], argTypes := #[t, t] }) (e : TypeId) (z : Value) (k bytes : Nat) (ht : P.underlying t = some (.slice e))
    (he : (P.info? e).map (fun i => (i.zero, i.size, i.bytes)) = some (some z, k, bytes))
    (hzs : z.cells.size = k) (hk : 0 < k) (hby : bytes ≤ 1000) (g : Nat) (hs : a.eval s = .slice (some ⟨g, 0, none⟩) 0 0) (hB : Bk w g e #[])
    (B : Nat) (A : Option Addr) (n c : Nat) (xs : List (List Value)) (hx : a.eval x = .slice A n c) (hA : Arr w B k A n xs) (h1 : ∀ x ∈ xs, ∀ v ∈ x, v.oneCell' = true) (hn : n ≤ 1000000)
    (h : ∀ v' w', RowsOwn w' g e k v' n xs → w.grownBy w' (some g) → wpList P ops Q rest (a.put o.dst v') w') : wpList P ops Q (o :: rest) a w :=
  wpList_plain hgd fun _ hK => by
    obtain ⟨v', w', hrun, h2, h3⟩ := run_append_rows2 (P := P) w t o.type e z k bytes ht he hzs hk hby g hB B A n c xs hA h1 hn
    refine wp_value (v := v') (w' := w') ?_ (hK _ _ (h v' w' h2 h3))
    unfold execOp
    simp only [ho]
    simp [resolve, invoke, builtin, hs, hx, hrun]
end

/-- a disk that is answered in memory of its own, from base on, its writes so that more may be appended -/
def DkOwn (w : World) (base : Nat) (A : Option Addr) (n c : Nat) (A' : Option Addr) (n' c' : Nat) (d : Dk) : Prop :=
  RowsOut w base 28 64 (.slice A n c) n (d.secs.map secv) ∧ RowsOwn w base 37 65 (.slice A' n' c') n' (d.loose.map wrv)
theorem DkOwn.at_ {w : World} {base : Nat} {A A' : Option Addr} {n c n' c' : Nat} {d : Dk} (h : DkOwn w base A n c A' n' c' d) : DkAt w w.heap.size (.agg #[.slice A n c, .slice A' n' c', .int .i64 d.fuse, .bool d.down]) d :=
  DkOut.at_ (base := base) ⟨A, n, c, A', n', c', rfl, h.1, h.2.out⟩

set_option maxHeartbeats 1000000 in
theorem rcopy_own (v : Value) (d : Dk) (w : World) (hd : DkAt w w.heap.size v d) (h1 : d.secs.length ≤ 1000000) (h2 : d.loose.length ≤ 1000000) :
    Calls Try.prog 19 #[v] w fun e w' => ∃ A n c A' n' c', e = .returned (.agg #[.slice A n c, .slice A' n' c', .int .i64 d.fuse, .bool d.down]) ∧ DkOwn w' w.heap.size A n c A' n' c' d ∧ Below w.heap.size w w' := by
  obtain ⟨A, n, c, A', n', c', rfl, hnc, hnc', hc, hc', hS, hL⟩ := hd
  have hn : d.secs.length = n := by have := hS.1; simpa using this
  have hn' : d.loose.length = n' := by have := hL.1; simpa using this
  rw [hn] at h1
  rw [hn'] at h2
  have HS := Lib.hid hS; have HL := Lib.hid hL
  clear hS hL hn hn'
  go_enter Try.func19, Try.ntmps19
  go_wp2_with ((with_reducible show wpList _ _ _ (⟨some 6, _, _, _, _, _⟩ :: _) _ _); refine hold ?_)
  refine held (wpList_append_rows rfl (.tmp 3) (.tmp 5) 22 rfl 28 (.agg (Array.replicate 64 (.int .u8 0))) 64 64 Try.underlying22 info_sec (by simp [Value.cells]) (by omega) (by omega) (w.heap.size + 1 + 1) rfl (Bk.new3 _ _ _ _ _) w.heap.size A n c (d.secs.map secv) rfl
    (HS.out.below ((((Below.refl w.heap.size w).alloc (Nat.le_refl _) _).alloc (by simp) _).alloc (by simp only [World.size_alloc]; omega) _) (Nat.le_refl _)) (fun x hx => by obtain ⟨y, _, rfl⟩ := List.mem_map.1 hx; exact secv_one y) h1 ?_)
  intro v1 w1 hR1 hg1
  have hgb : Below (w.heap.size + 1 + 1) (((w.alloc (.cells #[.slice A n c, .slice A' n' c', .int .i64 d.fuse, .bool d.down] 25)).alloc (.cells #[.slice none 0 0, .slice none 0 0, .int .i64 0, .bool false] 25)).alloc (.cells #[] 28)) w1 :=
    (Below.refl _ _).grown hg1 (by simp only [World.size_alloc]; omega) (fun k e => by cases e; exact Nat.le_refl _)
  have B0 : Bk w1 w.heap.size 25 #[.slice A n c, .slice A' n' c', .int .i64 d.fuse, .bool d.down] := Bk.below (((Bk.new _ _ _).alloc _).alloc _) hgb (by omega)
  have B1 : Bk w1 (w.heap.size + 1) 25 #[.slice none 0 0, .slice none 0 0, .int .i64 0, .bool false] := Bk.below ((Bk.new2 _ _ _ _).alloc _) hgb (by omega)
  have hb1 : Below w.heap.size w w1 := (((((Below.refl w.heap.size w).alloc (Nat.le_refl _) _).alloc (by simp) _).alloc (by simp only [World.size_alloc]; omega) _)).trans (hgb.mono (by omega))
  have hlt : w.heap.size + 1 < w1.heap.size := B1.lt
  obtain ⟨A1, c1, hv1⟩ : ∃ A1 c1, v1 = .slice A1 n c1 := by obtain ⟨A1, c1, h, _⟩ := hR1; exact ⟨A1, c1, h⟩
  rw [hv1] at hR1 ⊢
  clear hv1 hgb hg1
  obtain ⟨⟨p0, p1, p2, p3⟩, q0, q1, q2, q3⟩ := B0.four
  have HB0 := Lib.hid B0; have HB1 := Lib.hid B1; have HR1 := Lib.hid hR1; have HW1 := Lib.hid hb1
  have hlt0 : w.heap.size < w1.heap.size := by omega
  clear B0 B1 hR1 hb1
  go_wp2_with ((with_reducible show wpList _ _ _ (⟨some 11, _, _, _, _, _⟩ :: _) _ _); refine hold ?_)
  have hBn : Bk ((w1.setCell ⟨w.heap.size, 0, none⟩ (.slice A1 n c1)).alloc (.cells #[] 37)) w1.heap.size 37 #[] := Bk.new' _ _ _ _ (by simp)
  have hbx : Below w1.heap.size (w1.setCell ⟨w.heap.size, 0, none⟩ (.slice A1 n c1)) ((w1.setCell ⟨w.heap.size, 0, none⟩ (.slice A1 n c1)).alloc (.cells #[] 37)) := (Below.refl _ _).alloc (by simp) _
  have hL1 : Arr ((w1.setCell ⟨w.heap.size, 0, none⟩ (.slice A1 n c1)).alloc (.cells #[] 37)) w.heap.size 65 A' n' (d.loose.map wrv) :=
    HL.out.below (((HW1.out.setCell (p := ⟨w.heap.size, 0, none⟩) (Nat.le_refl _) _)).alloc (by simp; omega) _) (Nat.le_refl _)
  refine held (wpList_append_rows2 rfl (.tmp 8) (.tmp 10) 23 rfl 37 (.agg (wrv (0, zsec)).toArray) 65 72 Try.underlying23 info_wr (by simp [Value.cells, wrv_length, zsec]) (by omega) (by omega) w1.heap.size rfl hBn w.heap.size A' n' c' (d.loose.map wrv) rfl hL1
    (fun x hx => by obtain ⟨y, _, rfl⟩ := List.mem_map.1 hx; exact wrv_one y) h2 ?_)
  intro v2 w2 hR2 hg2
  have hb2 : Below w1.heap.size (w1.setCell ⟨w.heap.size, 0, none⟩ (.slice A1 n c1)) w2 := hbx.grown hg2 (by simp) (fun k e => by cases e; exact Nat.le_refl _)
  have hR1 : RowsOut w2 (w.heap.size + 1 + 1) 28 64 (.slice A1 n c1) n (d.secs.map secv) := by
    refine RowsOut.below (HR1.out.box (p := ⟨w.heap.size, 0, none⟩) (by show w.heap.size < _; omega) (.slice A1 n c1)) ?_
    rw [World.size_setCell]
    exact hb2
  have B0 : Bk w2 w.heap.size 25 #[.slice A1 n c1, .slice A' n' c', .int .i64 d.fuse, .bool d.down] := by
    have := (HB0.out.put 0 (.slice A1 n c1)).below hb2 hlt0
    simpa using this
  have B1 : Bk w2 (w.heap.size + 1) 25 #[.slice none 0 0, .slice none 0 0, .int .i64 0, .bool false] := (HB1.out.far (by simp) _).below hb2 hlt
  have hW2 : Below w.heap.size w w2 := (HW1.out.setCell (p := ⟨w.heap.size, 0, none⟩) (Nat.le_refl _) _).trans (hb2.mono (by omega))
  obtain ⟨A2, c2, hv2⟩ := hR2.nil_or
  rw [hv2] at hR2 ⊢
  clear hv2 hb2 hbx hBn hL1 hg2 HB0 HB1 HR1 HW1 p0 p1 p2 p3 q0 q1 q2 q3
  obtain ⟨⟨p0, p1, p2, p3⟩, q0, q1, q2, q3⟩ := B0.four
  obtain ⟨⟨r0, r1, r2, r3⟩, s0, s1, s2, s3⟩ := B1.four
  have hlt2 : w.heap.size + 1 < w2.heap.size := B1.lt
  have HR1 := Lib.hid hR1; have HR2 := Lib.hid hR2; have HW2 := Lib.hid hW2
  clear B0 B1 hR1 hR2 hW2
  go_wp2
  refine bodyPost_ret (v := .agg #[.slice A1 n c1, .slice A2 n' c2, .int .i64 d.fuse, .bool d.down]) (by simp [results, Try.results19, go_sem, *]) rfl ?_
  refine ⟨A1, n, c1, A2, n', c2, rfl, ⟨?_, ?_⟩, ?_⟩
  · refine RowsOut.low (base := w.heap.size + 1 + 1) ?_ (by omega)
    repeat (first | with_reducible exact HR1.out | (refine RowsOut.box ?_ (by first | omega | (simp; done) | (simp; omega)) _))
  · refine RowsOwn.low (base := w1.heap.size) ?_ (by omega)
    repeat (first | with_reducible exact HR2.out | (with_reducible refine RowsOwn.box ?_ ?hp _; (case hp => first | omega | (simp; done) | (simp; omega))))
  · repeat (first | with_reducible exact HW2.out | (refine Below.setCell ?_ (by first | omega | (simp; done) | (simp; omega)) _))
end Go.Proofs.Ytfejnfohbagnkaa
