/-
 A part of the proof: see the last text.
-/
import Derived.Test.YtcdehejgnnnimaaGreatDoorSKvCom
import Derived.Test.YtcdehejgnnnimaaGreatDoorSKvOpnM
import Derived.Test.YtcdehejgnnnimaaGreatDoorSKvRefDo
import Derived.Test.YtcdehejgnnnimaaGreatDoorSTextOpen
import Derived.Test.YtcdehejgnnnimaaGreatDoorSKvGet
import Derived.Test.YtcdehejgnnnimaaGreatDoorSSecStill
import Derived.Test.YtcdehejgnnnimaaGreatDoorSKvForm
namespace Go.Proofs.YtcdehejgnnnimaaGreatDoor
set_option linter.unusedVariables false
set_option linter.unusedSimpArgs false
open Go.RowKit
set_option linter.unusedVariables false
set_option linter.unusedSimpArgs false
section
variable {P : Program}
theorem wp_store_box {o : Oper} {a : Act} {w : World} {K : Act → World → Prop} {Q : Exit → Act → World → Prop} (ty : TypeId) (x y : Operand) (ho : o.op = .store ty x y) (g : Nat) (cells : Array Value) (hx : a.eval x = .pointer (some ⟨g, 0, none⟩)) (hy : a.eval y = .agg cells)
 {t : TypeId} {cur : Array Value} (hg : Bk w g t cur) (hs : cells.size = cur.size) (hi : (P.info? ty).map (·.size) = some cells.size) (h1 : ∀ v ∈ cells.toList, v.oneCell' = true) (h : K (a.put o.dst undef) (w.setRow g cells)) : o.wp P a w K Q := by
 refine wp_skip (w' := w.setRow g cells) ?_ h
 have := run_storeCells_at P g 0 t cells.toList 0 cur w hg (by simp [hs]) h1
 simp only [Nat.add_zero, List.append_assoc, Nat.zero_add, List.take_zero, List.nil_append] at this
 rw [show cur.toList.drop cells.toList.length = [] from List.drop_eq_nil_of_le (by simp [hs]), List.append_nil, Array.toArray_toList] at this
 cases hq : P.info? ty with
 | none => simp [hq] at hi
 | some i =>
   have hs2 : cells.size = i.size := by simp [hq] at hi; omega
   unfold execOp
   simp only [ho, hx, hy, Instr.storeAt, Instr.sureAddr, Sem.run_bind, Sem.run_pure, Result.andThen_ok]
   simp [storeVar, sizeOf, typeInfo, hq, Value.cells, hs2, this]
theorem wpList_store_box {ops : Array Oper} {rest : List Oper} {o : Oper} {a : Act} {w : World} {Q : Exit → Act → World → Prop} (hgd : o.guard = none) (ty : TypeId) (x y : Operand) (ho : o.op = .store ty x y) (g : Nat) (cells : Array Value) (hx : a.eval x = .pointer (some ⟨g, 0, none⟩)) (hy : a.eval y = .agg cells)
 {t : TypeId} {cur : Array Value} (hg : Bk w g t cur) (hs : cells.size = cur.size) (hi : (P.info? ty).map (·.size) = some cells.size) (h1 : ∀ v ∈ cells.toList, v.oneCell' = true) (h : wpList P ops Q rest (a.put o.dst undef) (w.setRow g cells)) : wpList P ops Q (o :: rest) a w :=
 wpList_plain hgd fun _ hK => wp_store_box ty x y ho g cells hx hy hg hs hi h1 (hK _ _ h)
end
theorem grown_setRowW (w : World) (g : Nat) (cs : Array Value) : w.grownBy (w.setRow g cs) (some g) :=
 ⟨rfl, rfl, rfl, by simp, fun i hi hne => YtcdehejgnnnimaaGreatDoor.setRow_other' w g i cs (fun e => hne (by rw [e]))⟩
theorem below_setRow {B : Nat} {w w' : World} (h : Below B w w') {g : Nat} (hg : B ≤ g) (cs : Array Value) : Below B w (w'.setRow g cs) :=
 h.trans ⟨rfl, rfl, rfl, by simp, fun k hk => YtcdehejgnnnimaaGreatDoor.setRow_other' w' g k cs (by omega)⟩
def Plain (cs : Array Value) : Prop := cs.size < 64 ∧ ∀ v ∈ cs.toList, v.oneCell' = true ∧ ∀ s, v ≠ .string s
def dkV (A : Option Addr) (n c : Nat) (A' : Option Addr) (n' c' : Nat) (d : Dk) : Array Value := #[.slice A n c, .slice A' n' c', .int .i64 d.fuse, .bool d.down]
def stV (h g u k : Int) (A : Option Addr) (n c : Nat) : Array Value := #[.int .i64 h, .int .i64 g, .int .i64 u, .int .i64 k, .slice A n c]
theorem Plain.dk (A : Option Addr) (n c : Nat) (A' : Option Addr) (n' c' : Nat) (d : Dk) : Plain (dkV A n c A' n' c' d) := by
 refine ⟨by show (4 : Nat) < 64; omega, fun v hv => ?_⟩
 simp only [dkV, List.mem_cons, List.not_mem_nil, or_false] at hv
 rcases hv with rfl | rfl | rfl | rfl <;> exact ⟨rfl, fun s h => by cases h⟩
theorem Plain.st (h g u k : Int) (A : Option Addr) (n c : Nat) : Plain (stV h g u k A n c) := by
 refine ⟨by show (5 : Nat) < 64; omega, fun v hv => ?_⟩
 simp only [stV, List.mem_cons, List.not_mem_nil, or_false] at hv
 rcases hv with rfl | rfl | rfl | rfl | rfl <;> exact ⟨rfl, fun s h => by cases h⟩
theorem Plain.one {cs : Array Value} (h : Plain cs) : ∀ v ∈ cs.toList, v.oneCell' = true := fun v hv => (h.2 v hv).1
def PrsIn (W : World) (A : Option Addr) (n : Nat) (l : List Pr) : Prop := ColK 2 pairC W W.heap.size A n l
theorem PrsIn.later {W W' : World} {A : Option Addr} {n : Nat} {l : List Pr} (h : PrsIn W A n l) (hb : Below W.heap.size W W') : PrsIn W' A n l := ColK.later h hb
section
variable {W : World} {g b : Nat} {t t' : TypeId} {cur cs cs' : Array Value}
theorem PrsIn.turn {A : Option Addr} {n : Nat} {l : List Pr} (h : PrsIn W A n l) (hk : Bk W g t cur) (hp : Plain cur) (cs : Array Value) : PrsIn (W.setRow g cs) A n l := by
 refine ⟨h.1, fun hn => ?_⟩
 obtain ⟨b, o, e, hb, hr⟩ := h.2 hn
 have hne : b ≠ g := by
  intro he
  subst he
  have h0 := hr 0 (l[0]'(by rw [h.1]; exact hn)) (List.getElem?_eq_getElem _) 0 _ rfl
  rw [hk.cell, ← Array.getElem?_toList] at h0
  exact (hp.2 _ (List.mem_of_getElem? h0)).2 _ rfl
 refine ⟨b, o, e, by simpa using hb, fun i a ha => rangeAtK_keep (hr i a ha) fun j => ?_⟩
 simp only [World.cell?]
 rw [YtcdehejgnnnimaaGreatDoor.setRow_other' W g b cs hne]
theorem dk_turn {v : Value} {d : Dk} (h : DkAt W W.heap.size v d) (hk : Bk W g t cur) (hp : Plain cur) (cs : Array Value) : DkAt (W.setRow g cs) (W.setRow g cs).heap.size v d := by
 obtain ⟨A, n, c, A', n', c', e, h1, h2, h3, h4, h5, h6⟩ := h
 have hs := grown_setRowW W g cs
 have hz : (W.setRow g cs).heap.size = W.heap.size := by simp
 rw [hz]
 exact ⟨A, n, c, A', n', c', e, h1, h2, h3, h4, h5.other hk hp.1 (Nat.le_refl _) hs, h6.other hk (by have := hp.1; omega) (Nat.le_refl _) hs⟩
end
structure Rnd (k : Nat) (y : Dk) (h g : Nat) (L : List (List Nat)) (m : List Pr) : Prop where
 rest : Rest 90 y
 fine : y.fuse = -1
 hz : HoldsZ 90 y h g L
 play : PlayOk L m
 gen : g ≤ 1 + 3 * k
theorem Rnd.small {k : Nat} {y : Dk} {h g : Nat} {L : List (List Nat)} {m : List Pr} (H : Rnd k y h g L m) : m.length ≤ 400 := H.play.ok.1
theorem fall_play {L L2 : List (List Nat)} {l m : List Pr} {cs : List Chg} (h : L2 = L ∨ L2 = L ++ [transN cs] ∨ L2 = snapL m) (hL : PlayOk L l) (hcs : changesB cs = true) (hm : PairsOk m) (hl : Lists m (runF (putsF (fun _ => none) l) cs)) : PlayOk L2 l ∨ PlayOk L2 m := by
 rcases h with rfl | rfl | rfl
 ·exact .inl hL
 ·exact .inr (hL.app hcs hm hl)
 ·exact .inr (PlayOk.snap hm)
theorem do_lists {l m m' : List Pr} {cs : List Chg} (hl : PairsOk l) (hm : Lists m (runF (putsF (fun _ => none) l) cs)) (hm' : Lists m' (runF (fnOf l) cs)) : m' = m := by
 rw [putsF_lists hl.2.2] at hm
 exact hm'.unique hm
theorem fuse_ok {f : Int} (h1 : -128 ≤ f) (h2 : f ≤ 127) : fuseB (max (-1) f) = true := by
 unfold fuseB
 rw [decide_eq_true (by omega), decide_eq_true (by omega)]; rfl
end Go.Proofs.YtcdehejgnnnimaaGreatDoor
namespace Go.Proofs.YtcdehejgnnnimaaGreatDoor
set_option linter.unusedVariables false
set_option linter.unusedSimpArgs false
open Go.RowKit
set_option linter.unusedVariables false
set_option linter.unusedSimpArgs false
theorem snap_sum : sumT (snapL []) = 2 := by decide
theorem snap_len : (snapL []).length = 1 := by decide
theorem pairs_nil : PairsOk [] := ⟨Nat.zero_le _, (fun p hp => by cases hp), List.Pairwise.nil⟩
theorem great_len {cs : List Chg} {n : Nat} (h : great6B [] cs = false) (hl : cs.length = n) : n ≤ 20000 := by
 unfold great6B at h
 have := of_decide_eq_false h
 simp only [List.length_nil] at this
 omega
def TurnIn (w : World) (b o : Nat) (A : Option Addr) (n c : Nat) (cs : List Chg) (fz mk : Int) : Prop :=
 b < w.heap.size ∧ ColK 3 chgC w w.heap.size A n cs ∧ (∀ x ∈ cs, x.1.size ≤ 140737488355328 ∧ x.2.1.size ≤ 140737488355328) ∧ n ≤ 140737488355328 ∧ w.rangeAt b o [.slice A n c, .int .i8 fz, .int .u64 mk]
section
variable {w W : World} {b o n c : Nat} {A : Option Addr} {ds : List Chg} {fz mk : Int}
theorem TurnIn.cs (h : TurnIn w b o A n c ds fz mk) (hb : Below w.heap.size w W) : ColK 3 chgC W W.heap.size A n ds := (h.2.1.below hb (Nat.le_refl _)).more hb.size
theorem TurnIn.c0 (h : TurnIn w b o A n c ds fz mk) (hb : Below w.heap.size w W) : W.cell? ⟨b, o, none⟩ = some (.slice A n c) := by
 have := h.2.2.2.2 0 _ rfl
 rw [Nat.add_zero] at this
 exact (hb.cell (p := ⟨b, o, none⟩) h.1).trans this
theorem TurnIn.c1 (h : TurnIn w b o A n c ds fz mk) (hb : Below w.heap.size w W) : W.cell? ⟨b, o + 1, none⟩ = some (.int .i8 fz) := (hb.cell (p := ⟨b, o + 1, none⟩) h.1).trans (h.2.2.2.2 1 _ rfl)
theorem TurnIn.c2 (h : TurnIn w b o A n c ds fz mk) (hb : Below w.heap.size w W) : W.cell? ⟨b, o + 2, none⟩ = some (.int .u64 mk) := (hb.cell (p := ⟨b, o + 2, none⟩) h.1).trans (h.2.2.2.2 2 _ rfl)
end
structure KX (w : World) (b3 b5 : Nat) (D : Array Value) (d : Dk) (S : Array Value) (As : Option Addr) (ns : Nat) (l : List Pr) (Aw : Option Addr) (nw : Nat) (lw : List Pr) (W : World) : Prop where
 k3 : Bk W b3 27 D
 kd : DkAt W W.heap.size (.agg D) d
 k5 : Bk W b5 35 S
 ks : PrsIn W As ns l
 kw : PrsIn W Aw nw lw
 kb : Below w.heap.size w W
section
variable {w W W' : World} {b3 b5 ns nw : Nat} {D S : Array Value} {d : Dk} {As Aw : Option Addr} {l lw : List Pr}
theorem KX.below (H : KX w b3 b5 D d S As ns l Aw nw lw W) (hb : Below W.heap.size W W') : KX w b3 b5 D d S As ns l Aw nw lw W' :=
 ⟨H.k3.below hb H.k3.lt, H.kd.later hb, H.k5.below hb H.k5.lt, H.ks.later hb, H.kw.later hb, H.kb.trans (hb.mono H.kb.size)⟩
theorem KX.disk (H : KX w b3 b5 D d S As ns l Aw nw lw W) (hp : Plain D) (h3 : w.heap.size ≤ b3) (hne : b5 ≠ b3) {D' : Array Value} {d' : Dk} (hd : DkAt W W.heap.size (.agg D') d') : KX w b3 b5 D' d' S As ns l Aw nw lw (W.setRow b3 D') :=
 ⟨H.k3.setRow_same _, dk_turn hd H.k3 hp _, H.k5.setRow_other hne _, H.ks.turn H.k3 hp _, H.kw.turn H.k3 hp _, YtcdehejgnnnimaaGreatDoor.below_setRow H.kb h3 _⟩
theorem KX.other (H : KX w b3 b5 D d S As ns l Aw nw lw W) {g : Nat} {t : TypeId} {cur : Array Value} (hk : Bk W g t cur) (hp : Plain cur) (hg : w.heap.size ≤ g) (h3 : b3 ≠ g) (h5 : b5 ≠ g) (cs : Array Value) : KX w b3 b5 D d S As ns l Aw nw lw (W.setRow g cs) :=
 ⟨H.k3.setRow_other h3 _, dk_turn H.kd hk hp _, H.k5.setRow_other h5 _, H.ks.turn hk hp _, H.kw.turn hk hp _, YtcdehejgnnnimaaGreatDoor.below_setRow H.kb hg _⟩
end
structure KY (w : World) (b3 b5 b9 b10 : Nat) (D : Array Value) (d : Dk) (S : Array Value) (As : Option Addr) (ns : Nat) (l : List Pr) (Aw : Option Addr) (nw : Nat) (lw : List Pr) (X : Array Value) (x : Dk) (T : Array Value) (At : Option Addr) (nt : Nat) (mt : List Pr) (W : World) : Prop where
 kx : KX w b3 b5 D d S As ns l Aw nw lw W
 k9 : Bk W b9 27 X
 k9d : DkAt W W.heap.size (.agg X) x
 k10 : Bk W b10 35 T
 k10s : PrsIn W At nt mt
 ne : b9 ≠ b10 ∧ b3 ≠ b9 ∧ b5 ≠ b9 ∧ b3 ≠ b10 ∧ b5 ≠ b10 ∧ w.heap.size ≤ b9 ∧ w.heap.size ≤ b10
theorem KY.below {w W W' : World} {b3 b5 b9 b10 ns nw nt : Nat} {D S X T : Array Value} {d x : Dk} {As Aw At : Option Addr} {l lw mt : List Pr} (H : KY w b3 b5 b9 b10 D d S As ns l Aw nw lw X x T At nt mt W) (hb : Below W.heap.size W W') : KY w b3 b5 b9 b10 D d S As ns l Aw nw lw X x T At nt mt W' :=
 ⟨H.kx.below hb, H.k9.below hb H.k9.lt, H.k9d.later hb, H.k10.below hb H.k10.lt, H.k10s.later hb, H.ne⟩
section
variable {w W : World} {b3 b5 b9 b10 ns nw nt : Nat} {D S X T : Array Value} {d x : Dk} {As Aw At : Option Addr} {l lw mt : List Pr}
theorem KX.want (H : KX w b3 b5 D d S As ns l Aw nw lw W) {Aq : Option Addr} {nq : Nat} {lq : List Pr} (h : PrsIn W Aq nq lq) : KX w b3 b5 D d S As ns l Aq nq lq W := ⟨H.k3, H.kd, H.k5, H.ks, h, H.kb⟩
theorem KY.want (H : KY w b3 b5 b9 b10 D d S As ns l Aw nw lw X x T At nt mt W) {Aq : Option Addr} {nq : Nat} {lq : List Pr} (h : PrsIn W Aq nq lq) : KY w b3 b5 b9 b10 D d S As ns l Aq nq lq X x T At nt mt W := ⟨H.kx.want h, H.k9, H.k9d, H.k10, H.k10s, H.ne⟩
theorem KY.disk9 (H : KY w b3 b5 b9 b10 D d S As ns l Aw nw lw X x T At nt mt W) (hp : Plain X) {X' : Array Value} {x' : Dk} (hd : DkAt W W.heap.size (.agg X') x') : KY w b3 b5 b9 b10 D d S As ns l Aw nw lw X' x' T At nt mt (W.setRow b9 X') :=
 ⟨H.kx.other H.k9 hp H.ne.2.2.2.2.2.1 H.ne.2.1 H.ne.2.2.1 _, H.k9.setRow_same _, dk_turn hd H.k9 hp _, H.k10.setRow_other (Ne.symm H.ne.1) _, H.k10s.turn H.k9 hp _, H.ne⟩
theorem KY.store10 (H : KY w b3 b5 b9 b10 D d S As ns l Aw nw lw X x T At nt mt W) (hp : Plain T) {Aq : Option Addr} {nq : Nat} {lq : List Pr} (h : PrsIn W Aq nq lq) (T' : Array Value) : KY w b3 b5 b9 b10 D d S As ns l Aw nw lw X x T' Aq nq lq (W.setRow b10 T') :=
 ⟨H.kx.other H.k10 hp H.ne.2.2.2.2.2.2 H.ne.2.2.2.1 H.ne.2.2.2.2.1 _, H.k9.setRow_other H.ne.1 _, dk_turn H.k9d H.k10 hp _, H.k10.setRow_same _, h.turn H.k10 hp _, H.ne⟩
theorem KY.disk3 (H : KY w b3 b5 b9 b10 D d S As ns l Aw nw lw X x T At nt mt W) (hp : Plain D) (h3 : w.heap.size ≤ b3) (hne : b5 ≠ b3) {D' : Array Value} {d' : Dk} (hd : DkAt W W.heap.size (.agg D') d') : KY w b3 b5 b9 b10 D' d' S As ns l Aw nw lw X x T At nt mt (W.setRow b3 D') :=
 ⟨H.kx.disk hp h3 hne hd, H.k9.setRow_other (Ne.symm H.ne.2.1) _, dk_turn H.k9d H.kx.k3 hp _, H.k10.setRow_other (Ne.symm H.ne.2.2.2.1) _, H.k10s.turn H.kx.k3 hp _, H.ne⟩
theorem KY.store5 (H : KY w b3 b5 b9 b10 D d S As ns l Aw nw lw X x T At nt mt W) (hp : Plain S) (h5 : w.heap.size ≤ b5) (hne : b5 ≠ b3) (S' : Array Value) : KY w b3 b5 b9 b10 D d S' At nt mt Aw nw lw X x T At nt mt (W.setRow b5 S') :=
 ⟨⟨H.kx.k3.setRow_other (Ne.symm hne) _, dk_turn H.kx.kd H.kx.k5 hp _, H.kx.k5.setRow_same _, H.k10s.turn H.kx.k5 hp _, H.kx.kw.turn H.kx.k5 hp _, YtcdehejgnnnimaaGreatDoor.below_setRow H.kx.kb h5 _⟩, H.k9.setRow_other (Ne.symm H.ne.2.2.1) _, dk_turn H.k9d H.kx.k5 hp _, H.k10.setRow_other (Ne.symm H.ne.2.2.2.2.1) _, H.k10s.turn H.kx.k5 hp _, H.ne⟩
end
def Mt (k : Nat) (y : Dk) (h g : Nat) (L : List (List Nat)) (m : List Pr) : Prop := Rest 90 y ∧ HoldsZ 90 y h g L ∧ PlayOk L m ∧ g ≤ 1 + 3 * (k + 1)
theorem list_overV {P : Program} {ops : Array Oper} {Q : Exit → Act → World → Prop} {rest : List Oper} {a : Act} {W : World} (F : World → Prop) (hF : F W) (h : ∀ W', F W' → wpList P ops Q rest a W') : wpList P ops Q rest a W := h W hF
theorem list_overW {Q : Exit → Act → World → Prop} {e : Exit} {a : Act} {W : World} (G : World → Prop) (hG : G W) (h : ∀ W', G W' → Q e a W') : Q e a W := h W hG
def KSt (w : World) (b3 b5 : Nat) (d : Dk) (h g : Nat) (L : List (List Nat)) (l : List Pr) (Aw : Option Addr) (nw : Nat) (W : World) : Prop :=
 ∃ A n c A' n' c' As ns cs, Bk W b3 27 (dkV A n c A' n' c' d) ∧ DkAt W W.heap.size (.agg (dkV A n c A' n' c' d)) d ∧ Bk W b5 35 (stV h g (sumT L : Nat) (L.length : Nat) As ns cs) ∧ PrsIn W As ns l ∧ PrsIn W Aw nw l ∧ Below w.heap.size w W
theorem dk_load {op : Oper} {a : Act} {w0 : World} {x : Operand} {b : Nat} {A A' : Option Addr} {n c n' c' : Nat} {d : Dk} (ho : op.op = .load 27 x) (hx : a.eval x = .pointer (some ⟨b, 0, none⟩)) (hk : Bk w0 b 27 (dkV A n c A' n' c' d)) : (execOp a.eval op).run Tryz.prog w0 = .ok (.value (.agg (dkV A n c A' n' c' d))) w0 :=
 exec_loadK ho hx (Bk.rangeK hk) Tryz.underlying27 rfl (by kernel_rfl)
theorem st_load {op : Oper} {a : Act} {w0 : World} {x : Operand} {b : Nat} {h g u k : Int} {A : Option Addr} {n c : Nat} (ho : op.op = .load 35 x) (hx : a.eval x = .pointer (some ⟨b, 0, none⟩)) (hk : Bk w0 b 35 (stV h g u k A n c)) : (execOp a.eval op).run Tryz.prog w0 = .ok (.value (.agg (stV h g u k A n c))) w0 :=
 exec_loadK ho hx (Bk.rangeK hk) Tryz.underlying35 rfl (by kernel_rfl)
theorem exec_maxW {o : Oper} {ρ : Operand → Value} {x y : Operand} {ts : Array TypeId} {a b : Int} {w : World} (ho : o.op = .call { callee := .builtin .max, args := #[x, y], argTypes := ts }) (hx : ρ x = .int .i64 a) (hy : ρ y = .int .i64 b) :
 (execOp ρ o).run Tryz.prog w = .ok (.value (.int .i64 (max a b))) w := by
 have e : (if b > a then b else a) = max a b := by rw [Int.max_def]; split <;> split <;> omega
 unfold execOp
 simp [ho, hx, hy, resolve, invoke, builtin, Builtin.max_, Builtin.max2, e]
theorem exec_conv {o : Oper} {ρ : Operand → Value} {x : Operand} {a : Int} {w : World} (ho : o.op = .convert 40 3 x) (hx : ρ x = .int .i8 a) (h1 : -128 ≤ a) (h2 : a ≤ 127) : (execOp ρ o).run Tryz.prog w = .ok (.value (.int .i64 a)) w := by
 have e : IntKind.i64.wrap a = a := IntWalk.i64_in _ (by omega)
 unfold execOp
 simp [ho, hx, convert, run_underlying Tryz.underlying40, run_underlying Tryz.underlying3, Conv.intToInt, e]
def ComF (d : Dk) (h g : Nat) (L : List (List Nat)) (l : List Pr) (cs : List Chg) (x : Dk) (er : Int) (h2 g2 u2 k2 : Nat) (mm : List Pr) : Prop :=
 ((er = 1 ∨ er = 4 ∨ er = 8) ∧ x = d ∧ h2 = h ∧ g2 = g ∧ u2 = sumT L ∧ k2 = L.length ∧ mm = l) ∨
 (er = 0 ∧ ∃ L2, Rest 90 x ∧ HoldsZ 90 x h2 g2 L2 ∧ g2 ≤ g + 1 ∧ u2 = sumT L2 ∧ k2 = L2.length ∧ PlayOk L2 mm ∧ Lists mm (runF (putsF (fun _ => none) l) cs)) ∨
 (er = 9 ∧ ∃ m, rightB x = true ∧ x.secs.length = 90 ∧ Lists m (runF (putsF (fun _ => none) l) cs) ∧ ∀ i, ∃ h3 g3 L3, Holds 90 (startM x i).1 h3 g3 L3 ∧ g3 ≤ g + 1 ∧ (PlayOk L3 l ∨ PlayOk L3 m))
def ComR (d : Dk) (h g : Nat) (L : List (List Nat)) (l : List Pr) (cs : List Chg) (w : World) (e : Ending) (w' : World) : Prop :=
 ∃ (x : Dk) (er : Int) (h2 g2 u2 k2 : Nat) (A : Option Addr) (nn c : Nat) (mm : List Pr), Hid (ComF d h g L l cs x er h2 g2 u2 k2 mm) ∧ PrsIn w' A nn mm ∧ StoRes w (x, er) (h2 : Int) (g2 : Int) (u2 : Int) (k2 : Int) A nn c e w'
theorem com_out (v : Value) (d : Dk) (h g : Nat) (L : List (List Nat)) (A5 : Option Addr) (n5 c5 : Nat) (l : List Pr) (A6 : Option Addr) (n6 c6 : Nat) (cs : List Chg) (w : World) (hd : DkAt w w.heap.size v d) (hF : Rest 90 d) (hZ : HoldsZ 90 d h g L) (hg : g < 1099511627776) (ht : Tab w)
 (hl : PrsIn w A5 n5 l) (hP : PlayOk L l) (hcs : ColK 3 chgC w w.heap.size A6 n6 cs) (hn6 : n6 ≤ 140737488355328) (hs6 : ∀ x ∈ cs, x.1.size ≤ 140737488355328 ∧ x.2.1.size ≤ 140737488355328) :
 Calls Tryz.prog 9 #[v, .agg (stV h g (sumT L : Nat) (L.length : Nat) A5 n5 c5), .slice A6 n6 c6] w (ComR d h g L l cs w) :=
 (kcommit_any (n := 90) v d h g L A5 n5 c5 l A6 n6 c6 cs w hd hF hZ hg ht hl hP.ok hcs hn6 hs6).mono fun e w' hw => by
  rcases hw with ⟨_, er, he, hs⟩ | ⟨x, h2, g2, L2, A, nn, c, m, hr, _, hz, hg2, hcb, hpm, hlm, hL2, hcol, hs⟩ | ⟨_, hcb, x, m, hr, hx, hpm, hlm, hall, hs⟩
  ·obtain ⟨v', e1, e2, e3⟩ := id hs
   exact ⟨d, er, h, g, sumT L, L.length, A5, n5, c5, l, Lib.hid (.inl ⟨he, rfl, rfl, rfl, rfl, rfl, rfl⟩), hl.later e3, hs⟩
  ·refine ⟨x, 0, h2, g2, sumT L2, L2.length, A, nn, c, m, Lib.hid (.inr (.inl ⟨rfl, L2, hr, hz, hg2, rfl, rfl, ?_, hlm⟩)), hcol, hs⟩
   rcases hL2 with rfl | rfl
   ·exact hP.app hcb hpm hlm
   ·exact PlayOk.snap hpm
  ·obtain ⟨v', e1, e2, e3⟩ := id hs
   refine ⟨x, 9, h, g, sumT L, L.length, A5, n5, c5, l, Lib.hid (.inr (.inr ⟨rfl, m, hr, hx, hlm, fun i => ?_⟩)), hl.later e3, hs⟩
   obtain ⟨h3, g3, L3, a1, a2, a3⟩ := hall i
   exact ⟨h3, g3, L3, a1, a2, fall_play a3 hP hcb hpm hlm⟩
end Go.Proofs.YtcdehejgnnnimaaGreatDoor
