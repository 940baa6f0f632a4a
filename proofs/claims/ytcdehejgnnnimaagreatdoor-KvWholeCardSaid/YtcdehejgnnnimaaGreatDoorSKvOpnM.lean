/-
 A part of the proof: see the last text.
-/
import Derived.Test.YtcdehejgnnnimaaGreatDoorSKvRound
import Derived.Test.YtcdehejgnnnimaaGreatDoorSKvRise
import Derived.Test.YtcdehejgnnnimaaGreatDoorSKvRight
import Derived.Test.YtcdehejgnnnimaaGreatDoorSKvTrans
import Derived.Deep.RegionHeld
import Derived.Test.YtcdehejgnnnimaaGreatDoorSKvCom
import Derived.Test.YtcdehejgnnnimaaGreatDoorSKvForm
import Derived.Test.YtcdehejgnnnimaaGreatDoorSKvGet
namespace Go.Proofs.YtcdehejgnnnimaaGreatDoor
open List renaming setIfInBounds_toArray → jA, set_cons_zero → jB, set_cons_succ → jC
set_option linter.unusedVariables false
set_option linter.unusedSimpArgs false
open Go.RowKit Go.Maps
set_option linter.unusedVariables false
set_option linter.unusedSimpArgs false
theorem size_of_lists {w : World} {b n : Nat} {D : DataW Unit} {f : Fn} {m : List Pr} (hown : w.ownsMap Tryz.prog 9 pairElem b n D) (hR : Reads D f) (hL : Lists m f) : Maps.size D = m.length := by
 have hc : Collected D (fun _ => false) (m.map fun p => p.1.data.toList) := by
  refine ⟨?_, fun x => ?_⟩
  ·rw [show (m.map fun p => p.1.data.toList) = (m.map (·.1)).map (fun s => s.data.toList) by rw [List.map_map]; rfl]
   exact List.Pairwise.map _ (fun a b h e => h (data_eq e)) (rising_nodup hL.1)
  ·have hx : Lit.string x = keyL ⟨x.toArray⟩ := by unfold keyL; simp
   rw [hx, hR.has, List.mem_map]
   constructor
   ·rintro ⟨⟨k, v⟩, hp, rfl⟩
    refine ⟨?_, rfl⟩
    have := (hL.2 k v).1 hp
    rw [show (⟨k.data.toList.toArray⟩ : ByteArray) = k from data_eq (by simp), this]; rfl
   ·rintro ⟨h, _⟩
    obtain ⟨v, hv⟩ := Option.isSome_iff_exists.1 h
    exact ⟨_, (hL.2 _ v).2 hv, by simp⟩
 have hp := (hc.perm hown lawS Tryz.underlying9 (fun _ => rfl)).length_eq
 obtain ⟨es, rfl, _⟩ := hown.keysOf
 rw [List.length_map] at hp
 rw [hp]
 show es.length = (es.map _).length
 rw [List.length_map]
theorem MapIs.tight {w : World} {b n : Nat} {f : Fn} {m : List Pr} (h : MapIs w b n f) (hL : Lists m f) (hm : m.length ≤ 400) : ∃ D : DataW Unit, w.ownsMap Tryz.prog 9 pairElem b 400 D ∧ Reads D f ∧ Maps.size D = m.length := by
 obtain ⟨D, hown, hR⟩ := h
 have hs := size_of_lists hown hR hL
 refine ⟨D, ?_, hR, hs⟩
 obtain ⟨es, clock, h1, h2, h3, h4⟩ := hown
 refine ⟨es, clock, h1, h2, ?_, h4⟩
 subst h4
 have : es.size = m.length := by rw [← hs]; simp [Maps.size, length_sorted]
 omega
structure PlayOk (L : List (List Nat)) (m : List Pr) : Prop where
 dec : ∀ b ∈ L, decE b = 0
 le : ∀ i, ∃ l : List Pr, l.length ≤ 400 ∧ Lists l (playF (fun _ => none) (L.take i))
 ok : PairsOk m
 is : Lists m (playF (fun _ => none) L)
theorem rising_take {l : List Pr} (h : Rising l) (i : Nat) : Rising (l.take i) := List.Pairwise.sublist (List.take_sublist i l) h
theorem play_take {css : List (List Chg)} (h : ∀ cs ∈ css, changesB cs = true) (i : Nat) : playF (fun _ => none) ((css.map transN).take i) = runF (fun _ => none) (css.take i).flatten := by
 rw [← List.map_take]
 exact play_parts _ (fun cs hcs => h cs (List.mem_of_mem_take hcs)) _
theorem flatten_take {α : Type} (css : List (List α)) (i : Nat) : (css.take i).flatten = css.flatten.take (css.take i).flatten.length := by
 conv => rhs; rw [← List.take_append_drop i css, List.flatten_append]
 rw [List.take_append_drop i css, List.take_left]
theorem PlayOk.snap {l : List Pr} (h : PairsOk l) : PlayOk (snapL l) l := by
 obtain ⟨css, h1, h2, h3⟩ := snap_parts h.2.1 h.1
 refine ⟨fun b hb => ?_, fun i => ?_, h, by rw [play_snap h]; exact lists_fnOf h.2.2⟩
 ·rw [h1] at hb
  obtain ⟨cs, hcs, rfl⟩ := List.mem_map.1 hb
  exact (dec_back (h3 cs hcs)).1
 ·rw [h1, play_take h3, flatten_take, h2, ← List.map_take, runF_puts (fun _ => none), putsF_lists (rising_take h.2.2 _)]
  exact ⟨_, by rw [List.length_take]; have := h.1; omega, lists_fnOf (rising_take h.2.2 _)⟩
theorem PlayOk.fn {L : List (List Nat)} {m : List Pr} (h : PlayOk L m) : playF (fun _ => none) L = putsF (fun _ => none) m := by
 rw [h.is.eq_fn, putsF_lists h.ok.2.2]
theorem PlayOk.app {L : List (List Nat)} {l m : List Pr} {cs : List Chg} (h : PlayOk L l) (hcs : changesB cs = true) (hm : PairsOk m) (hl : Lists m (runF (putsF (fun _ => none) l) cs)) : PlayOk (L ++ [transN cs]) m := by
 have his : Lists m (playF (fun _ => none) (L ++ [transN cs])) := by
  rw [playF_snoc, (dec_back hcs).2, h.fn]; exact hl
 refine ⟨fun b hb => ?_, fun i => ?_, hm, his⟩
 ·rcases List.mem_append.1 hb with hb | hb
  ·exact h.dec b hb
  ·rw [List.mem_singleton.1 hb]; exact (dec_back hcs).1
 ·by_cases hi : i ≤ L.length
  ·rw [List.take_append_of_le_length hi]
   exact h.le i
  ·rw [List.take_of_length_le (by rw [List.length_append, List.length_singleton]; omega)]
   exact ⟨m, hm.1, his⟩
theorem DkAt.keep {w w' : World} {B : Nat} {v : Value} {d : Dk} (h : DkAt w B v d) (hk : ∀ p : Addr, p.block < B → w'.cell? p = w.cell? p) : DkAt w' B v d := by
 obtain ⟨A, n, c, A', n', c', e, h1, h2, h3, h4, h5, h6⟩ := h
 exact ⟨A, n, c, A', n', c', e, h1, h2, h3, h4, h5.keep hk, h6.keep hk⟩
theorem MapIs.below {w w' : World} {b n B : Nat} {f : Fn} (h : MapIs w b n f) (hb : Below B w w') (hB : b < B) : MapIs w' b n f := by
 obtain ⟨D, ⟨es, clock, h1, r⟩, hr⟩ := h
 exact ⟨D, ⟨es, clock, (hb.block b hB).trans h1, r⟩, hr⟩
theorem MapIs.nocell {w : World} {b n : Nat} {f : Fn} (h : MapIs w b n f) {p : Addr} (hp : p.block = b) : w.cell? p = none := by
 obtain ⟨D, ⟨es, clock, h1, _⟩, _⟩ := h
 simp [World.cell?, hp, h1]
theorem map_keep {w w' : World} {b n n' : Nat} {f f' : Fn} (h : MapIs w b n f) (h' : MapIs w' b n' f') (hg : w.grownBy w' (some b)) : ∀ p : Addr, p.block < w.heap.size → w'.cell? p = w.cell? p := fun p hp => by
 by_cases e : p.block = b
 ·rw [h.nocell e, h'.nocell e]
 ·exact World.cell?_of_block (w := w) (hg.block p.block hp (fun q => e (Option.some.inj q)))
theorem Bk.map {w w' : World} {b n g : Nat} {f : Fn} {t : TypeId} {cs : Array Value} (h : Bk w g t cs) (hm : MapIs w b n f) (hg : w.grownBy w' (some b)) : Bk w' g t cs := by
 refine (hg.block g h.lt (fun q => ?_)).trans h
 injection q with q
 subst q
 have h1 := h.cell 0
 obtain ⟨D, ⟨es, clock, h2, _⟩, _⟩ := hm
 unfold Bk at h
 rw [h] at h2
 cases h2
end Go.Proofs.YtcdehejgnnnimaaGreatDoor
namespace Go.Proofs.YtcdehejgnnnimaaGreatDoor
open List renaming setIfInBounds_toArray → jA, set_cons_zero → jB, set_cons_succ → jC
set_option linter.unusedVariables false
set_option linter.unusedSimpArgs false
open Go.RowKit Go.Maps
set_option linter.unusedVariables false
set_option linter.unusedSimpArgs false
theorem exec_loadK {P : Program} {o : Oper} {ρ : Operand → Value} {w : World} {ty : TypeId} {x : Operand} (ho : o.op = .load ty x) {b off : Nat} (hx : ρ x = .pointer (some ⟨b, off, none⟩)) {cs : Array Value} {d : TypeDesc} (hc : w.rangeAt b off cs.toList)
 (hu : P.underlying ty = some d) (hd : d.isRow = true) (hi : (P.info? ty).map (·.size) = some cs.size) : (execOp ρ o).run P w = .ok (.value (.agg cs)) w := by
 unfold execOp
 simp only [ho, hx, Instr.loadAt, Instr.sureAddr, Sem.run_bind, Sem.run_pure, Result.andThen_ok, run_loadVar_mid w b off ty cs.toList d hc hu hd (by rw [Array.length_toList]; exact hi), Array.toArray_toList]
theorem Bk.rangeK {w : World} {b : Nat} {t : TypeId} {cs : Array Value} (h : Bk w b t cs) : w.rangeAt b 0 cs.toList := fun i v hv => by
 rw [Nat.zero_add, h.cell, ← Array.getElem?_toList]; exact hv
theorem take_textK {L : List (List Nat)} {k : Nat} (hk : k < L.length) : L.take (k + 1) = L.take k ++ [textAt L k] := by
 rw [List.take_succ_eq_append_getElem hk]
 congr 2
 unfold textAt
 rw [List.getD_eq_getElem?_getD, List.getElem?_eq_getElem hk]; rfl
theorem sizeDisk : (Tryz.prog.info? 27).map (·.size) = some 4 := by kernel_rfl
theorem sizeLog : (Tryz.prog.info? 32).map (·.size) = some 4 := by kernel_rfl
theorem dec_ok {b : List Nat} {w w' : World} {e : Ending} (h : DecIs b w e w') (h0 : decE b = 0) : ∃ A n c, e = .returned (.tuple #[.slice A n c, .int .i64 0]) ∧ OwnK 3 chgC w' w.heap.size 52 A n c (decV b) ∧ Below w.heap.size w w' := by
 obtain ⟨A, n, c, rfl, h1, h2⟩ := h
 exact ⟨A, n, c, by rw [h0] <;> rfl, h1, h2⟩
def OffR (A : Option Addr) (n b1 b5 : Nat) : Prop := 0 < n → ∃ b, A = some ⟨b, 0, none⟩ ∧ b ≠ b1 ∧ b ≠ b5
structure OpK (w : World) (x : Dk) (A9 A9' AR : Option Addr) (n9 c9 n9' c9' : Nat) (L : List (List Nat)) (b1 b2 b3 b5 : Nat) (r1 r5 : Array Value) (W : World) : Prop where
 k1 : Bk W b1 27 r1
 k2 : Bk W b2 27 #[.slice none 0 0, .slice none 0 0, .int .i64 0, .bool false]
 k3 : Bk W b3 35 #[.int .i64 0, .int .i64 0, .int .i64 0, .int .i64 0, .slice none 0 0]
 k5 : Bk W b5 32 r5
 hd : DkAt W W.heap.size (.agg #[.slice A9 n9 c9, .slice A9' n9' c9', .int .i64 x.fuse, .bool x.down]) x
 hr : Rss W W.heap.size AR L.length L
 hb : Below w.heap.size w W
theorem OpK.below {w W W' : World} {x : Dk} {A9 A9' AR : Option Addr} {n9 c9 n9' c9' : Nat} {L : List (List Nat)} {b1 b2 b3 b5 : Nat} {r1 r5 : Array Value} (H : OpK w x A9 A9' AR n9 c9 n9' c9' L b1 b2 b3 b5 r1 r5 W) (hb : Below W.heap.size W W') : OpK w x A9 A9' AR n9 c9 n9' c9' L b1 b2 b3 b5 r1 r5 W' :=
 ⟨H.k1.below hb H.k1.lt, H.k2.below hb H.k2.lt, H.k3.below hb H.k3.lt, H.k5.below hb H.k5.lt, H.hd.later hb, H.hr.later hb, H.hb.trans (hb.mono H.hb.size)⟩
theorem size_stored4 (W : World) (b : Nat) (a0 a1 a2 a3 : Value) : (stored4 W b a0 a1 a2 a3).heap.size = W.heap.size := by unfold stored4; simp
theorem OpK.disk {w W : World} {x : Dk} {A9 A9' AR : Option Addr} {n9 c9 n9' c9' : Nat} {L : List (List Nat)} {b1 b2 b3 b5 : Nat} {A1 A1' : Option Addr} {n1 c1 n1' c1' : Nat} {f : Int} {dn : Bool} {r5 : Array Value}
 (H : OpK w x A9 A9' AR n9 c9 n9' c9' L b1 b2 b3 b5 #[.slice A1 n1 c1, .slice A1' n1' c1', .int .i64 f, .bool dn] r5 W) (h1 : w.heap.size ≤ b1) (hn : b2 ≠ b1 ∧ b3 ≠ b1 ∧ b5 ≠ b1) (ho : OffR AR L.length b1 b5) :
 OpK w x A9 A9' AR n9 c9 n9' c9' L b1 b2 b3 b5 #[.slice A9 n9 c9, .slice A9' n9' c9', .int .i64 x.fuse, .bool x.down] r5 (stored4 W b1 (.slice A9 n9 c9) (.slice A9' n9' c9') (.int .i64 x.fuse) (.bool x.down)) := by
 have hf := stored4_facts H.k1 (.slice A9 n9 c9) (.slice A9' n9' c9') (.int .i64 x.fuse) (.bool x.down)
 refine ⟨hf.1, hf.2.2.2 _ _ _ hn.1 H.k2, hf.2.2.2 _ _ _ hn.2.1 H.k3, hf.2.2.2 _ _ _ hn.2.2 H.k5, hf.2.1 _ _ H.hd, ?_, hf.2.2.1 _ _ H.hb h1⟩
 rw [size_stored4]
 exact rss_stored4 H.hr (fun o k h => by rcases four_cell H.k1 h with ⟨_, h⟩ | ⟨_, h⟩ | ⟨_, h⟩ | ⟨_, h⟩ <;> cases h) (fun o h0 e => by
  obtain ⟨b, rfl, hb, _⟩ := ho h0
  injection e with e
  injection e with e
  exact hb e) _ _ _ _
theorem OpK.log {w W : World} {x : Dk} {A9 A9' AR : Option Addr} {n9 c9 n9' c9' : Nat} {L : List (List Nat)} {b1 b2 b3 b5 : Nat} {e0 e1 e2 e3 : Int} {r1 : Array Value}
 (H : OpK w x A9 A9' AR n9 c9 n9' c9' L b1 b2 b3 b5 r1 #[.int .i64 e0, .int .i64 e1, .int .i64 e2, .int .i64 e3] W) (h5 : w.heap.size ≤ b5) (hn : b1 ≠ b5 ∧ b2 ≠ b5 ∧ b3 ≠ b5) (ho : OffR AR L.length b1 b5) (z0 z1 z2 z3 : Value) :
 OpK w x A9 A9' AR n9 c9 n9' c9' L b1 b2 b3 b5 r1 #[z0, z1, z2, z3] (stored4 W b5 z0 z1 z2 z3) := by
 have hf := stored4_facts H.k5 z0 z1 z2 z3
 refine ⟨hf.2.2.2 _ _ _ hn.1 H.k1, hf.2.2.2 _ _ _ hn.2.1 H.k2, hf.2.2.2 _ _ _ hn.2.2 H.k3, hf.1, hf.2.1 _ _ H.hd, ?_, hf.2.2.1 _ _ H.hb h5⟩
 rw [size_stored4]
 exact rss_stored4 H.hr (fun o k h => by rcases four_cell H.k5 h with ⟨_, h⟩ | ⟨_, h⟩ | ⟨_, h⟩ | ⟨_, h⟩ <;> cases h) (fun o h0 e => by
  obtain ⟨b, rfl, _, hb⟩ := ho h0
  injection e with e
  injection e with e
  exact hb e) _ _ _ _
theorem OpK.map {w W W' : World} {x : Dk} {A9 A9' AR : Option Addr} {n9 c9 n9' c9' : Nat} {L : List (List Nat)} {b1 b2 b3 b5 bm n n' : Nat} {f f' : Fn} {r1 r5 : Array Value} (H : OpK w x A9 A9' AR n9 c9 n9' c9' L b1 b2 b3 b5 r1 r5 W) (hm : MapIs W bm n f) (hm' : MapIs W' bm n' f') (hg : W.grownBy W' (some bm)) (hbm : w.heap.size ≤ bm) : OpK w x A9 A9' AR n9 c9 n9' c9' L b1 b2 b3 b5 r1 r5 W' := by
 have hk := map_keep hm hm' hg
 exact ⟨H.k1.map hm hg, H.k2.map hm hg, H.k3.map hm hg, H.k5.map hm hg, (H.hd.keep hk).more hg.size, (H.hr.keep hk).more hg.size, H.hb.grown hg H.hb.size (fun k hk => by cases hk; exact hbm)⟩
def OpnWaysK (n : Nat) (d : Dk) (h g : Nat) (L : List (List Nat)) (m : List Pr) (w : World) (e : Ending) (w' : World) : Prop :=
 (∃ (x : Dk) (A : Option Addr) (nn c : Nat), Rest n x ∧ (d.fuse = -1 → x.fuse = -1) ∧ HoldsZ n x (1 - h) (g + 1) L ∧ ColK 2 pairC w' w'.heap.size A nn m ∧ StoRes w (x, 0) ((1 - h : Nat) : Int) ((g + 1 : Nat) : Int) (sumT L : Nat) (L.length : Nat) A nn c e w') ∨
 (d.fuse ≠ -1 ∧ ∃ x : Dk, rightB x = true ∧ x.secs.length = n ∧ (∀ m, Holds n (startM x m).1 h g L ∨ Holds n (startM x m).1 (1 - h) (g + 1) L) ∧ StoRes w (x, 9) 0 0 0 0 none 0 0 e w')
set_option maxRecDepth 100000 in
set_option maxHeartbeats 4000000 in
theorem kopen_any {n : Nat} (v : Value) (d : Dk) (h g : Nat) (L : List (List Nat)) (m : List Pr) (w : World) (hd : DkAt w w.heap.size v d) (hF : Rest n d) (hZ : Holds n d h g L) (hg : g < 1099511627776) (ht : Tab w) (hP : PlayOk L m) (hLn : L.length ≤ 100000) :
 Calls Tryz.prog 13 #[v] w (OpnWaysK n d h g L m w) := by
 obtain ⟨A1, n1, c1, A1', n1', c1', rfl, hx⟩ := hd
 have HD := Lib.hid (show DkAt w w.heap.size (.agg #[.slice A1 n1 c1, .slice A1' n1' c1', .int .i64 d.fuse, .bool d.down]) d from ⟨A1, n1, c1, A1', n1', c1', rfl, hx⟩)
 have HF := Lib.hid hF
 have HT := Lib.hid ht
 have HZ := Lib.hid hZ
 have HP := Lib.hid hP
 have HG := Lib.hid hg
 clear hF ht hx hZ hP hg
 go_enter Tryz.func13, Tryz.ntmps13
 go_wp2_with fail
 obtain ⟨b1, hb1⟩ : ∃ b, b = w.heap.size := ⟨_, rfl⟩
 obtain ⟨b2, hb2⟩ : ∃ b, b = w.heap.size + 1 := ⟨_, rfl⟩
 obtain ⟨b3, hb3⟩ : ∃ b, b = w.heap.size + 1 + 1 := ⟨_, rfl⟩
 refine calls_over (fun W => Bk W b1 27 #[.slice A1 n1 c1, .slice A1' n1' c1', .int .i64 d.fuse, .bool d.down] ∧ Bk W b2 27 #[.slice none 0 0, .slice none 0 0, .int .i64 0, .bool false] ∧ Bk W b3 35 #[.int .i64 0, .int .i64 0, .int .i64 0, .int .i64 0, .slice none 0 0] ∧ DkAt W W.heap.size (.agg #[.slice A1 n1 c1, .slice A1' n1' c1', .int .i64 d.fuse, .bool d.down]) d ∧ Below w.heap.size w W) ⟨by rw [hb1]; exact ((Bk.new w _ _).alloc _).alloc _, by rw [hb2]; exact (Bk.new2 w _ _ _).alloc _, by rw [hb3]; exact Bk.new3 w _ _ _ _, HD.out.later ((((Below.refl w.heap.size w).alloc (Nat.le_refl _) _).alloc (by simp) _).alloc (by simp only [World.size_alloc]; omega) _), (((Below.refl w.heap.size w).alloc (Nat.le_refl _) _).alloc (by simp) _).alloc (by simp only [World.size_alloc]; omega) _⟩ ?_
 rintro W1 ⟨k1, k2, k3, hd1, hbw⟩
 rw [← hb3, ← hb2, ← hb1]
 have hl1 : w.heap.size ≤ b1 := by omega
 have hl2 : w.heap.size ≤ b2 := by omega
 have hl3 : w.heap.size ≤ b3 := by omega
 obtain ⟨hn12, hn13, hn23⟩ : b2 ≠ b1 ∧ b3 ≠ b1 ∧ b3 ≠ b2 := by omega
 clear hb1 hb2 hb3
 refine (open_ways _ d h g L W1 hd1 HF.out HZ.out HG.out (HT.out.below hbw HT.out.pos)).mono ?_
 intro e W2 hways
 rcases hways with ⟨x, hRx, hfx, hZx, hres⟩ | ⟨hfd, x, hRx, hlx, hZx, hres⟩
 ·obtain ⟨v9, AR, cR, rfl, hd9, hLc, hcm, hrs, hba, hoff⟩ := hres
  have hoff2 : 0 < L.length → ∃ b, AR = some ⟨b, 0, none⟩ ∧ W1.heap.size ≤ b ∧ b < W2.heap.size := fun h0 => by
   obtain ⟨b, hb, hb2⟩ := hoff h0
   obtain ⟨b', o', hb', hb3, _⟩ := hrs.2 h0
   rw [hb] at hb'
   injection hb' with hb'
   injection hb' with hb'
   exact ⟨b, hb, hb2, by omega⟩
  clear hoff hcm
  obtain ⟨A9, n9, c9, A9', n9', c9', rfl, hx9⟩ := hd9
  have hd9 : DkAt W2 W2.heap.size (.agg #[.slice A9 n9 c9, .slice A9' n9' c9', .int .i64 x.fuse, .bool x.down]) x := ⟨A9, n9, c9, A9', n9', c9', rfl, hx9⟩
  clear hx9
  have hk1 := k1.below hba k1.lt
  have hk2 := k2.below hba k2.lt
  have hk3 := k3.below hba k3.lt
  have hbw2 := hbw.trans (hba.mono hbw.size)
  obtain ⟨⟨p0, p1, p2, p3⟩, q0, q1, q2, q3⟩ := hk1.four
  have H0 := Lib.hid (And.intro hk1 (And.intro hk2 (And.intro hk3 (And.intro hd9 (And.intro hrs hbw2)))))
  have hlt1 := k1.lt
  have hlt2 := k2.lt
  have hlt3 := k3.lt
  have hsz := hba.size
  clear hk1 hk2 hk3 hd9 hrs hbw2 hbw hba k1 k2 k3 hd1
  unfold logN
  go_wp2_with ((with_reducible show wpList _ _ _ (⟨none, _, _, _, _, _⟩ :: _) _ _); refine hold ?_)
  obtain ⟨hk1, hk2, hk3, hd9, hrs, hbw2⟩ := H0.out
  have hba : Below W2.heap.size W2 (W2.alloc (.cells #[.int .i64 0, .int .i64 0, .int .i64 0, .int .i64 0] 32)) := (Below.refl _ _).alloc (Nat.le_refl _) _
  refine list_over (OpK w x A9 A9' AR n9 c9 n9' c9' L b1 b2 b3 W2.heap.size #[.slice A1 n1 c1, .slice A1' n1' c1', .int .i64 d.fuse, .bool d.down] #[.int .i64 0, .int .i64 0, .int .i64 0, .int .i64 0]) ⟨hk1.below hba hk1.lt, hk2.below hba hk2.lt, hk3.below hba hk3.lt, Bk.new _ _ _, hd9.later hba, hrs.later hba, hbw2.trans (hba.mono hbw2.size)⟩ ?_
  have hl5 : w.heap.size ≤ W2.heap.size := hbw2.size
  obtain ⟨b5, hb5⟩ : ∃ b, b = W2.heap.size := ⟨_, rfl⟩
  have HOFF : Hid (OffR AR (L : List (List Nat)).length b1 b5) := Lib.hid (fun h0 => by obtain ⟨b, hb, hb2, hb3⟩ := hoff2 h0; exact ⟨b, hb, by omega, by omega⟩)
  rw [← hb5] at hl5 ⊢
  obtain ⟨hm1, hm2, hm3⟩ : b5 ≠ b1 ∧ b5 ≠ b2 ∧ b5 ≠ b3 := by omega
  clear hb5 hba hk1 hk2 hk3 hd9 hrs hbw2 H0 p0 p1 p2 p3 q0 q1 q2 q3 hlt1 hlt2 hlt3 hsz hoff2
  intro W7 H7
  have HS := Lib.hid (H7.disk hl1 ⟨hn12, hn13, hm1⟩ HOFF.out)
  obtain ⟨⟨p0, p1, p2, p3⟩, q0, q1, q2, q3⟩ := H7.k1.four
  unfold stored4 at HS
  clear H7
  refine held ?_
  go_wp2_with ((with_reducible show wpList _ _ _ (⟨none, .store 32 _ _, _, _, _, _⟩ :: _) _ _); refine hold ?_)
  refine list_over _ HS.out ?_
  clear HS p0 p1 p2 p3 q0 q1 q2 q3
  intro W8 H8
  have HS := Lib.hid (H8.log hl5 ⟨Ne.symm hm1, Ne.symm hm2, Ne.symm hm3⟩ HOFF.out (.int .i64 ((1 - h : Nat) : Int)) (.int .i64 ((g + 1 : Nat) : Int)) (.int .i64 ((sumT L : Nat) : Int)) (.int .i64 ((L.length : Nat) : Int)))
  obtain ⟨⟨p0, p1, p2, p3⟩, q0, q1, q2, q3⟩ := H8.k5.four
  unfold stored4 at HS
  clear H8
  refine held ?_
  have HS2 := HS
  clear HS
  have hmm := @run_makeMap Tryz.prog
  have hw8 : w.heap.size ≤ W8.heap.size := by have := HS2.out.hb.size; simpa using this
  have HM8 : Hid (∀ X : World, X.heap.size = W8.heap.size → MapIs (X.alloc (.map #[] 0)) W8.heap.size 0 (fun _ => none)) := Lib.hid fun X hX => by rw [← hX]; exact MapIs.made X
  go_wp2_with fail
  clear hmm
  refine code_over (fun W => OpK w x A9 A9' AR n9 c9 n9' c9' L b1 b2 b3 b5 #[.slice A9 n9 c9, .slice A9' n9' c9', .int .i64 x.fuse, .bool x.down] #[.int .i64 ((1 - h : Nat) : Int), .int .i64 ((g + 1 : Nat) : Int), .int .i64 ((sumT L : Nat) : Int), .int .i64 ((L.length : Nat) : Int)] W ∧ MapIs W W8.heap.size 0 (fun _ => none)) ⟨HS2.out.below ((Below.refl _ _).alloc (Nat.le_refl _) _), HM8.out _ (by simp)⟩ ?_
  clear HS2 HM8 p0 p1 p2 p3 q0 q1 q2 q3
  obtain ⟨bm, hbm⟩ : ∃ b, b = W8.heap.size := ⟨_, rfl⟩
  rw [← hbm] at hw8 ⊢
  clear hbm
  rintro W10 ⟨h10, hm10⟩
  have H10 := Lib.hid h10
  have HM10 := Lib.hid hm10
  have HRX := Lib.hid hRx; have HFX := Lib.hid hfx; have HZX := Lib.hid hZx
  clear h10 hm10 hRx hfx hZx
  have HMO : Hid (MapIs W10 bm 400 (fun _ => none)) := Lib.hid (HM10.out.mono (by omega))
  clear HM10
  go_loopw [28] (fun i wx => ∃ k : Nat, k ≤ L.length ∧ i = .int .i64 (k : Int) ∧ OpK w x A9 A9' AR n9 c9 n9' c9' L b1 b2 b3 b5 #[.slice A9 n9 c9, .slice A9' n9' c9', .int .i64 x.fuse, .bool x.down] #[.int .i64 ((1 - h : Nat) : Int), .int .i64 ((g + 1 : Nat) : Int), .int .i64 ((sumT L : Nat) : Int), .int .i64 ((L.length : Nat) : Int)] wx ∧ MapIs wx bm 400 (playF (fun _ => none) (L.take k))) (fun i _ => L.length - (intOf i).toNat)
  case atStart => exact ⟨0, Nat.zero_le _, rfl, H10.out, HMO.out⟩
  case round =>
   obtain ⟨k, hk, rfl, hok, hmk⟩ := hrel
   have HO := Lib.hid hok
   have HMK := Lib.hid hmk
   clear hok hmk H10 HMO
   by_cases hlt : k < L.length
   ·obtain ⟨b, o, A', n', c', rfl, hbb, hcell, hnc, hcm, hn', hby⟩ := HO.out.hr.at_ hlt
    have hk0 : (0 : Int) ≤ (k : Int) := by omega
    have hkn : (k : Int) < (L.length : Int) := by omega
    have hkm : IntKind.i64.wrap ((k : Int) + 1) = (k : Int) + 1 := IntWalk.i64_in _ (by omega)
    have hmem : textAt L k ∈ L := textAt_mem hlt
    have h0 := HP.out.dec _ hmem
    have HD0 := Lib.hid h0
    have HTK : Hid (playF (fun _ => none) (L.take (k + 1)) = runF (playF (fun _ => none) (L.take k)) (decV (textAt L k))) := Lib.hid (by rw [take_textK hlt, playF_snoc])
    have HBY := Lib.hid hby
    clear hmem h0 hby
    go_wp2_with fail
    refine (decode_any A' n' c' wr.heap.size (textAt L k) wr HBY.out hn').mono ?_
    intro e W2 hdec
    obtain ⟨A2, n2, c2, rfl, ho2, hb2⟩ := dec_ok hdec HD0.out
    have HO2 := Lib.hid (HO.out.below hb2)
    have hbml := HMK.out.lt
    have HM2 := Lib.hid (HMK.out.below hb2 hbml)
    have hn2 : n2 ≤ 400 := by rw [← ho2.len]; exact decV_len _
    have HNE : Hid (0 < n2 → ∀ p, A2 = some p → p.block ≠ bm) := Lib.hid (fun h0 p hp => by
     obtain ⟨g0, hg0, hg1, hg2, _⟩ := ho2.range h0
     rw [hg0] at hp
     obtain rfl := Option.some.inj hp
     show g0 ≠ bm
     omega)
    have HCH := Lib.hid (change_any bm 400 _ A2 n2 c2 (decV (textAt L k)) W2 HM2.out ho2.col HNE.out (fun y hy => by have := (decV_size _ y hy).1; omega) (by omega) (by omega))
    clear hdec ho2 hb2 HBY HO HMK hcell hbb
    go_wp2_with fail
    refine HCH.out.mono ?_
    rintro e W3 ⟨rfl, hm3, hg3⟩
    have HO3 := Lib.hid (HO2.out.map HM2.out hm3 hg3 hw8)
    obtain ⟨l3, hl3', hli⟩ := HP.out.le (k + 1)
    rw [HTK.out] at hli
    obtain ⟨D, hown, hrd, hsz⟩ := hm3.tight hli hl3'
    have HSZ := Lib.hid hsz
    have HOWN := Lib.hid hown
    have HRD := Lib.hid hrd
    have hl4 : ¬ (400 : Int) < (l3.length : Int) := by omega
    clear hm3 hg3 HCH HO2 HM2 HNE hli hsz hown hrd
    go_wp2_with ((with_reducible show wpList _ _ _ (⟨some 45, _, _, _, _, _⟩ :: _) _ _); refine hold ?_)
    refine held (wpList_len_own _ rfl (.tmp 44) 72 rfl 9 60 Tryz.underlying72 pairElem bm 400 D rfl HOWN.out ?_)
    rw [HSZ.out]
    go_wp2_with fail
    go_roundw
    case rel => exact ⟨k + 1, by omega, by go_num, HO3.out, D, HOWN.out, by rw [HTK.out]; exact HRD.out⟩
    case measure => simp [intOf]; omega
   ·have hkn : ¬ (k : Int) < (L.length : Int) := by omega
    have hmf : MapIs wr bm 400 (playF (fun _ => none) L) := by have := HMK.out; rwa [List.take_of_length_le (by omega)] at this
    have HMF := Lib.hid hmf
    have hm : Tryz.prog.follows .mixedOrders = true := by kernel_rfl
    clear hmf HMK hlt hk
    go_wp2_with fail
    refine wp_region_held_drew (S := fun W' => Below w.heap.size w W' ∧ Bk W' b1 27 #[.slice A9 n9 c9, .slice A9' n9' c9', .int .i64 x.fuse, .bool x.down] ∧ Bk W' b5 32 #[.int .i64 ((1 - h : Nat) : Int), .int .i64 ((g + 1 : Nat) : Int), .int .i64 ((sumT L : Nat) : Int), .int .i64 ((L.length : Nat) : Int)]) hm ⟨HO.out.hb.drew, HO.out.k1.drew, HO.out.k5.drew⟩ (fun hHeld => ?_)
    have HOV := Lib.hid (HO.out.below (Below.refl _ _).drew)
    have HMV := Lib.hid (HMF.out.below (Below.refl _ _).drew HMF.out.lt)
    clear HO HMF
    obtain ⟨V0, hV0⟩ : ∃ V, V = wr.drew := ⟨_, rfl⟩
    rw [← hV0] at hHeld HOV HMV ⊢
    clear hV0
    simp only [List.size_toArray, List.length_cons, List.length_nil, Nat.reduceAdd]
    refine wpAnyH_take (i := 0) (v := .agg #[.slice A9 n9 c9, .slice A9' n9' c9', .int .i64 x.fuse, .bool x.down]) rfl (by kernel_rfl) (by kernel_rfl) (by kernel_rfl) (fun _ _ _ h => h) (Or.inl ⟨by rfl, fun w0 hC => exec_loadK rfl rfl hC.2.1.rangeK Tryz.underlying27 rfl sizeDisk⟩) hHeld ?_
    try simp only [Act.put, jA, jB, jC]
    refine wpAnyH_take (i := 1) (v := .agg #[.int .i64 ((1 - h : Nat) : Int), .int .i64 ((g + 1 : Nat) : Int), .int .i64 ((sumT L : Nat) : Int), .int .i64 ((L.length : Nat) : Int)]) rfl (by kernel_rfl) (by kernel_rfl) (by kernel_rfl) (fun _ _ _ h => h) (Or.inl ⟨by rfl, fun w0 hC => exec_loadK rfl rfl hC.2.2.rangeK Tryz.underlying32 rfl sizeLog⟩) hHeld ?_
    try simp only [Act.put, jA, jB, jC]
    refine wpAnyH_take (i := 2) (v := .map (some bm)) rfl (by kernel_rfl) (by kernel_rfl) (by kernel_rfl) (fun _ _ _ h => h) (Or.inl ⟨by rfl, fun w0 hC => by simp [execOp, Act.eval, Act.put, go_sem]⟩) hHeld ?_
    try simp only [Act.put, jA, jB, jC]
    refine wpAnyH_ready (rs := [3]) (by kernel_rfl) (by simp) (AllReadyH.cons rfl (fun K hK => ?_) AllReadyH.nil)
    rw [if_pos (by rfl)]
    go_wp2_with fail
    refine (rising_any bm 400 _ V0 HMV.out (by omega)).mono ?_
    rintro e V1 ⟨A8, n8, c8, l8, rfl, ho8, hl8, hb8⟩
    have hl8m : l8 = m := hl8.unique HP.out.is
    subst hl8m
    have HOW := Lib.hid (HOV.out.below hb8)
    have HO8 := Lib.hid ho8
    have h0b1 : b1 < V0.heap.size := hHeld.2.1.lt
    have h0b2 : b2 < V0.heap.size := HOV.out.k2.lt
    have h0b3 : b3 < V0.heap.size := HOV.out.k3.lt
    have HNB : Hid (0 < n8 → ∀ p, A8 = some p → p.block ≠ b2 ∧ p.block ≠ b3) := Lib.hid (fun h0 p hp => by
     obtain ⟨g0, hg0, hg1, hg2, _⟩ := ho8.range h0
     rw [hg0] at hp
     obtain rfl := Option.some.inj hp
     show g0 ≠ b2 ∧ g0 ≠ b3
     omega)
    have hS : Below w.heap.size w V1 ∧ Bk V1 b1 27 #[.slice A9 n9 c9, .slice A9' n9' c9', .int .i64 x.fuse, .bool x.down] ∧ Bk V1 b5 32 #[.int .i64 ((1 - h : Nat) : Int), .int .i64 ((g + 1 : Nat) : Int), .int .i64 ((sumT L : Nat) : Int), .int .i64 ((L.length : Nat) : Int)] := ⟨HOW.out.hb, HOW.out.k1, HOW.out.k5⟩
    clear hHeld ho8 hl8 hb8 HOV HMV h0b1 h0b2 h0b3
    refine hK.out _ _ hS (fun hHeld => ?_)
    clear hK K
    try simp only [Act.put, jA, jB, jC]
    clear hS
    refine wpAnyH_take (i := 4) (v := .agg #[.int .i64 ((1 - h : Nat) : Int), .int .i64 ((g + 1 : Nat) : Int), .int .i64 ((sumT L : Nat) : Int), .int .i64 ((L.length : Nat) : Int), .slice A8 n8 c8]) rfl (by kernel_rfl) (by kernel_rfl) (by kernel_rfl) (fun _ _ _ h => h) (Or.inl ⟨by rfl, fun w0 hC => by simp [execOp, Act.eval, Act.put, go_sem]⟩) hHeld ?_
    try simp only [Act.put, jA, jB, jC]
    obtain ⟨⟨p0, p1, p2, p3⟩, q0, q1, q2, q3⟩ := HOW.out.k2.four
    have hf5 := stored4_facts HOW.out.k2 (.slice A9 n9 c9) (.slice A9' n9' c9') (.int .i64 x.fuse) (.bool x.down)
    have HS : Hid ((fun W' => (Below w.heap.size w W' ∧ Bk W' b1 27 #[.slice A9 n9 c9, .slice A9' n9' c9', .int .i64 x.fuse, .bool x.down] ∧ Bk W' b5 32 #[.int .i64 ((1 - h : Nat) : Int), .int .i64 ((g + 1 : Nat) : Int), .int .i64 ((sumT L : Nat) : Int), .int .i64 ((L.length : Nat) : Int)]) ∧ Bk W' b2 27 #[.slice A9 n9 c9, .slice A9' n9' c9', .int .i64 x.fuse, .bool x.down] ∧ Bk W' b3 35 #[.int .i64 0, .int .i64 0, .int .i64 0, .int .i64 0, .slice none 0 0] ∧ DkAt W' W'.heap.size (.agg #[.slice A9 n9 c9, .slice A9' n9' c9', .int .i64 x.fuse, .bool x.down]) x ∧ ColK 2 pairC W' W'.heap.size A8 n8 l8) (stored4 V1 b2 (.slice A9 n9 c9) (.slice A9' n9' c9') (.int .i64 x.fuse) (.bool x.down))) := Lib.hid ⟨⟨hf5.2.2.1 _ _ HOW.out.hb hl2, hf5.2.2.2 _ _ _ (Ne.symm hn12) HOW.out.k1, hf5.2.2.2 _ _ _ hm2 HOW.out.k5⟩, hf5.1, hf5.2.2.2 _ _ _ hn23 HOW.out.k3, hf5.2.1 _ _ HOW.out.hd, col_stored4 HO8.out.col b2 (fun h0 p hp => (HNB.out h0 p hp).1) _ _ _ _⟩
    unfold stored4 at HS
    clear hf5
    refine wpAnyH_ready (rs := [5]) (by kernel_rfl) (by simp) (AllReadyH.cons rfl (fun K hK => ?_) AllReadyH.nil)
    rw [if_pos (by rfl)]
    go_wp2_with fail
    refine k_over (fun W' => (Below w.heap.size w W' ∧ Bk W' b1 27 #[.slice A9 n9 c9, .slice A9' n9' c9', .int .i64 x.fuse, .bool x.down] ∧ Bk W' b5 32 #[.int .i64 ((1 - h : Nat) : Int), .int .i64 ((g + 1 : Nat) : Int), .int .i64 ((sumT L : Nat) : Int), .int .i64 ((L.length : Nat) : Int)]) ∧ Bk W' b2 27 #[.slice A9 n9 c9, .slice A9' n9' c9', .int .i64 x.fuse, .bool x.down] ∧ Bk W' b3 35 #[.int .i64 0, .int .i64 0, .int .i64 0, .int .i64 0, .slice none 0 0] ∧ DkAt W' W'.heap.size (.agg #[.slice A9 n9 c9, .slice A9' n9' c9', .int .i64 x.fuse, .bool x.down]) x ∧ ColK 2 pairC W' W'.heap.size A8 n8 l8) HS.out ?_
    clear HS p0 p1 p2 p3 q0 q1 q2 q3 hHeld HOW HO8
    rintro V2 ⟨hS, k2, k3, hd9, hcol⟩
    refine hK.out _ _ hS (fun hHeld => ?_)
    clear hK K
    try simp only [Act.put, jA, jB, jC]
    clear hS
    obtain ⟨⟨p0, p1, p2, p3, p4⟩, q0, q1, q2, q3, q4⟩ := k3.five
    have hf6 := stored5_facts k3 (.int .i64 ((1 - h : Nat) : Int)) (.int .i64 ((g + 1 : Nat) : Int)) (.int .i64 ((sumT L : Nat) : Int)) (.int .i64 ((L.length : Nat) : Int)) (.slice A8 n8 c8)
    have HS : Hid ((fun W' => (Below w.heap.size w W' ∧ Bk W' b1 27 #[.slice A9 n9 c9, .slice A9' n9' c9', .int .i64 x.fuse, .bool x.down] ∧ Bk W' b5 32 #[.int .i64 ((1 - h : Nat) : Int), .int .i64 ((g + 1 : Nat) : Int), .int .i64 ((sumT L : Nat) : Int), .int .i64 ((L.length : Nat) : Int)]) ∧ LiesS w b2 b3 A9 A9' n9 c9 n9' c9' x ((1 - h : Nat) : Int) ((g + 1 : Nat) : Int) ((sumT L : Nat) : Int) ((L.length : Nat) : Int) A8 n8 c8 W' ∧ ColK 2 pairC W' W'.heap.size A8 n8 l8) (stored5 V2 b3 (.int .i64 ((1 - h : Nat) : Int)) (.int .i64 ((g + 1 : Nat) : Int)) (.int .i64 ((sumT L : Nat) : Int)) (.int .i64 ((L.length : Nat) : Int)) (.slice A8 n8 c8))) := Lib.hid ⟨⟨hf6.2.2.1 _ _ hHeld.1 hl3, hf6.2.2.2 _ _ _ (Ne.symm hn13) hHeld.2.1, hf6.2.2.2 _ _ _ hm3 hHeld.2.2⟩, ⟨hf6.2.2.2 _ _ _ (Ne.symm hn23) k2, hf6.1, hf6.2.1 _ _ hd9, hf6.2.2.1 _ _ hHeld.1 hl3⟩, col_stored5 hcol b3 (fun h0 p hp => (HNB.out h0 p hp).2) _ _ _ _ _⟩
    unfold stored5 stored4 at HS
    clear hf6
    refine wpAnyH_ready (rs := [6]) (by kernel_rfl) (by simp) (AllReadyH.cons rfl (fun K hK => ?_) AllReadyH.nil)
    rw [if_pos (by rfl)]
    go_wp2_with fail
    refine k_over (fun W' => (Below w.heap.size w W' ∧ Bk W' b1 27 #[.slice A9 n9 c9, .slice A9' n9' c9', .int .i64 x.fuse, .bool x.down] ∧ Bk W' b5 32 #[.int .i64 ((1 - h : Nat) : Int), .int .i64 ((g + 1 : Nat) : Int), .int .i64 ((sumT L : Nat) : Int), .int .i64 ((L.length : Nat) : Int)]) ∧ LiesS w b2 b3 A9 A9' n9 c9 n9' c9' x ((1 - h : Nat) : Int) ((g + 1 : Nat) : Int) ((sumT L : Nat) : Int) ((L.length : Nat) : Int) A8 n8 c8 W' ∧ ColK 2 pairC W' W'.heap.size A8 n8 l8) HS.out ?_
    clear HS p0 p1 p2 p3 p4 q0 q1 q2 q3 q4 hHeld k2 k3 hd9 hcol
    rintro V3 ⟨hS, hlies, hcol⟩
    have HW' := Lib.hid hlies
    have HCOL := Lib.hid hcol
    clear hlies hcol
    refine hK.out _ _ hS (fun hHeld => ?_)
    clear hK K
    try simp only [Act.put, jA, jB, jC]
    clear hS
    refine wpAnyH_ready (rs := [7]) (by kernel_rfl) (by simp) (AllReadyH.cons rfl (fun K hK => ?_) AllReadyH.nil)
    rw [if_pos (by rfl)]
    go_wp2_with fail
    refine hK.out _ _ hHeld (fun hHeld => ?_)
    clear hK K
    try simp only [Act.put, jA, jB, jC]
    refine wpAnyH_done (by kernel_rfl) ?_ _
    clear hHeld
    go_wp2
    refine bodyPost_ret (v := .tuple #[.agg #[.slice A9 n9 c9, .slice A9' n9' c9', .int .i64 x.fuse, .bool x.down], .agg #[.int .i64 ((1 - h : Nat) : Int), .int .i64 ((g + 1 : Nat) : Int), .int .i64 ((sumT L : Nat) : Int), .int .i64 ((L.length : Nat) : Int), .slice A8 n8 c8], .int .i64 0]) ?_ rfl (.inl ⟨x, A8, n8, c8, HRX.out, HFX.out, HZX.out, HCOL.out, ⟨_, rfl, HW'.out.2.2.1, HW'.out.2.2.2⟩⟩)
    exact results_cct (fn := Tryz.f13) (a1 := ⟨b2, 0, none⟩) (a2 := ⟨b3, 0, none⟩) rfl rfl rfl rfl (load_box4 HW'.out.1) (load_store5 HW'.out.2.1)
 ·obtain ⟨v9, rfl, hd9, hba⟩ := hres
  have hrs : Rss W2 W2.heap.size none 0 [] := Rss.nil
  obtain ⟨A9, n9, c9, A9', n9', c9', rfl, hx9⟩ := hd9
  have hd9 : DkAt W2 W2.heap.size (.agg #[.slice A9 n9 c9, .slice A9' n9' c9', .int .i64 x.fuse, .bool x.down]) x := ⟨A9, n9, c9, A9', n9', c9', rfl, hx9⟩
  clear hx9
  have hk1 := k1.below hba k1.lt
  have hk2 := k2.below hba k2.lt
  have hk3 := k3.below hba k3.lt
  have hbw2 := hbw.trans (hba.mono hbw.size)
  obtain ⟨⟨p0, p1, p2, p3⟩, q0, q1, q2, q3⟩ := hk1.four
  have H0 := Lib.hid (And.intro hk1 (And.intro hk2 (And.intro hk3 (And.intro hd9 (And.intro hrs hbw2)))))
  have hlt1 := k1.lt
  have hlt2 := k2.lt
  have hlt3 := k3.lt
  have hsz := hba.size
  clear hk1 hk2 hk3 hd9 hrs hbw2 hbw hba k1 k2 k3 hd1
  rw [show logN 0 0 0 0 = .agg #[.int .i64 0, .int .i64 0, .int .i64 0, .int .i64 0] from rfl]
  go_wp2_with ((with_reducible show wpList _ _ _ (⟨none, _, _, _, _, _⟩ :: _) _ _); refine hold ?_)
  obtain ⟨hk1, hk2, hk3, hd9, hrs, hbw2⟩ := H0.out
  have hba : Below W2.heap.size W2 (W2.alloc (.cells #[.int .i64 0, .int .i64 0, .int .i64 0, .int .i64 0] 32)) := (Below.refl _ _).alloc (Nat.le_refl _) _
  refine list_over (OpK w x A9 A9' none n9 c9 n9' c9' ([] : List (List Nat)) b1 b2 b3 W2.heap.size #[.slice A1 n1 c1, .slice A1' n1' c1', .int .i64 d.fuse, .bool d.down] #[.int .i64 0, .int .i64 0, .int .i64 0, .int .i64 0]) ⟨hk1.below hba hk1.lt, hk2.below hba hk2.lt, hk3.below hba hk3.lt, Bk.new _ _ _, hd9.later hba, hrs.later hba, hbw2.trans (hba.mono hbw2.size)⟩ ?_
  have hl5 : w.heap.size ≤ W2.heap.size := hbw2.size
  obtain ⟨b5, hb5⟩ : ∃ b, b = W2.heap.size := ⟨_, rfl⟩
  have HOFF : Hid (OffR none (([] : List (List Nat)) : List (List Nat)).length b1 b5) := Lib.hid (fun h0 => absurd h0 (by simp))
  rw [← hb5] at hl5 ⊢
  obtain ⟨hm1, hm2, hm3⟩ : b5 ≠ b1 ∧ b5 ≠ b2 ∧ b5 ≠ b3 := by omega
  clear hb5 hba hk1 hk2 hk3 hd9 hrs hbw2 H0 p0 p1 p2 p3 q0 q1 q2 q3 hlt1 hlt2 hlt3 hsz 
  intro W7 H7
  have HS := Lib.hid (H7.disk hl1 ⟨hn12, hn13, hm1⟩ HOFF.out)
  obtain ⟨⟨p0, p1, p2, p3⟩, q0, q1, q2, q3⟩ := H7.k1.four
  unfold stored4 at HS
  clear H7
  refine held ?_
  go_wp2_with ((with_reducible show wpList _ _ _ (⟨none, .store 32 _ _, _, _, _, _⟩ :: _) _ _); refine hold ?_)
  refine list_over _ HS.out ?_
  clear HS p0 p1 p2 p3 q0 q1 q2 q3
  intro W8 H8
  have HS := Lib.hid (H8.log hl5 ⟨Ne.symm hm1, Ne.symm hm2, Ne.symm hm3⟩ HOFF.out (.int .i64 0) (.int .i64 0) (.int .i64 0) (.int .i64 0))
  obtain ⟨⟨p0, p1, p2, p3⟩, q0, q1, q2, q3⟩ := H8.k5.four
  unfold stored4 at HS
  clear H8
  refine held ?_
  go_wp2_with ((with_reducible show wpList _ _ _ (⟨some 22, _, _, _, _, _⟩ :: _) _ _); refine hold ?_)
  refine list_over _ HS.out ?_
  clear HS p0 p1 p2 p3 q0 q1 q2 q3
  intro W10 H10
  obtain ⟨⟨p0, p1, p2, p3⟩, q0, q1, q2, q3⟩ := H10.k1.four
  obtain ⟨⟨t0, t1, t2, t3⟩, r0, r1, r2, r3⟩ := H10.k2.four
  obtain ⟨⟨v0, v1, v2, v3, v4⟩, y0, y1, y2, y3, y4⟩ := H10.k3.five
  have HTB := two_boxesS (x := x) 0 0 0 0 none 0 0 H10.k2 H10.k3 hn23 H10.hd H10.hb hl2 hl3
  unfold stored5 stored4 at HTB
  have HRX := Lib.hid hRx; have HFD := Lib.hid hfd; have HLX := Lib.hid hlx; have HZX := Lib.hid hZx
  clear H10 hRx hfd hlx hZx
  refine held ?_
  go_wp2_with fail
  refine post_over (LiesS w b2 b3 A9 A9' n9 c9 n9' c9' x 0 0 0 0 none 0 0) HTB.out ?_
  intro W' HW
  clear p0 p1 p2 p3 q0 q1 q2 q3 t0 t1 t2 t3 r0 r1 r2 r3 v0 v1 v2 v3 v4 y0 y1 y2 y3 y4 HTB
  have HW' := Lib.hid HW
  clear HW
  refine bodyPost_ret (v := .tuple #[.agg #[.slice A9 n9 c9, .slice A9' n9' c9', .int .i64 x.fuse, .bool x.down], .agg #[.int .i64 0, .int .i64 0, .int .i64 0, .int .i64 0, .slice none 0 0], .int .i64 9]) ?_ rfl (.inr ⟨HFD.out, x, HRX.out, HLX.out, HZX.out, ⟨_, rfl, HW'.out.2.2.1, HW'.out.2.2.2⟩⟩)
  exact results_cct (fn := Tryz.f13) (a1 := ⟨b2, 0, none⟩) (a2 := ⟨b3, 0, none⟩) rfl rfl rfl rfl (load_box4 HW'.out.1) (load_store5 HW'.out.2.1)
end Go.Proofs.YtcdehejgnnnimaaGreatDoor
namespace Go.Proofs.YtcdehejgnnnimaaGreatDoor
open List renaming setIfInBounds_toArray → jA, set_cons_zero → jB, set_cons_succ → jC
set_option linter.unusedVariables false
set_option linter.unusedSimpArgs false
open Go.RowKit Go.Maps
set_option linter.unusedVariables false
set_option linter.unusedSimpArgs false
theorem Holds.len {n : Nat} {d : Dk} {h g : Nat} {L : List (List Nat)} (H : Holds n d h g L) (hn : d.secs.length = n) (hr : rightB d = true) : L.length ≤ 100000 := by
 subst hn
 have hf := H.2.2.1.fits H.2.1 H.1
 have h1 : d.secs.length ≤ 4096 := by unfold rightB at hr; simp only [Bool.and_eq_true, decide_eq_true_eq] at hr; exact hr.1.1.1
 have := hf.2.2.2.2.1
 have := hf.2.2.2.2.2.2
 omega
def kA : ByteArray := ⟨#[97]⟩
def kB : ByteArray := ⟨#[98]⟩
def v1 : ByteArray := ⟨#[49]⟩
def v2 : ByteArray := ⟨#[50]⟩
def cs1 : List Chg := [(kB, v2, false), (kA, v1, false)]
def cs2 : List Chg := [(kA, ⟨#[]⟩, true)]
def ps1 : List Pr := [(kA, v1), (kB, v2)]
def ps2 : List Pr := [(kB, v2)]
theorem kAB : kA ≠ kB := by decide
theorem rise1 : Rising ps1 := by
 unfold Rising ps1
 refine List.pairwise_cons.2 ⟨fun q hq => ?_, List.pairwise_singleton ..⟩
 rw [List.mem_singleton.1 hq]
 show ltK kA kB
 unfold ltK
 decide
theorem rise2 : Rising ps2 := List.pairwise_singleton ..
theorem ok0 : PairsOk [] := ⟨by decide, (fun p hp => by cases hp), List.Pairwise.nil⟩
theorem ok1 : PairsOk ps1 := ⟨by decide, by decide, rise1⟩
theorem ok2 : PairsOk ps2 := ⟨by decide, by decide, rise2⟩
theorem lists1 : Lists ps1 (runF (putsF (fun _ => none) []) cs1) := by
 have : runF (putsF (fun _ => none) []) cs1 = fnOf ps1 := by
  funext k
  unfold runF putsF cs1 fnOf ps1 stepF updF
  simp only [List.foldl_nil, List.foldl_cons]
  by_cases h1 : k = kA
  ·subst h1; simp
  ·by_cases h2 : k = kB
   ·subst h2; simp [kAB, Ne.symm kAB]
   ·simp [h1, h2, Ne.symm h1, Ne.symm h2]
 rw [this]; exact lists_fnOf rise1
theorem lists2 : Lists ps2 (runF (putsF (fun _ => none) ps1) cs2) := by
 have : runF (putsF (fun _ => none) ps1) cs2 = fnOf ps2 := by
  funext k
  unfold runF putsF cs2 fnOf ps1 ps2 stepF updF
  simp only [List.foldl_nil, List.foldl_cons]
  by_cases h1 : k = kA
  ·subst h1; simp [kAB, Ne.symm kAB]
  ·by_cases h2 : k = kB
   ·subst h2; simp [kAB, Ne.symm kAB]
   ·simp [h1, h2, Ne.symm h1, Ne.symm h2]
 rw [this]; exact lists_fnOf rise2
theorem len1 : (transN cs1).length ≤ 6000 ∧ takesN (transN cs1).length = 2 := by decide +kernel
theorem len2 : (transN cs2).length ≤ 6000 ∧ takesN (transN cs2).length = 2 := by decide +kernel
theorem chg1 : changesB cs1 = true := by decide +kernel
theorem chg2 : changesB cs2 = true := by decide +kernel
theorem sum0 : sumT (snapL []) = 2 ∧ (snapL []).length = 1 := by decide +kernel
theorem sum1 : sumT (snapL ps1) = 2 := by decide +kernel
theorem goes1 : ¬ ComNo 40 (snapL []) [] cs1 := by
 rintro (h | h | h | h)
 ·rw [chg1] at h; cases h
 ·have := len1.1; omega
 ·exact h ps1 lists1 ok1
 ·have h1 := h.1
  rw [sum0.1, len1.2] at h1
  omega
theorem goes2 {L : List (List Nat)} (hL : L = snapL [] ++ [transN cs1] ∨ L = snapL ps1) : ¬ ComNo 40 L ps1 cs2 := by
 have hs : sumT L ≤ 4 := by
  rcases hL with rfl | rfl
  ·rw [sumT_snoc, sum0.1, len1.2]; omega
  ·rw [sum1]; omega
 rintro (h | h | h | h)
 ·rw [chg2] at h; cases h
 ·have := len2.1; omega
 ·exact h ps2 lists2 ok2
 ·have h1 := h.1
  rw [len2.2] at h1
  omega
theorem play0 : PlayOk (snapL []) [] := PlayOk.snap ok0
theorem play_step {L L2 : List (List Nat)} {l m : List Pr} {cs : List Chg} (h : PlayOk L l) (hc : changesB cs = true) (hm : PairsOk m) (hl : Lists m (runF (putsF (fun _ => none) l) cs)) (h2 : L2 = L ++ [transN cs] ∨ L2 = snapL m) : PlayOk L2 m := by
 rcases h2 with rfl | rfl
 ·exact h.app hc hm hl
 ·exact PlayOk.snap hm
end Go.Proofs.YtcdehejgnnnimaaGreatDoor
namespace Go.Proofs.YtcdehejgnnnimaaGreatDoor
open List renaming setIfInBounds_toArray → jA, set_cons_zero → jB, set_cons_succ → jC
set_option linter.unusedVariables false
set_option linter.unusedSimpArgs false
open Go.RowKit Go.Maps
set_option linter.unusedVariables false
set_option linter.unusedSimpArgs false
def NoStr (cs : Array Value) : Prop := ∀ (i : Nat) (s : ByteArray), cs[i]? ≠ some (.string s)
theorem noStr4 {a b : Option Addr} {n c n' c' : Nat} {z : Int} {d : Bool} : NoStr #[.slice a n c, .slice b n' c', .int .i64 z, .bool d] := by
 intro i s
 rcases i with _ | _ | _ | _ | i <;> simp
theorem noStr5 {a : Option Addr} {n c : Nat} {z0 z1 z2 z3 : Int} : NoStr #[.int .i64 z0, .int .i64 z1, .int .i64 z2, .int .i64 z3, .slice a n c] := by
 intro i s
 rcases i with _ | _ | _ | _ | _ | i <;> simp
theorem col_apart {w : World} {B n b : Nat} {A : Option Addr} {l : List Pr} {t : TypeId} {cs : Array Value} (h : ColK 2 pairC w B A n l) (hb : Bk w b t cs) (hs : NoStr cs) : 0 < n → ∀ p, A = some p → p.block ≠ b := by
 intro h0 p hp e
 obtain ⟨b', o, a, e', _, _, _, hrow⟩ := h.at_ h0
 rw [e'] at hp
 cases hp
 have hc := hrow 0 _ rfl
 rw [show (⟨b', o + 0 * 2 + 0, none⟩ : Addr) = ⟨b', o, none⟩ by simp, show b' = b from e, hb.cell] at hc
 exact hs o _ hc
structure AlK (w : World) (x : Dk) (A A' : Option Addr) (n c n' c' b1 b3 : Nat) (z0 z1 z2 z3 : Int) (A5 : Option Addr) (n5 c5 : Nat) (m : List Pr) (W : World) : Prop where
 k1 : Bk W b1 27 #[.slice A n c, .slice A' n' c', .int .i64 x.fuse, .bool x.down]
 k3 : Bk W b3 35 #[.int .i64 z0, .int .i64 z1, .int .i64 z2, .int .i64 z3, .slice A5 n5 c5]
 hd : DkAt W W.heap.size (.agg #[.slice A n c, .slice A' n' c', .int .i64 x.fuse, .bool x.down]) x
 hc : ColK 2 pairC W W.heap.size A5 n5 m
 hb : Below w.heap.size w W
theorem AlK.below {w W W' : World} {x : Dk} {A A' : Option Addr} {n c n' c' b1 b3 : Nat} {z0 z1 z2 z3 : Int} {A5 : Option Addr} {n5 c5 : Nat} {m : List Pr} (H : AlK w x A A' n c n' c' b1 b3 z0 z1 z2 z3 A5 n5 c5 m W) (hb : Below W.heap.size W W') : AlK w x A A' n c n' c' b1 b3 z0 z1 z2 z3 A5 n5 c5 m W' :=
 ⟨H.k1.below hb H.k1.lt, H.k3.below hb H.k3.lt, H.hd.later hb, H.hc.later hb, H.hb.trans (hb.mono H.hb.size)⟩
theorem al_stored {w W : World} {x : Dk} {A A' : Option Addr} {n c n' c' b1 b3 : Nat} {z0 z1 z2 z3 : Int} {A5 : Option Addr} {n5 c5 : Nat} {m : List Pr} {a0 a1 a2 a3 e0 e1 e2 e3 e4 : Value}
 (k1 : Bk W b1 27 #[a0, a1, a2, a3]) (k3 : Bk W b3 35 #[e0, e1, e2, e3, e4]) (s1 : NoStr #[a0, a1, a2, a3]) (s3 : NoStr #[e0, e1, e2, e3, e4]) (hne : b3 ≠ b1)
 (hd : DkAt W W.heap.size (.agg #[.slice A n c, .slice A' n' c', .int .i64 x.fuse, .bool x.down]) x) (hc : ColK 2 pairC W W.heap.size A5 n5 m) (hb : Below w.heap.size w W) (h1 : w.heap.size ≤ b1) (h3 : w.heap.size ≤ b3) :
 AlK w x A A' n c n' c' b1 b3 z0 z1 z2 z3 A5 n5 c5 m (stored5 (stored4 W b1 (.slice A n c) (.slice A' n' c') (.int .i64 x.fuse) (.bool x.down)) b3 (.int .i64 z0) (.int .i64 z1) (.int .i64 z2) (.int .i64 z3) (.slice A5 n5 c5)) := by
 have hl : LiesS w b1 b3 A A' n c n' c' x z0 z1 z2 z3 A5 n5 c5 _ := two_boxesS z0 z1 z2 z3 A5 n5 c5 k1 k3 hne hd hb h1 h3
 exact ⟨hl.1, hl.2.1, hl.2.2.1, col_stored5 (col_stored4 hc b1 (col_apart hc k1 s1) _ _ _ _) b3 (col_apart hc k3 s3) _ _ _ _ _, hl.2.2.2⟩
theorem chgs_fresh (w : World) (t : TypeId) (l : List Chg) : ColK 3 chgC (w.alloc (.cells (l.flatMap chgC).toArray t)) (w.alloc (.cells (l.flatMap chgC).toArray t)).heap.size (some ⟨w.heap.size, 0, none⟩) l.length l := by
 refine ⟨rfl, fun _ => ⟨w.heap.size, 0, rfl, by simp, fun i a hi j v hv => ?_⟩⟩
 rw [cell_of_row _ _ _ _ _ _ (heap_alloc_new w _), List.getElem?_toArray, Nat.zero_add]
 exact flat_get (f := chgC) chgC_len l i a hi j v hv
set_option maxRecDepth 100000 in
set_option maxHeartbeats 8000000 in
theorem alive06_any (w : World) (ht : Tab w) : Calls Tryz.prog 4 #[] w fun e w' => e = .returned (.bool true) ∧ Below w.heap.size w w' := by
 have HT := Lib.hid ht
 clear ht
 go_enter Tryz.func4, Tryz.ntmps4
 go_wp2_with fail
 have hnew := rnew_any 40 w
 rw [show newM 40 = (freshD 40, 0) from newM_fresh (n := 40) (by omega)] at hnew
 have hF0 := fresh_fine (n := 40) (by omega)
 obtain ⟨x0, hx0⟩ : ∃ x, freshD 40 = x := ⟨_, rfl⟩
 rw [hx0] at hnew hF0
 have HF0 := Lib.hid hF0
 clear hx0 hF0
 refine hnew.mono ?_
 clear hnew
 intro e w1 hres
 obtain ⟨A0, n0, c0, A0', n0', c0', rfl, hd1, hb1⟩ := hres.zero
 simp only at hd1
 have HB1 := Lib.hid hb1
 have HD1 := Lib.hid hd1
 clear hres hb1 hd1
 simp only
 go_wp2_with fail
 obtain ⟨b1, hb1⟩ : ∃ b, b = w1.heap.size := ⟨_, rfl⟩
 have hl1 : w.heap.size ≤ b1 := by have := HB1.out.size; omega
 refine calls_over (fun W => Bk W b1 27 #[.slice A0 n0 c0, .slice A0' n0' c0', .int .i64 x0.fuse, .bool x0.down] ∧ DkAt W W.heap.size (.agg #[.slice A0 n0 c0, .slice A0' n0' c0', .int .i64 x0.fuse, .bool x0.down]) x0 ∧ Below w.heap.size w W) ⟨by rw [hb1]; exact Bk.new w1 _ _, HD1.out.later ((Below.refl _ _).alloc (Nat.le_refl _) _), HB1.out.alloc HB1.out.size _⟩ ?_
 rw [← hb1]
 clear hb1 HB1 HD1
 rintro W2 ⟨k1, hd2, hbw⟩
 refine (kformat_fine _ x0 W2 hd2 HF0.out (by omega) (HT.out.below hbw HT.out.pos)).mono ?_
 rintro e W3 ⟨x1, hF1, hZ1, v3, rfl, hd3, hb3⟩
 obtain ⟨A1, n1, c1, A1', n1', c1', rfl, hx3⟩ := hd3
 have hd3 : DkAt W3 W3.heap.size (.agg #[.slice A1 n1 c1, .slice A1' n1' c1', .int .i64 x1.fuse, .bool x1.down]) x1 := ⟨A1, n1, c1, A1', n1', c1', rfl, hx3⟩
 have HK1 := Lib.hid (k1.below hb3 k1.lt)
 have HD3 := Lib.hid hd3
 have HBW := Lib.hid (hbw.trans (hb3.mono hbw.size))
 have HF1 := Lib.hid hF1
 have HZ1 := Lib.hid hZ1
 clear hx3 hd3 k1 hd2 hbw hb3 hF1 hZ1 HF0
 go_wp2_with ((with_reducible show wpList _ _ _ (⟨none, .store 27 _ _, _, _, _, _⟩ :: _) _ _); refine hold ?_)
 obtain ⟨b3, hb3⟩ : ∃ b, b = W3.heap.size := ⟨_, rfl⟩
 have hl3 : w.heap.size ≤ b3 := by have := HBW.out.size; omega
 have hn31 : b3 ≠ b1 := by have := HK1.out.lt; omega
 have hba : Below W3.heap.size W3 (W3.alloc (.cells #[.int .i64 0, .int .i64 0, .int .i64 0, .int .i64 0, .slice none 0 0] 35)) := (Below.refl _ _).alloc (Nat.le_refl _) _
 refine list_over (fun W => Bk W b1 27 #[.slice A0 n0 c0, .slice A0' n0' c0', .int .i64 x0.fuse, .bool x0.down] ∧ Bk W b3 35 #[.int .i64 0, .int .i64 0, .int .i64 0, .int .i64 0, .slice none 0 0] ∧ DkAt W W.heap.size (.agg #[.slice A1 n1 c1, .slice A1' n1' c1', .int .i64 x1.fuse, .bool x1.down]) x1 ∧ Below w.heap.size w W) ⟨HK1.out.below hba HK1.out.lt, by rw [hb3]; exact Bk.new W3 _ _, HD3.out.later hba, HBW.out.trans (hba.mono HBW.out.size)⟩ ?_
 rw [← hb3]
 clear hb3 hba HK1 HD3 HBW
 rintro W4 ⟨k1, k3, hd4, hbw⟩
 have HS := Lib.hid (al_stored (z0 := 0) (z1 := 1) (z2 := 2) (z3 := 1) (A5 := none) (c5 := 0) k1 k3 noStr4 noStr5 hn31 hd4 ColK.nil hbw hl1 hl3)
 unfold stored5 stored4 at HS
 obtain ⟨⟨p0, p1, p2, p3⟩, q0, q1, q2, q3⟩ := k1.four
 obtain ⟨⟨v0, v1, v2, v3, v4⟩, y0, y1, y2, y3, y4⟩ := k3.five
 clear k1 k3 hd4 hbw
 refine held ?_
 go_wp2_with ((with_reducible show wpList _ _ _ (⟨some 23, _, _, _, _, _⟩ :: _) _ _); refine hold ?_)
 refine list_over _ HS.out ?_
 clear HS p0 p1 p2 p3 q0 q1 q2 q3 v0 v1 v2 v3 v4 y0 y1 y2 y3 y4
 intro W5 h5
 have H5 := Lib.hid h5
 obtain ⟨⟨p0, p1, p2, p3⟩, q0, q1, q2, q3⟩ := h5.k1.four
 obtain ⟨⟨v0, v1, v2, v3, v4⟩, y0, y1, y2, y3, y4⟩ := h5.k3.five
 clear h5
 refine held ?_
 go_wp2_with fail
 refine calls_over (fun W => AlK w x1 A1 A1' n1 c1 n1' c1' b1 b3 0 1 2 1 none 0 0 [] W ∧ ColK 3 chgC W W.heap.size (some ⟨W5.heap.size, 0, none⟩) 2 cs1) ⟨H5.out.below ((Below.refl _ _).alloc (Nat.le_refl _) _), chgs_fresh W5 _ cs1⟩ ?_
 clear p0 p1 p2 p3 q0 q1 q2 q3 v0 v1 v2 v3 v4 y0 y1 y2 y3 y4 H5
 rintro Va ⟨h6, hcs⟩
 have hcm := kcommit_any (n := 40) _ x1 0 1 (snapL []) none 0 0 [] _ 2 2 cs1 Va h6.hd HF1.out.rest HZ1.out (by omega) (HT.out.below h6.hb HT.out.pos) h6.hc ok0 hcs (by omega) (by decide)
 rw [sum0.1, sum0.2] at hcm
 rw [show ((0 : Nat) : Int) = 0 from rfl, show ((1 : Nat) : Int) = 1 from rfl, show ((2 : Nat) : Int) = 2 from rfl] at hcm
 refine hcm.mono ?_
 clear hcm hcs
 intro e Vb hways
 rcases hways with ⟨hno, _⟩ | ⟨x2, h2, g2, L2, A8, n8, c8, m, hR2, hfx, hZ2, hg2, _, hPm, hLm, hL2, hcol, hres⟩ | ⟨hfd, _⟩
 ·exact absurd hno goes1
 rotate_left
 ·exact absurd HF1.out.2.2.2.1 hfd
 obtain rfl : m = ps1 := hLm.unique lists1
 obtain ⟨v5, rfl, hd5, hb5⟩ := hres
 obtain ⟨A2, n2, c2, A2', n2', c2', rfl, hx5⟩ := hd5
 have hd5 : DkAt Vb Vb.heap.size (.agg #[.slice A2 n2 c2, .slice A2' n2' c2', .int .i64 x2.fuse, .bool x2.down]) x2 := ⟨A2, n2, c2, A2', n2', c2', rfl, hx5⟩
 have HF2 := Lib.hid (hR2.fine (hfx HF1.out.2.2.2.1))
 have HZ2 := Lib.hid hZ2
 have HG2 := Lib.hid hg2
 have HP2 : Hid (PlayOk L2 ps1) := Lib.hid (play_step play0 chg1 ok1 lists1 hL2)
 have HL2 := Lib.hid hL2
 have HN2 : Hid (n8 = ps1.length) := Lib.hid hcol.1.symm
 have h6b := h6.below hb5
 have HS := Lib.hid (al_stored (z0 := (h2 : Int)) (z1 := (g2 : Int)) (z2 := ((sumT L2 : Nat) : Int)) (z3 := ((L2.length : Nat) : Int)) (c5 := c8) h6b.k1 h6b.k3 noStr4 noStr5 hn31 hd5 hcol h6b.hb hl1 hl3)
 unfold stored5 stored4 at HS
 obtain ⟨⟨p0, p1, p2, p3⟩, q0, q1, q2, q3⟩ := h6b.k1.four
 obtain ⟨⟨v0, v1, v2, v3, v4⟩, y0, y1, y2, y3, y4⟩ := h6b.k3.five
 clear h6 h6b hR2 hfx hZ2 hg2 hPm hLm hL2 hcol hx5 hd5 hb5 HF1 HZ1
 go_wp2_with ((with_reducible show wpList _ _ _ (⟨some 33, _, _, _, _, _⟩ :: _) _ _); refine hold ?_)
 refine list_over _ HS.out ?_
 clear HS p0 p1 p2 p3 q0 q1 q2 q3 v0 v1 v2 v3 v4 y0 y1 y2 y3 y4
 intro Vc h5
 have H2 := Lib.hid h5
 obtain ⟨⟨p0, p1, p2, p3⟩, q0, q1, q2, q3⟩ := h5.k1.four
 obtain ⟨⟨v0, v1, v2, v3, v4⟩, y0, y1, y2, y3, y4⟩ := h5.k3.five
 clear h5
 refine held ?_
 go_wp2_with fail
 refine calls_over (fun W => AlK w x2 A2 A2' n2 c2 n2' c2' b1 b3 (h2 : Int) (g2 : Int) ((sumT L2 : Nat) : Int) ((L2.length : Nat) : Int) A8 n8 c8 ps1 W ∧ ColK 3 chgC W W.heap.size (some ⟨Vc.heap.size, 0, none⟩) 1 cs2) ⟨H2.out.below ((Below.refl _ _).alloc (Nat.le_refl _) _), chgs_fresh Vc _ cs2⟩ ?_
 clear p0 p1 p2 p3 q0 q1 q2 q3 v0 v1 v2 v3 v4 y0 y1 y2 y3 y4 H2
 rintro Ua ⟨h6, hcs⟩
 have hcm := kcommit_any (n := 40) _ x2 h2 g2 L2 A8 n8 c8 ps1 _ 1 1 cs2 Ua h6.hd HF2.out.rest HZ2.out (by have := HG2.out; omega) (HT.out.below h6.hb HT.out.pos) h6.hc ok1 hcs (by omega) (by decide)
 skip
 refine hcm.mono ?_
 clear hcm hcs
 intro e Ub hways
 rcases hways with ⟨hno, _⟩ | ⟨x3, h3, g3, L3, A9, n9, c9, m, hR2, hfx, hZ2, hg2, _, hPm, hLm, hL2, hcol, hres⟩ | ⟨hfd, _⟩
 ·exact absurd hno (goes2 HL2.out)
 rotate_left
 ·exact absurd HF2.out.2.2.2.1 hfd
 obtain rfl : m = ps2 := hLm.unique lists2
 obtain ⟨v5, rfl, hd5, hb5⟩ := hres
 obtain ⟨A3, n3, c3, A3', n3', c3', rfl, hx5⟩ := hd5
 have hd5 : DkAt Ub Ub.heap.size (.agg #[.slice A3 n3 c3, .slice A3' n3' c3', .int .i64 x3.fuse, .bool x3.down]) x3 := ⟨A3, n3, c3, A3', n3', c3', rfl, hx5⟩
 have HF3 := Lib.hid (hR2.fine (hfx HF2.out.2.2.2.1))
 have HZ3 := Lib.hid hZ2
 have HG3 := Lib.hid hg2
 have HP3 : Hid (PlayOk L3 ps2) := Lib.hid (play_step HP2.out chg2 ok2 lists2 hL2)
 have HL3 := Lib.hid hL2
 have HN3 : Hid (n9 = ps2.length) := Lib.hid hcol.1.symm
 have h6b := h6.below hb5
 have HS := Lib.hid (al_stored (z0 := (h3 : Int)) (z1 := (g3 : Int)) (z2 := ((sumT L3 : Nat) : Int)) (z3 := ((L3.length : Nat) : Int)) (c5 := c9) h6b.k1 h6b.k3 noStr4 noStr5 hn31 hd5 hcol h6b.hb hl1 hl3)
 unfold stored5 stored4 at HS
 obtain ⟨⟨p0, p1, p2, p3⟩, q0, q1, q2, q3⟩ := h6b.k1.four
 obtain ⟨⟨v0, v1, v2, v3, v4⟩, y0, y1, y2, y3, y4⟩ := h6b.k3.five
 clear h6 h6b hR2 hfx hZ2 hg2 hPm hLm hL2 hcol hx5 hd5 hb5 HF2 HZ2
 go_wp2_with ((with_reducible show wpList _ _ _ (⟨some 42, _, _, _, _, _⟩ :: _) _ _); refine hold ?_)
 refine list_over _ HS.out ?_
 clear HS p0 p1 p2 p3 q0 q1 q2 q3 v0 v1 v2 v3 v4 y0 y1 y2 y3 y4
 intro Uc h5
 have H3 := Lib.hid h5
 obtain ⟨⟨p0, p1, p2, p3⟩, q0, q1, q2, q3⟩ := h5.k1.four
 obtain ⟨⟨v0, v1, v2, v3, v4⟩, y0, y1, y2, y3, y4⟩ := h5.k3.five
 clear h5
 refine held ?_
 go_wp2_with fail
 refine (kopen_any (n := 40) _ x3 h3 g3 L3 ps2 Uc H3.out.hd HF3.out.rest HZ3.out.holds (by have h1 := HG3.out; have h2 := HG2.out; omega) (HT.out.below H3.out.hb HT.out.pos) HP3.out (HZ3.out.holds.len HF3.out.2.1 HF3.out.1)).mono ?_
 intro e T1 hways
 rcases hways with ⟨x4, A7, n7, c7, hR4, hfx, hZ4, hcol, hres⟩ | ⟨hfd, _⟩
 rotate_left
 ·exact absurd HF3.out.2.2.2.1 hfd
 obtain ⟨v6, rfl, hd6, hb6⟩ := hres
 obtain ⟨A4, n4, c4, A4', n4', c4', rfl, hx6⟩ := hd6
 have hd6 : DkAt T1 T1.heap.size (.agg #[.slice A4 n4 c4, .slice A4' n4' c4', .int .i64 x4.fuse, .bool x4.down]) x4 := ⟨A4, n4, c4, A4', n4', c4', rfl, hx6⟩
 have HO := Lib.hid (H3.out.below hb6)
 have HD6 := Lib.hid hd6
 have HCOL := Lib.hid hcol
 have HN7 : Hid (n7 = 1) := Lib.hid hcol.1.symm
 clear hx6 hd6 hb6 hcol hR4 hfx hZ4 p0 p1 p2 p3 q0 q1 q2 q3 v0 v1 v2 v3 v4 y0 y1 y2 y3 y4 H3
 go_wp2_with ((with_reducible show wpList _ _ _ (⟨none, .store 27 _ _, _, _, _, _⟩ :: _) _ _); refine hold ?_)
 obtain ⟨b7, hb7⟩ : ∃ b, b = T1.heap.size := ⟨_, rfl⟩
 obtain ⟨b8, hb8⟩ : ∃ b, b = T1.heap.size + 1 := ⟨_, rfl⟩
 have hl7 : w.heap.size ≤ b7 := by have := HO.out.hb.size; omega
 have hl8 : w.heap.size ≤ b8 := by omega
 have hn87 : b8 ≠ b7 := by omega
 have h37 : b3 ≠ b7 := by have := HO.out.k3.lt; omega
 have h38 : b3 ≠ b8 := by have := HO.out.k3.lt; omega
 have hba : Below T1.heap.size T1 ((T1.alloc (.cells #[.slice none 0 0, .slice none 0 0, .int .i64 0, .bool false] 27)).alloc (.cells #[.int .i64 0, .int .i64 0, .int .i64 0, .int .i64 0, .slice none 0 0] 35)) := ((Below.refl _ _).alloc (Nat.le_refl _) _).alloc (by simp) _
 refine list_over (fun W => Bk W b3 35 #[.int .i64 (h3 : Int), .int .i64 (g3 : Int), .int .i64 ((sumT L3 : Nat) : Int), .int .i64 ((L3.length : Nat) : Int), .slice A9 n9 c9] ∧ Bk W b7 27 #[.slice none 0 0, .slice none 0 0, .int .i64 0, .bool false] ∧ Bk W b8 35 #[.int .i64 0, .int .i64 0, .int .i64 0, .int .i64 0, .slice none 0 0] ∧ DkAt W W.heap.size (.agg #[.slice A4 n4 c4, .slice A4' n4' c4', .int .i64 x4.fuse, .bool x4.down]) x4 ∧ ColK 2 pairC W W.heap.size A7 n7 ps2 ∧ Below w.heap.size w W) ⟨HO.out.k3.below hba HO.out.k3.lt, by rw [hb7]; exact (Bk.new T1 _ _).alloc _, by rw [hb8]; exact Bk.new2 T1 _ _ _, HD6.out.later hba, HCOL.out.later hba, HO.out.hb.trans (hba.mono HO.out.hb.size)⟩ ?_
 rw [← hb8, ← hb7]
 clear hb7 hb8 hba HO HD6 HCOL
 rintro T2 ⟨k3, k7, k8, hd6, hcol, hbw⟩
 have hf7 := stored4_facts k7 (.slice A4 n4 c4) (.slice A4' n4' c4') (.int .i64 x4.fuse) (.bool x4.down)
 have hf8 := stored5_facts (hf7.2.2.2 _ _ _ hn87 k8) (.int .i64 ((1 - h3 : Nat) : Int)) (.int .i64 ((g3 + 1 : Nat) : Int)) (.int .i64 ((sumT L3 : Nat) : Int)) (.int .i64 ((L3.length : Nat) : Int)) (.slice A7 n7 c7)
 have HS : Hid ((fun W => AlK w x4 A4 A4' n4 c4 n4' c4' b7 b8 ((1 - h3 : Nat) : Int) ((g3 + 1 : Nat) : Int) ((sumT L3 : Nat) : Int) ((L3.length : Nat) : Int) A7 n7 c7 ps2 W ∧ Bk W b3 35 #[.int .i64 (h3 : Int), .int .i64 (g3 : Int), .int .i64 ((sumT L3 : Nat) : Int), .int .i64 ((L3.length : Nat) : Int), .slice A9 n9 c9]) (stored5 (stored4 T2 b7 (.slice A4 n4 c4) (.slice A4' n4' c4') (.int .i64 x4.fuse) (.bool x4.down)) b8 (.int .i64 ((1 - h3 : Nat) : Int)) (.int .i64 ((g3 + 1 : Nat) : Int)) (.int .i64 ((sumT L3 : Nat) : Int)) (.int .i64 ((L3.length : Nat) : Int)) (.slice A7 n7 c7))) := Lib.hid ⟨al_stored k7 k8 noStr4 noStr5 hn87 hd6 hcol hbw hl7 hl8, hf8.2.2.2 _ _ _ h38 (hf7.2.2.2 _ _ _ h37 k3)⟩
 unfold stored5 stored4 at HS
 obtain ⟨⟨p0, p1, p2, p3⟩, q0, q1, q2, q3⟩ := k7.four
 obtain ⟨⟨v0, v1, v2, v3, v4⟩, y0, y1, y2, y3, y4⟩ := k8.five
 clear k3 k7 k8 hd6 hcol hbw hf7 hf8
 refine held ?_
 go_wp2_with ((with_reducible show wpList _ _ _ (⟨some 48, _, _, _, _, _⟩ :: _) _ _); refine hold ?_)
 refine list_over (fun W => AlK w x4 A4 A4' n4 c4 n4' c4' b7 b8 ((1 - h3 : Nat) : Int) ((g3 + 1 : Nat) : Int) ((sumT L3 : Nat) : Int) ((L3.length : Nat) : Int) A7 n7 c7 ps2 W ∧ Bk W b3 35 #[.int .i64 (h3 : Int), .int .i64 (g3 : Int), .int .i64 ((sumT L3 : Nat) : Int), .int .i64 ((L3.length : Nat) : Int), .slice A9 n9 c9]) HS.out ?_
 clear HS p0 p1 p2 p3 q0 q1 q2 q3 v0 v1 v2 v3 v4 y0 y1 y2 y3 y4
 rintro T3 ⟨h7, k3⟩
 have H7 := Lib.hid h7
 have HK3 := Lib.hid k3
 obtain ⟨⟨v0, v1, v2, v3, v4⟩, _⟩ := h7.k3.five
 clear h7 k3
 refine held ?_
 go_wp2_with fail
 have hget := get_any (.int .i64 ((1 - h3 : Nat) : Int)) (.int .i64 ((g3 + 1 : Nat) : Int)) (.int .i64 ((sumT L3 : Nat) : Int)) (.int .i64 ((L3.length : Nat) : Int)) A7 n7 c7 ps2 ⟨#[98]⟩ T3 rfl rfl rfl rfl H7.out.hc (by rw [HN7.out]; omega)
 rw [show getR (fnOf ps2) ⟨#[98]⟩ = .tuple #[.string ⟨#[50]⟩, .bool true] from rfl] at hget
 refine hget.mono ?_
 clear hget v0 v1 v2 v3 v4
 rintro e T4 ⟨rfl, hb9⟩
 have z8 := (H7.out.k3.below hb9 H7.out.k3.lt).cell 4
 have z3 := (HK3.out.below hb9 HK3.out.lt).cell 4
 have HBE := Lib.hid (H7.out.hb.trans (hb9.mono H7.out.hb.size))
 have e9 : ((n9 : Int) == 1) = true := by rw [HN3.out]; rfl
 have e7 : ((n7 : Int) == 1) = true := by rw [HN7.out]; rfl
 clear hb9 H7 HK3
 go_wp2_with fail
 go_ret
 exact ⟨rfl, HBE.out⟩
end Go.Proofs.YtcdehejgnnnimaaGreatDoor
