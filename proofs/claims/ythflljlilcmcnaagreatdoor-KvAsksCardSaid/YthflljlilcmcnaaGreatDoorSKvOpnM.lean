/-
  A part of the proof: see the last text.
-/
import Derived.Test.YthflljlilcmcnaaGreatDoorSKvRound
import Derived.Test.YthflljlilcmcnaaGreatDoorSKvRise
import Derived.Test.YthflljlilcmcnaaGreatDoorSKvRight
import Derived.Test.YthflljlilcmcnaaGreatDoorSKvTrans
import Derived.Deep.RegionHeld
import Derived.Test.YthflljlilcmcnaaGreatDoorSKvCom
namespace Go.Proofs.YthflljlilcmcnaaGreatDoor
open List (setIfInBounds_toArray set_cons_zero set_cons_succ getElem_toArray getElem_cons_zero getElem_cons_succ)
set_option linter.unusedVariables false
set_option linter.unusedSimpArgs false
open Go.RowKit Go.Maps
set_option linter.unusedVariables false
set_option linter.unusedSimpArgs false
theorem size_of_lists {w : World} {b n : Nat} {D : DataW Unit} {f : Fn} {m : List Pr} (hown : w.ownsMap Tryz.prog 9 pairElem b n D) (hR : Reads D f) (hL : Lists m f) : Maps.size D = m.length := by
  have hc : Collected D (fun _ => false) (m.map fun p => p.1.data.toList) := by
    refine ⟨?_, fun x => ?_⟩
    · rw [show (m.map fun p => p.1.data.toList) = (m.map (·.1)).map (fun s => s.data.toList) by rw [List.map_map]; rfl]
      exact List.Pairwise.map _ (fun a b h e => h (data_eq e)) (rising_nodup hL.1)
    · have hx : Lit.string x = keyL ⟨x.toArray⟩ := by unfold keyL; simp
      rw [hx, hR.has, List.mem_map]
      constructor
      · rintro ⟨⟨k, v⟩, hp, rfl⟩
        refine ⟨?_, rfl⟩
        have := (hL.2 k v).1 hp
        rw [show (⟨k.data.toList.toArray⟩ : ByteArray) = k from data_eq (by simp), this]; rfl
      · rintro ⟨h, _⟩
        obtain ⟨v, hv⟩ := Option.isSome_iff_exists.1 h
        exact ⟨_, (hL.2 _ v).2 hv, by simp⟩
  have hp := (hc.perm hown lawS Tryz.underlying9 (fun _ => rfl)).length_eq
  obtain ⟨es, rfl, _⟩ := hown.keysOf
  rw [List.length_map] at hp
  rw [hp]
  show es.length = (es.map _).length
  rw [List.length_map]
theorem MapIs.tight {w : World} {b n : Nat} {f : Fn} {m : List Pr} (h : MapIs w b n f) (hL : Lists m f) (hm : m.length ≤ 400) : ∃ D : DataW Unit, w.ownsMap Tryz.prog 9 pairElem b 400 D ∧ Reads D f ∧ Maps.size D = m.length := by
  obtain ⟨D, hown, hR⟩ := h
  have hs := size_of_lists hown hR hL
  refine ⟨D, ?_, hR, hs⟩
  obtain ⟨es, clock, h1, h2, h3, h4⟩ := hown
  refine ⟨es, clock, h1, h2, ?_, h4⟩
  subst h4
  have : es.size = m.length := by rw [← hs]; simp [Maps.size, length_sorted]
  omega
structure PlayOk (L : List (List Nat)) (m : List Pr) : Prop where
  dec : ∀ b ∈ L, decE b = 0
  le : ∀ i, ∃ l : List Pr, l.length ≤ 400 ∧ Lists l (playF (fun _ => none) (L.take i))
  ok : PairsOk m
  is : Lists m (playF (fun _ => none) L)
theorem rising_take {l : List Pr} (h : Rising l) (i : Nat) : Rising (l.take i) := List.Pairwise.sublist (List.take_sublist i l) h
theorem play_take {css : List (List Chg)} (h : ∀ cs ∈ css, changesB cs = true) (i : Nat) : playF (fun _ => none) ((css.map transN).take i) = runF (fun _ => none) (css.take i).flatten := by
  rw [← List.map_take]
  exact play_parts _ (fun cs hcs => h cs (List.mem_of_mem_take hcs)) _
theorem flatten_take {α : Type} (css : List (List α)) (i : Nat) : (css.take i).flatten = css.flatten.take (css.take i).flatten.length := by
  conv => rhs; rw [← List.take_append_drop i css, List.flatten_append]
  rw [List.take_append_drop i css, List.take_left]
theorem PlayOk.snap {l : List Pr} (h : PairsOk l) : PlayOk (snapL l) l := by
  obtain ⟨css, h1, h2, h3⟩ := snap_parts h.2.1 h.1
  refine ⟨fun b hb => ?_, fun i => ?_, h, by rw [play_snap h]; exact lists_fnOf h.2.2⟩
  · rw [h1] at hb
    obtain ⟨cs, hcs, rfl⟩ := List.mem_map.1 hb
    exact (dec_back (h3 cs hcs)).1
  · rw [h1, play_take h3, flatten_take, h2, ← List.map_take, runF_puts (fun _ => none), putsF_lists (rising_take h.2.2 _)]
    exact ⟨_, by rw [List.length_take]; have := h.1; omega, lists_fnOf (rising_take h.2.2 _)⟩
theorem PlayOk.fn {L : List (List Nat)} {m : List Pr} (h : PlayOk L m) : playF (fun _ => none) L = putsF (fun _ => none) m := by
  rw [h.is.eq_fn, putsF_lists h.ok.2.2]
theorem PlayOk.app {L : List (List Nat)} {l m : List Pr} {cs : List Chg} (h : PlayOk L l) (hcs : changesB cs = true) (hm : PairsOk m) (hl : Lists m (runF (putsF (fun _ => none) l) cs)) : PlayOk (L ++ [transN cs]) m := by
  have his : Lists m (playF (fun _ => none) (L ++ [transN cs])) := by
    rw [playF_snoc, (dec_back hcs).2, h.fn]; exact hl
  refine ⟨fun b hb => ?_, fun i => ?_, hm, his⟩
  · rcases List.mem_append.1 hb with hb | hb
    · exact h.dec b hb
    · rw [List.mem_singleton.1 hb]; exact (dec_back hcs).1
  · by_cases hi : i ≤ L.length
    · rw [List.take_append_of_le_length hi]
      exact h.le i
    · rw [List.take_of_length_le (by rw [List.length_append, List.length_singleton]; omega)]
      exact ⟨m, hm.1, his⟩
theorem DkAt.keep {w w' : World} {B : Nat} {v : Value} {d : Dk} (h : DkAt w B v d) (hk : ∀ p : Addr, p.block < B → w'.cell? p = w.cell? p) : DkAt w' B v d := by
  obtain ⟨A, n, c, A', n', c', e, h1, h2, h3, h4, h5, h6⟩ := h
  exact ⟨A, n, c, A', n', c', e, h1, h2, h3, h4, h5.keep hk, h6.keep hk⟩
theorem MapIs.below {w w' : World} {b n B : Nat} {f : Fn} (h : MapIs w b n f) (hb : Below B w w') (hB : b < B) : MapIs w' b n f := by
  obtain ⟨D, ⟨es, clock, h1, r⟩, hr⟩ := h
  exact ⟨D, ⟨es, clock, (hb.block b hB).trans h1, r⟩, hr⟩
theorem MapIs.nocell {w : World} {b n : Nat} {f : Fn} (h : MapIs w b n f) {p : Addr} (hp : p.block = b) : w.cell? p = none := by
  obtain ⟨D, ⟨es, clock, h1, _⟩, _⟩ := h
  simp [World.cell?, hp, h1]
theorem map_keep {w w' : World} {b n n' : Nat} {f f' : Fn} (h : MapIs w b n f) (h' : MapIs w' b n' f') (hg : w.grownBy w' (some b)) : ∀ p : Addr, p.block < w.heap.size → w'.cell? p = w.cell? p := fun p hp => by
  by_cases e : p.block = b
  · rw [h.nocell e, h'.nocell e]
  · exact World.cell?_of_block (w := w) (hg.block p.block hp (fun q => e (Option.some.inj q)))
theorem Bk.map {w w' : World} {b n g : Nat} {f : Fn} {t : TypeId} {cs : Array Value} (h : Bk w g t cs) (hm : MapIs w b n f) (hg : w.grownBy w' (some b)) : Bk w' g t cs := by
  refine (hg.block g h.lt (fun q => ?_)).trans h
  injection q with q
  subst q
  have h1 := h.cell 0
  obtain ⟨D, ⟨es, clock, h2, _⟩, _⟩ := hm
  unfold Bk at h
  rw [h] at h2
  cases h2
end Go.Proofs.YthflljlilcmcnaaGreatDoor
namespace Go.Proofs.YthflljlilcmcnaaGreatDoor
open List (setIfInBounds_toArray set_cons_zero set_cons_succ getElem_toArray getElem_cons_zero getElem_cons_succ)
set_option linter.unusedVariables false
set_option linter.unusedSimpArgs false
open Go.RowKit Go.Maps
set_option linter.unusedVariables false
set_option linter.unusedSimpArgs false
theorem exec_loadK {P : Program} {o : Oper} {ρ : Operand → Value} {w : World} {ty : TypeId} {x : Operand} (ho : o.op = .load ty x) {b off : Nat} (hx : ρ x = .pointer (some ⟨b, off, none⟩)) {cs : Array Value} {d : TypeDesc} (hc : w.rangeAt b off cs.toList)
    (hu : P.underlying ty = some d) (hd : d.isRow = true) (hi : (P.info? ty).map (·.size) = some cs.size) : (execOp ρ o).run P w = .ok (.value (.agg cs)) w := by
  unfold execOp
  simp only [ho, hx, Instr.loadAt, Instr.sureAddr, Sem.run_bind, Sem.run_pure, Result.andThen_ok, run_loadVar_mid w b off ty cs.toList d hc hu hd (by rw [Array.length_toList]; exact hi), Array.toArray_toList]
theorem Bk.rangeK {w : World} {b : Nat} {t : TypeId} {cs : Array Value} (h : Bk w b t cs) : w.rangeAt b 0 cs.toList := fun i v hv => by
  rw [Nat.zero_add, h.cell, ← Array.getElem?_toList]; exact hv
theorem take_textK {L : List (List Nat)} {k : Nat} (hk : k < L.length) : L.take (k + 1) = L.take k ++ [textAt L k] := by
  rw [List.take_succ_eq_append_getElem hk]
  congr 2
  unfold textAt
  rw [List.getD_eq_getElem?_getD, List.getElem?_eq_getElem hk]; rfl
theorem sizeDisk : (Tryz.prog.info? 45).map (·.size) = some 4 := by kernel_rfl
theorem sizeLog : (Tryz.prog.info? 29).map (·.size) = some 4 := by kernel_rfl
theorem dec_ok {b : List Nat} {w w' : World} {e : Ending} (h : DecIs b w e w') (h0 : decE b = 0) : ∃ A n c, e = .returned (.tuple #[.slice A n c, .int .i64 0]) ∧ OwnK 3 chgC w' w.heap.size 61 A n c (decV b) ∧ Below w.heap.size w w' := by
  obtain ⟨A, n, c, rfl, h1, h2⟩ := h
  exact ⟨A, n, c, by rw [h0] <;> rfl, h1, h2⟩
def OffR (A : Option Addr) (n b1 b5 : Nat) : Prop := 0 < n → ∃ b, A = some ⟨b, 0, none⟩ ∧ b ≠ b1 ∧ b ≠ b5
structure OpK (w : World) (x : Dk) (A9 A9' AR : Option Addr) (n9 c9 n9' c9' : Nat) (L : List (List Nat)) (b1 b2 b3 b5 : Nat) (r1 r5 : Array Value) (W : World) : Prop where
  k1 : Bk W b1 45 r1
  k2 : Bk W b2 45 #[.slice none 0 0, .slice none 0 0, .int .i64 0, .bool false]
  k3 : Bk W b3 31 #[.int .i64 0, .int .i64 0, .int .i64 0, .int .i64 0, .slice none 0 0]
  k5 : Bk W b5 29 r5
  hd : DkAt W W.heap.size (.agg #[.slice A9 n9 c9, .slice A9' n9' c9', .int .i64 x.fuse, .bool x.down]) x
  hr : Rss W W.heap.size AR L.length L
  hb : Below w.heap.size w W
theorem OpK.below {w W W' : World} {x : Dk} {A9 A9' AR : Option Addr} {n9 c9 n9' c9' : Nat} {L : List (List Nat)} {b1 b2 b3 b5 : Nat} {r1 r5 : Array Value} (H : OpK w x A9 A9' AR n9 c9 n9' c9' L b1 b2 b3 b5 r1 r5 W) (hb : Below W.heap.size W W') : OpK w x A9 A9' AR n9 c9 n9' c9' L b1 b2 b3 b5 r1 r5 W' :=
  ⟨H.k1.below hb H.k1.lt, H.k2.below hb H.k2.lt, H.k3.below hb H.k3.lt, H.k5.below hb H.k5.lt, H.hd.later hb, H.hr.later hb, H.hb.trans (hb.mono H.hb.size)⟩
theorem size_stored4 (W : World) (b : Nat) (a0 a1 a2 a3 : Value) : (stored4 W b a0 a1 a2 a3).heap.size = W.heap.size := by unfold stored4; simp
theorem OpK.disk {w W : World} {x : Dk} {A9 A9' AR : Option Addr} {n9 c9 n9' c9' : Nat} {L : List (List Nat)} {b1 b2 b3 b5 : Nat} {A1 A1' : Option Addr} {n1 c1 n1' c1' : Nat} {f : Int} {dn : Bool} {r5 : Array Value}
    (H : OpK w x A9 A9' AR n9 c9 n9' c9' L b1 b2 b3 b5 #[.slice A1 n1 c1, .slice A1' n1' c1', .int .i64 f, .bool dn] r5 W) (h1 : w.heap.size ≤ b1) (hn : b2 ≠ b1 ∧ b3 ≠ b1 ∧ b5 ≠ b1) (ho : OffR AR L.length b1 b5) :
    OpK w x A9 A9' AR n9 c9 n9' c9' L b1 b2 b3 b5 #[.slice A9 n9 c9, .slice A9' n9' c9', .int .i64 x.fuse, .bool x.down] r5 (stored4 W b1 (.slice A9 n9 c9) (.slice A9' n9' c9') (.int .i64 x.fuse) (.bool x.down)) := by
  have hf := stored4_facts H.k1 (.slice A9 n9 c9) (.slice A9' n9' c9') (.int .i64 x.fuse) (.bool x.down)
  refine ⟨hf.1, hf.2.2.2 _ _ _ hn.1 H.k2, hf.2.2.2 _ _ _ hn.2.1 H.k3, hf.2.2.2 _ _ _ hn.2.2 H.k5, hf.2.1 _ _ H.hd, ?_, hf.2.2.1 _ _ H.hb h1⟩
  rw [size_stored4]
  exact rss_stored4 H.hr (fun o k h => by rcases four_cell H.k1 h with ⟨_, h⟩ | ⟨_, h⟩ | ⟨_, h⟩ | ⟨_, h⟩ <;> cases h) (fun o h0 e => by
    obtain ⟨b, rfl, hb, _⟩ := ho h0
    injection e with e
    injection e with e
    exact hb e) _ _ _ _
theorem OpK.log {w W : World} {x : Dk} {A9 A9' AR : Option Addr} {n9 c9 n9' c9' : Nat} {L : List (List Nat)} {b1 b2 b3 b5 : Nat} {e0 e1 e2 e3 : Int} {r1 : Array Value}
    (H : OpK w x A9 A9' AR n9 c9 n9' c9' L b1 b2 b3 b5 r1 #[.int .i64 e0, .int .i64 e1, .int .i64 e2, .int .i64 e3] W) (h5 : w.heap.size ≤ b5) (hn : b1 ≠ b5 ∧ b2 ≠ b5 ∧ b3 ≠ b5) (ho : OffR AR L.length b1 b5) (z0 z1 z2 z3 : Value) :
    OpK w x A9 A9' AR n9 c9 n9' c9' L b1 b2 b3 b5 r1 #[z0, z1, z2, z3] (stored4 W b5 z0 z1 z2 z3) := by
  have hf := stored4_facts H.k5 z0 z1 z2 z3
  refine ⟨hf.2.2.2 _ _ _ hn.1 H.k1, hf.2.2.2 _ _ _ hn.2.1 H.k2, hf.2.2.2 _ _ _ hn.2.2 H.k3, hf.1, hf.2.1 _ _ H.hd, ?_, hf.2.2.1 _ _ H.hb h5⟩
  rw [size_stored4]
  exact rss_stored4 H.hr (fun o k h => by rcases four_cell H.k5 h with ⟨_, h⟩ | ⟨_, h⟩ | ⟨_, h⟩ | ⟨_, h⟩ <;> cases h) (fun o h0 e => by
    obtain ⟨b, rfl, _, hb⟩ := ho h0
    injection e with e
    injection e with e
    exact hb e) _ _ _ _
theorem OpK.map {w W W' : World} {x : Dk} {A9 A9' AR : Option Addr} {n9 c9 n9' c9' : Nat} {L : List (List Nat)} {b1 b2 b3 b5 bm n n' : Nat} {f f' : Fn} {r1 r5 : Array Value} (H : OpK w x A9 A9' AR n9 c9 n9' c9' L b1 b2 b3 b5 r1 r5 W) (hm : MapIs W bm n f) (hm' : MapIs W' bm n' f') (hg : W.grownBy W' (some bm)) (hbm : w.heap.size ≤ bm) : OpK w x A9 A9' AR n9 c9 n9' c9' L b1 b2 b3 b5 r1 r5 W' := by
  have hk := map_keep hm hm' hg
  exact ⟨H.k1.map hm hg, H.k2.map hm hg, H.k3.map hm hg, H.k5.map hm hg, (H.hd.keep hk).more hg.size, (H.hr.keep hk).more hg.size, H.hb.grown hg H.hb.size (fun k hk => by cases hk; exact hbm)⟩
def OpnWaysK (n : Nat) (d : Dk) (h g : Nat) (L : List (List Nat)) (m : List Pr) (w : World) (e : Ending) (w' : World) : Prop :=
  (∃ (x : Dk) (A : Option Addr) (nn c : Nat), Rest n x ∧ (d.fuse = -1 → x.fuse = -1) ∧ HoldsZ n x (1 - h) (g + 1) L ∧ ColK 2 pairC w' w'.heap.size A nn m ∧ StoRes w (x, 0) ((1 - h : Nat) : Int) ((g + 1 : Nat) : Int) (sumT L : Nat) (L.length : Nat) A nn c e w') ∨
  (d.fuse ≠ -1 ∧ ∃ x : Dk, rightB x = true ∧ x.secs.length = n ∧ (∀ m, Holds n (startM x m).1 h g L ∨ Holds n (startM x m).1 (1 - h) (g + 1) L) ∧ StoRes w (x, 9) 0 0 0 0 none 0 0 e w')
set_option maxRecDepth 100000 in
set_option maxHeartbeats 4000000 in
theorem kopen_any {n : Nat} (v : Value) (d : Dk) (h g : Nat) (L : List (List Nat)) (m : List Pr) (w : World) (hd : DkAt w w.heap.size v d) (hF : Rest n d) (hZ : Holds n d h g L) (hg : g < 1099511627776) (ht : Tab w) (hP : PlayOk L m) (hLn : L.length ≤ 100000) :
    Calls Tryz.prog 25 #[v] w (OpnWaysK n d h g L m w) := by
  obtain ⟨A1, n1, c1, A1', n1', c1', rfl, hx⟩ := hd
  have HD := Lib.hid (show DkAt w w.heap.size (.agg #[.slice A1 n1 c1, .slice A1' n1' c1', .int .i64 d.fuse, .bool d.down]) d from ⟨A1, n1, c1, A1', n1', c1', rfl, hx⟩)
  have HF := Lib.hid hF
  have HT := Lib.hid ht
  have HZ := Lib.hid hZ
  have HP := Lib.hid hP
  have HG := Lib.hid hg
  clear hF ht hx hZ hP hg
  go_enter Tryz.func25, Tryz.ntmps25
  go_wp2_with fail
  obtain ⟨b1, hb1⟩ : ∃ b, b = w.heap.size := ⟨_, rfl⟩
  obtain ⟨b2, hb2⟩ : ∃ b, b = w.heap.size + 1 := ⟨_, rfl⟩
  obtain ⟨b3, hb3⟩ : ∃ b, b = w.heap.size + 1 + 1 := ⟨_, rfl⟩
  refine calls_over (fun W => Bk W b1 45 #[.slice A1 n1 c1, .slice A1' n1' c1', .int .i64 d.fuse, .bool d.down] ∧ Bk W b2 45 #[.slice none 0 0, .slice none 0 0, .int .i64 0, .bool false] ∧ Bk W b3 31 #[.int .i64 0, .int .i64 0, .int .i64 0, .int .i64 0, .slice none 0 0] ∧ DkAt W W.heap.size (.agg #[.slice A1 n1 c1, .slice A1' n1' c1', .int .i64 d.fuse, .bool d.down]) d ∧ Below w.heap.size w W) ⟨by rw [hb1]; exact ((Bk.new w _ _).alloc _).alloc _, by rw [hb2]; exact (Bk.new2 w _ _ _).alloc _, by rw [hb3]; exact Bk.new3 w _ _ _ _, HD.out.later ((((Below.refl w.heap.size w).alloc (Nat.le_refl _) _).alloc (by simp) _).alloc (by simp only [World.size_alloc]; omega) _), (((Below.refl w.heap.size w).alloc (Nat.le_refl _) _).alloc (by simp) _).alloc (by simp only [World.size_alloc]; omega) _⟩ ?_
  rintro W1 ⟨k1, k2, k3, hd1, hbw⟩
  rw [← hb3, ← hb2, ← hb1]
  have hl1 : w.heap.size ≤ b1 := by omega
  have hl2 : w.heap.size ≤ b2 := by omega
  have hl3 : w.heap.size ≤ b3 := by omega
  obtain ⟨hn12, hn13, hn23⟩ : b2 ≠ b1 ∧ b3 ≠ b1 ∧ b3 ≠ b2 := by omega
  clear hb1 hb2 hb3
  refine (open_ways _ d h g L W1 hd1 HF.out HZ.out HG.out (HT.out.below hbw HT.out.pos)).mono ?_
  intro e W2 hways
  rcases hways with ⟨x, hRx, hfx, hZx, hres⟩ | ⟨hfd, x, hRx, hlx, hZx, hres⟩
  · obtain ⟨v9, AR, cR, rfl, hd9, hLc, hcm, hrs, hba, hoff⟩ := hres
    have hoff2 : 0 < L.length → ∃ b, AR = some ⟨b, 0, none⟩ ∧ W1.heap.size ≤ b ∧ b < W2.heap.size := fun h0 => by
      obtain ⟨b, hb, hb2⟩ := hoff h0
      obtain ⟨b', o', hb', hb3, _⟩ := hrs.2 h0
      rw [hb] at hb'
      injection hb' with hb'
      injection hb' with hb'
      exact ⟨b, hb, hb2, by omega⟩
    clear hoff hcm
    obtain ⟨A9, n9, c9, A9', n9', c9', rfl, hx9⟩ := hd9
    have hd9 : DkAt W2 W2.heap.size (.agg #[.slice A9 n9 c9, .slice A9' n9' c9', .int .i64 x.fuse, .bool x.down]) x := ⟨A9, n9, c9, A9', n9', c9', rfl, hx9⟩
    clear hx9
    have hk1 := k1.below hba k1.lt
    have hk2 := k2.below hba k2.lt
    have hk3 := k3.below hba k3.lt
    have hbw2 := hbw.trans (hba.mono hbw.size)
    obtain ⟨⟨p0, p1, p2, p3⟩, q0, q1, q2, q3⟩ := hk1.four
    have H0 := Lib.hid (And.intro hk1 (And.intro hk2 (And.intro hk3 (And.intro hd9 (And.intro hrs hbw2)))))
    have hlt1 := k1.lt
    have hlt2 := k2.lt
    have hlt3 := k3.lt
    have hsz := hba.size
    clear hk1 hk2 hk3 hd9 hrs hbw2 hbw hba k1 k2 k3 hd1
    unfold logN
    go_wp2_with ((with_reducible show wpList _ _ _ (⟨none, _, _, _, _, _⟩ :: _) _ _); refine hold ?_)
    obtain ⟨hk1, hk2, hk3, hd9, hrs, hbw2⟩ := H0.out
    have hba : Below W2.heap.size W2 (W2.alloc (.cells #[.int .i64 0, .int .i64 0, .int .i64 0, .int .i64 0] 29)) := (Below.refl _ _).alloc (Nat.le_refl _) _
    refine list_over (OpK w x A9 A9' AR n9 c9 n9' c9' L b1 b2 b3 W2.heap.size #[.slice A1 n1 c1, .slice A1' n1' c1', .int .i64 d.fuse, .bool d.down] #[.int .i64 0, .int .i64 0, .int .i64 0, .int .i64 0]) ⟨hk1.below hba hk1.lt, hk2.below hba hk2.lt, hk3.below hba hk3.lt, Bk.new _ _ _, hd9.later hba, hrs.later hba, hbw2.trans (hba.mono hbw2.size)⟩ ?_
    have hl5 : w.heap.size ≤ W2.heap.size := hbw2.size
    obtain ⟨b5, hb5⟩ : ∃ b, b = W2.heap.size := ⟨_, rfl⟩
    have HOFF : Hid (OffR AR (L : List (List Nat)).length b1 b5) := Lib.hid (fun h0 => by obtain ⟨b, hb, hb2, hb3⟩ := hoff2 h0; exact ⟨b, hb, by omega, by omega⟩)
    rw [← hb5] at hl5 ⊢
    obtain ⟨hm1, hm2, hm3⟩ : b5 ≠ b1 ∧ b5 ≠ b2 ∧ b5 ≠ b3 := by omega
    clear hb5 hba hk1 hk2 hk3 hd9 hrs hbw2 H0 p0 p1 p2 p3 q0 q1 q2 q3 hlt1 hlt2 hlt3 hsz hoff2
    intro W7 H7
    have HS := Lib.hid (H7.disk hl1 ⟨hn12, hn13, hm1⟩ HOFF.out)
    obtain ⟨⟨p0, p1, p2, p3⟩, q0, q1, q2, q3⟩ := H7.k1.four
    unfold stored4 at HS
    clear H7
    refine held ?_
    go_wp2_with ((with_reducible show wpList _ _ _ (⟨none, .store 29 _ _, _, _, _, _⟩ :: _) _ _); refine hold ?_)
    refine list_over _ HS.out ?_
    clear HS p0 p1 p2 p3 q0 q1 q2 q3
    intro W8 H8
    have HS := Lib.hid (H8.log hl5 ⟨Ne.symm hm1, Ne.symm hm2, Ne.symm hm3⟩ HOFF.out (.int .i64 ((1 - h : Nat) : Int)) (.int .i64 ((g + 1 : Nat) : Int)) (.int .i64 ((sumT L : Nat) : Int)) (.int .i64 ((L.length : Nat) : Int)))
    obtain ⟨⟨p0, p1, p2, p3⟩, q0, q1, q2, q3⟩ := H8.k5.four
    unfold stored4 at HS
    clear H8
    refine held ?_
    have HS2 := HS
    clear HS
    have hmm := @run_makeMap Tryz.prog
    have hw8 : w.heap.size ≤ W8.heap.size := by have := HS2.out.hb.size; simpa using this
    have HM8 : Hid (∀ X : World, X.heap.size = W8.heap.size → MapIs (X.alloc (.map #[] 0)) W8.heap.size 0 (fun _ => none)) := Lib.hid fun X hX => by rw [← hX]; exact MapIs.made X
    go_wp2_with fail
    clear hmm
    refine code_over (fun W => OpK w x A9 A9' AR n9 c9 n9' c9' L b1 b2 b3 b5 #[.slice A9 n9 c9, .slice A9' n9' c9', .int .i64 x.fuse, .bool x.down] #[.int .i64 ((1 - h : Nat) : Int), .int .i64 ((g + 1 : Nat) : Int), .int .i64 ((sumT L : Nat) : Int), .int .i64 ((L.length : Nat) : Int)] W ∧ MapIs W W8.heap.size 0 (fun _ => none)) ⟨HS2.out.below ((Below.refl _ _).alloc (Nat.le_refl _) _), HM8.out _ (by simp)⟩ ?_
    clear HS2 HM8 p0 p1 p2 p3 q0 q1 q2 q3
    obtain ⟨bm, hbm⟩ : ∃ b, b = W8.heap.size := ⟨_, rfl⟩
    rw [← hbm] at hw8 ⊢
    clear hbm
    rintro W10 ⟨h10, hm10⟩
    have H10 := Lib.hid h10
    have HM10 := Lib.hid hm10
    have HRX := Lib.hid hRx; have HFX := Lib.hid hfx; have HZX := Lib.hid hZx
    clear h10 hm10 hRx hfx hZx
    have HMO : Hid (MapIs W10 bm 400 (fun _ => none)) := Lib.hid (HM10.out.mono (by omega))
    clear HM10
    go_loopw [28] (fun i wx => ∃ k : Nat, k ≤ L.length ∧ i = .int .i64 (k : Int) ∧ OpK w x A9 A9' AR n9 c9 n9' c9' L b1 b2 b3 b5 #[.slice A9 n9 c9, .slice A9' n9' c9', .int .i64 x.fuse, .bool x.down] #[.int .i64 ((1 - h : Nat) : Int), .int .i64 ((g + 1 : Nat) : Int), .int .i64 ((sumT L : Nat) : Int), .int .i64 ((L.length : Nat) : Int)] wx ∧ MapIs wx bm 400 (playF (fun _ => none) (L.take k))) (fun i _ => L.length - (intOf i).toNat)
    case atStart => exact ⟨0, Nat.zero_le _, rfl, H10.out, HMO.out⟩
    case round =>
      obtain ⟨k, hk, rfl, hok, hmk⟩ := hrel
      have HO := Lib.hid hok
      have HMK := Lib.hid hmk
      clear hok hmk H10 HMO
      by_cases hlt : k < L.length
      · obtain ⟨b, o, A', n', c', rfl, hbb, hcell, hnc, hcm, hn', hby⟩ := HO.out.hr.at_ hlt
        have hk0 : (0 : Int) ≤ (k : Int) := by omega
        have hkn : (k : Int) < (L.length : Int) := by omega
        have hkm : IntKind.i64.wrap ((k : Int) + 1) = (k : Int) + 1 := IntWalk.i64_in _ (by omega)
        have hmem : textAt L k ∈ L := textAt_mem hlt
        have h0 := HP.out.dec _ hmem
        have HD0 := Lib.hid h0
        have HTK : Hid (playF (fun _ => none) (L.take (k + 1)) = runF (playF (fun _ => none) (L.take k)) (decV (textAt L k))) := Lib.hid (by rw [take_textK hlt, playF_snoc])
        have HBY := Lib.hid hby
        clear hmem h0 hby
        go_wp2_with fail
        refine (decode_any A' n' c' wr.heap.size (textAt L k) wr HBY.out hn').mono ?_
        intro e W2 hdec
        obtain ⟨A2, n2, c2, rfl, ho2, hb2⟩ := dec_ok hdec HD0.out
        have HO2 := Lib.hid (HO.out.below hb2)
        have hbml := HMK.out.lt
        have HM2 := Lib.hid (HMK.out.below hb2 hbml)
        have hn2 : n2 ≤ 400 := by rw [← ho2.len]; exact decV_len _
        have HNE : Hid (0 < n2 → ∀ p, A2 = some p → p.block ≠ bm) := Lib.hid (fun h0 p hp => by
          obtain ⟨g0, hg0, hg1, hg2, _⟩ := ho2.range h0
          rw [hg0] at hp
          obtain rfl := Option.some.inj hp
          show g0 ≠ bm
          omega)
        have HCH := Lib.hid (change_any bm 400 _ A2 n2 c2 (decV (textAt L k)) W2 HM2.out ho2.col HNE.out (fun y hy => by have := (decV_size _ y hy).1; omega) (by omega) (by omega))
        clear hdec ho2 hb2 HBY HO HMK hcell hbb
        go_wp2_with fail
        refine HCH.out.mono ?_
        rintro e W3 ⟨rfl, hm3, hg3⟩
        have HO3 := Lib.hid (HO2.out.map HM2.out hm3 hg3 hw8)
        obtain ⟨l3, hl3', hli⟩ := HP.out.le (k + 1)
        rw [HTK.out] at hli
        obtain ⟨D, hown, hrd, hsz⟩ := hm3.tight hli hl3'
        have HSZ := Lib.hid hsz
        have HOWN := Lib.hid hown
        have HRD := Lib.hid hrd
        have hl4 : ¬ (400 : Int) < (l3.length : Int) := by omega
        clear hm3 hg3 HCH HO2 HM2 HNE hli hsz hown hrd
        go_wp2_with ((with_reducible show wpList _ _ _ (⟨some 45, _, _, _, _, _⟩ :: _) _ _); refine hold ?_)
        refine held (wpList_len_own _ rfl (.tmp 44) 65 rfl 9 63 Tryz.underlying65 pairElem bm 400 D rfl HOWN.out ?_)
        rw [HSZ.out]
        go_wp2_with fail
        go_roundw
        case rel => exact ⟨k + 1, by omega, by go_num, HO3.out, D, HOWN.out, by rw [HTK.out]; exact HRD.out⟩
        case measure => simp [intOf]; omega
      · have hkn : ¬ (k : Int) < (L.length : Int) := by omega
        have hmf : MapIs wr bm 400 (playF (fun _ => none) L) := by have := HMK.out; rwa [List.take_of_length_le (by omega)] at this
        have HMF := Lib.hid hmf
        have hm : Tryz.prog.follows .mixedOrders = true := by kernel_rfl
        clear hmf HMK hlt hk
        go_wp2_with fail
        refine wp_region_held_drew (S := fun W' => Below w.heap.size w W' ∧ Bk W' b1 45 #[.slice A9 n9 c9, .slice A9' n9' c9', .int .i64 x.fuse, .bool x.down] ∧ Bk W' b5 29 #[.int .i64 ((1 - h : Nat) : Int), .int .i64 ((g + 1 : Nat) : Int), .int .i64 ((sumT L : Nat) : Int), .int .i64 ((L.length : Nat) : Int)]) hm ⟨HO.out.hb.drew, HO.out.k1.drew, HO.out.k5.drew⟩ (fun hHeld => ?_)
        have HOV := Lib.hid (HO.out.below (Below.refl _ _).drew)
        have HMV := Lib.hid (HMF.out.below (Below.refl _ _).drew HMF.out.lt)
        clear HO HMF
        obtain ⟨V0, hV0⟩ : ∃ V, V = wr.drew := ⟨_, rfl⟩
        rw [← hV0] at hHeld HOV HMV ⊢
        clear hV0
        simp only [List.size_toArray, List.length_cons, List.length_nil, Nat.reduceAdd]
        refine wpAnyH_take (i := 0) (v := .agg #[.slice A9 n9 c9, .slice A9' n9' c9', .int .i64 x.fuse, .bool x.down]) rfl (by kernel_rfl) (by kernel_rfl) (by kernel_rfl) (fun _ _ _ h => h) (Or.inl ⟨by rfl, fun w0 hC => exec_loadK rfl rfl hC.2.1.rangeK Tryz.underlying45 rfl sizeDisk⟩) hHeld ?_
        try simp only [Act.put, setIfInBounds_toArray, set_cons_zero, set_cons_succ]
        refine wpAnyH_take (i := 1) (v := .agg #[.int .i64 ((1 - h : Nat) : Int), .int .i64 ((g + 1 : Nat) : Int), .int .i64 ((sumT L : Nat) : Int), .int .i64 ((L.length : Nat) : Int)]) rfl (by kernel_rfl) (by kernel_rfl) (by kernel_rfl) (fun _ _ _ h => h) (Or.inl ⟨by rfl, fun w0 hC => exec_loadK rfl rfl hC.2.2.rangeK Tryz.underlying29 rfl sizeLog⟩) hHeld ?_
        try simp only [Act.put, setIfInBounds_toArray, set_cons_zero, set_cons_succ]
        refine wpAnyH_take (i := 2) (v := .map (some bm)) rfl (by kernel_rfl) (by kernel_rfl) (by kernel_rfl) (fun _ _ _ h => h) (Or.inl ⟨by rfl, fun w0 hC => by simp [execOp, Act.eval, Act.put, go_sem]⟩) hHeld ?_
        try simp only [Act.put, setIfInBounds_toArray, set_cons_zero, set_cons_succ]
        refine wpAnyH_ready (rs := [3]) (by kernel_rfl) (by simp) (AllReadyH.cons rfl (fun K hK => ?_) AllReadyH.nil)
        rw [if_pos (by rfl)]
        go_wp2_with fail
        refine (rising_any bm 400 _ V0 HMV.out (by omega)).mono ?_
        rintro e V1 ⟨A8, n8, c8, l8, rfl, ho8, hl8, hb8⟩
        have hl8m : l8 = m := hl8.unique HP.out.is
        subst hl8m
        have HOW := Lib.hid (HOV.out.below hb8)
        have HO8 := Lib.hid ho8
        have h0b1 : b1 < V0.heap.size := hHeld.2.1.lt
        have h0b2 : b2 < V0.heap.size := HOV.out.k2.lt
        have h0b3 : b3 < V0.heap.size := HOV.out.k3.lt
        have HNB : Hid (0 < n8 → ∀ p, A8 = some p → p.block ≠ b2 ∧ p.block ≠ b3) := Lib.hid (fun h0 p hp => by
          obtain ⟨g0, hg0, hg1, hg2, _⟩ := ho8.range h0
          rw [hg0] at hp
          obtain rfl := Option.some.inj hp
          show g0 ≠ b2 ∧ g0 ≠ b3
          omega)
        have hS : Below w.heap.size w V1 ∧ Bk V1 b1 45 #[.slice A9 n9 c9, .slice A9' n9' c9', .int .i64 x.fuse, .bool x.down] ∧ Bk V1 b5 29 #[.int .i64 ((1 - h : Nat) : Int), .int .i64 ((g + 1 : Nat) : Int), .int .i64 ((sumT L : Nat) : Int), .int .i64 ((L.length : Nat) : Int)] := ⟨HOW.out.hb, HOW.out.k1, HOW.out.k5⟩
        clear hHeld ho8 hl8 hb8 HOV HMV h0b1 h0b2 h0b3
        refine hK.out _ _ hS (fun hHeld => ?_)
        clear hK K
        try simp only [Act.put, setIfInBounds_toArray, set_cons_zero, set_cons_succ]
        clear hS
        refine wpAnyH_take (i := 4) (v := .agg #[.int .i64 ((1 - h : Nat) : Int), .int .i64 ((g + 1 : Nat) : Int), .int .i64 ((sumT L : Nat) : Int), .int .i64 ((L.length : Nat) : Int), .slice A8 n8 c8]) rfl (by kernel_rfl) (by kernel_rfl) (by kernel_rfl) (fun _ _ _ h => h) (Or.inl ⟨by rfl, fun w0 hC => by simp [execOp, Act.eval, Act.put, go_sem]⟩) hHeld ?_
        try simp only [Act.put, setIfInBounds_toArray, set_cons_zero, set_cons_succ]
        obtain ⟨⟨p0, p1, p2, p3⟩, q0, q1, q2, q3⟩ := HOW.out.k2.four
        have hf5 := stored4_facts HOW.out.k2 (.slice A9 n9 c9) (.slice A9' n9' c9') (.int .i64 x.fuse) (.bool x.down)
        have HS : Hid ((fun W' => (Below w.heap.size w W' ∧ Bk W' b1 45 #[.slice A9 n9 c9, .slice A9' n9' c9', .int .i64 x.fuse, .bool x.down] ∧ Bk W' b5 29 #[.int .i64 ((1 - h : Nat) : Int), .int .i64 ((g + 1 : Nat) : Int), .int .i64 ((sumT L : Nat) : Int), .int .i64 ((L.length : Nat) : Int)]) ∧ Bk W' b2 45 #[.slice A9 n9 c9, .slice A9' n9' c9', .int .i64 x.fuse, .bool x.down] ∧ Bk W' b3 31 #[.int .i64 0, .int .i64 0, .int .i64 0, .int .i64 0, .slice none 0 0] ∧ DkAt W' W'.heap.size (.agg #[.slice A9 n9 c9, .slice A9' n9' c9', .int .i64 x.fuse, .bool x.down]) x ∧ ColK 2 pairC W' W'.heap.size A8 n8 l8) (stored4 V1 b2 (.slice A9 n9 c9) (.slice A9' n9' c9') (.int .i64 x.fuse) (.bool x.down))) := Lib.hid ⟨⟨hf5.2.2.1 _ _ HOW.out.hb hl2, hf5.2.2.2 _ _ _ (Ne.symm hn12) HOW.out.k1, hf5.2.2.2 _ _ _ hm2 HOW.out.k5⟩, hf5.1, hf5.2.2.2 _ _ _ hn23 HOW.out.k3, hf5.2.1 _ _ HOW.out.hd, col_stored4 HO8.out.col b2 (fun h0 p hp => (HNB.out h0 p hp).1) _ _ _ _⟩
        unfold stored4 at HS
        clear hf5
        refine wpAnyH_ready (rs := [5]) (by kernel_rfl) (by simp) (AllReadyH.cons rfl (fun K hK => ?_) AllReadyH.nil)
        rw [if_pos (by rfl)]
        go_wp2_with fail
        refine k_over (fun W' => (Below w.heap.size w W' ∧ Bk W' b1 45 #[.slice A9 n9 c9, .slice A9' n9' c9', .int .i64 x.fuse, .bool x.down] ∧ Bk W' b5 29 #[.int .i64 ((1 - h : Nat) : Int), .int .i64 ((g + 1 : Nat) : Int), .int .i64 ((sumT L : Nat) : Int), .int .i64 ((L.length : Nat) : Int)]) ∧ Bk W' b2 45 #[.slice A9 n9 c9, .slice A9' n9' c9', .int .i64 x.fuse, .bool x.down] ∧ Bk W' b3 31 #[.int .i64 0, .int .i64 0, .int .i64 0, .int .i64 0, .slice none 0 0] ∧ DkAt W' W'.heap.size (.agg #[.slice A9 n9 c9, .slice A9' n9' c9', .int .i64 x.fuse, .bool x.down]) x ∧ ColK 2 pairC W' W'.heap.size A8 n8 l8) HS.out ?_
        clear HS p0 p1 p2 p3 q0 q1 q2 q3 hHeld HOW HO8
        rintro V2 ⟨hS, k2, k3, hd9, hcol⟩
        refine hK.out _ _ hS (fun hHeld => ?_)
        clear hK K
        try simp only [Act.put, setIfInBounds_toArray, set_cons_zero, set_cons_succ]
        clear hS
        obtain ⟨⟨p0, p1, p2, p3, p4⟩, q0, q1, q2, q3, q4⟩ := k3.five
        have hf6 := stored5_facts k3 (.int .i64 ((1 - h : Nat) : Int)) (.int .i64 ((g + 1 : Nat) : Int)) (.int .i64 ((sumT L : Nat) : Int)) (.int .i64 ((L.length : Nat) : Int)) (.slice A8 n8 c8)
        have HS : Hid ((fun W' => (Below w.heap.size w W' ∧ Bk W' b1 45 #[.slice A9 n9 c9, .slice A9' n9' c9', .int .i64 x.fuse, .bool x.down] ∧ Bk W' b5 29 #[.int .i64 ((1 - h : Nat) : Int), .int .i64 ((g + 1 : Nat) : Int), .int .i64 ((sumT L : Nat) : Int), .int .i64 ((L.length : Nat) : Int)]) ∧ LiesS w b2 b3 A9 A9' n9 c9 n9' c9' x ((1 - h : Nat) : Int) ((g + 1 : Nat) : Int) ((sumT L : Nat) : Int) ((L.length : Nat) : Int) A8 n8 c8 W' ∧ ColK 2 pairC W' W'.heap.size A8 n8 l8) (stored5 V2 b3 (.int .i64 ((1 - h : Nat) : Int)) (.int .i64 ((g + 1 : Nat) : Int)) (.int .i64 ((sumT L : Nat) : Int)) (.int .i64 ((L.length : Nat) : Int)) (.slice A8 n8 c8))) := Lib.hid ⟨⟨hf6.2.2.1 _ _ hHeld.1 hl3, hf6.2.2.2 _ _ _ (Ne.symm hn13) hHeld.2.1, hf6.2.2.2 _ _ _ hm3 hHeld.2.2⟩, ⟨hf6.2.2.2 _ _ _ (Ne.symm hn23) k2, hf6.1, hf6.2.1 _ _ hd9, hf6.2.2.1 _ _ hHeld.1 hl3⟩, col_stored5 hcol b3 (fun h0 p hp => (HNB.out h0 p hp).2) _ _ _ _ _⟩
        unfold stored5 stored4 at HS
        clear hf6
        refine wpAnyH_ready (rs := [6]) (by kernel_rfl) (by simp) (AllReadyH.cons rfl (fun K hK => ?_) AllReadyH.nil)
        rw [if_pos (by rfl)]
        go_wp2_with fail
        refine k_over (fun W' => (Below w.heap.size w W' ∧ Bk W' b1 45 #[.slice A9 n9 c9, .slice A9' n9' c9', .int .i64 x.fuse, .bool x.down] ∧ Bk W' b5 29 #[.int .i64 ((1 - h : Nat) : Int), .int .i64 ((g + 1 : Nat) : Int), .int .i64 ((sumT L : Nat) : Int), .int .i64 ((L.length : Nat) : Int)]) ∧ LiesS w b2 b3 A9 A9' n9 c9 n9' c9' x ((1 - h : Nat) : Int) ((g + 1 : Nat) : Int) ((sumT L : Nat) : Int) ((L.length : Nat) : Int) A8 n8 c8 W' ∧ ColK 2 pairC W' W'.heap.size A8 n8 l8) HS.out ?_
        clear HS p0 p1 p2 p3 p4 q0 q1 q2 q3 q4 hHeld k2 k3 hd9 hcol
        rintro V3 ⟨hS, hlies, hcol⟩
        have HW' := Lib.hid hlies
        have HCOL := Lib.hid hcol
        clear hlies hcol
        refine hK.out _ _ hS (fun hHeld => ?_)
        clear hK K
        try simp only [Act.put, setIfInBounds_toArray, set_cons_zero, set_cons_succ]
        clear hS
        refine wpAnyH_ready (rs := [7]) (by kernel_rfl) (by simp) (AllReadyH.cons rfl (fun K hK => ?_) AllReadyH.nil)
        rw [if_pos (by rfl)]
        go_wp2_with fail
        refine hK.out _ _ hHeld (fun hHeld => ?_)
        clear hK K
        try simp only [Act.put, setIfInBounds_toArray, set_cons_zero, set_cons_succ]
        refine wpAnyH_done (by kernel_rfl) ?_ _
        clear hHeld
        go_wp2
        refine bodyPost_ret (v := .tuple #[.agg #[.slice A9 n9 c9, .slice A9' n9' c9', .int .i64 x.fuse, .bool x.down], .agg #[.int .i64 ((1 - h : Nat) : Int), .int .i64 ((g + 1 : Nat) : Int), .int .i64 ((sumT L : Nat) : Int), .int .i64 ((L.length : Nat) : Int), .slice A8 n8 c8], .int .i64 0]) ?_ rfl (.inl ⟨x, A8, n8, c8, HRX.out, HFX.out, HZX.out, HCOL.out, ⟨_, rfl, HW'.out.2.2.1, HW'.out.2.2.2⟩⟩)
        exact results_cct (fn := Tryz.f25) (a1 := ⟨b2, 0, none⟩) (a2 := ⟨b3, 0, none⟩) rfl rfl rfl rfl (load_box4 HW'.out.1) (load_store5 HW'.out.2.1)
  · obtain ⟨v9, rfl, hd9, hba⟩ := hres
    have hrs : Rss W2 W2.heap.size none 0 [] := Rss.nil
    obtain ⟨A9, n9, c9, A9', n9', c9', rfl, hx9⟩ := hd9
    have hd9 : DkAt W2 W2.heap.size (.agg #[.slice A9 n9 c9, .slice A9' n9' c9', .int .i64 x.fuse, .bool x.down]) x := ⟨A9, n9, c9, A9', n9', c9', rfl, hx9⟩
    clear hx9
    have hk1 := k1.below hba k1.lt
    have hk2 := k2.below hba k2.lt
    have hk3 := k3.below hba k3.lt
    have hbw2 := hbw.trans (hba.mono hbw.size)
    obtain ⟨⟨p0, p1, p2, p3⟩, q0, q1, q2, q3⟩ := hk1.four
    have H0 := Lib.hid (And.intro hk1 (And.intro hk2 (And.intro hk3 (And.intro hd9 (And.intro hrs hbw2)))))
    have hlt1 := k1.lt
    have hlt2 := k2.lt
    have hlt3 := k3.lt
    have hsz := hba.size
    clear hk1 hk2 hk3 hd9 hrs hbw2 hbw hba k1 k2 k3 hd1
    rw [show logN 0 0 0 0 = .agg #[.int .i64 0, .int .i64 0, .int .i64 0, .int .i64 0] from rfl]
    go_wp2_with ((with_reducible show wpList _ _ _ (⟨none, _, _, _, _, _⟩ :: _) _ _); refine hold ?_)
    obtain ⟨hk1, hk2, hk3, hd9, hrs, hbw2⟩ := H0.out
    have hba : Below W2.heap.size W2 (W2.alloc (.cells #[.int .i64 0, .int .i64 0, .int .i64 0, .int .i64 0] 29)) := (Below.refl _ _).alloc (Nat.le_refl _) _
    refine list_over (OpK w x A9 A9' none n9 c9 n9' c9' ([] : List (List Nat)) b1 b2 b3 W2.heap.size #[.slice A1 n1 c1, .slice A1' n1' c1', .int .i64 d.fuse, .bool d.down] #[.int .i64 0, .int .i64 0, .int .i64 0, .int .i64 0]) ⟨hk1.below hba hk1.lt, hk2.below hba hk2.lt, hk3.below hba hk3.lt, Bk.new _ _ _, hd9.later hba, hrs.later hba, hbw2.trans (hba.mono hbw2.size)⟩ ?_
    have hl5 : w.heap.size ≤ W2.heap.size := hbw2.size
    obtain ⟨b5, hb5⟩ : ∃ b, b = W2.heap.size := ⟨_, rfl⟩
    have HOFF : Hid (OffR none (([] : List (List Nat)) : List (List Nat)).length b1 b5) := Lib.hid (fun h0 => absurd h0 (by simp))
    rw [← hb5] at hl5 ⊢
    obtain ⟨hm1, hm2, hm3⟩ : b5 ≠ b1 ∧ b5 ≠ b2 ∧ b5 ≠ b3 := by omega
    clear hb5 hba hk1 hk2 hk3 hd9 hrs hbw2 H0 p0 p1 p2 p3 q0 q1 q2 q3 hlt1 hlt2 hlt3 hsz 
    intro W7 H7
    have HS := Lib.hid (H7.disk hl1 ⟨hn12, hn13, hm1⟩ HOFF.out)
    obtain ⟨⟨p0, p1, p2, p3⟩, q0, q1, q2, q3⟩ := H7.k1.four
    unfold stored4 at HS
    clear H7
    refine held ?_
    go_wp2_with ((with_reducible show wpList _ _ _ (⟨none, .store 29 _ _, _, _, _, _⟩ :: _) _ _); refine hold ?_)
    refine list_over _ HS.out ?_
    clear HS p0 p1 p2 p3 q0 q1 q2 q3
    intro W8 H8
    have HS := Lib.hid (H8.log hl5 ⟨Ne.symm hm1, Ne.symm hm2, Ne.symm hm3⟩ HOFF.out (.int .i64 0) (.int .i64 0) (.int .i64 0) (.int .i64 0))
    obtain ⟨⟨p0, p1, p2, p3⟩, q0, q1, q2, q3⟩ := H8.k5.four
    unfold stored4 at HS
    clear H8
    refine held ?_
    go_wp2_with ((with_reducible show wpList _ _ _ (⟨some 22, _, _, _, _, _⟩ :: _) _ _); refine hold ?_)
    refine list_over _ HS.out ?_
    clear HS p0 p1 p2 p3 q0 q1 q2 q3
    intro W10 H10
    obtain ⟨⟨p0, p1, p2, p3⟩, q0, q1, q2, q3⟩ := H10.k1.four
    obtain ⟨⟨t0, t1, t2, t3⟩, r0, r1, r2, r3⟩ := H10.k2.four
    obtain ⟨⟨v0, v1, v2, v3, v4⟩, y0, y1, y2, y3, y4⟩ := H10.k3.five
    have HTB := two_boxesS (x := x) 0 0 0 0 none 0 0 H10.k2 H10.k3 hn23 H10.hd H10.hb hl2 hl3
    unfold stored5 stored4 at HTB
    have HRX := Lib.hid hRx; have HFD := Lib.hid hfd; have HLX := Lib.hid hlx; have HZX := Lib.hid hZx
    clear H10 hRx hfd hlx hZx
    refine held ?_
    go_wp2_with fail
    refine post_over (LiesS w b2 b3 A9 A9' n9 c9 n9' c9' x 0 0 0 0 none 0 0) HTB.out ?_
    intro W' HW
    clear p0 p1 p2 p3 q0 q1 q2 q3 t0 t1 t2 t3 r0 r1 r2 r3 v0 v1 v2 v3 v4 y0 y1 y2 y3 y4 HTB
    have HW' := Lib.hid HW
    clear HW
    refine bodyPost_ret (v := .tuple #[.agg #[.slice A9 n9 c9, .slice A9' n9' c9', .int .i64 x.fuse, .bool x.down], .agg #[.int .i64 0, .int .i64 0, .int .i64 0, .int .i64 0, .slice none 0 0], .int .i64 9]) ?_ rfl (.inr ⟨HFD.out, x, HRX.out, HLX.out, HZX.out, ⟨_, rfl, HW'.out.2.2.1, HW'.out.2.2.2⟩⟩)
    exact results_cct (fn := Tryz.f25) (a1 := ⟨b2, 0, none⟩) (a2 := ⟨b3, 0, none⟩) rfl rfl rfl rfl (load_box4 HW'.out.1) (load_store5 HW'.out.2.1)
end Go.Proofs.YthflljlilcmcnaaGreatDoor
namespace Go.Proofs.YthflljlilcmcnaaGreatDoor
open List (setIfInBounds_toArray set_cons_zero set_cons_succ getElem_toArray getElem_cons_zero getElem_cons_succ)
set_option linter.unusedVariables false
set_option linter.unusedSimpArgs false
open Go.RowKit Go.Maps
set_option linter.unusedVariables false
set_option linter.unusedSimpArgs false
theorem Holds.len {n : Nat} {d : Dk} {h g : Nat} {L : List (List Nat)} (H : Holds n d h g L) (hn : d.secs.length = n) (hr : rightB d = true) : L.length ≤ 100000 := by
  subst hn
  have hf := H.2.2.1.fits H.2.1 H.1
  have h1 : d.secs.length ≤ 4096 := by unfold rightB at hr; simp only [Bool.and_eq_true, decide_eq_true_eq] at hr; exact hr.1.1.1
  have := hf.2.2.2.2.1
  have := hf.2.2.2.2.2.2
  omega
def kA : ByteArray := ⟨#[97]⟩
def kB : ByteArray := ⟨#[98]⟩
def v1 : ByteArray := ⟨#[49]⟩
def v2 : ByteArray := ⟨#[50]⟩
def cs1 : List Chg := [(kB, v2, false), (kA, v1, false)]
def cs2 : List Chg := [(kA, ⟨#[]⟩, true)]
def ps1 : List Pr := [(kA, v1), (kB, v2)]
def ps2 : List Pr := [(kB, v2)]
theorem kAB : kA ≠ kB := by decide
theorem rise1 : Rising ps1 := by
  unfold Rising ps1
  refine List.pairwise_cons.2 ⟨fun q hq => ?_, List.pairwise_singleton ..⟩
  rw [List.mem_singleton.1 hq]
  show ltK kA kB
  unfold ltK
  decide
theorem rise2 : Rising ps2 := List.pairwise_singleton ..
theorem ok0 : PairsOk [] := ⟨by decide, (fun p hp => by cases hp), List.Pairwise.nil⟩
theorem ok1 : PairsOk ps1 := ⟨by decide, by decide, rise1⟩
theorem ok2 : PairsOk ps2 := ⟨by decide, by decide, rise2⟩
theorem lists1 : Lists ps1 (runF (putsF (fun _ => none) []) cs1) := by
  have : runF (putsF (fun _ => none) []) cs1 = fnOf ps1 := by
    funext k
    unfold runF putsF cs1 fnOf ps1 stepF updF
    simp only [List.foldl_nil, List.foldl_cons]
    by_cases h1 : k = kA
    · subst h1; simp
    · by_cases h2 : k = kB
      · subst h2; simp [kAB, Ne.symm kAB]
      · simp [h1, h2, Ne.symm h1, Ne.symm h2]
  rw [this]; exact lists_fnOf rise1
theorem lists2 : Lists ps2 (runF (putsF (fun _ => none) ps1) cs2) := by
  have : runF (putsF (fun _ => none) ps1) cs2 = fnOf ps2 := by
    funext k
    unfold runF putsF cs2 fnOf ps1 ps2 stepF updF
    simp only [List.foldl_nil, List.foldl_cons]
    by_cases h1 : k = kA
    · subst h1; simp [kAB, Ne.symm kAB]
    · by_cases h2 : k = kB
      · subst h2; simp [kAB, Ne.symm kAB]
      · simp [h1, h2, Ne.symm h1, Ne.symm h2]
  rw [this]; exact lists_fnOf rise2
theorem len1 : (transN cs1).length ≤ 6000 ∧ takesN (transN cs1).length = 2 := by decide +kernel
theorem len2 : (transN cs2).length ≤ 6000 ∧ takesN (transN cs2).length = 2 := by decide +kernel
theorem chg1 : changesB cs1 = true := by decide +kernel
theorem chg2 : changesB cs2 = true := by decide +kernel
theorem sum0 : sumT (snapL []) = 2 ∧ (snapL []).length = 1 := by decide +kernel
theorem sum1 : sumT (snapL ps1) = 2 := by decide +kernel
theorem goes1 : ¬ ComNo 40 (snapL []) [] cs1 := by
  rintro (h | h | h | h)
  · rw [chg1] at h; cases h
  · have := len1.1; omega
  · exact h ps1 lists1 ok1
  · have h1 := h.1
    rw [sum0.1, len1.2] at h1
    omega
theorem goes2 {L : List (List Nat)} (hL : L = snapL [] ++ [transN cs1] ∨ L = snapL ps1) : ¬ ComNo 40 L ps1 cs2 := by
  have hs : sumT L ≤ 4 := by
    rcases hL with rfl | rfl
    · rw [sumT_snoc, sum0.1, len1.2]; omega
    · rw [sum1]; omega
  rintro (h | h | h | h)
  · rw [chg2] at h; cases h
  · have := len2.1; omega
  · exact h ps2 lists2 ok2
  · have h1 := h.1
    rw [len2.2] at h1
    omega
theorem play0 : PlayOk (snapL []) [] := PlayOk.snap ok0
theorem play_step {L L2 : List (List Nat)} {l m : List Pr} {cs : List Chg} (h : PlayOk L l) (hc : changesB cs = true) (hm : PairsOk m) (hl : Lists m (runF (putsF (fun _ => none) l) cs)) (h2 : L2 = L ++ [transN cs] ∨ L2 = snapL m) : PlayOk L2 m := by
  rcases h2 with rfl | rfl
  · exact h.app hc hm hl
  · exact PlayOk.snap hm
end Go.Proofs.YthflljlilcmcnaaGreatDoor
