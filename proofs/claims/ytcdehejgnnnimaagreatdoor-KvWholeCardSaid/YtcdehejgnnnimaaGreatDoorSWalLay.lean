/-
 A part of the proof: see the last text.
-/
import Derived.Test.YtcdehejgnnnimaaGreatDoorSWalMark
namespace Go.Proofs.YtcdehejgnnnimaaGreatDoor
open List renaming setIfInBounds_toArray → jA, set_cons_zero → jB, set_cons_succ → jC
set_option linter.unusedVariables false
set_option linter.unusedSimpArgs false
open Go.RowKit
def Rss (w : World) (B : Nat) (A : Option Addr) (n : Nat) (ls : List (List Nat)) : Prop :=
 ls.length = n ∧ (0 < n → ∃ b o, A = some ⟨b, o, none⟩ ∧ b < B ∧ ∀ i, i < n → ∃ A' n' c', w.cell? ⟨b, o + i, none⟩ = some (.slice A' n' c') ∧ n' ≤ c' ∧ c' ≤ maxLen ∧ n' ≤ 140737488355328 ∧ Bytes w B A' n' (textAt ls i))
section
variable {w w' : World} {B B' n : Nat} {A : Option Addr} {ls : List (List Nat)}
theorem Rss.nil : Rss w B A 0 [] := ⟨rfl, fun h => absurd h (Nat.lt_irrefl _)⟩
theorem Rss.bss (h : Rss w B A n ls) : Bss w B A n ls := ⟨h.1, fun hn => by
 obtain ⟨b, o, e, hb, hc⟩ := h.2 hn
 refine ⟨b, o, e, hb, fun i hi => ?_⟩
 obtain ⟨A', n', c', h1, _, _, h2, h3⟩ := hc i hi
 exact ⟨A', n', c', h1, h2, h3⟩⟩
theorem Rss.keep (h : Rss w B A n ls) (hk : ∀ p : Addr, p.block < B → w'.cell? p = w.cell? p) : Rss w' B A n ls :=
 ⟨h.1, fun hn => by
  obtain ⟨b, o, e, hb, hc⟩ := h.2 hn
  refine ⟨b, o, e, hb, fun i hi => ?_⟩
  obtain ⟨A', n', c', h1, h4, h5, h2, h3⟩ := hc i hi
  exact ⟨A', n', c', (hk _ hb).trans h1, h4, h5, h2, h3.keep hk⟩⟩
theorem Rss.more (h : Rss w B A n ls) (hB : B ≤ B') : Rss w B' A n ls :=
 ⟨h.1, fun hn => by
  obtain ⟨b, o, e, hb, hc⟩ := h.2 hn
  refine ⟨b, o, e, by omega, fun i hi => ?_⟩
  obtain ⟨A', n', c', h1, h4, h5, h2, h3⟩ := hc i hi
  exact ⟨A', n', c', h1, h4, h5, h2, h3.more hB⟩⟩
theorem Rss.below (h : Rss w B A n ls) (hb : Below B' w w') (hB : B ≤ B') : Rss w' B A n ls := h.keep fun _ hp => hb.cell (by omega)
theorem Rss.later (h : Rss w w.heap.size A n ls) (hb : Below w.heap.size w w') : Rss w' w'.heap.size A n ls := (h.below hb (Nat.le_refl _)).more hb.size
theorem Rss.at_ {k : Nat} (h : Rss w B A n ls) (hk : k < n) : ∃ b o A' n' c', A = some ⟨b, o, none⟩ ∧ b < B ∧ w.cell? ⟨b, o + k, none⟩ = some (.slice A' n' c') ∧ n' ≤ c' ∧ c' ≤ maxLen ∧ n' ≤ 140737488355328 ∧ Bytes w B A' n' (textAt ls k) := by
 obtain ⟨b, o, e, hb, hc⟩ := h.2 (by omega)
 obtain ⟨A', n', c', h1, h2, h3, h4, h5⟩ := hc k hk
 exact ⟨b, o, A', n', c', e, hb, h1, h2, h3, h4, h5⟩
theorem Rss.one (w : World) {B : Nat} {A : Option Addr} {n c : Nat} {l : List Nat} (h : Bytes w B A n l) (hn : n ≤ 140737488355328) (hnc : n ≤ c) (hc : c ≤ maxLen) (hB : B ≤ w.heap.size) (t : TypeId) :
 Rss (w.alloc (.cells #[.slice A n c] t)) (w.heap.size + 1) (some ⟨w.heap.size, 0, none⟩) 1 [l] := by
 refine ⟨rfl, fun _ => ⟨w.heap.size, 0, rfl, by omega, fun i hi => ?_⟩⟩
 obtain rfl : i = 0 := by omega
 refine ⟨A, n, c, ?_, hnc, hc, hn, ((h.keep (fun p hp => World.cell?_alloc_lt w _ p (by omega))).more (by omega))⟩
 rw [cell_of_row _ _ _ _ _ _ (heap_alloc_new w _)]
 rfl
end
def At (g : Nat) (d : Dk) (P : List Deed) (w wr : World) : Prop := (runM d P).2 = 0 ∧ PenIs wr g (runM d P).1 ∧ w.grownBy wr (some g)
section
variable {g : Nat} {d : Dk} {P Q R : List Deed} {w wr w' : World} {e : Ending}
theorem At.start (h : PenIs w g d) : At g d [] w w := ⟨rfl, h, World.grownBy.refl _ _⟩
theorem At.lt (h : At g d P w wr) : g < wr.heap.size := h.2.1.lt
theorem At.below (h : At g d P w wr) (hb : Below wr.heap.size wr w') : At g d P w w' := ⟨h.1, h.2.1.below hb, grownBy_trans h.2.2 (grown_of_below hb _)⟩
theorem At.old (h : At g d P w wr) (hg : g ≤ w.heap.size) : Below g w wr := Below.of_grown h.2.2 (Nat.le_refl _) hg
theorem At.more (h : At g d P w wr) (hr : PenRes g (runM (runM d P).1 Q) wr e w') : PenRes g (runM d (P ++ Q)) w e w' := by
 rw [runM_ok h.1]
 exact hr.first h.2.2
theorem At.put (h : At g d P w wr) {a : Nat} {s : List Int} (hr : PenRes g (putM (runM d P).1 a s) wr e w') : PenRes g (runM d (P ++ [.put a s])) w e w' := h.more (by rw [runM_one]; exact hr)
theorem At.flush (h : At g d P w wr) (hr : PenRes g (flushM (runM d P).1) wr e w') : PenRes g (runM d (P ++ [.flush])) w e w' := h.more (by rw [runM_one]; exact hr)
theorem At.of (h : PenRes g (runM d P) w e w') (h0 : (runM d P).2 = 0) : e = .returned (.tuple #[]) ∧ At g d P w w' := ⟨by rw [h.1, penE_ok h0], h0, h.2.1, h.2.2⟩
theorem PenRes.bad (h : PenRes g (runM d P) w e w') (h0 : (runM d P).2 ≠ 0) : (e = .panicked [{ v := .iface 28 (.int .i64 (runM d P).2), recovered := false }]) ∧ ∀ R, PenRes g (runM d (P ++ R)) w e w' :=
 ⟨by rw [h.1, penE_bad h0], fun R => by rw [runM_bad h0]; exact h⟩
end
theorem Tab.grown {w w' : World} {g : Nat} (h : Tab w) (hg : w.grownBy w' (some g)) (h0 : 1 < g) : Tab w' := fun r hr =>
 (World.cell?_of_block (w := w) (a := ⟨1, r, none⟩) (hg.block 1 h.pos (fun e => by injection e with e; omega))).trans (h r hr)
theorem range_const {α : Type} (k : Nat) (x : α) : (List.range k).map (fun _ => x) = List.replicate k x := by
 rw [List.map_const', List.length_range]
theorem built_zero : Tryz.prog.built 84 [] = some (secv zsec).toArray := by kernel_rfl
theorem okR_bytes {L : List (List Nat)} (h : ∀ b ∈ L, okR b) {k : Nat} (hk : k < L.length) : 1 ≤ (textAt L k).length ∧ (textAt L k).length ≤ 6000 := h _ (textAt_mem hk)
def layP (o size gen : Nat) (L : List (List Nat)) (k : Nat) : List Deed := putsD o (List.replicate size zsec) ++ [.flush] ++ putsD (o + 1) (logL gen 0 (L.take k)).tail
theorem layP_zero (o size gen : Nat) (L : List (List Nat)) : layP o size gen L 0 = putsD o (List.replicate size zsec) ++ [.flush] := by
 unfold layP
 rw [List.take_zero]
 show _ ++ putsD (o + 1) [] = _
 simp [putsD]
theorem layP_one (o size gen : Nat) {L : List (List Nat)} (h : 0 < L.length) : layP o size gen L 1 = layP o size gen L 0 ++ putsD (o + 1) (bodyL (textAt L 0)) := by
 rw [layP_zero, layP, take_text h, List.take_zero, List.nil_append]
 simp [logL, recL]
theorem layP_next (o size gen : Nat) {L : List (List Nat)} {k : Nat} (hok : ∀ b ∈ L, okR b) (hk : k < L.length) (h0 : 0 < k) :
 layP o size gen L (k + 1) = layP o size gen L k ++ [.put (o + sumT (L.take k)) (markL gen k (textAt L k))] ++ putsD (o + sumT (L.take k) + 1) (bodyL (textAt L k)) := by
 have hl : (logL gen 0 (L.take k)).length = sumT (L.take k) := logL_length gen 0 fun b hb => hok b (List.mem_of_mem_take hb)
 have hp : 0 < sumT (L.take k) := by
  have := sumT_ge (L := L.take k) fun b hb => hok b (List.mem_of_mem_take hb)
  rw [List.length_take] at this
  omega
 have hne : logL gen 0 (L.take k) ≠ [] := by
  intro h
  rw [h] at hl
  simp at hl
  omega
 have hlk : 0 + (L.take k).length = k := by rw [List.length_take]; omega
 unfold layP
 rw [take_text hk, logL_snoc, hlk, List.tail_append_of_ne_nil hne, putsD_append, List.length_tail, hl, recL, putsD]
 rw [show o + 1 + (sumT (L.take k) - 1) = o + sumT (L.take k) by omega]
 simp
theorem layD_parts (o size gen : Nat) {L : List (List Nat)} : layD o size gen L = layP o size gen L L.length ++ [.flush, .put o (markL gen 0 (L.headD [])), .flush] := by
 unfold layD layP
 rw [List.take_length]
 simp
theorem textAt_head {L : List (List Nat)} (h : 0 < L.length) : textAt L 0 = L.headD [] := by
 cases L with
 | nil => simp at h
 | cons b r => rfl
theorem tail_split {α : Type} (X Y : List α) : ∃ Z, (X ++ Y).tail = X.tail ++ Z := by
 cases X with
 | nil => exact ⟨Y.tail, rfl⟩
 | cons x r => exact ⟨Y, rfl⟩
theorem layD_split (o size gen : Nat) (L : List (List Nat)) (k : Nat) : ∃ R, layD o size gen L = layP o size gen L k ++ R := by
 obtain ⟨Z, hZ⟩ := tail_split (logL gen 0 (L.take k)) (logL gen (0 + (L.take k).length) (L.drop k))
 rw [← logL_append, List.take_append_drop] at hZ
 refine ⟨putsD (o + 1 + (logL gen 0 (L.take k)).tail.length) Z ++ [.flush, .put o (markL gen 0 (L.headD [])), .flush], ?_⟩
 rw [layD, layP, hZ, putsD_append]
 simp
def Lay1 (g : Nat) (d : Dk) (o size : Nat) (w : World) (x : Value) (wr : World) : Prop :=
 ∃ k : Nat, k ≤ size ∧ x = .int .i64 (k : Int) ∧ At g d (putsD o ((List.range k).map fun _ => zsec)) w wr ∧ Bk wr w.heap.size 79 #[.int .i64 (o : Int), .int .i64 (size : Int)]
def Lay2 (g : Nat) (d : Dk) (o size gen : Nat) (L : List (List Nat)) (w : World) (x y : Value) (wr : World) : Prop :=
 ∃ k : Nat, k ≤ L.length ∧ x = .int .i64 (k : Int) ∧ y = .int .i64 ((o + sumT (L.take k) : Nat) : Int) ∧ At g d (layP o size gen L k) w wr ∧ Bk wr w.heap.size 79 #[.int .i64 (o : Int), .int .i64 (size : Int)]
set_option maxRecDepth 20000 in
set_option maxHeartbeats 8000000 in
theorem penlay_any (g : Nat) (d : Dk) (o size gen : Nat) (A : Option Addr) (n c : Nat) (L : List (List Nat)) (w : World) (hp : PenIs w g d) (hL : Rss w g A n L) (ht : Tab w) (hg0 : 1 < g)
 (hok : ∀ b ∈ L, okR b) (hne : 0 < n) (hn : n ≤ 4096) (ho : o ≤ 4096) (hsz : size ≤ 4096) (hgen : gen ≤ 4611686018427387904) :
 Calls Tryz.prog 36 #[.pointer (some ⟨g, 0, none⟩), halfV o size, .int .i64 (gen : Int), .slice A n c] w (PenRes g (runM d (layD o size gen L)) w) := by
 have hlen : L.length = n := hL.1
 have hgw := hp.lt
 have HLEN := Lib.hid hlen
 have hb0 : Below w.heap.size w (w.alloc (.cells #[.int .i64 (o : Int), .int .i64 (size : Int)] 79)) := (Below.refl _ _).alloc (Nat.le_refl _) _
 have HST : Hid (Lay1 g d o size w (.int .i64 0) (w.alloc (.cells #[.int .i64 (o : Int), .int .i64 (size : Int)] 79))) := Lib.hid ⟨0, Nat.zero_le _, rfl, (At.start hp).below hb0, Bk.new _ _ _⟩
 have B0 := Bk.new w 79 #[.int .i64 (o : Int), .int .i64 (size : Int)]
 have p0 := B0.cell 0
 have p1 := B0.cell 1
 unfold halfV
 clear hlen hp hb0 B0
 go_enter Tryz.func36, Tryz.ntmps36
 go_wp2_with fail
 go_loopw [14] (fun x wr => Lay1 g d o size w x wr) (fun x _ => size - (intOf x).toNat)
 case atStart => exact HST.out
 case round =>
  obtain ⟨k, hk, rfl, hat, hbx⟩ := hrel
  clear HST p0 p1
  have p0 := hbx.cell 0
  have p1 := hbx.cell 1
  by_cases hlt : k < size
  ·have hlti : (k : Int) < (size : Int) := by omega
   have HA := Lib.hid hat
   have HX := Lib.hid hbx
   clear hat hbx
   go_wp2_with ((with_reducible show wpList _ _ _ (⟨some 22, _, _, _, _, _⟩ :: _) _ _); refine hold ?_)
   refine held (wpList_build_to rfl 84 #[] rfl [] rfl (secv zsec).toArray built_zero ?_)
   go_wp2_with fail
   refine (pput_any g _ ((o : Int) + (k : Int)) zsec wr HA.out.2.1 rfl).mono ?_
   rintro e w1 hr
   have hcast : ((o + k : Nat) : Int) = (o : Int) + (k : Int) := by omega
   rw [← hcast] at hr
   have hgr := hr.2.2
   have hr2 := HA.out.put hr
   have hP : putsD o ((List.range (k + 1)).map fun _ => zsec) = putsD o ((List.range k).map fun _ => zsec) ++ [.put (o + k) zsec] := by
    rw [List.range_succ, List.map_append, List.map_singleton, putsD_snoc, List.length_map, List.length_range]
   rw [← hP] at hr2
   clear hP hr hcast
   by_cases h0 : (runM d (putsD o ((List.range (k + 1)).map fun _ => zsec))).2 = 0
   ·obtain ⟨rfl, hat1⟩ := At.of hr2 h0
    have HREL : Hid (Lay1 g d o size w (.int .i64 ((k : Int) + 1)) w1) := Lib.hid ⟨k + 1, hlt, by first | rfl | (congr 1), hat1, by
     exact HX.out.grown hgr (fun e => by injection e with e; omega)⟩
    clear hr2 h0 hat1 HX
    go_wp2
    go_roundw
    case rel => exact HREL.out
    case measure => simp [intOf]; omega
   ·obtain ⟨he, hall⟩ := hr2.bad h0
    have hD : Hid (∃ R, layD o size gen L = putsD o ((List.range (k + 1)).map fun _ => zsec) ++ R) := Lib.hid ⟨putsD (o + (k + 1)) (List.replicate (size - (k + 1)) zsec) ++ (.flush :: (putsD (o + 1) (logL gen 0 L).tail ++ [.flush, .put o (markL gen 0 (L.headD [])), .flush])), by
     have e1 : List.replicate size zsec = List.replicate (k + 1) zsec ++ List.replicate (size - (k + 1)) zsec := by rw [List.replicate_append_replicate]; congr 1; omega
     rw [layD, range_const, e1, putsD_append, List.length_replicate, List.append_assoc]⟩
    have HALL := Lib.hid hall
    generalize runM d (putsD o ((List.range (k + 1)).map fun _ => zsec)) = X at *
    subst he
    clear hr2 h0 hall HX
    go_wp2
    obtain ⟨R, hR⟩ := hD.out
    refine ⟨rfl, ?_⟩
    rw [hR]
    exact HALL.out R
  ·have hks : k = size := by omega
   have hlti : ¬ (k : Int) < (size : Int) := by omega
   have hP0 : putsD o ((List.range k).map fun _ => zsec) = putsD o (List.replicate size zsec) := by rw [range_const, hks]
   rw [hP0] at hat
   have HA := Lib.hid hat
   have HX := Lib.hid hbx
   clear hat hbx hP0 hks
   go_wp2_with fail
   refine (pflush_any g _ wr HA.out.2.1).mono ?_
   rintro e w2 hr
   have hgr := hr.2.2
   have hr2 := HA.out.flush hr
   rw [← layP_zero o size gen L] at hr2
   clear hr p0 p1
   have HX2 := Lib.hid (HX.out.grown hgr (fun e => by injection e with e; omega))
   clear hgr HX
   by_cases h0 : (runM d (layP o size gen L 0)).2 = 0
   ·obtain ⟨rfl, hat1⟩ := At.of hr2 h0
    have p0 := HX2.out.cell 0
    have p1 := HX2.out.cell 1
    have HREL : Hid (Lay2 g d o size gen L w (.int .i64 0) (.int .i64 (o : Int)) w2) := Lib.hid ⟨0, Nat.zero_le _, rfl, rfl, hat1, HX2.out⟩
    clear hr2 h0 hat1 HX2 HA
    go_wp2_with fail
    go_loopw [31, 9] (fun x y wr => Lay2 g d o size gen L w x y wr) (fun x _ _ => n - (intOf x).toNat)
    case atStart => exact HREL.out
    case round =>
     obtain ⟨k, hk, rfl, rfl, hat, hbx⟩ := hrel
     clear HREL p0 p1
     have hgl : Below g w wr := hat.old (Nat.le_of_lt hgw)
     have hTw : Tab wr := ht.grown hat.2.2 hg0
     have HA := Lib.hid hat
     have HX := Lib.hid hbx
     clear hat hbx
     by_cases hlt : k < n
     ·obtain ⟨b, off, A', n', c', rfl, hbB, hcell, hnc, hcm, hn', hby⟩ := (hL.below hgl (Nat.le_refl _)).at_ hlt
      have hkL : k < L.length := by rw [HLEN.out]; exact hlt
      have hb' : (textAt L k).length = n' := hby.1
      obtain ⟨hn1, hn6⟩ := okR_bytes hok hkL
      rw [hb'] at hn1 hn6
      have hs95 := sumTtake L k
      obtain ⟨q, hq⟩ : ∃ q, q = o + sumT (L.take k) := ⟨_, rfl⟩
      have hq6 : q ≤ 900000 := by omega
      have HSUM : Hid (o + sumT (L.take (k + 1)) = q + takesN n') := Lib.hid (by rw [take_text hkL, sumT_snoc, hb', hq, Nat.add_assoc])
      rw [← hq]
      have HQ := Lib.hid hq
      have hlti : (k : Int) < (n : Int) := by omega
      have HBY := Lib.hid hby
      have HGL := Lib.hid hgl
      clear hq hs95 hby hgl
      by_cases hk0 : k = 0
      ·have hki : ¬ (0 : Int) < (k : Int) := by omega
       have HPN : Hid (layP o size gen L (k + 1) = layP o size gen L k ++ putsD (q + 1) (bodyL (textAt L k))) := Lib.hid (by
        have := HQ.out
        subst hk0
        rw [List.take_zero] at this
        have e : q = o := by simpa [sumT] using this
        rw [layP_one o size gen hkL, e])
       have HXm := HX
       have HA2 := HA
       obtain ⟨wm, hwm⟩ : ∃ wm, wm = wr := ⟨_, rfl⟩
       subst hwm
       have Hk0 := Lib.hid hk0
       clear hk0 HA HX hTw
       have hgq : Below g w wm := HA2.out.old (Nat.le_of_lt hgw)
       go_wp2_with fail
       refine (putBytes_at g _ (q + 1) ((q : Int) + 1) (by omega) A' n' c' (textAt L k) wm HA2.out.2.1 (HBY.out.keep fun p hp => (hgq.cell hp).trans (HGL.out.cell hp).symm) hnc hcm (by omega) (by omega)).mono ?_
       rintro e w4 hr
       have hgr := hr.2.2
       have hr2 := HA2.out.more hr
       rw [← HPN.out] at hr2
       have HX4 := Lib.hid (HXm.out.grown hgr (fun e => by injection e with e; omega))
       clear hr hgr hgq HXm HA2 HPN
       by_cases h0 : (runM d (layP o size gen L (k + 1))).2 = 0
       ·obtain ⟨rfl, hat1⟩ := At.of hr2 h0
        have HREL : Hid (Lay2 g d o size gen L w (.int .i64 ((k : Int) + 1)) (.int .i64 ((q : Int) + ((takesN n' : Nat) : Int))) w4) := Lib.hid ⟨k + 1, by rw [HLEN.out]; omega, by first | rfl | (congr 1), by rw [HSUM.out]; congr 1, hat1, HX4.out⟩
        have htk := takesN_le n'
        clear hr2 h0 hat1 HX4
        go_wp2_with fail
        refine (takes_int n' _ hn').mono ?_
        rintro e w' ⟨rfl, rfl⟩
        generalize takesN n' = tk at *
        go_wp2
        go_roundw
        case rel => exact HREL.out
        case measure => simp [intOf]; omega
       ·obtain ⟨he, hall⟩ := hr2.bad h0
        have hD := Lib.hid (layD_split o size gen L (k + 1))
        have HALL := Lib.hid hall
        generalize runM d (layP o size gen L (k + 1)) = X at *
        subst he
        clear hr2 h0 hall HX4
        go_wp2
        obtain ⟨R, hR⟩ := hD.out
        refine ⟨rfl, ?_⟩
        rw [hR]
        exact HALL.out R
      ·have hki : (0 : Int) < (k : Int) := by omega
       have HPN : Hid (layP o size gen L (k + 1) = layP o size gen L k ++ [.put q (markL gen k (textAt L k))] ++ putsD (q + 1) (bodyL (textAt L k))) := Lib.hid (by
        rw [HQ.out]; exact layP_next o size gen hok hkL (by omega))
       have hms : moreC 0 (textAt L k) < 4294967296 := moreC_lt _ (by omega) HBY.out.2.1
       have HML : Hid (secN (markN gen k n' (moreC 0 (textAt L k))) = markL gen k (textAt L k)) := Lib.hid (by rw [markL, hb'])
       clear hk0
       go_wp2_with fail
       refine (markOf_any gen k A' n' c' (textAt L k) wr (HBY.out.more (Nat.le_of_lt HA.out.lt)) hn' hTw).mono ?_
       rintro e w1 ⟨rfl, hb1⟩
       have HA1 := Lib.hid (HA.out.below hb1)
       have HX1 := Lib.hid (HX.out.below hb1 HX.out.lt)
       generalize moreC 0 (textAt L k) = sm at *
       clear HA HX hb1
       go_wp2_with fail
       refine (sector_any gen k n' sm w1 hgen (by omega) (by omega) (by omega)).mono ?_
       rintro e w2 ⟨rfl, hb2⟩
       have HA2 := Lib.hid (HA1.out.below hb2)
       have HX2 := Lib.hid (HX1.out.below hb2 HX1.out.lt)
       rw [HML.out]
       clear HA1 HX1 hb2
       go_wp2_with fail
       refine (pput_any g _ (q : Int) (markL gen k (textAt L k)) w2 HA2.out.2.1 (markL_length _ _ _)).mono ?_
       rintro e wm hr
       have hgr := hr.2.2
       have hr2 := HA2.out.put hr
       have HXm := Lib.hid (HX2.out.grown hgr (fun e => by injection e with e; omega))
       clear hr hgr HA2 HX2
       by_cases h0 : (runM d (layP o size gen L k ++ [.put q (markL gen k (textAt L k))])).2 = 0
       ·obtain ⟨rfl, hat1⟩ := At.of hr2 h0
        have HA2 := Lib.hid hat1
        clear hr2 h0 hat1 hTw HML
        have hgq : Below g w wm := HA2.out.old (Nat.le_of_lt hgw)
        go_wp2_with fail
        refine (putBytes_at g _ (q + 1) ((q : Int) + 1) (by omega) A' n' c' (textAt L k) wm HA2.out.2.1 (HBY.out.keep fun p hp => (hgq.cell hp).trans (HGL.out.cell hp).symm) hnc hcm (by omega) (by omega)).mono ?_
        rintro e w4 hr
        have hgr := hr.2.2
        have hr2 := HA2.out.more hr
        rw [← HPN.out] at hr2
        have HX4 := Lib.hid (HXm.out.grown hgr (fun e => by injection e with e; omega))
        clear hr hgr hgq HXm HA2 HPN
        by_cases h0 : (runM d (layP o size gen L (k + 1))).2 = 0
        ·obtain ⟨rfl, hat1⟩ := At.of hr2 h0
         have HREL : Hid (Lay2 g d o size gen L w (.int .i64 ((k : Int) + 1)) (.int .i64 ((q : Int) + ((takesN n' : Nat) : Int))) w4) := Lib.hid ⟨k + 1, by rw [HLEN.out]; omega, by first | rfl | (congr 1), by rw [HSUM.out]; congr 1, hat1, HX4.out⟩
         have htk := takesN_le n'
         clear hr2 h0 hat1 HX4
         go_wp2_with fail
         refine (takes_int n' _ hn').mono ?_
         rintro e w' ⟨rfl, rfl⟩
         generalize takesN n' = tk at *
         go_wp2
         go_roundw
         case rel => exact HREL.out
         case measure => simp [intOf]; omega
        ·obtain ⟨he, hall⟩ := hr2.bad h0
         have hD := Lib.hid (layD_split o size gen L (k + 1))
         have HALL := Lib.hid hall
         generalize runM d (layP o size gen L (k + 1)) = X at *
         subst he
         clear hr2 h0 hall HX4
         go_wp2
         obtain ⟨R, hR⟩ := hD.out
         refine ⟨rfl, ?_⟩
         rw [hR]
         exact HALL.out R
       ·obtain ⟨he, hall⟩ := hr2.bad h0
        have hD : Hid (∃ R, layD o size gen L = layP o size gen L k ++ [.put q (markL gen k (textAt L k))] ++ R) := Lib.hid (by
         obtain ⟨R, hR⟩ := layD_split o size gen L (k + 1)
         rw [hR, HPN.out, List.append_assoc _ _ R]
         exact ⟨_, rfl⟩)
        have HALL := Lib.hid hall
        clear HPN
        generalize runM d (layP o size gen L k ++ [.put q (markL gen k (textAt L k))]) = X at *
        subst he
        clear hr2 h0 hall HXm
        go_wp2
        obtain ⟨R, hR⟩ := hD.out
        refine ⟨rfl, ?_⟩
        rw [hR]
        exact HALL.out R
     ·have hkn : k = n := by have := HLEN.out; omega
      have hlti : ¬ (k : Int) < (n : Int) := by omega
      obtain ⟨b, off, A', n', c', rfl, hbB, hcell, hnc, hcm, hn', hby⟩ := hL.at_ hne
      have hkL : 0 < L.length := by rw [HLEN.out]; exact hne
      have hb' : (textAt L 0).length = n' := hby.1
      obtain ⟨hn1, hn6⟩ := okR_bytes hok hkL
      rw [hb'] at hn1 hn6
      have HD := Lib.hid (layD_parts o size gen (L := L))
      rw [← HLEN.out] at hkn
      rw [hkn] at HA
      have HHD := Lib.hid (textAt_head hkL)
      have HBY := Lib.hid hby
      obtain ⟨q, hq⟩ : ∃ q, q = o + sumT (L.take k) := ⟨_, rfl⟩
      rw [← hq]
      have HKN := Lib.hid hkn
      clear hkn hq hby hTw hgl
      go_wp2_with fail
      refine (pflush_any g _ wr HA.out.2.1).mono ?_
      rintro e w2 hr
      have hgr := hr.2.2
      have hr2 := HA.out.flush hr
      have HX2 := Lib.hid (HX.out.grown hgr (fun e => by injection e with e; omega))
      clear hr hgr HX HA
      generalize hPP : layP o size gen L L.length ++ [.flush] = PP at *
      have HD2 : Hid (layD o size gen L = PP ++ [.put o (markL gen 0 (textAt L 0)), .flush]) := Lib.hid (by rw [HD.out, ← hPP, HHD.out]; simp)
      clear hPP HD HHD
      by_cases h0 : (runM d PP).2 = 0
      ·obtain ⟨rfl, hat1⟩ := At.of hr2 h0
       have hgl2 : Below g w w2 := hat1.old (Nat.le_of_lt hgw)
       have hT2 : Tab w2 := ht.grown hat1.2.2 hg0
       have HT2 := Lib.hid hT2
       have HA2 := Lib.hid hat1
       have hc2 : w2.cell? ⟨b, off, none⟩ = some (.slice A' n' c') := by
        have := (hgl2.cell (p := ⟨b, off, none⟩) hbB).trans hcell
        simpa using this
       have HBY2 := Lib.hid (HBY.out.below hgl2 (Nat.le_refl _))
       have hms : moreC 0 (textAt L 0) < 4294967296 := moreC_lt _ (by omega) HBY.out.2.1
       have HML : Hid (secN (markN gen 0 n' (moreC 0 (textAt L 0))) = markL gen 0 (textAt L 0)) := Lib.hid (by rw [markL, hb'])
       clear hr2 h0 hat1 hgl2 HBY hcell hT2
       go_wp2_with fail
       have hm : Tryz.prog.follows .mixedOrders = true := by kernel_rfl
       refine wp_region_held_drew (S := fun W => Bk W w.heap.size 79 #[.int .i64 (o : Int), .int .i64 (size : Int)] ∧ W.cell? ⟨b, off, none⟩ = some (.slice A' n' c') ∧ w2.grownBy W (some g)) hm ⟨HX2.out.drew, hc2, grown_of_below ((Below.refl _ _).drew) _⟩ (fun hHeld => ?_)
       have HA3 := Lib.hid (HA2.out.below ((Below.refl _ _).drew))
       have HBY3 := Lib.hid (HBY2.out.below ((Below.refl w2.heap.size w2).drew) (Nat.le_of_lt HA2.out.lt))
       have HT3 := Lib.hid (HT2.out.below ((Below.refl w2.heap.size w2).drew) HT2.out.pos)
       generalize w2.drew = W at *
       clear hc2 HX2 HBY2 HT2 HA2
       simp only [List.size_toArray, List.length_cons, List.length_nil, Nat.reduceAdd]
       refine wpAnyH_take (i := 0) (v := .pointer (some ⟨g, 0, none⟩)) rfl (by kernel_rfl) (by kernel_rfl) (by kernel_rfl) (fun _ _ _ h => h) (Or.inl ⟨by rfl, fun w0 hC => by simp [execOp, Act.eval, Act.put, go_sem]⟩) hHeld ?_
       try simp only [Act.put, jA, jB, jC]
       refine wpAnyH_take (i := 1) (v := .pointer (some ⟨w.heap.size, 0, none⟩)) rfl (by kernel_rfl) (by kernel_rfl) (by kernel_rfl) (fun _ _ _ h => h) (Or.inl ⟨by rfl, fun w0 hC => by simp [execOp, Act.eval, Act.put, go_sem]⟩) hHeld ?_
       try simp only [Act.put, jA, jB, jC]
       refine wpAnyH_take (i := 2) (v := .int .i64 (o : Int)) rfl (by kernel_rfl) (by kernel_rfl) (by kernel_rfl) (fun _ _ _ h => h) (Or.inl ⟨by rfl, fun w0 hC => by simp [execOp, Act.eval, Act.put, go_sem, hC.1.cell]⟩) hHeld ?_
       try simp only [Act.put, jA, jB, jC]
       refine wpAnyH_take (i := 3) (v := .int .i64 (gen : Int)) rfl (by kernel_rfl) (by kernel_rfl) (by kernel_rfl) (fun _ _ _ h => h) (Or.inl ⟨by rfl, fun w0 hC => by simp [execOp, Act.eval, Act.put, go_sem]⟩) hHeld ?_
       try simp only [Act.put, jA, jB, jC]
       refine wpAnyH_take (i := 4) (v := .slice (some ⟨b, off, none⟩) n c) rfl (by kernel_rfl) (by kernel_rfl) (by kernel_rfl) (fun _ _ _ h => h) (Or.inl ⟨by rfl, fun w0 hC => by simp [execOp, Act.eval, Act.put, go_sem]⟩) hHeld ?_
       try simp only [Act.put, jA, jB, jC]
       refine wpAnyH_take (i := 5) (v := .pointer (some ⟨b, off, none⟩)) rfl (by kernel_rfl) (by kernel_rfl) (by kernel_rfl) (fun _ _ _ h => h) (Or.inl ⟨by rfl, fun w0 hC => by simp [execOp, Act.eval, Act.put, go_sem, hne]⟩) hHeld ?_
       try simp only [Act.put, jA, jB, jC]
       refine wpAnyH_take (i := 6) (v := .slice A' n' c') rfl (by kernel_rfl) (by kernel_rfl) (by kernel_rfl) (fun _ _ _ h => h) (Or.inl ⟨by rfl, fun w0 hC => by simp [execOp, Act.eval, Act.put, go_sem, hC.2.1]⟩) hHeld ?_
       try simp only [Act.put, jA, jB, jC]
       refine wpAnyH_ready (rs := [7]) (by kernel_rfl) (by simp) (AllReadyH.cons rfl (fun K hK => ?_) AllReadyH.nil)
       rw [if_pos (by rfl)]
       go_wp2_with fail
       refine (markOf_any gen 0 A' n' c' (textAt L 0) W (HBY3.out.more (Nat.le_of_lt HA3.out.lt)) hn' HT3.out).mono ?_
       rintro e w3 ⟨rfl, hb3⟩
       have HA4 := Lib.hid (HA3.out.below hb3)
       have hS : _ ∧ _ ∧ _ := And.intro (hHeld.1.below hb3 hHeld.1.lt) (And.intro ((hb3.cell (p := ⟨b, off, none⟩) (Nat.lt_trans hbB HA3.out.lt)).trans hHeld.2.1) (grownBy_trans hHeld.2.2 (grown_of_below hb3 _)))
       generalize moreC 0 (textAt L 0) = sm at *
       clear hb3 HA3 HBY3 HT3
       refine hK.out _ _ hS (fun hHeld => ?_)
       clear hK K
       try simp only [Act.put, jA, jB, jC]
       clear hS
       refine wpAnyH_ready (rs := [8]) (by kernel_rfl) (by simp) (AllReadyH.cons rfl (fun K hK => ?_) AllReadyH.nil)
       rw [if_pos (by rfl)]
       go_wp2_with fail
       refine (sector_any gen 0 n' sm w3 hgen (by omega) (by omega) (by omega)).mono ?_
       rintro e w4 ⟨rfl, hb4⟩
       have HA5 := Lib.hid (HA4.out.below hb4)
       have hS : _ ∧ _ ∧ _ := And.intro (hHeld.1.below hb4 hHeld.1.lt) (And.intro ((hb4.cell (p := ⟨b, off, none⟩) (Nat.lt_trans hbB HA4.out.lt)).trans hHeld.2.1) (grownBy_trans hHeld.2.2 (grown_of_below hb4 _)))
       rw [HML.out]
       clear hb4 HA4 HML
       refine hK.out _ _ hS (fun hHeld => ?_)
       clear hK K
       try simp only [Act.put, jA, jB, jC]
       clear hS
       refine wpAnyH_ready (rs := [9]) (by kernel_rfl) (by simp) (AllReadyH.cons rfl (fun K hK => ?_) AllReadyH.nil)
       rw [if_pos (by rfl)]
       go_wp2_with fail
       refine (pput_any g _ (o : Int) (markL gen 0 (textAt L 0)) w4 HA5.out.2.1 (markL_length _ _ _)).mono ?_
       rintro e w5 hr
       have hgr := hr.2.2
       have hr2 := HA5.out.put hr
       have hlt5 := HA5.out.lt
       have hS : _ ∧ _ ∧ _ := And.intro (hHeld.1.grown hgr (fun e => by injection e with e; omega)) (And.intro ((World.cell?_of_block (w := w4) (a := ⟨b, off, none⟩) (hgr.block b (Nat.lt_trans hbB hlt5) (fun e => by injection e with e; omega))).trans hHeld.2.1) (grownBy_trans hHeld.2.2 hgr))
       clear hr hgr HA5
       have HD3 : Hid (layD o size gen L = (PP ++ [.put o (markL gen 0 (textAt L 0))]) ++ [.flush]) := Lib.hid (by rw [HD2.out]; simp)
       clear HD2
       generalize PP ++ [.put o (markL gen 0 (textAt L 0))] = P3 at *
       by_cases h3 : (runM d P3).2 = 0
       ·obtain ⟨rfl, hat3⟩ := At.of hr2 h3
        have HA6 := Lib.hid hat3
        clear hr2 h3 hat3
        refine hK.out _ _ hS (fun hHeld => ?_)
        clear hK K
        try simp only [Act.put, jA, jB, jC]
        clear hS
        refine wpAnyH_done (by kernel_rfl) ?_ _
        clear hHeld
        go_wp2_with fail
        refine (pflush_any g _ w5 HA6.out.2.1).mono ?_
        rintro e w6 hr
        have hr2 := HA6.out.flush hr
        rw [← HD3.out] at hr2
        clear hr HA6
        generalize layD o size gen L = PD at *
        by_cases h4 : (runM d PD).2 = 0
        ·obtain ⟨rfl, hat4⟩ := At.of hr2 h4
         have HR := Lib.hid hr2
         clear hr2 h4 hat4
         go_wp2
         go_end0
         exact HR.out
        ·have HR := Lib.hid hr2
         obtain ⟨he, _⟩ := hr2.bad h4
         subst he
         clear hr2 h4
         generalize runM d PD = X at *
         go_wp2
         exact ⟨rfl, HR.out⟩
       ·obtain ⟨he, hall⟩ := hr2.bad h3
        have HALL := Lib.hid hall
        generalize runM d P3 = X at *
        subst he
        clear hr2 h3 hall hS
        go_wp2
        refine ⟨rfl, ?_⟩
        rw [HD3.out]
        exact HALL.out _
      ·obtain ⟨he, hall⟩ := hr2.bad h0
       have HALL := Lib.hid hall
       generalize runM d PP = X at *
       subst he
       clear hr2 h0 hall HX2
       go_wp2
       refine ⟨rfl, ?_⟩
       rw [HD2.out]
       exact HALL.out _
   ·obtain ⟨he, hall⟩ := hr2.bad h0
    have hD : Hid (∃ R, layD o size gen L = layP o size gen L 0 ++ R) := Lib.hid ⟨putsD (o + 1) (logL gen 0 L).tail ++ [.flush, .put o (markL gen 0 (L.headD [])), .flush], by
     rw [layP_zero, layD]; simp⟩
    have HALL := Lib.hid hall
    generalize runM d (layP o size gen L 0) = X at *
    subst he
    clear hr2 h0 hall HX2 HA
    go_wp2
    obtain ⟨R, hR⟩ := hD.out
    refine ⟨rfl, ?_⟩
    rw [hR]
    exact HALL.out R
end Go.Proofs.YtcdehejgnnnimaaGreatDoor
