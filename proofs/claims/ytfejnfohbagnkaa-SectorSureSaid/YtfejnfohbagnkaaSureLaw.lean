/-
  The walk of the law SectorSure: what was flushed outlives a fall, whatever stays of what comes behind. It returns true, and leaves all older memory as it was.
-/
import Derived.Test.YtfejnfohbagnkaaSecTy
import Derived.Test.YtfejnfohbagnkaaSureMath
import Derived.Test.YtfejnfohbagnkaaSecStill
import Derived.Test.YtfejnfohbagnkaaSecEq
import Derived.Deep.RegionHeld3
import Derived.Deep.Cut
namespace Go.Proofs.Ytfejnfohbagnkaa
open Go.RowKit

def SureRel (w : World) (l : List (Int × List Int)) (k bd bs : Nat) (i : Value) (wr : World) : Prop :=
  ∃ (j : Nat) (d : Dk) (S : List (List Int)) (A : Option Addr) (n1 c1 : Nat) (A' : Option Addr) (n1' c1' : Nat), j ≤ l.length ∧ i = .int .i64 j ∧ SureInv l k j d S ∧
    Bk wr bd 25 #[.slice A n1 c1, .slice A' n1' c1', .int .i64 d.fuse, .bool d.down] ∧ Bk wr bs 46 (rows16 S) ∧
    DkAt wr wr.heap.size (.agg #[.slice A n1 c1, .slice A' n1' c1', .int .i64 d.fuse, .bool d.down]) d ∧ DkT wr (.agg #[.slice A n1 c1, .slice A' n1' c1', .int .i64 d.fuse, .bool d.down]) ∧ Below w.heap.size w wr

theorem Ty.setCell {w : World} {e : TypeId} {A : Option Addr} {n b i : Nat} {t : TypeId} {cs : Array Value} (h : Ty w e A n) (hb : Bk w b t cs) (hne : t ≠ e) (u : Value) : Ty (w.setCell ⟨b, i, none⟩ u) e A n := fun hn => by
  obtain ⟨b', o, cs', z, e1, e2⟩ := h hn
  have hbb : b' ≠ b := by
    rintro rfl
    rw [show w.heap[b']? = _ from hb] at e2
    injection e2 with e2
    injection e2 with _ e4
    exact hne e4
  exact ⟨b', o, cs', z, e1, (Below.heap_setCell w ⟨b, i, none⟩ u b' hbb).trans e2⟩
theorem DkT.stored4 {w : World} {b : Nat} {v u0 u1 u2 u3 : Value} (h : DkT w v) (hb : Bk w b 25 #[u0, u1, u2, u3]) (a0 a1 a2 a3 : Value) : DkT (Ytfejnfohbagnkaa.stored4 w b a0 a1 a2 a3) v := by
  obtain ⟨A, n, c, A', n', c', f, bb, rfl, t1, t2⟩ := h
  have b1 := hb.put 0 a0
  have b2 := b1.put 1 a1
  have b3 := b2.put 2 a2
  have hs : 25 ≠ 28 := by decide
  have hw : 25 ≠ 37 := by decide
  exact DkT.mk ((((t1.setCell hb hs a0).setCell b1 hs a1).setCell b2 hs a2).setCell b3 hs a3) ((((t2.setCell hb hw a0).setCell b1 hw a1).setCell b2 hw a2).setCell b3 hw a3)

/-- ahead of a write -/
def SureBody (w : World) (l : List (Int × List Int)) (k j bd bs : Nat) (S : List (List Int)) (wr : World) : Prop :=
  ∃ (d : Dk) (A : Option Addr) (n1 c1 : Nat) (A' : Option Addr) (n1' c1' : Nat), SureMid l k j d S ∧
    Bk wr bd 25 #[.slice A n1 c1, .slice A' n1' c1', .int .i64 d.fuse, .bool d.down] ∧ Bk wr bs 46 (rows16 S) ∧
    DkAt wr wr.heap.size (.agg #[.slice A n1 c1, .slice A' n1' c1', .int .i64 d.fuse, .bool d.down]) d ∧ DkT wr (.agg #[.slice A n1 c1, .slice A' n1' c1', .int .i64 d.fuse, .bool d.down]) ∧ Below w.heap.size w wr
theorem code_over {P : Program} {c : Code} {a : Act} {W : World} {Q : Exit → Act → World → Prop} (G : World → Prop) (hG : G W) (h : ∀ W', G W' → c.wp P Q a W') : c.wp P Q a W := h W hG

/-- the disk and what is sure, as they lie -/
def SureLie (w : World) (bd bs : Nat) (d : Dk) (A : Option Addr) (n1 c1 : Nat) (A' : Option Addr) (n1' c1' : Nat) (S : List (List Int)) (wr : World) : Prop :=
    Bk wr bd 25 #[.slice A n1 c1, .slice A' n1' c1', .int .i64 d.fuse, .bool d.down] ∧ Bk wr bs 46 (rows16 S) ∧
    DkAt wr wr.heap.size (.agg #[.slice A n1 c1, .slice A' n1' c1', .int .i64 d.fuse, .bool d.down]) d ∧ DkT wr (.agg #[.slice A n1 c1, .slice A' n1' c1', .int .i64 d.fuse, .bool d.down]) ∧ Below w.heap.size w wr
theorem SureLie.below {w W W' : World} {bd bs : Nat} {d : Dk} {A : Option Addr} {n1 c1 : Nat} {A' : Option Addr} {n1' c1' : Nat} {S : List (List Int)} (h : SureLie w bd bs d A n1 c1 A' n1' c1' S W) (hb : Below W.heap.size W W') : SureLie w bd bs d A n1 c1 A' n1' c1' S W' := by
  obtain ⟨h1, h2, h3, h4, h5⟩ := h
  exact ⟨h1.below hb h1.lt, h2.below hb h2.lt, h3.later hb, h4.below hb, h5.trans (hb.mono h5.size)⟩
theorem SureLie.reads {w W : World} {bd bs : Nat} {d : Dk} {A : Option Addr} {n1 c1 : Nat} {A' : Option Addr} {n1' c1' : Nat} {S : List (List Int)} (h : SureLie w bd bs d A n1 c1 A' n1' c1' S W) {bL o : Nat} {x : Int × List Int} (hb : bL < w.heap.size) (hr : w.rangeAt bL o (wrv x)) :
    (W.cell? ⟨bd, 0, none⟩ = some (.slice A n1 c1) ∧ W.cell? ⟨bd, 1, none⟩ = some (.slice A' n1' c1') ∧ W.cell? ⟨bd, 2, none⟩ = some (.int .i64 d.fuse) ∧ W.cell? ⟨bd, 3, none⟩ = some (.bool d.down)) ∧
      W.cell? ⟨bL, o, none⟩ = some (.int .i64 x.1) ∧ W.rangeAt bL (o + 1) (secv x.2) := by
  obtain ⟨h1, h2, h3, h4, h5⟩ := h
  have hrW := rangeAt_keep hr (w' := W) (fun p hp => h5.cell (by omega))
  refine ⟨h1.four.1, ?_, fun i v hv => ?_⟩
  · have := hrW 0 (.int .i64 x.1) (by simp [wrv])
    simpa using this
  · have := hrW (i + 1) v (by simpa [wrv] using hv)
    rw [show o + 1 + i = o + (i + 1) by omega]; exact this

theorem bel_call {W w4 : World} (h : Below W.drew.heap.size W.drew w4) : Below W.heap.size W w4 := (Below.refl _ _).drew.trans h
theorem bel_alloc {W W1 : World} (h : Below W.heap.size W W1) (o : Obj) : Below W.heap.size W (W1.alloc o) := h.alloc h.size o
theorem bel_set {W W1 : World} {b i : Nat} (h : Below W.heap.size W W1) (hb : W.heap.size ≤ b) (u : Value) : Below W.heap.size W (W1.setCell ⟨b, i, none⟩ u) := h.setCell hb u
theorem bel_alloc_call {W w4 : World} {o : Obj} (h : Below (W.drew.alloc o).heap.size (W.drew.alloc o) w4) : Below W.heap.size W w4 :=
  (bel_alloc (Below.refl _ _).drew o).trans (h.mono (by rw [World.size_alloc]; exact Nat.le_succ _))

theorem bel_alloc_box {W w4 : World} {t : TypeId} {v0 v1 v2 v3 : Value} (h : Below (W.drew.alloc (.cells #[v0, v1, v2, v3] t)).heap.size (W.drew.alloc (.cells #[v0, v1, v2, v3] t)) w4) : Bk w4 W.heap.size t #[v0, v1, v2, v3] :=
  (Bk.new W.drew t #[v0, v1, v2, v3]).below h (by rw [World.size_alloc]; exact Nat.lt_succ_self _)

/-- behind a write: the new disk in a box of its own -/
def SurePut (w : World) (bd bs bx : Nat) (d d2 : Dk) (A : Option Addr) (n1 c1 : Nat) (A' : Option Addr) (n1' c1' : Nat) (A3 : Option Addr) (n3 c3 : Nat) (A3' : Option Addr) (n3' c3' : Nat) (S : List (List Int)) (wr : World) : Prop :=
  SureLie w bd bs d A n1 c1 A' n1' c1' S wr ∧ Bk wr bx 25 #[.slice A3 n3 c3, .slice A3' n3' c3', .int .i64 d2.fuse, .bool d2.down] ∧
    DkAt wr wr.heap.size (.agg #[.slice A3 n3 c3, .slice A3' n3' c3', .int .i64 d2.fuse, .bool d2.down]) d2 ∧ DkT wr (.agg #[.slice A3 n3 c3, .slice A3' n3' c3', .int .i64 d2.fuse, .bool d2.down])
theorem post_over {Q : Exit → Act → World → Prop} {e : Exit} {a : Act} {W : World} (G : World → Prop) (hG : G W) (h : ∀ W', G W' → Q e a W') : Q e a W := h W hG

/-- behind the fall -/
def SureRest (w : World) (bd bs : Nat) (d : Dk) (A : Option Addr) (n1 c1 : Nat) (A' : Option Addr) (n1' c1' : Nat) (S : List (List Int)) (wr : World) : Prop :=
    Bk wr bd 25 #[.slice A n1 c1, .slice A' n1' c1', .int .i64 d.fuse, .bool d.down] ∧ Bk wr bs 46 (rows16 S) ∧
    DkAt wr wr.heap.size (.agg #[.slice A n1 c1, .slice A' n1' c1', .int .i64 d.fuse, .bool d.down]) d ∧ Below w.heap.size w wr
theorem SureRest.below {w W W' : World} {bd bs : Nat} {d : Dk} {A : Option Addr} {n1 c1 : Nat} {A' : Option Addr} {n1' c1' : Nat} {S : List (List Int)} (h : SureRest w bd bs d A n1 c1 A' n1' c1' S W) (hb : Below W.heap.size W W') : SureRest w bd bs d A n1 c1 A' n1' c1' S W' := by
  obtain ⟨h1, h2, h3, h5⟩ := h
  exact ⟨h1.below hb h1.lt, h2.below hb h2.lt, h3.later hb, h5.trans (hb.mono h5.size)⟩

theorem below_reads {w W : World} (h5 : Below w.heap.size w W) {bL o : Nat} {x : Int × List Int} (hb : bL < w.heap.size) (hr : w.rangeAt bL o (wrv x)) :
    W.cell? ⟨bL, o, none⟩ = some (.int .i64 x.1) ∧ W.rangeAt bL (o + 1) (secv x.2) := by
  have hrW := rangeAt_keep hr (w' := W) (fun p hp => h5.cell (by omega))
  refine ⟨?_, fun i v hv => ?_⟩
  · have := hrW 0 (.int .i64 x.1) (by simp [wrv])
    simpa using this
  · have := hrW (i + 1) v (by simpa [wrv] using hv)
    rw [show o + 1 + i = o + (i + 1) by omega]; exact this

theorem bel_drewN (W : World) (n : Nat) : Below W.heap.size W (W.drewN n) := ⟨rfl, rfl, rfl, Nat.le_refl _, fun _ _ => rfl⟩

set_option maxRecDepth 100000 in
set_option maxHeartbeats 40000000 in
theorem sure_walk (A : Option Addr) (n c : Nat) (l : List (Int × List Int)) (m : Nat) (h255 : m ≤ 255) (mask : Nat) (hmask : mask < 18446744073709551616) (w : World) (hn : n ≤ maxLen) (hA : Arr w w.heap.size 65 A n (l.map wrv)) :
    Calls Try.prog 6 #[.slice A n c, .int .u8 (m : Int), .int .u64 (mask : Int)] w fun e w' => e = .returned (.bool true) ∧ Below w.heap.size w w' := by
  unfold maxLen at hn
  have hln : l.length = n := by simpa using hA.1
  have HA := Lib.hid hA; have HLN := Lib.hid hln
  clear hA hln
  have hm0 : (0 : Int) ≤ (m : Int) := by omega
  obtain ⟨i28, hi28⟩ : ∃ i, Try.prog.info? 5 = some i := Option.isSome_iff_exists.1 (by kernel_rfl)
  have hm1 : (m : Int) ≤ 255 := by omega
  have hn0 : (0 : Int) ≤ (n : Int) := by omega
  go_enter Try.func6, Try.ntmps6
  go_wp2_with fail
  refine (alive_any _).mono ?_
  rintro e w1 ⟨rfl, hb1⟩
  have HB1 := Lib.hid hb1
  clear hb1
  by_cases hbig : 200 < n
  · have hb : decide (200 < (n : Int)) = true := by simp; omega
    go_wp2
    go_ret
    exact ⟨rfl, HB1.out⟩
  have hb : decide (200 < (n : Int)) = false := by simp; omega
  go_wp2_with fail
  refine (new_16T w1).mono ?_
  rintro e w2 hres
  obtain ⟨A0, n0, c0, A0', n0', c0', rfl, hd0, hb2, ht0⟩ := hres.zero
  dsimp only at hd0 ht0 ⊢
  have HD0 := Lib.hid hd0; have HT0 := Lib.hid ht0
  have HBW := Lib.hid (HB1.out.trans (hb2.mono HB1.out.size))
  clear hres hd0 hb2 ht0 HB1
  have hle : w.heap.size ≤ w2.heap.size := HBW.out.size
  obtain ⟨k, hk⟩ : ∃ k, m % (n + 1) = k := ⟨_, rfl⟩
  have hkn : k ≤ n := by rw [← hk]; have := Nat.mod_lt m (show 0 < n + 1 by omega); omega
  have hmod : (m : Int) % ((n : Int) + 1) = (k : Int) := by rw [← hk]; simp
  have hnn : (0 : Int) < (n : Int) + 1 := by omega
  have hnz : ((n : Int) + 1 == 0) = false := by simp; omega
  clear hk
  go_wp2_with ((with_reducible show wpList _ _ _ (⟨_, .alloc 46, _, _, _, _⟩ :: _) _ _); refine hold ?_)
  refine held (wpList_alloc_to rfl 46 rfl (rows16 (List.replicate 16 zsec)) (by kernel_rfl) ?_)
  go_wp2_with fail
  go_loopw [11] (fun i wr => SureRel w l k w2.heap.size (w2.heap.size + 1) i wr) (fun i _ => n - (intOf i).toNat)
  case atStart =>
    exact ⟨0, _, _, A0, n0, c0, A0', n0', c0', Nat.zero_le _, rfl, SureInv.zero l k, (Bk.new _ _ _).alloc _, Bk.new2 _ _ _ _, HD0.out.later (((Below.refl _ _).alloc (Nat.le_refl _) _).alloc (by simp) _), HT0.out.below (((Below.refl _ _).alloc (Nat.le_refl _) _).alloc (by simp) _), (HBW.out.alloc hle _).alloc (by simp; omega) _⟩
  case round =>
    obtain ⟨j, d, S, A1, n1, c1, A1', n1', c1', hj, rfl, hI, hB, hS, hD, hT, hW⟩ := hrel
    have hlt : w2.heap.size + 1 < wr.heap.size := hS.lt
    by_cases hjn : j < n
    · obtain ⟨x, hx⟩ : ∃ x, l[j]? = some x := ⟨l[j]'(by rw [HLN.out]; exact hjn), List.getElem?_eq_getElem _⟩
      obtain ⟨xa, xd⟩ := x
      have hx64 : xd.length = 64 := by
        have := HA.out.2.1 (wrv (xa, xd)) (List.mem_map.2 ⟨(xa, xd), List.mem_of_getElem? hx, rfl⟩)
        rw [wrv_length] at this
        exact Nat.add_right_cancel this
      obtain ⟨bL, oL, hA', hbL, hrL⟩ := Arr.rows_at (f := wrv) (l := l) HA.out (i := j) (by rw [HLN.out]; exact hjn)
      obtain ⟨_, hxe⟩ := List.getElem?_eq_some_iff.1 hx
      rw [hxe] at hrL
      subst hA'
      have hjI : (j : Int) < (n : Int) := by omega
      have hj0 : (0 : Int) ≤ (j : Int) := by omega
      obtain ⟨⟨p0, p1, p2, p3⟩, q0, q1, q2, q3⟩ := hB.four
      have HX := Lib.hid hx; have HX64 := Lib.hid hx64; have HR := Lib.hid hrL
      have HI := Lib.hid hI; have HB := Lib.hid hB; have HS := Lib.hid hS; have HD := Lib.hid hD; have HT := Lib.hid hT; have HW := Lib.hid hW
      clear hx hx64 hrL hxe hI hB hS hD hT hW
      by_cases hjk : j = k
      case' pos =>
        have hjkB : ((j : Int) == (k : Int)) = true := by simp; omega
        have hfl : SureInv l k k d S := hjk ▸ HI.out
        obtain ⟨hde, hMid⟩ := hfl.flush
        have hMid' : SureMid l k j ⟨viewM d, [], deedF d.fuse d.down, d.down⟩ S := by rw [hjk]; exact hMid
        have HM := Lib.hid hMid'; have HK := Lib.hid hjk
        clear hjk hfl hMid hMid'
        go_wp2_with fail
        refine (flush_okT _ d wr HD.out HI.out.1 hde).mono ?_
        rintro e w4 hres
        obtain ⟨A2, n2, c2, A2', n2', c2', rfl, hd4, hb4, ht4⟩ := hres.zero
        dsimp only at hd4 ht4 ⊢
        have HB4 := Lib.hid (HB.out.below hb4 HB.out.lt); have HS4 := Lib.hid (HS.out.below hb4 HS.out.lt)
        have HD4 := Lib.hid hd4; have HT4 := Lib.hid ht4
        have HW4 := Lib.hid (HW.out.trans (hb4.mono HW.out.size))
        clear hres hd4 hb4 ht4 p0 p1 p2 p3 q0 q1 q2 q3 hde
        obtain ⟨⟨p0, p1, p2, p3⟩, q0, q1, q2, q3⟩ := HB4.out.four
        go_wp2_with fail
        refine code_over (SureBody w l k j w2.heap.size (w2.heap.size + 1) S) ?_ ?_
        · obtain ⟨f1, f2, f3, f4⟩ := stored4_facts HB4.out (.slice A2 n2 c2) (.slice A2' n2' c2') (.int .i64 (deedF d.fuse d.down)) (.bool d.down)
          exact ⟨_, A2, n2, c2, A2', n2', c2', HM.out, f1, f4 _ _ _ (by omega) HS4.out, f2 _ _ HD4.out, HT4.out.stored4 HB4.out _ _ _ _, f3 _ _ HW4.out hle⟩
        clear HB4 HS4 HD4 HT4 HW4 HM HK p0 p1 p2 p3 q0 q1 q2 q3 hjkB
      case' neg =>
        have hjkB : ((j : Int) == (k : Int)) = false := by simp; omega
        have HK := Lib.hid hjk
        clear hjk
        go_wp2_with fail
        refine code_over (SureBody w l k j w2.heap.size (w2.heap.size + 1) S) ?_ ?_
        · exact ⟨d, A1, n1, c1, A1', n1', c1', HI.out.mid HK.out, HB.out, HS.out, HD.out, HT.out, HW.out⟩
        clear HK p0 p1 p2 p3 q0 q1 q2 q3 hjkB
      all_goals
        clear HI HB HS HD HT HW
        rintro W ⟨d1, A2, n2, c2, A2', n2', c2', hM, hB, hS, hD, hT, hW⟩
        have hltW : w2.heap.size + 1 < W.heap.size := hS.lt
        have hyl : (secv xd).length = 64 := by rw [secv_length]; exact HX64.out
        have hsz : (Try.prog.info? 28).map (·.size) = some (secv xd).length := by rw [hyl]; exact size_sec
        have hun := Try.underlying28
        have hM0 := hM
        have HL : Hid (SureLie w w2.heap.size (w2.heap.size + 1) d1 A2 n2 c2 A2' n2' c2' S W) := Lib.hid ⟨hB, hS, hD, hT, hW⟩
        have HM := Lib.hid hM
        clear hM hB hS hD hT hW hyl hM0
        by_cases ht : thereB 16 xa = true
        · obtain ⟨hr, hde, hI2⟩ := HM.out.put HX.out HX64.out (by omega) ht
          have HR1 := Lib.hid hr; have HDE := Lib.hid hde; have HI2 := Lib.hid hI2
          obtain ⟨a, rfl⟩ : ∃ a : Nat, xa = (a : Int) := ⟨xa.toNat, by unfold thereB at ht; simp at ht; omega⟩
          have hx0 : (0 : Int) ≤ (a : Int) := by omega
          have hx16 : (a : Int) < 16 := by unfold thereB at ht; simp at ht; omega
          clear hr hde hI2 ht
          go_region_held3 (fun W' => (W'.cell? ⟨w2.heap.size, 0, none⟩ = some (.slice A2 n2 c2) ∧ W'.cell? ⟨w2.heap.size, 1, none⟩ = some (.slice A2' n2' c2') ∧ W'.cell? ⟨w2.heap.size, 2, none⟩ = some (.int .i64 d1.fuse) ∧ W'.cell? ⟨w2.heap.size, 3, none⟩ = some (.bool d1.down)) ∧ W'.cell? ⟨bL, oL + j * 65, none⟩ = some (.int .i64 (a : Int)) ∧ W'.rangeAt bL (oL + j * 65 + 1) (secv xd))
            (exact (HL.out.below (by repeat (first | with_reducible exact Below.refl _ _ | with_reducible exact hbW | with_reducible refine bel_alloc ?_ _ | with_reducible refine bel_set ?_ (by first | exact Nat.le_refl _ | exact hbW.size) _ | refine Below.drew ?_))).reads hbL HR.out)
            (first | (go_at_call 20; refine (put_okT _ d1 (a : Int) xd _ (by first | exact (HL.out.below ((Below.refl _ _).drew)).2.2.1 | exact (HL.out.below (bel_alloc (Below.refl _ _).drew _)).2.2.1) (by first | exact (HL.out.below ((Below.refl _ _).drew)).2.2.2.1 | exact (HL.out.below (bel_alloc (Below.refl _ _).drew _)).2.2.2.1) HR1.out HDE.out HX64.out).mono ?_; rintro e w4 hres; obtain ⟨A3, n3, c3, A3', n3', c3', rfl, hd4, hb4, ht4⟩ := hres.zero; have hbW : Below W.heap.size W w4 := (by first | exact bel_call hb4 | exact bel_alloc_call hb4); (first | (have hbx := bel_alloc_box hb4; obtain ⟨⟨x0, x1, x2, x3⟩, y0, y1, y2, y3⟩ := hbx.four; have HBX := Lib.hid hbx; clear hbx) | skip); have HD4 := Lib.hid hd4; have HT4 := Lib.hid ht4; clear hres hb4 hd4 ht4))
          all_goals
            first
              | (refine post_over (SurePut w w2.heap.size (w2.heap.size + 1) w4.heap.size d1 { d1 with loose := d1.loose ++ [((a : Int), xd)], fuse := deedF d1.fuse d1.down } A2 n2 c2 A2' n2' c2' A3 n3 c3 A3' n3' c3' S) ⟨HL.out.below (bel_alloc hbW _), Bk.new _ _ _, HD4.out.later (bel_alloc (Below.refl _ _) _), HT4.out.below (bel_alloc (Below.refl _ _) _)⟩ ?_
                 have hbxl : w2.heap.size + 1 < w4.heap.size := by have := hbW.size; omega
                 clear HD4 HT4 hbW HL
                 revert hbxl
                 generalize w4.heap.size = bx
                 intro hbxl)
              | (refine post_over (SurePut w w2.heap.size (w2.heap.size + 1) W.heap.size d1 { d1 with loose := d1.loose ++ [((a : Int), xd)], fuse := deedF d1.fuse d1.down } A2 n2 c2 A2' n2' c2' A3 n3 c3 A3' n3' c3' S) ⟨HL.out.below (bel_set (bel_set (bel_set (bel_set hbW (Nat.le_refl _) _) (Nat.le_refl _) _) (Nat.le_refl _) _) (Nat.le_refl _) _), (stored4_facts HBX.out _ _ _ _).1, (stored4_facts HBX.out _ _ _ _).2.1 _ _ HD4.out, HT4.out.stored4 HBX.out _ _ _ _⟩ ?_
                 have hbxl : w2.heap.size + 1 < W.heap.size := hltW
                 clear HD4 HT4 hbW HL HBX x0 x1 x2 x3 y0 y1 y2 y3 hltW
                 revert hbxl
                 generalize W.heap.size = bx
                 intro hbxl)
          all_goals
            rintro W5 ⟨hL5, hX5, hD5, hT5⟩
            try dsimp only at hX5 hD5 hT5
            obtain ⟨⟨p0, p1, p2, p3⟩, hAt, hrow⟩ := hL5.reads hbL HR.out
            try dsimp only at hAt hrow
            obtain ⟨-, q0, q1, q2, q3⟩ := hL5.1.four
            obtain ⟨⟨r0, r1, r2, r3⟩, s0, s1, s2, s3⟩ := hX5.four
            have HL5 := Lib.hid hL5; have HX5 := Lib.hid hX5; have HD5 := Lib.hid hD5; have HT5 := Lib.hid hT5
            clear hL5 hX5 hD5 hT5 hrow
            obtain ⟨f1, f2, f3, f4⟩ := stored4_facts HL5.out.1 (.slice A3 n3 c3) (.slice A3' n3' c3') (.int .i64 (deedF d1.fuse d1.down)) (.bool d1.down)
            have hL6 : SureLie w w2.heap.size (w2.heap.size + 1) { d1 with loose := d1.loose ++ [((a : Int), xd)], fuse := deedF d1.fuse d1.down } A3 n3 c3 A3' n3' c3' S (stored4 W5 w2.heap.size (.slice A3 n3 c3) (.slice A3' n3' c3') (.int .i64 (deedF d1.fuse d1.down)) (.bool d1.down)) :=
              ⟨f1, f4 _ _ _ (by omega) HL5.out.2.1, f2 _ _ HD5.out, HT5.out.stored4 HL5.out.1 _ _ _ _, f3 _ _ HL5.out.2.2.2.2 hle⟩
            have HL6 := Lib.hid hL6
            clear f1 f2 f3 f4 hL6 HD5 HT5 HX5
            by_cases hjk : j < k
            · have hjkB : decide ((j : Int) < (k : Int)) = true := by simp; omega
              go_wp2_with fail
              refine code_over (SureLie w w2.heap.size (w2.heap.size + 1) { d1 with loose := d1.loose ++ [((a : Int), xd)], fuse := deedF d1.fuse d1.down } A3 n3 c3 A3' n3' c3' S) HL6.out ?_
              clear HL6 HL5 p0 p1 p2 p3 q0 q1 q2 q3 r0 r1 r2 r3 s0 s1 s2 s3 hAt
              rintro W6 hL6
              obtain ⟨-, hAt, -⟩ := hL6.reads hbL HR.out
              have hL7 := hL6.below (Below.refl _ _).drew
              obtain ⟨-, -, hrow⟩ := hL7.reads hbL HR.out
              have HRW := Lib.hid hrow; have HL7 := Lib.hid hL7
              have hS16 : S.length = 16 := HM.out.2.2.2.2.2.1
              have hS64 : ∀ s ∈ S, s.length = 64 := HM.out.2.2.2.2.2.2.1
              have HS16 := Lib.hid hS16; have HS64 := Lib.hid hS64
              clear hL6 hL7 hrow hS16 hS64
              refine wp_region_still_tail 11 (by kernel_rfl) (by kernel_rfl) ?_
              simp only [List.take_succ_cons, List.take_zero, List.drop_succ_cons, List.drop_zero]
              iterate 9 still_step
              refine wpStill_load_mid (by simp [Region.wanted]) 28 (.tmp 98) rfl bL (oL + j * 65 + 1) rfl (secv xd) (.array 64 5) HRW.out Try.underlying28 rfl hsz ?_
              still_step
              refine wpStill_nil ?_
              go_wp2_with ((with_reducible show wpList _ _ _ (⟨none, .store 28 _ _, _, _, _, _⟩ :: _) _ _); refine hold ?_)
              refine held (wpList_store_wide rfl 28 (.tmp 100) (.tmp 99) rfl (w2.heap.size + 1) (a * 64) (secv xd).toArray rfl rfl 46 (rows16 S) HL7.out.2.1 (by rw [rows16_size HS16.out HS64.out]; simp only [List.size_toArray, secv_length, HX64.out]; omega) (by simp only [List.size_toArray]; exact hsz) (by simpa using secv_one xd) ?_)
              intro w7 hw7
              have e7 := hw7.out
              rw [show (secv xd).toArray.toList = secv xd from rfl, rows16_set HS16.out HS64.out (by omega) HX64.out] at e7
              have hL8 : SureLie w w2.heap.size (w2.heap.size + 1) { d1 with loose := d1.loose ++ [((a : Int), xd)], fuse := deedF d1.fuse d1.down } A3 n3 c3 A3' n3' c3' (S.set a xd) w7 := by
                obtain ⟨g1, g2, g3, g4, g5⟩ := HL7.out
                rw [e7]
                exact ⟨g1.setRow_other (by omega) _, g2.setRow_same _, (g3.farT g4 g2 (by decide) (by decide) _).more (by simp), g4.farT g2 (by decide) (by decide) _, below_setRow g5 (by omega) _⟩
              have HL8 := Lib.hid hL8
              clear hw7 e7 hL8 HL7 HRW hAt
              go_wp2
              go_roundw
              case rel =>
                have hI3 := HI2.out
                rw [if_pos hjk, Int.toNat_natCast] at hI3
                obtain ⟨g1, g2, g3, g4, g5⟩ := HL8.out
                exact ⟨j + 1, _, _, A3, n3, c3, A3', n3', c3', by rw [HLN.out]; omega, by go_num, hI3, g1, g2, g3, g4, g5⟩
              case measure => simp [intOf]; omega
            · have hjkB : decide ((j : Int) < (k : Int)) = false := by simp; omega
              go_wp2_with fail
              go_roundw
              case rel =>
                have hI3 := HI2.out
                rw [if_neg hjk] at hI3
                obtain ⟨g1, g2, g3, g4, g5⟩ := HL6.out
                exact ⟨j + 1, _, _, A3, n3, c3, A3', n3', c3', by rw [HLN.out]; omega, by go_num, hI3, g1, g2, g3, g4, g5⟩
              case measure => simp [intOf]; omega
        · have ht' : thereB 16 xa = false := by simpa using ht
          obtain ⟨hr, hI2⟩ := HM.out.skip (x := (xa, xd)) ht'
          have HR1 := Lib.hid hr; have HI2 := Lib.hid hI2
          clear hr hI2 ht
          go_region_held3 (fun W' => (W'.cell? ⟨w2.heap.size, 0, none⟩ = some (.slice A2 n2 c2) ∧ W'.cell? ⟨w2.heap.size, 1, none⟩ = some (.slice A2' n2' c2') ∧ W'.cell? ⟨w2.heap.size, 2, none⟩ = some (.int .i64 d1.fuse) ∧ W'.cell? ⟨w2.heap.size, 3, none⟩ = some (.bool d1.down)) ∧ W'.cell? ⟨bL, oL + j * 65, none⟩ = some (.int .i64 xa) ∧ W'.rangeAt bL (oL + j * 65 + 1) (secv xd))
            (exact (HL.out.below (by repeat (first | with_reducible exact Below.refl _ _ | with_reducible exact hbW | with_reducible refine bel_alloc ?_ _ | with_reducible refine bel_set ?_ (by first | exact Nat.le_refl _ | exact hbW.size) _ | refine Below.drew ?_))).reads hbL HR.out)
            (first | (go_at_call 20; refine (put_noT _ d1 xa xd _ (by first | exact (HL.out.below ((Below.refl _ _).drew)).2.2.1 | exact (HL.out.below (bel_alloc (Below.refl _ _).drew _)).2.2.1) (by first | exact (HL.out.below ((Below.refl _ _).drew)).2.2.2.1 | exact (HL.out.below (bel_alloc (Below.refl _ _).drew _)).2.2.2.1) HR1.out).mono ?_; rintro e w4 hres; obtain ⟨A3, n3, c3, A3', n3', c3', rfl, hd4, hb4, ht4⟩ := hres.zero; have hbW : Below W.heap.size W w4 := (by first | exact bel_call hb4 | exact bel_alloc_call hb4); (first | (have hbx := bel_alloc_box hb4; obtain ⟨⟨x0, x1, x2, x3⟩, y0, y1, y2, y3⟩ := hbx.four; have HBX := Lib.hid hbx; clear hbx) | skip); have HD4 := Lib.hid hd4; have HT4 := Lib.hid ht4; clear hres hb4 hd4 ht4))
          all_goals
            first
              | (refine post_over (SurePut w w2.heap.size (w2.heap.size + 1) w4.heap.size d1 d1 A2 n2 c2 A2' n2' c2' A3 n3 c3 A3' n3' c3' S) ⟨HL.out.below (bel_alloc hbW _), Bk.new _ _ _, HD4.out.later (bel_alloc (Below.refl _ _) _), HT4.out.below (bel_alloc (Below.refl _ _) _)⟩ ?_
                 have hbxl : w2.heap.size + 1 < w4.heap.size := by have := hbW.size; omega
                 clear HD4 HT4 hbW HL
                 revert hbxl
                 generalize w4.heap.size = bx
                 intro hbxl)
              | (refine post_over (SurePut w w2.heap.size (w2.heap.size + 1) W.heap.size d1 d1 A2 n2 c2 A2' n2' c2' A3 n3 c3 A3' n3' c3' S) ⟨HL.out.below (bel_set (bel_set (bel_set (bel_set hbW (Nat.le_refl _) _) (Nat.le_refl _) _) (Nat.le_refl _) _) (Nat.le_refl _) _), (stored4_facts HBX.out _ _ _ _).1, (stored4_facts HBX.out _ _ _ _).2.1 _ _ HD4.out, HT4.out.stored4 HBX.out _ _ _ _⟩ ?_
                 have hbxl : w2.heap.size + 1 < W.heap.size := hltW
                 clear HD4 HT4 hbW HL HBX x0 x1 x2 x3 y0 y1 y2 y3 hltW
                 revert hbxl
                 generalize W.heap.size = bx
                 intro hbxl)
          all_goals
            rintro W5 ⟨hL5, hX5, hD5, hT5⟩
            try dsimp only at hX5 hD5 hT5
            obtain ⟨⟨p0, p1, p2, p3⟩, hAt, hrow⟩ := hL5.reads hbL HR.out
            try dsimp only at hAt hrow
            obtain ⟨-, q0, q1, q2, q3⟩ := hL5.1.four
            obtain ⟨⟨r0, r1, r2, r3⟩, s0, s1, s2, s3⟩ := hX5.four
            have HL5 := Lib.hid hL5; have HX5 := Lib.hid hX5; have HD5 := Lib.hid hD5; have HT5 := Lib.hid hT5
            clear hL5 hX5 hD5 hT5 hrow
            obtain ⟨f1, f2, f3, f4⟩ := stored4_facts HL5.out.1 (.slice A3 n3 c3) (.slice A3' n3' c3') (.int .i64 (d1.fuse)) (.bool d1.down)
            have hL6 : SureLie w w2.heap.size (w2.heap.size + 1) d1 A3 n3 c3 A3' n3' c3' S (stored4 W5 w2.heap.size (.slice A3 n3 c3) (.slice A3' n3' c3') (.int .i64 (d1.fuse)) (.bool d1.down)) :=
              ⟨f1, f4 _ _ _ (by omega) HL5.out.2.1, f2 _ _ HD5.out, HT5.out.stored4 HL5.out.1 _ _ _ _, f3 _ _ HL5.out.2.2.2.2 hle⟩
            have HL6 := Lib.hid hL6
            clear f1 f2 f3 f4 hL6 HD5 HT5 HX5
            by_cases hx0 : 0 ≤ xa
            · have hx16 : decide (xa < 16) = false := by unfold thereB at ht'; simp at ht' ⊢; omega
              have Ht := Lib.hid ht'
              clear ht'
              go_wp2_with fail
              go_roundw
              case rel =>
                obtain ⟨g1, g2, g3, g4, g5⟩ := HL6.out
                exact ⟨j + 1, _, _, A3, n3, c3, A3', n3', c3', by rw [HLN.out]; omega, by go_num, HI2.out, g1, g2, g3, g4, g5⟩
              case measure => simp [intOf]; omega
            · have hx16 : decide (0 ≤ xa) = false := by simpa using hx0
              have Ht := Lib.hid ht'
              clear ht'
              go_wp2_with fail
              go_roundw
              case rel =>
                obtain ⟨g1, g2, g3, g4, g5⟩ := HL6.out
                exact ⟨j + 1, _, _, A3, n3, c3, A3', n3', c3', by rw [HLN.out]; omega, by go_num, HI2.out, g1, g2, g3, g4, g5⟩
              case measure => simp [intOf]; omega
    · have hjn' : j = l.length := by have := HLN.out; omega
      have hI2 : SureInv l k l.length d S := hjn' ▸ hI
      obtain ⟨⟨p0, p1, p2, p3⟩, q0, q1, q2, q3⟩ := hB.four
      have HI := Lib.hid hI2; have HB := Lib.hid hB; have HS := Lib.hid hS; have HD := Lib.hid hD; have HT := Lib.hid hT; have HW := Lib.hid hW
      clear hI hI2 hB hS hD hT hW hjn'
      by_cases hk2 : k = n
      case' pos =>
        have hknB : ((k : Int) == (n : Int)) = true := by simp; omega
        have hkl : k = l.length := by rw [HLN.out]; exact hk2
        have hfl : SureInv l k k d S := by have := HI.out; rw [← hkl] at this; exact this
        obtain ⟨hde, hMid⟩ := hfl.flush
        have hMid' : SureMid l k l.length ⟨viewM d, [], deedF d.fuse d.down, d.down⟩ S := by rw [← hkl]; exact hMid
        have HM := Lib.hid hMid'
        clear hk2 hfl hMid hMid' hkl
        go_wp2_with fail
        refine (flush_okT _ d wr HD.out HI.out.1 hde).mono ?_
        rintro e w4 hres
        obtain ⟨A2, n2, c2, A2', n2', c2', rfl, hd4, hb4, ht4⟩ := hres.zero
        dsimp only at hd4 ht4 ⊢
        have HB4 := Lib.hid (HB.out.below hb4 HB.out.lt); have HS4 := Lib.hid (HS.out.below hb4 HS.out.lt)
        have HD4 := Lib.hid hd4; have HT4 := Lib.hid ht4
        have HW4 := Lib.hid (HW.out.trans (hb4.mono HW.out.size))
        clear hres hd4 hb4 ht4 p0 p1 p2 p3 q0 q1 q2 q3 hde
        obtain ⟨⟨p0, p1, p2, p3⟩, q0, q1, q2, q3⟩ := HB4.out.four
        go_upto_region 23 with (fail)
        refine code_over (SureBody w l k l.length w2.heap.size (w2.heap.size + 1) S) ?_ ?_
        · obtain ⟨f1, f2, f3, f4⟩ := stored4_facts HB4.out (.slice A2 n2 c2) (.slice A2' n2' c2') (.int .i64 (deedF d.fuse d.down)) (.bool d.down)
          exact ⟨_, A2, n2, c2, A2', n2', c2', HM.out, f1, f4 _ _ _ (by omega) HS4.out, f2 _ _ HD4.out, HT4.out.stored4 HB4.out _ _ _ _, f3 _ _ HW4.out hle⟩
        clear HB4 HS4 HD4 HT4 HW4 HM p0 p1 p2 p3 q0 q1 q2 q3 hknB
      case' neg =>
        have hknB : ((k : Int) == (n : Int)) = false := by simp; omega
        have HK := Lib.hid hk2
        clear hk2
        go_upto_region 23 with (fail)
        refine code_over (SureBody w l k l.length w2.heap.size (w2.heap.size + 1) S) ?_ ?_
        · exact ⟨d, A1, n1, c1, A1', n1', c1', HI.out.mid (by rw [HLN.out]; exact fun e => HK.out e.symm), HB.out, HS.out, HD.out, HT.out, HW.out⟩
        clear HK p0 p1 p2 p3 q0 q1 q2 q3 hknB
      all_goals
        clear HI HB HS HD HT HW hlt hj hjn
        rintro W ⟨d1, A2, n2, c2, A2', n2', c2', hM, hB, hS, hD, -, hW⟩
        obtain ⟨hst, hfall⟩ := hM.fall (by rw [HLN.out]; exact hkn) mask
        have hS16 : S.length = 16 := hM.2.2.2.2.2.1
        have hS64 : ∀ s ∈ S, s.length = 64 := hM.2.2.2.2.2.2.1
        have hp := start_any _ d1 mask W hmask hD
        rw [hst] at hp hfall
        obtain ⟨ds, hds⟩ : ∃ ds, doneM (bitM mask) 0 d1.secs d1.loose = ds := ⟨_, rfl⟩
        rw [hds] at hp hfall
        dsimp only at hfall
        obtain ⟨⟨p0, p1, p2, p3⟩, q0, q1, q2, q3⟩ := hB.four
        have HB := Lib.hid hB; have HS := Lib.hid hS; have HW := Lib.hid hW; have HP := Lib.hid hp; have HF := Lib.hid hfall; have HS16 := Lib.hid hS16; have HS64 := Lib.hid hS64
        clear hM hB hS hD hW hp hfall hS16 hS64 hst hds
        go_wp2_with fail
        refine HP.out.mono ?_
        rintro e w4 hres
        obtain ⟨A3, n3, c3, A3', n3', c3', rfl, hd4, hb4⟩ := hres.zero
        dsimp only at hd4 ⊢
        have HB4 := Lib.hid (HB.out.below hb4 HB.out.lt); have HS4 := Lib.hid (HS.out.below hb4 HS.out.lt)
        have HD4 := Lib.hid hd4
        have HW4 := Lib.hid (HW.out.trans (hb4.mono HW.out.size))
        clear hres hd4 hb4 p0 p1 p2 p3 q0 q1 q2 q3 HP HB HS HW
        obtain ⟨⟨p0, p1, p2, p3⟩, q0, q1, q2, q3⟩ := HB4.out.four
        obtain ⟨f1, f2, f3, f4⟩ := stored4_facts HB4.out (.slice A3 n3 c3) (.slice A3' n3' c3') (.int .i64 (-1)) (.bool false)
        have HR0 : Hid (SureRest w w2.heap.size (w2.heap.size + 1) ⟨ds, [], -1, false⟩ A3 n3 c3 A3' n3' c3' S (stored4 w4 w2.heap.size (.slice A3 n3 c3) (.slice A3' n3' c3') (.int .i64 (-1)) (.bool false))) :=
          Lib.hid ⟨f1, f4 _ _ _ (by omega) HS4.out, f2 _ _ HD4.out, f3 _ _ HW4.out hle⟩
        clear f1 f2 f3 f4 HB4 HS4 HD4 HW4
        go_wp2_with fail
        go_loopw [14] (fun i wr => ∃ a : Nat, a ≤ 16 ∧ i = .int .i64 a ∧ SureRest w w2.heap.size (w2.heap.size + 1) ⟨ds, [], -1, false⟩ A3 n3 c3 A3' n3' c3' S wr) (fun i _ => 16 - (intOf i).toNat)
        case atStart => exact ⟨0, by omega, rfl, HR0.out⟩
        case round =>
          clear HR0 p0 p1 p2 p3 q0 q1 q2 q3
          obtain ⟨a, ha, rfl, hR⟩ := hrel
          by_cases ha16 : a < 16
          · obtain ⟨x, hx, hgood⟩ := HF.out a ha16
            have hp := read_any _ _ (a : Int) _ hR.2.2.1
            rw [hx] at hp
            have hx64 : x.length = 64 := by
              have hl := hR.2.2.1.lens
              have := readM_len (d := ⟨ds, [], -1, false⟩) (a : Int) hl.1 hl.2
              rw [hx] at this
              exact this
            obtain ⟨⟨p0, p1, p2, p3⟩, -⟩ := hR.1.four
            have HP := Lib.hid hp; have HR := Lib.hid hR; have HG := Lib.hid hgood; have HX64 := Lib.hid hx64
            clear hp hR hgood hx hx64
            have haI : (a : Int) < 16 := by omega
            have ha0 : (0 : Int) ≤ (a : Int) := by omega
            go_wp2_with fail
            refine HP.out.mono ?_
            clear HP
            rintro e w5 ⟨rfl, hb5⟩
            dsimp only
            have HR5 := Lib.hid (HR.out.below hb5)
            clear hb5 HR p0 p1 p2 p3
            go_wp2_with ((with_reducible show wpList _ _ _ (⟨_, .alloc 28, _, _, _, _⟩ :: _) _ _); refine hold ?_)
            refine held (wpList_alloc_to rfl 28 rfl (secv zsec).toArray (by kernel_rfl) ?_)
            go_wp2_with ((with_reducible show wpList _ _ _ (⟨none, .store 28 _ _, _, _, _, _⟩ :: _) _ _); refine hold ?_)
            refine held (wpList_store_wide rfl 28 (.tmp 15) (.tmp 124) rfl w5.heap.size 0 (secv x).toArray rfl rfl 28 _ (Bk.new _ _ _) (by simp [secv_length, zsec, HX64.out]) (by simp only [List.size_toArray, secv_length, HX64.out]; kernel_rfl) (by simpa using secv_one x) ?_)
            intro w6 hw'
            obtain ⟨N15, hbi, hli⟩ := new_sec HX64.out hw'.out
            have HN := Lib.hid N15; have HR6 := Lib.hid (HR5.out.below hbi)
            clear N15 hbi hw' HR5
            go_wp2_with fail
            obtain ⟨s0, hs0⟩ : ∃ s, S.getD a [] = s := ⟨_, rfl⟩
            have hsl : s0.length = 64 := by
              have ha' : a < S.length := by rw [HS16.out]; exact ha16
              rw [← hs0, show S.getD a [] = S[a] by simp [List.getD, ha']]
              exact HS64.out _ (List.getElem_mem ha')
            have heq : ∀ W, (binOp .eql 28 (.agg (secv x).toArray) (.agg (secv s0).toArray)).run Try.prog W = .ok (.bool (decide (x = s0))) W := fun W => run_eql_sec W Try.underlying28 Try.underlying5 hi28 (by kernel_rfl) HX64.out hsl
            have hq1 := bk_range HN.out.drew
            have hq2 := rows16_at HR6.out.2.1.drew HS64.out (a := a) (by rw [HS16.out]; exact ha16)
            rw [hs0] at hq2 HG
            have Hq1 := Lib.hid hq1; have Hq2 := Lib.hid hq2; have HSL := Lib.hid hsl
            clear hq1 hq2 hs0 hsl
            refine wp_region_still_lit (by kernel_rfl) (by kernel_rfl) ?_
            refine wpStill_load_mid (by simp [Region.wanted]) 28 (.tmp 15) rfl w5.heap.size 0 rfl (secv x) (.array 64 5) Hq1.out Try.underlying28 rfl (by rw [secv_length, HX64.out]; exact size_sec) ?_
            iterate 2 still_step
            refine wpStill_load_mid (by simp [Region.wanted]) 28 (.tmp 128) rfl (w2.heap.size + 1) (a * 64) rfl (secv s0) (.array 64 5) Hq2.out Try.underlying28 rfl (by rw [secv_length, HSL.out]; exact size_sec) ?_
            iterate 2 still_step
            refine wpStill_nil ?_
            clear heq
            generalize decide (x = s0) = c0 at HG ⊢
            go_wp2_with fail
            go_loopw [17, 18] (fun g i wr => ∃ (t : Nat) (gb : Bool), k ≤ t ∧ t ≤ n ∧ i = .int .i64 t ∧ g = .bool gb ∧ Hid (goodB c0 l k (a : Int) x t = gb) ∧ SureRest w w2.heap.size (w2.heap.size + 1) ⟨ds, [], -1, false⟩ A3 n3 c3 A3' n3' c3' S wr ∧ Bk wr w5.heap.size 28 (secv x).toArray) (fun _ i _ => n - (intOf i).toNat)
            case atStart => exact ⟨k, c0, Nat.le_refl _, hkn, rfl, rfl, Lib.hid (goodB_start _ _ _ _ _), HR6.out.below (Below.refl _ _).drew, HN.out.drew⟩
            case round =>
              clear HR6 HN Hq1 Hq2 hli
              obtain ⟨t, gb, hkt, htn, rfl, rfl, Hgb, hR, hN⟩ := hrel
              by_cases ht : t < n
              · obtain ⟨y, hy⟩ : ∃ y, l[t]? = some y := ⟨l[t]'(by rw [HLN.out]; exact ht), List.getElem?_eq_getElem _⟩
                have hstep := goodB_step c0 l k (a : Int) x t hkt hy
                rw [Hgb.out] at hstep
                obtain ⟨ya, yd⟩ := y
                have hy64 : yd.length = 64 := by
                  have := HA.out.2.1 (wrv (ya, yd)) (List.mem_map.2 ⟨(ya, yd), List.mem_of_getElem? hy, rfl⟩)
                  rw [wrv_length] at this
                  exact Nat.add_right_cancel this
                obtain ⟨bL, oL, hA', hbL, hrL⟩ := Arr.rows_at (f := wrv) (l := l) HA.out (i := t) (by rw [HLN.out]; exact ht)
                obtain ⟨_, hye⟩ := List.getElem?_eq_some_iff.1 hy
                rw [hye] at hrL
                subst hA'
                obtain ⟨hAt, -⟩ := below_reads hR.2.2.2 hbL hrL
                obtain ⟨-, hrow⟩ := below_reads hR.2.2.2.drew hbL hrL
                have hq1 := bk_range hN.drew
                dsimp only at hAt hrow hstep
                have htI : (t : Int) < (n : Int) := by omega
                have ht0 : (0 : Int) ≤ (t : Int) := by omega
                have HR := Lib.hid hR; have HN := Lib.hid hN; have HST := Lib.hid hstep; have HY64 := Lib.hid hy64; have HRow := Lib.hid hrow; have Hq1 := Lib.hid hq1
                clear hR hN hstep hy hy64 hrL hye hrow hq1 Hgb
                cases gb
                · by_cases hya : ya = (a : Int)
                  · have hyB : (ya == (a : Int)) = true := by simpa using hya
                    have heq2 : ∀ W, (binOp .eql 28 (.agg (secv yd).toArray) (.agg (secv x).toArray)).run Try.prog W = .ok (.bool (decide (yd = x))) W := fun W => run_eql_sec W Try.underlying28 Try.underlying5 hi28 (by kernel_rfl) HY64.out HX64.out
                    have hfin : goodB c0 l k (a : Int) x (t + 1) = decide (yd = x) := by rw [HST.out]; simp [hya]
                    have HFin := Lib.hid hfin
                    clear hya hfin
                    go_wp2_with fail
                    refine wp_region_still_lit (by kernel_rfl) (by kernel_rfl) ?_
                    iterate 14 still_step
                    refine wpStill_load_mid (by rfl) 28 (.tmp 151) rfl bL (oL + t * 65 + 1) rfl (secv yd) (.array 64 5) HRow.out Try.underlying28 rfl (by rw [secv_length, HY64.out]; exact size_sec) ?_
                    refine wpStill_load_mid (by rfl) 28 (.tmp 15) rfl w5.heap.size 0 rfl (secv x) (.array 64 5) Hq1.out Try.underlying28 rfl (by rw [secv_length, HX64.out]; exact size_sec) ?_
                    iterate 4 still_step
                    refine wpStill_nil ?_
                    clear heq2
                    generalize decide (yd = x) = c1 at HFin ⊢
                    go_wp2_with fail
                    go_roundw
                    case rel => exact ⟨t + 1, c1, by omega, by omega, by go_num, rfl, HFin, HR.out.below (Below.refl _ _).drew, HN.out.drew⟩
                    case measure => simp [intOf]; omega
                  · have hyB : (ya == (a : Int)) = false := by simpa using hya
                    have hfin : goodB c0 l k (a : Int) x (t + 1) = false := by rw [HST.out]; simp [hya]
                    have HFin := Lib.hid hfin
                    clear hya hfin
                    go_wp2_with fail
                    go_quiet (fail)
                    go_wp2_with fail
                    go_roundw
                    case rel => exact ⟨t + 1, false, by omega, by omega, by go_num, rfl, HFin, HR.out.below (bel_drewN _ _), HN.out.below (bel_drewN _ _) HN.out.lt⟩
                    case measure => simp [intOf]; omega
                · have hfin : goodB c0 l k (a : Int) x (t + 1) = true := by rw [HST.out]; simp
                  have HFin := Lib.hid hfin
                  clear hfin
                  go_wp2_with fail
                  go_quiet (fail)
                  go_wp2_with fail
                  go_roundw
                  case rel => exact ⟨t + 1, true, by omega, by omega, by go_num, rfl, HFin, HR.out.below (bel_drewN _ _), HN.out.below (bel_drewN _ _) HN.out.lt⟩
                  case measure => simp [intOf]; omega
              · have htn' : t = l.length := by rw [HLN.out]; omega
                have hgb : gb = true := by rw [← Hgb.out, htn', HG.out]
                subst hgb
                have HR := Lib.hid hR
                clear htn' hR hN
                go_wp2
                go_roundw
                case rel => exact ⟨a + 1, by omega, by go_num, HR.out⟩
                case measure => simp [intOf]; omega
          · have HR := Lib.hid hR
            clear hR
            have ha2 : a = 16 := by omega
            subst ha2
            go_wp2
            go_ret
            exact ⟨rfl, HR.out.2.2.2⟩
end Go.Proofs.Ytfejnfohbagnkaa
