/-
  The law FlagOnce of package flag, as a walk.
-/
import Derived.Test.YtloghgfcgkfefaaDoorFlagLawA
import Derived.Lib.ConvBytes
import Derived.BigRegion
namespace Go.Proofs.YtloghgfcgkfefaaDoor
open Go.RowKit
set_option linter.unusedVariables false
set_option linter.unusedSimpArgs false

/-- a new block g holds n bytes and, perhaps, room behind them -/
def ByN (w : World) (g n : Nat) (l : List Nat) : Prop :=
  ∃ cs : Array Value, w.heap[g]? = some (.cells cs 5 (cs.size, cs.size + 1)) ∧ n ≤ cs.size ∧ l.length = n ∧ (∀ x ∈ l, x < 256) ∧ ∀ i, i < n → cs[i]? = some (.int .u8 ((byteAt l i : Nat) : Int))
theorem setCell_row (w : World) (g i : Nat) (cs : Array Value) (e : TypeId) (fr : Nat × Nat) (v : Value) (h : w.heap[g]? = some (.cells cs e fr)) : (w.setCell ⟨g, i, none⟩ v).heap[g]? = some (.cells (cs.setIfInBounds i v) e fr) := by
  unfold World.setCell
  simp [Array.getElem?_modify, h]
theorem grownBy_setCell (w : World) (b i : Nat) (v : Value) : w.grownBy (w.setCell ⟨b, i, none⟩ v) (some b) :=
  ⟨rfl, rfl, rfl, by simp, fun k _ hr => Below.heap_setCell w _ v k (fun e => hr (by rw [e]))⟩
theorem grown_trans {a w w' : World} {row : Option Nat} (h : a.grownBy w row) (k : w.grownBy w' row) : a.grownBy w' row :=
  ⟨k.os.trans h.os, k.tape.trans h.tape, k.output.trans h.output, Nat.le_trans h.size k.size, fun j hj hr => (k.block j (Nat.lt_of_lt_of_le hj h.size) hr).trans (h.block j hj hr)⟩
theorem grown_cell {a w : World} {g : Nat} (h : a.grownBy w (some g)) {b : Nat} (hb : b < a.heap.size) (hg : b ≠ g) (i : Nat) : w.cell? ⟨b, i, none⟩ = a.cell? ⟨b, i, none⟩ := by
  have := h.block b hb (fun e => hg (Option.some.inj e))
  unfold World.cell?
  simp only [this]
theorem All.grown {w w' : World} {g : Nat} (h : All w) (hg : w.grownBy w' (some g)) (hne : 0 < g) : All w' := h.keep fun o => grown_cell hg h.lt (by omega) o
section
variable {w w' : World} {g n : Nat} {l : List Nat}
theorem ByN.lt (h : ByN w g n l) : g < w.heap.size := by obtain ⟨cs, h1, _⟩ := h; exact (Array.getElem?_eq_some_iff.1 h1).1
theorem ByN.cell (h : ByN w g n l) {i : Nat} (hi : i < n) : w.cell? ⟨g, i, none⟩ = some (.int .u8 ((byteAt l i : Nat) : Int)) := by
  obtain ⟨cs, h1, h2, h3, h4, h5⟩ := h
  rw [cell_of_row w g i _ _ _ h1, h5 i hi]
theorem ByN.frz (h : ByN w g n l) {i : Nat} (hi : i < n) : w.frozen? ⟨g, i, none⟩ = false := by
  obtain ⟨cs, h1, h2, h3, h4, h5⟩ := h
  unfold World.frozen?
  rw [h1]
  simp
  omega
theorem ByN.put (h : ByN w g n l) {i : Nat} (hi : i < n) (x : Nat) (hx : x < 256) : ByN (w.setCell ⟨g, i, none⟩ (.int .u8 (x : Int))) g n (l.set i x) := by
  obtain ⟨cs, h1, h2, h3, h4, h5⟩ := h
  refine ⟨cs.setIfInBounds i (.int .u8 (x : Int)), ?_, by simpa using h2, by simpa using h3, fun y hy => ?_, fun j hj => ?_⟩
  · have := setCell_row w g i cs 5 _ (.int .u8 (x : Int)) h1
    simpa using this
  · rcases List.mem_or_eq_of_mem_set hy with hy | rfl
    · exact h4 y hy
    · exact hx
  · unfold byteAt
    by_cases e : i = j
    · subst e
      rw [Array.getElem?_setIfInBounds_self_of_lt (by omega)]
      simp [List.getD_eq_getElem?_getD, h3, hi]
    · rw [Array.getElem?_setIfInBounds_ne e, h5 j hj]
      simp [List.getD_eq_getElem?_getD, List.getElem?_set_ne e, byteAt]
theorem ByN.len (h : ByN w g n l) : l.length = n := by obtain ⟨cs, h1, h2, h3, h4, h5⟩ := h; exact h3
theorem ByN.bytes (h : ByN w g n l) : Bytes w (g + 1) (some ⟨g, 0, none⟩) n l := by
  obtain ⟨cs, h1, h2, h3, h4, h5⟩ := id h
  refine ⟨h3, h4, fun _ => ⟨g, 0, rfl, by omega, fun i hi => ?_⟩⟩
  rw [Nat.zero_add]
  exact h.cell hi
theorem ByN.byte (h : ByN w g n l) {i : Nat} (hi : i < n) : byteAt l i < 256 := by
  obtain ⟨cs, h1, h2, h3, h4, h5⟩ := h
  unfold byteAt
  rw [List.getD_eq_getElem?_getD, List.getElem?_eq_getElem (by omega)]
  exact h4 _ (List.getElem_mem _)
end
theorem byN_new (w : World) (s : ByteArray) : ByN (Lib.bytesWorld w 5 s) w.heap.size s.size (nats s) := by
  have hc : ∀ i, i < s.size → (Lib.bytesCells w 5 s)[i]? = some (.int .u8 (s.data.toList.getD i 0).toNat) := fun i hi => by
    have := Lib.bytesWorld_cell w 5 s i hi
    rwa [cell_of_row _ _ _ _ _ _ (Lib.bytesWorld_at_new w 5 s)] at this
  refine ⟨_, Lib.bytesWorld_at_new w 5 s, ?_, nats_length s, nats_lt s, fun i hi => ?_⟩
  · by_cases h0 : s.size = 0
    · omega
    · have := (Array.getElem?_eq_some_iff.1 (hc (s.size - 1) (by omega))).1
      omega
  · rw [hc i hi]
    unfold byteAt nats
    have : i < s.data.toList.length := by rw [Array.length_toList]; exact hi
    simp only [List.getD_eq_getElem?_getD, List.getElem?_map, List.getElem?_eq_getElem this, Option.getD_some, Option.map_some]

/-- the first k small letters as great ones -/
def grK (l : List Nat) (k : Nat) : List Nat := (l.take k).map greatN ++ l.drop k
theorem byteAt_eq {l : List Nat} {k x : Nat} (h : l[k]? = some x) : byteAt l k = x := by unfold byteAt; rw [List.getD_eq_getElem?_getD, h]; rfl
theorem grK_at {l : List Nat} {k x : Nat} (h : l[k]? = some x) : byteAt (grK l k) k = x := by
  have hk : k < l.length := (List.getElem?_eq_some_iff.1 h).1
  refine byteAt_eq ?_
  unfold grK
  rw [List.getElem?_append_right (by simp; omega), List.length_map, List.length_take, List.getElem?_drop, show k + (k - min k l.length) = k by omega, h]
theorem grK_step {l : List Nat} {k x : Nat} (h : l[k]? = some x) : grK l (k + 1) = (grK l k).set k (greatN x) := by
  have hk : k < l.length := (List.getElem?_eq_some_iff.1 h).1
  have hd : l.drop k = x :: l.drop (k + 1) := by
    rw [List.drop_eq_getElem_cons hk]
    rw [List.getElem?_eq_getElem hk] at h
    rw [Option.some.inj h]
  unfold grK
  rw [take_snoc_n l k x h, List.map_append, hd, List.set_append_right _ _ (by simp; omega), List.length_map, List.length_take, show k - min k l.length = 0 by omega, List.append_assoc]
  rfl
theorem grK_same {l : List Nat} {k x : Nat} (h : l[k]? = some x) (hg : greatN x = x) : grK l (k + 1) = grK l k := by
  rw [grK_step h, hg]
  have h2 := grK_at h
  have hk : k < (grK l k).length := by
    unfold grK
    have := (List.getElem?_eq_some_iff.1 h).1
    simp; omega
  have h3 : (grK l k)[k] = x := by
    unfold byteAt at h2
    rwa [List.getD_eq_getElem?_getD, List.getElem?_eq_getElem hk] at h2
  conv => lhs; rw [← h3]
  exact List.set_getElem_self hk
theorem grK_all (l : List Nat) {k : Nat} (h : k = l.length) : grK l k = l.map greatN := by
  unfold grK
  rw [List.take_of_length_le (by omega), List.drop_of_length_le (by omega), List.append_nil]

theorem once_facts : ∀ m : Nat, m < 3 → ∀ a : Nat, a < 32 → ∀ b : Nat, b < 32 → appE (a : Int) (m : Int) (b : Int) = 0 ∧ 0 ≤ appV (a : Int) (m : Int) (b : Int) ∧ appV (a : Int) (m : Int) (b : Int) < 32 ∧
    appE (appV (a : Int) (m : Int) (b : Int)) (m : Int) (b : Int) = 0 ∧ appV (appV (a : Int) (m : Int) (b : Int)) (m : Int) (b : Int) = appV (a : Int) (m : Int) (b : Int) := by decide +kernel

set_option maxRecDepth 100000 in
set_option maxHeartbeats 8000000 in
theorem flagOnce_walk (x0 y0 z0 : Nat) (hx0 : x0 < 256) (hy0 : y0 < 256) (hz0 : z0 < 256) (s : ByteArray) (hs : s.size ≤ 140737488355328) (w : World) (hA : All w) :
    Calls Tryd.prog 5 #[.agg #[.int .u8 (x0 : Int), .int .u8 (y0 : Int), .int .u8 (z0 : Int)], .string s] w fun e w' => e = .returned (.bool true) ∧ Below w.heap.size w w' := by
  have ta : ((x0 : Int)).tmod 32 = ((x0 % 32 : Nat) : Int) := by rw [Int.tmod_eq_emod_of_nonneg (by omega)]; omega
  have tm : ((y0 : Int)).tmod 3 = ((y0 % 3 : Nat) : Int) := by rw [Int.tmod_eq_emod_of_nonneg (by omega)]; omega
  have tb : ((z0 : Int)).tmod 32 = ((z0 % 32 : Nat) : Int) := by rw [Int.tmod_eq_emod_of_nonneg (by omega)]; omega
  have wa : IntKind.i64.wrap (x0 : Int) = (x0 : Int) := IntWalk.i64_in _ (by omega)
  have wm : IntKind.i64.wrap (y0 : Int) = (y0 : Int) := IntWalk.i64_in _ (by omega)
  have wb : IntKind.i64.wrap (z0 : Int) = (z0 : Int) := IntWalk.i64_in _ (by omega)
  have HSF := Lib.hid (once_facts (y0 % 3) (Nat.mod_lt _ (by omega)) (x0 % 32) (Nat.mod_lt _ (by omega)) (z0 % 32) (Nat.mod_lt _ (by omega)))
  obtain ⟨a, hae⟩ : ∃ a, x0 % 32 = a := ⟨_, rfl⟩
  obtain ⟨m, hme⟩ : ∃ m, y0 % 3 = m := ⟨_, rfl⟩
  obtain ⟨b, hbe⟩ : ∃ b, z0 % 32 = b := ⟨_, rfl⟩
  rw [hae, hme, hbe] at HSF
  rw [hae] at ta
  rw [hme] at tm
  rw [hbe] at tb
  have h64 : s.size ≤ 9223372036854775807 := by omega
  have HS := Lib.hid hs
  have HA := Lib.hid hA
  clear hA hae hme hbe hs
  go_enter Tryd.func5, Tryd.ntmps5
  go_wp2_with fail
  have hb0 : Below w.heap.size w (w.alloc (.cells #[.int .u8 (x0 : Int), .int .u8 (y0 : Int), .int .u8 (z0 : Int)] 34)) := (Below.refl _ _).alloc (Nat.le_refl _) _
  have hc := fun (i : Nat) => cell_of_row (w.alloc (.cells #[.int .u8 (x0 : Int), .int .u8 (y0 : Int), .int .u8 (z0 : Int)] 34)) w.heap.size i _ _ (0, 0) (heap_alloc_new w _)
  have c0 := hc 0
  have c1 := hc 1
  have c2 := hc 2
  have hsz : w.heap.size < (w.alloc (.cells #[.int .u8 (x0 : Int), .int .u8 (y0 : Int), .int .u8 (z0 : Int)] 34)).heap.size := by simp
  generalize w.alloc (.cells #[.int .u8 (x0 : Int), .int .u8 (y0 : Int), .int .u8 (z0 : Int)] 34) = w0 at *
  have HA0 := HA.out.below hb0
  refine (alive08_any _ HA0).mono ?_
  rintro e w1 ⟨rfl, hb1⟩
  have d0 := (hb1.cell (p := ⟨w.heap.size, 0, none⟩) hsz).trans c0
  have d1 := (hb1.cell (p := ⟨w.heap.size, 1, none⟩) hsz).trans c1
  have d2 := (hb1.cell (p := ⟨w.heap.size, 2, none⟩) hsz).trans c2
  replace d0 : w1.cell? ⟨w.heap.size, 0, none⟩ = some (.int .u8 (x0 : Int)) := d0
  replace d1 : w1.cell? ⟨w.heap.size, 1, none⟩ = some (.int .u8 (y0 : Int)) := d1
  replace d2 : w1.cell? ⟨w.heap.size, 2, none⟩ = some (.int .u8 (z0 : Int)) := d2
  have HA1 := Lib.hid (HA0.below hb1)
  have HB1 := Lib.hid (hb0.trans (hb1.mono hb0.size))
  clear hb0 hb1 hc c0 c1 c2 hsz HA0
  go_wp2_with fail
  go_region
  have HA2 := Lib.hid (HA1.out.below (Below.refl w1.heap.size w1).drew)
  have HB2 := Lib.hid (HB1.out.drew)
  replace d0 : w1.drew.cell? ⟨w.heap.size, 0, none⟩ = some (.int .u8 (x0 : Int)) := d0
  generalize w1.drew = w2 at *
  obtain ⟨f1, f2, f3, f4, f5⟩ := HSF.out
  obtain ⟨v, hv⟩ : ∃ v, appV (a : Int) (m : Int) (b : Int) = v := ⟨_, rfl⟩
  rw [hv] at f2 f3 f4 f5
  go_wp2_with fail
  refine (apply_any (a : Int) (m : Int) (b : Int) w2).mono ?_
  rintro e w4 ⟨z, d, rfl, hz, hd, rfl⟩
  rw [hv] at hz
  rw [f1] at hd
  subst hz hd
  go_wp2_with fail
  refine (apply_any z (m : Int) (b : Int) w2).mono ?_
  rintro e w4 ⟨z2, d, rfl, hz, hd, rfl⟩
  rw [f5] at hz
  rw [f4] at hd
  subst hz hd
  clear f1 f2 f3 f4 f5 hv ta tm tb wa wm wb d0 d1 d2 HSF
  have kc := fun W => Lib.run_convert_string_bytes (P := Tryd.prog) W 9 35 5 s Tryd.underlying9 Tryd.underlying35 Tryd.underlying5
  go_wp2_with fail
  clear kc
  have hby := byN_new w2 s
  have hbw : Below w2.heap.size w2 (Lib.bytesWorld w2 5 s) := (Below.refl _ _).grown (bytesWorld_grown w2 5 s none) (Nat.le_refl _) (fun k hk => by cases hk)
  have HA5 := Lib.hid (HA2.out.below hbw)
  have HB5 := Lib.hid (HB2.out.trans (hbw.mono HB2.out.size))
  have hgw : w.heap.size ≤ w2.heap.size := HB2.out.size
  have hg0 : 0 < w2.heap.size := HA2.out.lt
  obtain ⟨cap, hcap⟩ : ∃ c, grownCap w2 s.size 0 5 = c := ⟨_, rfl⟩
  rw [hcap]
  generalize Lib.bytesWorld w2 5 s = W5 at *
  obtain ⟨g, hg⟩ : ∃ g, w2.heap.size = g := ⟨_, rfl⟩
  rw [hg] at hby hgw hg0 ⊢
  have HBY := Lib.hid hby
  clear hby hbw hcap hg HA2 HB2
  go_loopw [12] (fun i wx => ∃ k : Nat, k ≤ s.size ∧ i = .int .i64 (k : Int) ∧ ByN wx g s.size (grK (nats s) k) ∧ W5.grownBy wx (some g)) (fun i _ => s.size - (intOf i).toNat)
  case atStart => exact ⟨0, by omega, rfl, HBY.out, World.grownBy.refl _ _⟩
  case round =>
    obtain ⟨k, hk, rfl, hbk, hgk⟩ := hrel
    have HGK := Lib.hid hgk
    clear hgk
    by_cases hlt : k < s.size
    · have hx := nats_byte s k hlt
      have hxb : s[k].toNat < 256 := s[k].toNat_lt
      have hcl := hbk.cell hlt
      have hf := hbk.frz hlt
      rw [grK_at hx] at hcl
      have HSTEP := Lib.hid (grK_step hx)
      have HSAME := Lib.hid (fun h => grK_same (l := nats s) hx h)
      have HBK := Lib.hid hbk
      obtain ⟨x, hxe⟩ : ∃ x, s[k].toNat = x := ⟨_, rfl⟩
      rw [hxe] at hcl hxb HSTEP HSAME
      have hk0 : (0 : Int) ≤ (k : Int) := by omega
      have hkl : (k : Int) < (s.size : Int) := by omega
      clear hx hxe hbk
      by_cases h1 : 97 ≤ x
      · by_cases h2 : x ≤ 122
        · have hgx : greatN x = x - 32 := if_pos ⟨h1, h2⟩
          have hput := HBK.out.put hlt (x - 32) (by omega)
          rw [← hgx, ← HSTEP.out] at hput
          have HPUT := Lib.hid hput
          have hw : IntKind.u8.wrap ((x : Int) - 32) = ((greatN x : Nat) : Int) := by
            rw [hgx, IntWalk.u8_in ((x : Int) - 32) (by omega)]; omega
          clear hput hgx
          go_wp2_with fail
          go_roundw
          case rel => exact ⟨k + 1, by omega, by go_num, HPUT.out, grown_trans HGK.out (grownBy_setCell _ _ _ _)⟩
          case measure => simp [intOf]; omega
        · have HSM := Lib.hid (HSAME.out (if_neg (by omega)))
          go_wp2_with fail
          go_roundw
          case rel => exact ⟨k + 1, by omega, by go_num, by rw [HSM.out]; exact HBK.out, HGK.out⟩
          case measure => simp [intOf]; omega
      · have HSM := Lib.hid (HSAME.out (if_neg (by omega)))
        go_wp2_with fail
        go_roundw
        case rel => exact ⟨k + 1, by omega, by go_num, by rw [HSM.out]; exact HBK.out, HGK.out⟩
        case measure => simp [intOf]; omega
    · obtain rfl : k = s.size := by omega
      have hall := grK_all (nats s) (nats_length s).symm
      rw [hall] at hbk
      have hby := hbk.bytes
      have HAr := Lib.hid (HA5.out.grown HGK.out hg0)
      have hbr : Below w.heap.size w wr := ⟨HGK.out.os.trans HB5.out.os, HGK.out.tape.trans HB5.out.tape, HGK.out.output.trans HB5.out.output, Nat.le_trans HB5.out.size HGK.out.size, fun j hj =>
        (HGK.out.block j (Nat.lt_of_lt_of_le hj HB5.out.size) (fun e => by injection e with e; omega)).trans (HB5.out.block j hj)⟩
      have HBr := Lib.hid hbr
      have HLT := Lib.hid hby.2.1
      have c1 := one_any s HS.out wr HAr.out
      clear hby hbr hall
      have HBK := Lib.hid hbk
      clear hbk
      go_wp2_with fail
      refine c1.mono ?_
      rintro e w6 ⟨z1, d1, rfl, hz1, hd1, hb6⟩
      have HA6 := Lib.hid (HAr.out.below hb6)
      have HB6 := Lib.hid (HBr.out.trans (hb6.mono HBr.out.size))
      have hby6 := (HBK.out.bytes.below hb6 (by have := HBK.out.lt; omega))
      have kd := run_str_of_bytes (P := Tryd.prog) (c := cap) hby6 Tryd.underlying35 Tryd.underlying5 Tryd.underlying9
      have c2 := one_any (strOf ((nats s).map greatN)) (by rw [strOf_size, List.length_map, nats_length]; exact HS.out) w6 HA6.out
      rw [nats_strOf _ HLT.out, oneN_great, ← hz1, ← hd1] at c2
      clear hby6 hb6 hz1 hd1 c1
      go_wp2_with fail
      refine c2.mono ?_
      rintro e w7 ⟨z2, d2, rfl, hz2, hd2, hb7⟩
      subst hz2 hd2
      have HB7 := Lib.hid (HB6.out.trans (hb7.mono HB6.out.size))
      clear hb7 kd c2
      by_cases hl : 100 < s.size
      · have hl' : (100 : Int) < (s.size : Int) := by omega
        go_wp2_with fail
        go_ret
        exact ⟨rfl, HB7.out⟩
      · have hl' : ¬ (100 : Int) < (s.size : Int) := by omega
        go_wp2_with fail
        go_ret
        exact ⟨rfl, HB7.out⟩
end Go.Proofs.YtloghgfcgkfefaaDoor
