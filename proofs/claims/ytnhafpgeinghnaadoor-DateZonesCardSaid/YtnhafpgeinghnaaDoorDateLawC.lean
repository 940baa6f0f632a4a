/-
  The law DateZones of package date, as a walk.
-/
import Derived.Test.YtnhafpgeinghnaaDoorDateAlive
import Derived.Test.YtnhafpgeinghnaaDoorDateBackM
import Derived.Test.YtnhafpgeinghnaaDoorCols
namespace Go.Proofs.YtnhafpgeinghnaaDoor
open Go.RowKit
set_option linter.unusedVariables false
set_option linter.unusedSimpArgs false

theorem bytes_two (w : World) (h : Nat) (hh : h < 24) (t : TypeId) : Bytes (w.alloc (.cells #[.int .u8 (48 + (h : Int) / 10), .int .u8 (48 + (h : Int) % 10)] t)) (w.heap.size + 1) (some ⟨w.heap.size, 0, none⟩) 2 (dig2 h) := by
  refine ⟨rfl, ?_, fun _ => ⟨w.heap.size, 0, rfl, by omega, fun i hi => ?_⟩⟩
  · intro x hx
    simp only [dig2, List.mem_cons, List.not_mem_nil, or_false] at hx
    omega
  · rw [cell_of_row _ _ _ _ _ _ (heap_alloc_new w _)]
    rcases (by omega : i = 0 ∨ i = 1) with rfl | rfl
    · show some (Value.int .u8 (48 + (h : Int) / 10)) = some (.int .u8 ((48 + h / 10 : Nat) : Int))
      congr 2
    · show some (Value.int .u8 (48 + (h : Int) % 10)) = some (.int .u8 ((48 + h % 10 : Nat) : Int))
      congr 2
theorem str_two (w : World) (h : Nat) (hh : h < 24) (t : TypeId) : (convert 36 9 (.slice (some ⟨w.heap.size, 0, none⟩) 2 2)).run Tryd.prog (w.alloc (.cells #[.int .u8 (48 + (h : Int) / 10), .int .u8 (48 + (h : Int) % 10)] t)) = .ok (.string (strOf (dig2 h))) (w.alloc (.cells #[.int .u8 (48 + (h : Int) / 10), .int .u8 (48 + (h : Int) % 10)] t)) :=
  run_str_of_bytes (P := Tryd.prog) (bytes_two w h hh t) Tryd.underlying36 Tryd.underlying5 Tryd.underlying9

/-- a new block g holds 26 bytes and, perhaps, room behind them -/
def By26 (w : World) (g : Nat) (l : List Nat) : Prop :=
  ∃ cs : Array Value, w.heap[g]? = some (.cells cs 5 (cs.size, cs.size + 1)) ∧ 26 ≤ cs.size ∧ l.length = 26 ∧ (∀ x ∈ l, x < 256) ∧ ∀ i, i < 26 → cs[i]? = some (.int .u8 ((byteAt l i : Nat) : Int))
theorem setCell_row (w : World) (g i : Nat) (cs : Array Value) (e : TypeId) (fr : Nat × Nat) (v : Value) (h : w.heap[g]? = some (.cells cs e fr)) : (w.setCell ⟨g, i, none⟩ v).heap[g]? = some (.cells (cs.setIfInBounds i v) e fr) := by
  unfold World.setCell
  simp [Array.getElem?_modify, h]
section
variable {w w' : World} {g : Nat} {l : List Nat}
theorem By26.lt (h : By26 w g l) : g < w.heap.size := by obtain ⟨cs, h1, _⟩ := h; exact (Array.getElem?_eq_some_iff.1 h1).1
theorem By26.cell (h : By26 w g l) {i : Nat} (hi : i < 26) : w.cell? ⟨g, i, none⟩ = some (.int .u8 ((byteAt l i : Nat) : Int)) := by
  obtain ⟨cs, h1, h2, h3, h4, h5⟩ := h
  rw [cell_of_row w g i _ _ _ h1, h5 i hi]
theorem By26.frz (h : By26 w g l) {i : Nat} (hi : i < 26) : w.frozen? ⟨g, i, none⟩ = false := by
  obtain ⟨cs, h1, h2, h3, h4, h5⟩ := h
  unfold World.frozen?
  rw [h1]
  simp
  omega
theorem By26.put (h : By26 w g l) {i : Nat} (hi : i < 26) (x : Nat) (hx : x < 256) : By26 (w.setCell ⟨g, i, none⟩ (.int .u8 (x : Int))) g (l.set i x) := by
  obtain ⟨cs, h1, h2, h3, h4, h5⟩ := h
  refine ⟨cs.setIfInBounds i (.int .u8 (x : Int)), ?_, by simpa using h2, by simpa using h3, fun y hy => ?_, fun j hj => ?_⟩
  · have := setCell_row w g i cs 5 _ (.int .u8 (x : Int)) h1
    simpa using this
  · rcases List.mem_or_eq_of_mem_set hy with hy | rfl
    · exact h4 y hy
    · exact hx
  · unfold byteAt
    by_cases e : i = j
    · subst e
      rw [Array.getElem?_setIfInBounds_self_of_lt (by omega)]
      simp [List.getD_eq_getElem?_getD, h3, hi]
    · rw [Array.getElem?_setIfInBounds_ne e, h5 j hj]
      simp [List.getD_eq_getElem?_getD, List.getElem?_set_ne e, byteAt]
theorem By26.bytes (h : By26 w g l) : Bytes w (g + 1) (some ⟨g, 0, none⟩) 26 l := by
  obtain ⟨cs, h1, h2, h3, h4, h5⟩ := id h
  refine ⟨h3, h4, fun _ => ⟨g, 0, rfl, by omega, fun i hi => ?_⟩⟩
  rw [Nat.zero_add]
  exact h.cell hi
theorem By26.len (h : By26 w g l) : l.length = 26 := by obtain ⟨cs, h1, h2, h3, h4, h5⟩ := h; exact h3
theorem By26.byte (h : By26 w g l) {i : Nat} (hi : i < 26) : byteAt l i < 256 := by
  obtain ⟨cs, h1, h2, h3, h4, h5⟩ := h
  unfold byteAt
  rw [List.getD_eq_getElem?_getD, List.getElem?_eq_getElem (by omega)]
  exact h4 _ (List.getElem_mem _)
end
theorem by26_new (w : World) (s : ByteArray) (hs : s.size = 26) : By26 (Lib.bytesWorld w 5 s) w.heap.size (nats s) := by
  refine ⟨_, Lib.bytesWorld_at_new w 5 s, ?_, by rw [nats_length, hs], nats_lt s, fun i hi => ?_⟩
  · have := Lib.bytesWorld_cell w 5 s 25 (by omega)
    rw [cell_of_row _ _ _ _ _ _ (Lib.bytesWorld_at_new w 5 s)] at this
    have := (Array.getElem?_eq_some_iff.1 this).1
    omega
  · have := Lib.bytesWorld_cell w 5 s i (by omega)
    rw [cell_of_row _ _ _ _ _ _ (Lib.bytesWorld_at_new w 5 s)] at this
    rw [this]
    unfold byteAt nats
    have : i < s.data.toList.length := by rw [Array.length_toList]; exact Nat.lt_of_lt_of_le hi (Nat.le_of_eq hs.symm)
    simp only [List.getD_eq_getElem?_getD, List.getElem?_map, List.getElem?_eq_getElem this, Option.getD_some, Option.map_some]

/-- small letters for great ones, and the other way -/
def flipK (l : List Nat) : Nat → List Nat
  | 0 => l
  | k + 1 => (flipK l k).set (3 + k) (byteAt (flipK l k) (3 + k) ^^^ 32)
theorem flip_text (y d h mi s : Nat) (mo Z : List Nat) (hmo : mo.length = 3) (hZ : Z.length = 5) : flipK (dtxL y d h mi s mo Z) 3 = dtxL y d h mi s (mo.map (· ^^^ 32)) Z := by
  unfold dtxL
  obtain ⟨p0, p1, hp⟩ := len2 (padN_len 32 d)
  obtain ⟨m0, m1, m2, rfl⟩ := len3 hmo
  obtain ⟨z0, z1, z2, z3, z4, rfl⟩ := len5 hZ
  rw [hp]
  rfl
theorem take_text (y d h mi s : Nat) (mo Z : List Nat) (hmo : mo.length = 3) (hZ : Z.length = 5) (Z' : List Nat) : (dtxL y d h mi s mo Z).take 21 ++ Z' = dtxL y d h mi s mo Z' := by
  unfold dtxL
  obtain ⟨p0, p1, hp⟩ := len2 (padN_len 32 d)
  obtain ⟨m0, m1, m2, rfl⟩ := len3 hmo
  obtain ⟨z0, z1, z2, z3, z4, rfl⟩ := len5 hZ
  rw [hp]
  rfl
theorem mon_flip {m : Nat} (h1 : 1 ≤ m) (h2 : m ≤ 12) : monN ((monS m).map (· ^^^ 32)) = m ∧ ((monS m).map (· ^^^ 32)).length = 3 ∧ ∀ x ∈ (monS m).map (· ^^^ 32), x < 256 := by
  rcases (by omega : m = 1 ∨ m = 2 ∨ m = 3 ∨ m = 4 ∨ m = 5 ∨ m = 6 ∨ m = 7 ∨ m = 8 ∨ m = 9 ∨ m = 10 ∨ m = 11 ∨ m = 12) with rfl | rfl | rfl | rfl | rfl | rfl | rfl | rfl | rfl | rfl | rfl | rfl <;> decide +kernel
theorem zone_east {h : Nat} (hh : h < 24) : zoneOk ([43] ++ dig2 h ++ [48, 48]) = true ∧ zoneV ([43] ++ dig2 h ++ [48, 48]) = 3600 * h ∧ ∀ x ∈ [43] ++ dig2 h ++ [48, 48], x < 256 := by
  have : ∀ h, h < 24 → zoneOk ([43] ++ dig2 h ++ [48, 48]) = true ∧ zoneV ([43] ++ dig2 h ++ [48, 48]) = 3600 * h ∧ ∀ x ∈ [43] ++ dig2 h ++ [48, 48], x < 256 := by decide +kernel
  exact this h hh
theorem zone_west {h : Nat} (hh : h < 24) : zoneOk ([45] ++ dig2 h ++ [51, 48]) = true ∧ zoneV ([45] ++ dig2 h ++ [51, 48]) = -(3600 * h + 1800) ∧ ∀ x ∈ [45] ++ dig2 h ++ [51, 48], x < 256 := by
  have : ∀ h, h < 24 → zoneOk ([45] ++ dig2 h ++ [51, 48]) = true ∧ zoneV ([45] ++ dig2 h ++ [51, 48]) = -(3600 * h + 1800) ∧ ∀ x ∈ [45] ++ dig2 h ++ [51, 48], x < 256 := by decide +kernel
  exact this h hh
theorem xor_byte {x : Nat} (hx : x < 256) : bits .xor .u8 (x : Int) 32 = ((x ^^^ 32 : Nat) : Int) ∧ x ^^^ 32 < 256 := by
  have : ∀ x : Nat, x < 256 → bits .xor .u8 (x : Int) 32 = ((x ^^^ 32 : Nat) : Int) ∧ x ^^^ 32 < 256 := by decide +kernel
  exact this x hx

theorem flipK_lt {l : List Nat} (h : ∀ x ∈ l, x < 256) : ∀ k, ∀ x ∈ flipK l k, x < 256
  | 0 => h
  | k + 1 => by
    intro x hx
    have ih := flipK_lt h k
    rcases List.mem_or_eq_of_mem_set hx with hx | rfl
    · exact ih x hx
    · refine (xor_byte ?_).2
      unfold byteAt
      rw [List.getD_eq_getElem?_getD]
      cases hq : (flipK l k)[3 + k]? with
      | none => show 0 < 256; omega
      | some y => exact ih y (List.mem_of_getElem? hq)

set_option maxRecDepth 100000 in
set_option maxHeartbeats 8000000 in
theorem dateZones_walk (t0 : Int) (k1 : Nat) (hk : k1 < 256) (w : World) (hM : Mon w) (hT : Tens w) :
    Calls Tryd.prog 6 #[.int .i64 t0, .int .u8 (k1 : Int)] w fun e w' => e = .returned (.bool true) ∧ Below w.heap.size w w' := by
  obtain ⟨q, hqb, hq⟩ := mask36 t0
  obtain ⟨h, hh, hhe⟩ : ∃ h : Nat, h < 24 ∧ ((k1 : Int) % 24) = (h : Int) := ⟨k1 % 24, by omega, by omega⟩
  have HM := Lib.hid hM
  have HT := Lib.hid hT
  clear hM hT
  go_enter Tryd.func6, Tryd.ntmps6
  go_wp2_with fail
  refine (alive07_any _ HM.out HT.out).mono ?_
  rintro e w1 ⟨rfl, hb1⟩
  have HM1 := Lib.hid (HM.out.below hb1)
  have HT1 := Lib.hid (HT.out.below hb1)
  have HB1 := Lib.hid hb1
  clear hb1
  go_wp2_with fail
  clear hq
  obtain ⟨y, m, d, hr, mi, s, h1, h2, h3, h4, h5, h6, h7, h8⟩ := time_ex (1000000 + q) (by omega)
  have h7' : (1000000 : Int) + (q : Int) = timeN y m d hr mi s := by rw [← h7]; omega
  obtain ⟨g1, g2, g3, g4⟩ := there_iff.1 h3
  have hmb := mDays_bd y m
  refine (print_any y m d hr mi s _ h1 h2 h3 h4 h5 h6 h7' w1 HM1.out HT1.out).mono ?_
  rintro e w2 ⟨rfl, hb2⟩
  rw [print_text]
  have HM2 := Lib.hid (HM1.out.below hb2)
  have HB2 := Lib.hid (HB1.out.trans (hb2.mono HB1.out.size))
  have hm3 := monS_len g1 g2
  have hlt : ∀ x ∈ dtxL y d hr mi s (monS m) [43, 48, 48, 48, 48], x < 256 := dtxL_lt (by omega) (by omega) (by omega) (by omega) (by omega) (monS_lt m) (by decide)
  have hlen := (text_parts y d hr mi s (monS m) [43, 48, 48, 48, 48] hm3 rfl).1
  obtain ⟨fl1, fl2, fl3⟩ := mon_flip g1 g2
  obtain ⟨ze1, ze2, ze3⟩ := zone_east hh
  obtain ⟨zw1, zw2, zw3⟩ := zone_west hh
  have pe := parse_text (Z := [43] ++ dig2 h ++ [48, 48]) h3 (by omega) h4 h5 h6 hm3 (monN_monS g1 g2) ze1
  have pw := parse_text (Z := [45] ++ dig2 h ++ [51, 48]) h3 (by omega) h4 h5 h6 hm3 (monN_monS g1 g2) zw1
  have pf := parse_text (Z := [43, 48, 48, 48, 48]) h3 (by omega) h4 h5 h6 fl2 fl1 (by decide +kernel)
  rw [ze2, ← h7', rangeR_in (by omega) (by omega)] at pe
  rw [zw2, ← h7', rangeR_in (by omega) (by omega)] at pw
  rw [show zoneV [43, 48, 48, 48, 48] = 0 by decide +kernel, ← h7', rangeR_in (by omega) (by omega), Int.sub_zero] at pf
  have lte : ∀ x ∈ dtxL y d hr mi s (monS m) ([43] ++ dig2 h ++ [48, 48]), x < 256 := dtxL_lt (by omega) (by omega) (by omega) (by omega) (by omega) (monS_lt m) ze3
  have ltw : ∀ x ∈ dtxL y d hr mi s (monS m) ([45] ++ dig2 h ++ [51, 48]), x < 256 := dtxL_lt (by omega) (by omega) (by omega) (by omega) (by omega) (monS_lt m) zw3
  have lene := (text_parts y d hr mi s (monS m) ([43] ++ dig2 h ++ [48, 48]) hm3 rfl).1
  have lenw := (text_parts y d hr mi s (monS m) ([45] ++ dig2 h ++ [51, 48]) hm3 rfl).1
  have tke := take_text y d hr mi s (monS m) [43, 48, 48, 48, 48] hm3 rfl ([43] ++ dig2 h ++ [48, 48])
  have tkw := take_text y d hr mi s (monS m) [43, 48, 48, 48, 48] hm3 rfl ([45] ++ dig2 h ++ [51, 48])
  have hfl := flip_text y d hr mi s (monS m) [43, 48, 48, 48, 48] hm3 rfl
  have hfp : parseR (flipK (dtxL y d hr mi s (monS m) [43, 48, 48, 48, 48]) 3) = (1000000 + (q : Int), 0) := by rw [hfl, pf]
  obtain ⟨X, hX⟩ : ∃ X, dtxL y d hr mi s (monS m) [43, 48, 48, 48, 48] = X := ⟨_, rfl⟩
  obtain ⟨Xe, hXe⟩ : ∃ X, dtxL y d hr mi s (monS m) ([43] ++ dig2 h ++ [48, 48]) = X := ⟨_, rfl⟩
  obtain ⟨Xw, hXw⟩ : ∃ X, dtxL y d hr mi s (monS m) ([45] ++ dig2 h ++ [51, 48]) = X := ⟨_, rfl⟩
  rw [hX, hXe] at tke
  rw [hX, hXw] at tkw
  rw [hXe] at pe lte lene
  rw [hXw] at pw ltw lenw
  rw [hX] at hfp hlt hlen ⊢
  have ltf := flipK_lt hlt 3
  clear hX hXe hXw pf hfl fl1 fl2 fl3 ze1 ze2 ze3 zw1 zw2 zw3 hm3 h7 h8 h7' h3 h4 h5 h6 h1 h2 g1 g2 g3 g4 hmb HT HT1 hb2
  obtain ⟨T, hT⟩ : ∃ T : Int, (1000000 : Int) + (q : Int) = T := ⟨_, rfl⟩
  have hTb : 1000000 ≤ T ∧ T ≤ 68720476735 := by omega
  rw [hT] at pe pw hfp ⊢
  have hsx : (strOf X).size = 26 := by rw [strOf_size]; exact hlen
  have hs26 : (((strOf X).size : Int) != 26) = false := by rw [hsx]; rfl
  have hs21 : (21 : Int) ≤ ((strOf X).size : Int) := by rw [hsx]; omega
  have PE := Lib.hid pe
  have PW := Lib.hid pw
  have PF := Lib.hid hfp
  have LTE := Lib.hid lte
  have LTW := Lib.hid ltw
  have LTF := Lib.hid ltf
  have LEE := Lib.hid lene
  have LEW := Lib.hid lenw
  have HX26 := Lib.hid hsx
  have HLX := Lib.hid hlen
  have HLT := Lib.hid hlt
  -- what the texts are put together of
  have x21 : ((strOf X).extract 0 21) = strOf (X.take 21) := strOf_to X 21
  have l21 : (X.take 21).length = 21 := by rw [List.length_take, hlen]; omega
  obtain ⟨dh, hdh⟩ : ∃ l, dig2 h = l := ⟨_, rfl⟩
  have ldh : dh.length = 2 := by rw [← hdh]; rfl
  rw [hdh] at tke tkw
  obtain ⟨X0, hX0⟩ : ∃ l, X.take 21 = l := ⟨_, rfl⟩
  rw [hX0] at tke tkw x21 l21
  have ae1 := fun W => add_str' (x := (strOf X).extract 0 21) (y := ⟨#[43]⟩) (a := X0) (b := [43]) (c := X0 ++ [43]) x21 rfl rfl (by simp; omega) W
  obtain ⟨e1, he1⟩ : ∃ l, X0 ++ [43] = l := ⟨_, rfl⟩
  have le1 : e1.length = 22 := by rw [← he1, List.length_append, l21]; rfl
  rw [he1] at ae1
  have ae2 := fun W => add_str' (x := strOf e1) (y := strOf dh) (a := e1) (b := dh) (c := e1 ++ dh) rfl rfl rfl (by simp; omega) W
  obtain ⟨e2, he2⟩ : ∃ l, e1 ++ dh = l := ⟨_, rfl⟩
  have le2 : e2.length = 24 := by rw [← he2, List.length_append, le1, ldh]
  rw [he2] at ae2
  have ae3 := fun W => add_str' (x := strOf e2) (y := ⟨#[48, 48]⟩) (a := e2) (b := [48, 48]) (c := Xe) rfl rfl (by rw [← he2, ← he1, ← tke]; simp) (by omega) W
  have aw1 := fun W => add_str' (x := (strOf X).extract 0 21) (y := ⟨#[45]⟩) (a := X0) (b := [45]) (c := X0 ++ [45]) x21 rfl rfl (by simp; omega) W
  obtain ⟨f1, hf1⟩ : ∃ l, X0 ++ [45] = l := ⟨_, rfl⟩
  have lf1 : f1.length = 22 := by rw [← hf1, List.length_append, l21]; rfl
  rw [hf1] at aw1
  have aw2 := fun W => add_str' (x := strOf f1) (y := strOf dh) (a := f1) (b := dh) (c := f1 ++ dh) rfl rfl rfl (by simp; omega) W
  obtain ⟨f2, hf2⟩ : ∃ l, f1 ++ dh = l := ⟨_, rfl⟩
  have lf2 : f2.length = 24 := by rw [← hf2, List.length_append, lf1, ldh]
  rw [hf2] at aw2
  have aw3 := fun W => add_str' (x := strOf f2) (y := ⟨#[51, 48]⟩) (a := f2) (b := [51, 48]) (c := Xw) rfl rfl (by rw [← hf2, ← hf1, ← tkw]; simp) (by omega) W
  have kz := str_two w2 h hh 5
  rw [hdh] at kz
  have ce := fun W (hW : Mon W) => parse_any (strOf Xe) (by rw [strOf_size, LEE.out]; omega) W hW
  have cw := fun W (hW : Mon W) => parse_any (strOf Xw) (by rw [strOf_size, LEW.out]; omega) W hW
  rw [nats_strOf Xe LTE.out, PE.out] at ce
  rw [nats_strOf Xw LTW.out, PW.out] at cw
  unfold resP at ce cw
  clear tke tkw x21 l21 ldh le1 le2 lf1 lf2 he1 he2 hf1 hf2 hX0 hdh hsx hlen hlt lte ltw ltf lene lenw pe pw hfp hT
  go_wp2_with fail
  have hbz : Below w2.heap.size w2 (w2.alloc (.cells #[.int .u8 (48 + (h : Int) / 10), .int .u8 (48 + (h : Int) % 10)] 5)) := (Below.refl _ _).alloc (Nat.le_refl _) _
  have HMz := Lib.hid (HM2.out.below hbz)
  have HBz := Lib.hid (HB2.out.trans (hbz.mono HB2.out.size))
  clear hbz kz ae1 ae2 ae3
  refine (ce _ HMz.out).mono ?_
  rintro e w3 ⟨rfl, hb3⟩
  have HM3 := Lib.hid (HMz.out.below hb3)
  have HB3 := Lib.hid (HBz.out.trans (hb3.mono HBz.out.size))
  clear hb3 ce
  go_wp2_with fail
  clear aw1 aw2 aw3
  refine (cw _ HM3.out).mono ?_
  rintro e w4 ⟨rfl, hb4⟩
  have HM4 := Lib.hid (HM3.out.below hb4)
  have HB4 := Lib.hid (HB3.out.trans (hb4.mono HB3.out.size))
  clear hb4 cw
  have kc := fun W => Lib.run_convert_string_bytes (P := Tryd.prog) W 9 36 5 (strOf X) Tryd.underlying9 Tryd.underlying36 Tryd.underlying5
  go_wp2_with fail
  clear kc
  have hby := by26_new w4 (strOf X) HX26.out
  rw [nats_strOf X HLT.out] at hby
  have hbw : Below w4.heap.size w4 (Lib.bytesWorld w4 5 (strOf X)) := (Below.refl _ _).grown (bytesWorld_grown w4 5 (strOf X) none) (Nat.le_refl _) (fun k hk => by cases hk)
  have HM5 := Lib.hid (HM4.out.below hbw)
  have HB5 := Lib.hid (HB4.out.trans (hbw.mono HB4.out.size))
  have hgw : w.heap.size ≤ w4.heap.size := HB4.out.size
  obtain ⟨cap, hcap⟩ : ∃ c, grownCap w4 (strOf X).size 0 5 = c := ⟨_, rfl⟩
  have hsx : (strOf X).size = 26 := HX26.out
  rw [hcap, hsx]
  generalize Lib.bytesWorld w4 5 (strOf X) = W5 at *
  obtain ⟨g, hg⟩ : ∃ g, w4.heap.size = g := ⟨_, rfl⟩
  rw [hg] at hby hgw ⊢
  have hg0 : 0 < g := by have := HM4.out.lt; omega
  have HBY := Lib.hid hby
  clear hby hbw hcap hsx hg
  go_loopw [14] (fun i wx => ∃ k : Nat, k ≤ 3 ∧ i = .int .i64 ((k : Int) + 3) ∧ By26 wx g (flipK X k) ∧ W5.grownBy wx (some g)) (fun i _ => 6 - (intOf i).toNat)
  case atStart => exact ⟨0, by omega, rfl, HBY.out, World.grownBy.refl _ _⟩
  case round =>
    obtain ⟨k, hk3, rfl, hbk, hgk⟩ := hrel
    have HGK := Lib.hid hgk
    clear hgk
    by_cases hlt : k < 3
    · have hi26 : k + 3 < 26 := by omega
      have hc := hbk.cell hi26
      have hf := hbk.frz hi26
      have hxb := hbk.byte hi26
      obtain ⟨hx1, hx2⟩ := xor_byte hxb
      have hput := hbk.put hi26 (byteAt (flipK X k) (k + 3) ^^^ 32) hx2
      have hfk : flipK X (k + 1) = (flipK X k).set (k + 3) (byteAt (flipK X k) (k + 3) ^^^ 32) := by
        show (flipK X k).set (3 + k) (byteAt (flipK X k) (3 + k) ^^^ 32) = _
        rw [Nat.add_comm 3 k]
      rw [← hfk] at hput
      have HPUT := Lib.hid hput
      obtain ⟨xb, hxbn⟩ : ∃ x, byteAt (flipK X k) (k + 3) = x := ⟨_, rfl⟩
      rw [hxbn] at hc hx1 hxb HPUT
      have hj : (k : Int) + 3 < 26 := by omega
      clear hput hfk hx2 hxbn hbk
      go_wp2_with fail
      go_roundw
      case rel => exact ⟨k + 1, by omega, by go_num, HPUT.out, grown_trans HGK.out (grownBy_setCell _ _ _ _)⟩
      case measure => simp [intOf]; omega
    · obtain rfl : k = 3 := by omega
      have hby := hbk.bytes
      have HMr := Lib.hid (HM5.out.grown HGK.out hg0)
      have hbr : Below w.heap.size w wr := ⟨HGK.out.os.trans HB5.out.os, HGK.out.tape.trans HB5.out.tape, HGK.out.output.trans HB5.out.output, Nat.le_trans HB5.out.size HGK.out.size, fun j hj =>
        (HGK.out.block j (Nat.lt_of_lt_of_le hj HB5.out.size) (fun e => by injection e with e; omega)).trans (HB5.out.block j hj)⟩
      have HBr := Lib.hid hbr
      have kd := run_str_of_bytes (P := Tryd.prog) (c := cap) hby Tryd.underlying36 Tryd.underlying5 Tryd.underlying9
      have hl26 : (flipK X 3).length = 26 := hbk.len
      have cf := parse_any (strOf (flipK X 3)) (by rw [strOf_size, hl26]; omega) wr HMr.out
      rw [nats_strOf (flipK X 3) LTF.out, PF.out] at cf
      unfold resP at cf
      obtain ⟨Xf, hXf⟩ : ∃ l, flipK X 3 = l := ⟨_, rfl⟩
      rw [hXf] at kd cf
      clear hby hbr hl26 hXf hbk
      go_wp2_with fail
      refine cf.mono ?_
      rintro e w6 ⟨rfl, hb6⟩
      have HB6 := Lib.hid (HBr.out.trans (hb6.mono HBr.out.size))
      have hw1 : T + (3600 * (h : Int) + 1800) = T + 3600 * (h : Int) + 1800 := by omega
      rw [hw1]
      clear hb6 kd cf hw1
      go_wp2_with fail
      go_ret
      exact ⟨rfl, HB6.out⟩
end Go.Proofs.YtnhafpgeinghnaaDoor
