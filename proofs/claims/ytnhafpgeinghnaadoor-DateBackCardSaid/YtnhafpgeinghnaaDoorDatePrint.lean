/-
  Contracts over package date: a time is printed.
-/
import Derived.Test.YtnhafpgeinghnaaDoorDateMail
namespace Go.Proofs.YtnhafpgeinghnaaDoor
open Go.RowKit
set_option linter.unusedVariables false
set_option linter.unusedSimpArgs false

theorem strOf_append (a b : List Nat) : strOf a ++ strOf b = strOf (a ++ b) := by
  refine data_inj ?_
  rw [ByteArray.data_append, Array.toList_append, strOf_data, strOf_data, strOf_data, List.map_append]
/-- a number below a hundred as two bytes -/
def padN (c n : Nat) : List Nat := if n < 10 then [c, 48 + n] else dig2 n
theorem padN_32 {n : Nat} : padN 32 n = if n < 10 then [32, 48 + n] else dig2 n := rfl
theorem padN_48 {n : Nat} (h : n < 100) : padN 48 n = dig2 n := by
  unfold padN dig2
  split
  · rw [show n / 10 = 0 by omega, show n % 10 = n by omega]
  · rfl
theorem add_str (x y : ByteArray) (a b : List Nat) (hx : x = strOf a) (hy : y = strOf b) (h : a.length + b.length ≤ 1000000000000) (W : World) : (Op.stringOp .add x y).run Tryd.prog W = .ok (.string (strOf (a ++ b))) W := by
  subst hx hy
  rw [run_string_add_sum _ _ _ (by rw [strOf_size, strOf_size]; omega), strOf_append]
theorem add_str' {x y : ByteArray} {a b c : List Nat} (hx : x = strOf a) (hy : y = strOf b) (hc : a ++ b = c) (h : c.length ≤ 1000) (W : World) : (Op.stringOp .add x y).run Tryd.prog W = .ok (.string (strOf c)) W := by
  subst hc
  rw [List.length_append] at h
  exact add_str x y a b hx hy (by omega) W
theorem padN_len (c n : Nat) : (padN c n).length = 2 := by unfold padN; split <;> rfl
set_option maxHeartbeats 400000 in
theorem padded_any (n c : Nat) (hn : n < 100) (cs : ByteArray) (hc : cs = strOf [c]) (w : World) :
    Calls Tryd.prog 37 #[.int .i64 (n : Int), .string cs] w fun e w' => e = .returned (.string (strOf (padN c n))) ∧ w = w' := by
  have ci := itoa2_any n hn w
  by_cases h : n < 10
  · have HR : Hid (cs ++ strOf (digS n) = strOf (padN c n)) := Lib.hid (by
      rw [hc, strOf_append]
      unfold digS padN
      rw [if_pos h, if_pos h]; rfl)
    have ha := fun W => add_str cs (strOf (digS n)) [c] (digS n) hc rfl (by unfold digS; rw [if_pos h]; simp) W
    have HD : Hid ([c] ++ digS n = padN c n) := Lib.hid (by unfold digS padN; rw [if_pos h, if_pos h]; rfl)
    rw [HD.out] at ha
    clear hc HR
    go_enter Tryd.func37, Tryd.ntmps37
    go_wp2_with ((go_at_call 38; refine ci.mono ?_; rintro e w' ⟨rfl, rfl⟩))
    go_ret
    exact ⟨rfl, rfl⟩
  · have HR : Hid (strOf (digS n) = strOf (padN c n)) := Lib.hid (by
      unfold digS padN
      rw [if_neg h, if_neg h])
    clear hc
    go_enter Tryd.func37, Tryd.ntmps37
    go_wp2_with ((go_at_call 38; refine ci.mono ?_; rintro e w' ⟨rfl, rfl⟩))
    go_ret
    exact ⟨by rw [← HR.out] <;> rfl, rfl⟩

/-- a printed time -/
def printL (y m d h mi s : Nat) : List Nat :=
  padN 32 d ++ [45] ++ monS m ++ [45] ++ dig4 y ++ [32] ++ (dig2 h ++ [58] ++ dig2 mi ++ [58] ++ dig2 s) ++ [32, 43, 48, 48, 48, 48]
def timeN (y m d h mi s : Nat) : Int := dayN y m d * 86400 + h * 3600 + mi * 60 + s

set_option maxRecDepth 20000 in
set_option maxHeartbeats 4000000 in
theorem print_any (y m d h mi s : Nat) (t : Int) (hy1 : 1970 ≤ y) (hy2 : y ≤ 9999) (hth : thereB y m d = true) (hh : h < 24) (hmi : mi < 60) (hs : s < 60) (ht : t = timeN y m d h mi s) (w : World) (hM : Mon w) (hT : Tens w) :
    Calls Tryd.prog 14 #[.int .i64 t] w fun e w' => e = .returned (.tuple #[.string (strOf (printL y m d h mi s)), .int .i64 0]) ∧ Below w.heap.size w w' := by
  obtain ⟨g1, g2, g3, g4⟩ := there_iff.1 hth
  have hbd := dayN_bd hth hy2
  have hfr := dayN_from hth hy1
  have hmb := mDays_bd y m
  have htv : t = dayN y m d * 86400 + h * 3600 + mi * 60 + s := ht
  have e0 : dayOf t = dayN y m d := by unfold dayOf; rw [if_neg (by omega)]; omega
  have e1 : t % 86400 / 3600 = (h : Int) := by omega
  have e2 : t % 3600 / 60 = (mi : Int) := by omega
  have e3 : t % 60 = (s : Int) := by omega
  have ht0 : ¬ t < 0 := by omega
  have ht1 : t ≤ 253402300799 := by omega
  have cd := day_any t (by omega) w
  rw [e0] at cd
  have cc := civil_any y m d (dayN y m d) hy1 hy2 hth rfl w hM
  have cp0 := fun W => padded_any d 32 (by omega) ⟨#[32]⟩ rfl W
  have cp1 := fun W => padded_any h 48 (by omega) ⟨#[48]⟩ rfl W
  have cp2 := fun W => padded_any mi 48 (by omega) ⟨#[48]⟩ rfl W
  have cp3 := fun W => padded_any s 48 (by omega) ⟨#[48]⟩ rfl W
  rw [← e1, padN_48 (show h < 100 by omega)] at cp1
  rw [← e2, padN_48 (show mi < 100 by omega)] at cp2
  rw [← e3, padN_48 (show s < 100 by omega)] at cp3
  obtain ⟨k, rfl⟩ : ∃ k, m = k + 1 := ⟨m - 1, by omega⟩
  have hk : k < 12 := by omega
  have hcm := (hM k hk).1
  have HT := Lib.hid hT
  have HCM := Lib.hid hcm
  clear ht htv e0 e1 e2 e3 hth hM hT hcm
  have hml := monS_len g1 g2
  have hpl := padN_len 32 d
  obtain ⟨x0, hx0⟩ : ∃ l, padN 32 d = l := ⟨_, rfl⟩
  obtain ⟨mn, hmn⟩ : ∃ l, monS (k + 1) = l := ⟨_, rfl⟩
  obtain ⟨dy, hdy⟩ : ∃ l, dig4 y = l := ⟨_, rfl⟩
  obtain ⟨dh, hdh⟩ : ∃ l, dig2 h = l := ⟨_, rfl⟩
  obtain ⟨dm, hdm⟩ : ∃ l, dig2 mi = l := ⟨_, rfl⟩
  obtain ⟨ds, hds⟩ : ∃ l, dig2 s = l := ⟨_, rfl⟩
  have ly : dy.length = 4 := by rw [← hdy]; rfl
  have lh : dh.length = 2 := by rw [← hdh]; rfl
  have lm : dm.length = 2 := by rw [← hdm]; rfl
  have ls : ds.length = 2 := by rw [← hds]; rfl
  have l0 : x0.length = 2 := by rw [← hx0]; exact hpl
  have ln : mn.length = 3 := by rw [← hmn]; exact hml
  obtain ⟨x1, hx1⟩ : ∃ l, x0 ++ [45] = l := ⟨_, rfl⟩
  have lx1 : x1.length = 3 := by rw [← hx1, List.length_append, l0]; rfl
  have ax1 := fun W => add_str' (x := strOf x0) (y := ⟨#[45]⟩) rfl rfl hx1 (by omega) W
  obtain ⟨x2, hx2⟩ : ∃ l, x1 ++ mn = l := ⟨_, rfl⟩
  have lx2 : x2.length = 6 := by rw [← hx2, List.length_append, lx1, ln]
  have ax2 := fun W => add_str' (x := strOf x1) (y := (strOf mn)) rfl rfl hx2 (by omega) W
  obtain ⟨x3, hx3⟩ : ∃ l, x2 ++ [45] = l := ⟨_, rfl⟩
  have lx3 : x3.length = 7 := by rw [← hx3, List.length_append, lx2]; rfl
  have ax3 := fun W => add_str' (x := strOf x2) (y := ⟨#[45]⟩) rfl rfl hx3 (by omega) W
  obtain ⟨x4, hx4⟩ : ∃ l, x3 ++ dy = l := ⟨_, rfl⟩
  have lx4 : x4.length = 11 := by rw [← hx4, List.length_append, lx3, ly]
  have ax4 := fun W => add_str' (x := strOf x3) (y := (strOf dy)) rfl rfl hx4 (by omega) W
  obtain ⟨c2, hc2⟩ : ∃ l, dh ++ [58] = l := ⟨_, rfl⟩
  have lc2 : c2.length = 3 := by rw [← hc2, List.length_append, lh]; rfl
  have ac2 := fun W => add_str' (x := strOf dh) (y := ⟨#[58]⟩) rfl rfl hc2 (by omega) W
  obtain ⟨c3, hc3⟩ : ∃ l, c2 ++ dm = l := ⟨_, rfl⟩
  have lc3 : c3.length = 5 := by rw [← hc3, List.length_append, lc2, lm]
  have ac3 := fun W => add_str' (x := strOf c2) (y := (strOf dm)) rfl rfl hc3 (by omega) W
  obtain ⟨c4, hc4⟩ : ∃ l, c3 ++ [58] = l := ⟨_, rfl⟩
  have lc4 : c4.length = 6 := by rw [← hc4, List.length_append, lc3]; rfl
  have ac4 := fun W => add_str' (x := strOf c3) (y := ⟨#[58]⟩) rfl rfl hc4 (by omega) W
  obtain ⟨c5, hc5⟩ : ∃ l, c4 ++ ds = l := ⟨_, rfl⟩
  have lc5 : c5.length = 8 := by rw [← hc5, List.length_append, lc4, ls]
  have ac5 := fun W => add_str' (x := strOf c4) (y := (strOf ds)) rfl rfl hc5 (by omega) W
  obtain ⟨x5, hx5⟩ : ∃ l, x4 ++ [32] = l := ⟨_, rfl⟩
  have lx5 : x5.length = 12 := by rw [← hx5, List.length_append, lx4]; rfl
  have ax5 := fun W => add_str' (x := strOf x4) (y := ⟨#[32]⟩) rfl rfl hx5 (by omega) W
  obtain ⟨x6, hx6⟩ : ∃ l, x5 ++ c5 = l := ⟨_, rfl⟩
  have lx6 : x6.length = 20 := by rw [← hx6, List.length_append, lx5, lc5]
  have ax6 := fun W => add_str' (x := strOf x5) (y := (strOf c5)) rfl rfl hx6 (by omega) W
  obtain ⟨x7, hx7⟩ : ∃ l, x6 ++ [32, 43, 48, 48, 48, 48] = l := ⟨_, rfl⟩
  have lx7 : x7.length = 26 := by rw [← hx7, List.length_append, lx6]; rfl
  have ax7 := fun W => add_str' (x := strOf x6) (y := ⟨#[32, 43, 48, 48, 48, 48]⟩) rfl rfl hx7 (by omega) W
  have HP : Hid (printL y (k + 1) d h mi s = x7) := Lib.hid (by
    rw [← hx7, ← hx6, ← hx5, ← hc5, ← hc4, ← hc3, ← hc2, ← hx4, ← hx3, ← hx2, ← hx1, ← hx0, ← hmn, ← hdy, ← hdh, ← hdm, ← hds]
    rfl)
  have HDY := Lib.hid hdy
  rw [hx0] at cp0
  rw [hdh] at cp1
  rw [hdm] at cp2
  rw [hds] at cp3
  rw [hmn] at HCM
  have hwk : IntKind.i64.wrap (k : Int) = (k : Int) := IntWalk.i64_in _ (by omega)
  clear hx0 hmn hdy hdh hdm hds hx1 lx1 hx2 lx2 hx3 lx3 hx4 lx4 hc2 lc2 hc3 lc3 hc4 lc4 hc5 lc5 hx5 lx5 hx6 lx6 hx7 lx7 ly lh lm ls l0 ln hml hpl
  go_enter Tryd.func14, Tryd.ntmps14
  go_wp2_with (first
    | (go_at_call 16; refine cd.mono ?_; rintro e w' ⟨rfl, rfl⟩)
    | (go_at_call 18; refine cc.mono ?_; rintro e w' ⟨rfl, rfl⟩))
  have hm : Tryd.prog.follows .mixedOrders = true := by kernel_rfl
  refine wp_region_held_drew (S := fun W' => W'.cell? ⟨0, k * 2, none⟩ = some (.string (strOf mn)) ∧ Below w.heap.size w W') hm ⟨HCM.out, (Below.refl _ _).drew⟩ (fun hHeld => ?_)
  have hTW : Tens w.drew := HT.out.below ((Below.refl _ _).drew)
  have HTW := Lib.hid hTW
  clear hTW HT HCM
  generalize w.drew = W at *
  simp only [List.size_toArray, List.length_cons, List.length_nil, Nat.reduceAdd]
  refine wpAnyH_take (i := 0) (v := .int .i64 (d : Int)) rfl (by kernel_rfl) (by kernel_rfl) (by kernel_rfl) (fun _ _ _ h => h) (Or.inl ⟨by rfl, fun w0 hC => by simp [execOp, Act.eval, Act.put, go_sem]⟩) hHeld ?_
  try simp only [Act.put, List.setIfInBounds_toArray, List.set_cons_zero, List.set_cons_succ, List.getElem_toArray, List.getElem_cons_zero, List.getElem_cons_succ]
  refine wpAnyH_take (i := 3) (v := .int .i64 ((k : Int) + 1)) rfl (by kernel_rfl) (by kernel_rfl) (by kernel_rfl) (fun _ _ _ h => h) (Or.inl ⟨by rfl, fun w0 hC => by simp [execOp, Act.eval, Act.put, go_sem]⟩) hHeld ?_
  try simp only [Act.put, List.setIfInBounds_toArray, List.set_cons_zero, List.set_cons_succ, List.getElem_toArray, List.getElem_cons_zero, List.getElem_cons_succ]
  refine wpAnyH_take (i := 4) (v := .int .i64 (k : Int)) rfl (by kernel_rfl) (by kernel_rfl) (by kernel_rfl) (fun _ _ _ h => h) (Or.inl ⟨by rfl, fun w0 hC => by simp [execOp, Act.eval, Act.put, go_sem, hwk]⟩) hHeld ?_
  try simp only [Act.put, List.setIfInBounds_toArray, List.set_cons_zero, List.set_cons_succ, List.getElem_toArray, List.getElem_cons_zero, List.getElem_cons_succ]
  refine wpAnyH_take (i := 5) (v := .pointer (some ⟨0, k * 2, none⟩)) rfl (by kernel_rfl) (by kernel_rfl) (by kernel_rfl) (fun _ _ _ h => h) (Or.inl ⟨by rfl, fun w0 hC => by simp [execOp, Act.eval, Act.put, go_sem]; intro hz; exact absurd hz (by omega)⟩) hHeld ?_
  try simp only [Act.put, List.setIfInBounds_toArray, List.set_cons_zero, List.set_cons_succ, List.getElem_toArray, List.getElem_cons_zero, List.getElem_cons_succ]
  refine wpAnyH_take (i := 6) (v := .pointer (some ⟨0, k * 2, none⟩)) rfl (by kernel_rfl) (by kernel_rfl) (by kernel_rfl) (fun _ _ _ h => h) (Or.inl ⟨by rfl, fun w0 hC => by simp [execOp, Act.eval, Act.put, go_sem]⟩) hHeld ?_
  try simp only [Act.put, List.setIfInBounds_toArray, List.set_cons_zero, List.set_cons_succ, List.getElem_toArray, List.getElem_cons_zero, List.getElem_cons_succ]
  refine wpAnyH_take (i := 7) (v := .string (strOf mn)) rfl (by kernel_rfl) (by kernel_rfl) (by kernel_rfl) (fun _ _ _ h => h) (Or.inl ⟨by rfl, fun w0 hC => by simp [execOp, Act.eval, Act.put, go_sem, hC.1]⟩) hHeld ?_
  try simp only [Act.put, List.setIfInBounds_toArray, List.set_cons_zero, List.set_cons_succ, List.getElem_toArray, List.getElem_cons_zero, List.getElem_cons_succ]
  refine wpAnyH_take (i := 10) (v := .int .i64 (y : Int)) rfl (by kernel_rfl) (by kernel_rfl) (by kernel_rfl) (fun _ _ _ h => h) (Or.inl ⟨by rfl, fun w0 hC => by simp [execOp, Act.eval, Act.put, go_sem]⟩) hHeld ?_
  try simp only [Act.put, List.setIfInBounds_toArray, List.set_cons_zero, List.set_cons_succ, List.getElem_toArray, List.getElem_cons_zero, List.getElem_cons_succ]
  refine wpAnyH_ready (rs := [1]) (by kernel_rfl) (by simp) (AllReadyH.cons rfl (fun K hK => ?_) AllReadyH.nil)
  rw [if_pos (by rfl)]
  go_wp2_with fail
  refine (cp0 W).mono ?_
  rintro e w' ⟨rfl, rfl⟩
  have hS := hHeld
  refine hK.out _ _ hS (fun hHeld => ?_)
  clear hK K
  try simp only [Act.put, List.setIfInBounds_toArray, List.set_cons_zero, List.set_cons_succ, List.getElem_toArray, List.getElem_cons_zero, List.getElem_cons_succ]
  refine wpAnyH_take (i := 2) (v := .string (strOf x1)) rfl (by kernel_rfl) (by kernel_rfl) (by kernel_rfl) (fun _ _ _ h => h) (Or.inl ⟨by rfl, fun w0 hC => by simp [execOp, Act.eval, Act.put, go_sem, ax1]⟩) hHeld ?_
  try simp only [Act.put, List.setIfInBounds_toArray, List.set_cons_zero, List.set_cons_succ, List.getElem_toArray, List.getElem_cons_zero, List.getElem_cons_succ]
  refine wpAnyH_take (i := 8) (v := .string (strOf x2)) rfl (by kernel_rfl) (by kernel_rfl) (by kernel_rfl) (fun _ _ _ h => h) (Or.inl ⟨by rfl, fun w0 hC => by simp [execOp, Act.eval, Act.put, go_sem, ax2]⟩) hHeld ?_
  try simp only [Act.put, List.setIfInBounds_toArray, List.set_cons_zero, List.set_cons_succ, List.getElem_toArray, List.getElem_cons_zero, List.getElem_cons_succ]
  refine wpAnyH_take (i := 9) (v := .string (strOf x3)) rfl (by kernel_rfl) (by kernel_rfl) (by kernel_rfl) (fun _ _ _ h => h) (Or.inl ⟨by rfl, fun w0 hC => by simp [execOp, Act.eval, Act.put, go_sem, ax3]⟩) hHeld ?_
  try simp only [Act.put, List.setIfInBounds_toArray, List.set_cons_zero, List.set_cons_succ, List.getElem_toArray, List.getElem_cons_zero, List.getElem_cons_succ]
  refine wpAnyH_ready (rs := [11]) (by kernel_rfl) (by simp) (AllReadyH.cons rfl (fun K hK => ?_) AllReadyH.nil)
  rw [if_pos (by rfl)]
  go_wp2_with fail
  refine (itoa4_any y (by omega) (by omega) W HTW.out).mono ?_
  rintro e W2 ⟨rfl, hb2⟩
  rw [HDY.out]
  have hS2 : _ ∧ _ := And.intro ((hb2.cell (p := ⟨0, k * 2, none⟩) (World.block_lt_of_cell? _ _ hS.1)).trans hS.1) (hS.2.trans (hb2.mono hS.2.size))
  refine hK.out _ _ hS2 (fun hHeld => ?_)
  clear hK K
  try simp only [Act.put, List.setIfInBounds_toArray, List.set_cons_zero, List.set_cons_succ, List.getElem_toArray, List.getElem_cons_zero, List.getElem_cons_succ]
  refine wpAnyH_take (i := 12) (v := .string (strOf x4)) rfl (by kernel_rfl) (by kernel_rfl) (by kernel_rfl) (fun _ _ _ h => h) (Or.inl ⟨by rfl, fun w0 hC => by simp [execOp, Act.eval, Act.put, go_sem, ax4]⟩) hHeld ?_
  try simp only [Act.put, List.setIfInBounds_toArray, List.set_cons_zero, List.set_cons_succ, List.getElem_toArray, List.getElem_cons_zero, List.getElem_cons_succ]
  refine wpAnyH_take (i := 13) (v := .string (strOf x4)) rfl (by kernel_rfl) (by kernel_rfl) (by kernel_rfl) (fun _ _ _ h => h) (Or.inl ⟨by rfl, fun w0 hC => by simp [execOp, Act.eval, Act.put, go_sem]⟩) hHeld ?_
  try simp only [Act.put, List.setIfInBounds_toArray, List.set_cons_zero, List.set_cons_succ, List.getElem_toArray, List.getElem_cons_zero, List.getElem_cons_succ]
  refine wpAnyH_done (by kernel_rfl) ?_ _
  have HB := Lib.hid hS2.2
  clear hS hS2 hb2 hHeld HTW
  go_wp2_with (first
    | (go_at_call 37; with_reducible refine (cp1 _).mono ?_; rintro e w' ⟨rfl, rfl⟩)
    | (go_at_call 37; with_reducible refine (cp2 _).mono ?_; rintro e w' ⟨rfl, rfl⟩)
    | (go_at_call 37; with_reducible refine (cp3 _).mono ?_; rintro e w' ⟨rfl, rfl⟩))
  go_ret2
  exact ⟨by rw [HP.out] <;> rfl, HB.out⟩
end Go.Proofs.YtnhafpgeinghnaaDoor
