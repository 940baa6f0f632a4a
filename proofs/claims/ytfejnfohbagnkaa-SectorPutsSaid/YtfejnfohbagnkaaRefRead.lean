/-
  A walk over the document's own functions on disks: Read, of any disk and any place. It leaves all older memory as it was.
-/
import Derived.Test.YtfejnfohbagnkaaSecViewLaw
import Derived.Test.YtfejnfohbagnkaaSecStill
import Derived.Test.YtfejnfohbagnkaaRefRight
namespace Go.Proofs.Ytfejnfohbagnkaa
open Go.RowKit

theorem results_cell_tmp {P : Program} {fn : Func} {p q : Tmp} {t1 : TypeId} (h : fn.results = #[.cell p t1, .tmp q]) (tmps : Array Value) (w : World) (a1 : Addr) (v1 v2 : Value)
    (hp : tmps.getD p undef = .pointer (some a1)) (hq : tmps.getD q undef = v2) (h1 : (loadVar t1 a1).run P w = .ok v1 w) :
    (results fn tmps).run P w = .ok (.tuple #[v1, v2]) w := by
  have hp' : tmps[p]?.getD undef = .pointer (some a1) := by simpa using hp
  have hq' : tmps[q]?.getD undef = v2 := by simpa using hq
  simp [results, h, hp', hq', asAddr, h1]

/-- the sector k when the first j loose writes are done -/
def curM (d : Dk) (k j : Nat) : List Int := (doneM (fun _ => true) 0 d.secs (d.loose.take j)).getD k []
theorem curM_zero (d : Dk) (k : Nat) : curM d k 0 = d.secs.getD k [] := by simp [curM, doneM]
theorem curM_step (d : Dk) (k j : Nat) (hk : k < d.secs.length) (hj : j < d.loose.length) : curM d k (j + 1) = if d.loose[j].1.toNat = k then d.loose[j].2 else curM d k j := by
  unfold curM
  rw [List.take_succ_eq_append_getElem hj, doneM_snoc, if_pos rfl]
  have hl : (doneM (fun _ => true) 0 d.secs (d.loose.take j)).length = d.secs.length := doneM_length _ _ _ _
  rw [List.getD_eq_getElem?_getD, List.getD_eq_getElem?_getD, List.getElem?_set]
  by_cases h : d.loose[j].1.toNat = k
  · rw [if_pos h, if_pos h, if_pos (by omega)]
    rfl
  · rw [if_neg h, if_neg h]
theorem curM_all (d : Dk) (k : Nat) : curM d k d.loose.length = (viewM d).getD k [] := by
  unfold curM viewM
  rw [List.take_length]
theorem curM_len {d : Dk} (k j : Nat) (hk : k < d.secs.length) (hs : ∀ s ∈ d.secs, s.length = 64) (hl : ∀ x ∈ d.loose, x.2.length = 64) : (curM d k j).length = 64 := by
  unfold curM
  have hlen : (doneM (fun _ => true) 0 d.secs (d.loose.take j)).length = d.secs.length := doneM_length _ _ _ _
  refine doneM_len (fun _ => true) (d.loose.take j) 0 d.secs hs (fun x hx => hl x (List.mem_of_mem_take (i := j) hx)) _ ?_
  rw [List.getD_eq_getElem?_getD, List.getElem?_eq_getElem (by omega)]
  exact List.getElem_mem _

def RdRel (w : World) (b6 : Nat) (n' : Nat) (d : Dk) (k : Nat) (i : Value) (W0 wr : World) : Prop :=
  ∃ j : Nat, j ≤ n' ∧ i = .int .i64 j ∧ Bk wr b6 28 (secv (curM d k j)).toArray ∧ Keeps (fun b => b < b6) W0 wr ∧ Below w.heap.size w wr

set_option maxRecDepth 100000 in
set_option maxHeartbeats 2000000 in
theorem rread_ok (v : Value) (d : Dk) (k : Nat) (w : World) (hd : DkAt w w.heap.size v d) (h : (rightB d && thereB d.secs.length (k : Int)) = true) (hdn : d.down = false) :
    Calls Try.prog 12 #[v, .int .i64 (k : Int)] w (SecRes w ((viewM d).getD k [], 0)) := by
  have hdW := fun W => hd.later (W := W)
  have hlens := hd.lens
  obtain ⟨A, n, c, A', n', c', rfl, hnc, hnc', hc, hc', hS, hL⟩ := hd
  have hn : d.secs.length = n := by have := hS.1; simpa using this
  have hn' : d.loose.length = n' := by have := hL.1; simpa using this
  obtain ⟨hr, ht⟩ : rightB d = true ∧ thereB d.secs.length (k : Int) = true := by simpa using h
  clear h
  have hkn : k < d.secs.length := by simp [thereB] at ht; exact ht
  have hlo := looseB_right hr
  have hcl := fun j => curM_len (d := d) k j hkn hlens.1 hlens.2
  have hk0 : decide ((k : Int) < 0) = false := by simp
  have hkn2 : decide ((n : Int) ≤ (k : Int)) = false := by simp; omega
  have hkn3 : (k : Int) < (n : Int) := by omega
  unfold maxLen at hc hc'
  have hn'm : n' ≤ 9223372036854775807 := by omega
  obtain ⟨bS, oS, hA0, hbS, hrS⟩ := Arr.rows_at (f := secv) (l := d.secs) hS (i := k) hkn
  subst hA0
  have hrow : d.secs[k] = curM d k 0 := by rw [curM_zero]; simp [hkn]
  rw [hrow] at hrS
  have HDN := Lib.hid hdn; have HN' := Lib.hid hn'; have HLO := Lib.hid hlo; have HL := Lib.hid hL; have HS := Lib.hid hS; have Hd := Lib.hid hdW; have HRS := Lib.hid hrS; have HCL := Lib.hid hcl; have HLN := Lib.hid hlens; have HKN := Lib.hid hkn
  clear hdn hn hn' hlo hL hS hdW hrS hrow hcl hlens ht hkn
  go_enter Try.func12, Try.ntmps12
  go_wp2_with ((with_reducible show wpList _ _ _ (⟨_, .alloc 28, _, _, _, _⟩ :: _) _ _); refine hold ?_)
  refine held (wpList_alloc_to rfl 28 rfl (secv zsec).toArray (by kernel_rfl) ?_)
  go_wp2_with fail
  refine (rright_any _ d _ (Hd.out _ (((Below.refl _ _).alloc (Nat.le_refl _) _).alloc (by simp) _))).mono ?_
  rintro e w1 ⟨rfl, hb1⟩
  have B0 : Bk w1 w.heap.size 25 _ := Bk.below ((Bk.new w 25 _).alloc _) hb1 (by simp only [World.size_alloc]; omega)
  have B1 : Bk w1 (w.heap.size + 1) 28 (secv zsec).toArray := Bk.below (Bk.new2 _ _ _ _) hb1 (by simp only [World.size_alloc]; omega)
  have hb : Below w.heap.size w w1 := (((Below.refl _ _).alloc (Nat.le_refl _) _).alloc (by simp) _).trans (hb1.mono (by simp only [World.size_alloc]; omega))
  obtain ⟨⟨p0, p1, p2, p3⟩, -⟩ := B0.four
  rw [HDN.out] at p3
  have hlt : w.heap.size + 1 < w1.heap.size := B1.lt
  have hlt0 : w.heap.size < w1.heap.size := by omega
  have HB0 := Lib.hid B0; have HB1 := Lib.hid B1; have HW := Lib.hid hb
  clear B0 B1 hb hb1
  go_wp2_with ((with_reducible show wpList _ _ _ (⟨some 30, _, _, _, _, _⟩ :: _) _ _); refine hold ?_)
  refine held (wpList_load_mid rfl 28 (.tmp 29) rfl bS (oS + k * 64) rfl (secv (curM d k 0)) (.array 64 5) (rangeAt_keep HRS.out (fun p hp => HW.out.cell (by omega))) Try.underlying28 rfl (by rw [secv_length, HCL.out]; exact size_sec) ?_)
  go_wp2_with ((with_reducible show wpList _ _ _ (⟨_, .alloc 28, _, _, _, _⟩ :: _) _ _); refine hold ?_)
  refine held (wpList_alloc_to rfl 28 rfl (secv zsec).toArray (by kernel_rfl) ?_)
  go_wp2_with ((with_reducible show wpList _ _ _ (⟨none, .store 28 _ _, _, _, _, _⟩ :: _) _ _); refine hold ?_)
  refine held (wpList_store_wide rfl 28 (.tmp 6) (.tmp 30) rfl w1.heap.size 0 (secv (curM d k 0)).toArray rfl rfl 28 _ (Bk.new _ _ _) (by simp only [List.size_toArray, secv_length, HCL.out]; simp [zsec]) (by simp only [List.size_toArray, secv_length, HCL.out]; kernel_rfl) (by simpa using secv_one _) ?_)
  intro w2 hw'
  obtain ⟨B6, hbi, hli⟩ := new_sec (HCL.out 0) hw'.out
  have B0 := HB0.out.below hbi hlt0
  have B1 := HB1.out.below hbi hlt
  have hb2 := HW.out.trans (hbi.mono HW.out.size)
  obtain ⟨⟨p0, p1, p2, p3⟩, -⟩ := B0.four
  have HB0 := Lib.hid B0; have HB1 := Lib.hid B1; have HW := Lib.hid hb2; have HB6 := Lib.hid B6
  clear hw' B0 B1 B6 hb2 hbi
  go_wp2_with fail
  go_loopw [7] (fun i wr => RdRel w w1.heap.size n' d k i w2 wr) (fun i _ => n' - (intOf i).toNat)
  case atStart => exact ⟨0, Nat.zero_le _, rfl, HB6.out, Keeps.refl _ _, HW.out⟩
  case round =>
    obtain ⟨j, hj, rfl, hB6, hKp, hbr⟩ := hrel
    have C0 : Bk wr w.heap.size 25 _ := (hKp.block _ (by omega)).trans HB0.out
    obtain ⟨⟨p0, p1, p2, p3⟩, -⟩ := C0.four
    clear C0
    by_cases hlt : j < n'
    · have hjl : j < d.loose.length := by rw [HN'.out]; exact hlt
      obtain ⟨bL, oL, hA', hbL, hrL⟩ := Arr.rows_at (f := wrv) (l := d.loose) HL.out (i := j) hjl
      subst hA'
      have hstep := curM_step d k j HKN.out hjl
      have hth : thereB d.secs.length d.loose[j].1 = true := List.all_eq_true.1 HLO.out d.loose[j] (List.getElem_mem hjl)
      have hx64 : d.loose[j].2.length = 64 := HLN.out.2 _ (List.getElem_mem hjl)
      obtain ⟨x, hx⟩ : ∃ x, d.loose[j] = x := ⟨_, rfl⟩
      rw [hx] at hrL hstep hth hx64
      have hrW := rangeAt_keep hrL (w' := wr) (fun p hp => hbr.cell (by omega))
      have hcell : wr.cell? ⟨bL, oL + j * 65, none⟩ = some (.int .i64 x.1) := by
        have := hrW 0 (.int .i64 x.1) (by simp [wrv])
        simpa using this
      have hrow : wr.rangeAt bL (oL + j * 65 + 1) (secv x.2) := fun i v hv => by
        have := hrW (i + 1) v (by simpa [wrv] using hv)
        rw [show oL + j * 65 + 1 + i = oL + j * 65 + (i + 1) by omega]; exact this
      have hi1 : (j : Int) < (n' : Int) := by omega
      have hx0 : 0 ≤ x.1 := by unfold thereB at hth; simp at hth; exact hth.1
      have Hst := Lib.hid hstep; have HR := Lib.hid hrow; have HB6 := Lib.hid hB6; have HKp := Lib.hid hKp; have HBR := Lib.hid hbr; have Hx0 := Lib.hid hx0
      clear hstep hrow hrW hrL hth hx hB6 hKp hbr hx0
      by_cases hxk : x.1 = (k : Int)
      · have hxb : (x.1 == (k : Int)) = true := by simpa using hxk
        have hcur : curM d k (j + 1) = x.2 := by rw [Hst.out, if_pos (by omega)]
        have Hcur := Lib.hid hcur
        clear hxk hcur
        go_wp2_with ((with_reducible show wpList _ _ _ (⟨some 51, _, _, _, _, _⟩ :: _) _ _); refine hold ?_)
        refine held (wpList_load_mid rfl 28 (.tmp 50) rfl bL (oL + j * 65 + 1) rfl (secv x.2) (.array 64 5) HR.out Try.underlying28 rfl (by rw [secv_length, hx64]; exact size_sec) ?_)
        go_wp2_with ((with_reducible show wpList _ _ _ (⟨none, .store 28 _ _, _, _, _, _⟩ :: _) _ _); refine hold ?_)
        refine held (wpList_store_wide rfl 28 (.tmp 6) (.tmp 51) rfl w1.heap.size 0 (secv x.2).toArray rfl rfl 28 _ HB6.out (by simp only [List.size_toArray, secv_length, hx64, HCL.out]; omega) (by simp only [List.size_toArray, secv_length, hx64]; kernel_rfl) (by simpa using secv_one _) ?_)
        intro w3 hw3
        rw [splice_whole (by simp only [secv_length, hx64, HCL.out])] at hw3
        have e3 := hw3.out
        have D6 : Bk w3 w1.heap.size 28 (secv (curM d k (j + 1))).toArray := by rw [e3, Hcur.out]; exact HB6.out.setRow_same _
        have hkp : Keeps (fun b => b < w1.heap.size) w2 w3 := by rw [e3]; exact HKp.out.setRow (by simp) _
        have hbb : Below w.heap.size w w3 := by rw [e3]; exact below_setRow HBR.out (by omega) _
        have HD6 := Lib.hid D6; have HKQ := Lib.hid hkp; have HBB := Lib.hid hbb
        clear hw3 e3 D6 hkp hbb p0 p1 p2 p3 hcell
        go_wp2
        go_roundw
        case rel => exact ⟨j + 1, by omega, by go_num, HD6.out, HKQ.out, HBB.out⟩
        case measure => simp [intOf]; omega
      · have hxb : (x.1 == (k : Int)) = false := by simpa using hxk
        have hcur : curM d k (j + 1) = curM d k j := by rw [Hst.out, if_neg (by have := Hx0.out; omega)]
        have Hcur := Lib.hid hcur
        clear hxk hcur
        go_wp2
        go_roundw
        case rel => exact ⟨j + 1, by omega, by go_num, by rw [Hcur.out]; exact HB6.out, HKp.out, HBR.out⟩
        case measure => simp [intOf]; omega
    · have hjn : j = n' := by omega
      have hcur : curM d k j = (viewM d).getD k [] := by rw [hjn, ← HN'.out]; exact curM_all d k
      have Hcur := Lib.hid hcur; have HB6 := Lib.hid hB6; have HKp := Lib.hid hKp; have HBR := Lib.hid hbr
      have C1 : Bk wr (w.heap.size + 1) 28 (secv zsec).toArray := (hKp.block _ (by omega)).trans HB1.out
      have HC1 := Lib.hid C1
      clear hjn hcur hB6 hKp hbr C1
      have h64 : ((viewM d).getD k []).length = 64 := by rw [← Hcur.out]; exact HCL.out j
      have Hcl := Lib.hid h64
      clear h64
      rw [Hcur.out] at HB6
      go_wp2_with ((with_reducible show wpList _ _ _ (⟨some 52, _, _, _, _, _⟩ :: _) _ _); refine hold ?_)
      refine held (wpList_load_mid rfl 28 (.tmp 6) rfl w1.heap.size 0 rfl (secv ((viewM d).getD k [])) (.array 64 5) (bk_range HB6.out) Try.underlying28 rfl (by rw [secv_length, Hcl.out]; exact size_sec) ?_)
      go_wp2_with ((with_reducible show wpList _ _ _ (⟨none, .store 28 _ _, _, _, _, _⟩ :: _) _ _); refine hold ?_)
      refine held (wpList_store_wide rfl 28 (.tmp 4) (.tmp 52) rfl (w.heap.size + 1) 0 (secv ((viewM d).getD k [])).toArray rfl rfl 28 _ HC1.out (by simp only [List.size_toArray, secv_length, Hcl.out]; simp [zsec]) (by simp only [List.size_toArray, secv_length, Hcl.out]; kernel_rfl) (by simpa using secv_one _) ?_)
      intro w3 hw3
      rw [splice_whole (by simp only [secv_length, Hcl.out]; simp [zsec])] at hw3
      have e3 := hw3.out
      have D4 : Bk w3 (w.heap.size + 1) 28 (secv ((viewM d).getD k [])).toArray := by rw [e3]; exact HC1.out.setRow_same _
      have hbb : Below w.heap.size w w3 := by rw [e3]; exact below_setRow HBR.out (by omega) _
      have HD4 := Lib.hid D4; have HBB := Lib.hid hbb
      clear hw3 e3 D4 hbb p0 p1 p2 p3
      go_wp2
      refine bodyPost_ret (v := .tuple #[.agg (secv ((viewM d).getD k [])).toArray, .int .i64 0]) ?_ rfl ⟨rfl, HBB.out⟩
      exact results_cell_tmp rfl _ _ ⟨w.heap.size + 1, 0, none⟩ _ _ rfl rfl (load_sec HD4.out Hcl.out)

set_option maxRecDepth 100000 in
set_option maxHeartbeats 2000000 in
theorem rread_down (v : Value) (d : Dk) (k : Nat) (w : World) (hd : DkAt w w.heap.size v d) (h : (rightB d && thereB d.secs.length (k : Int)) = true) (hdn : d.down = true) :
    Calls Try.prog 12 #[v, .int .i64 (k : Int)] w (SecRes w (zsec, 9)) := by
  have hdW := fun W => hd.later (W := W)
  obtain ⟨A, n, c, A', n', c', rfl, hnc, hnc', hc, hc', hS, hL⟩ := hd
  have hn : d.secs.length = n := by have := hS.1; simpa using this
  obtain ⟨hr, ht⟩ : rightB d = true ∧ thereB d.secs.length (k : Int) = true := by simpa using h
  clear h
  have hkn : k < d.secs.length := by simp [thereB] at ht; exact ht
  have hk0 : decide ((k : Int) < 0) = false := by simp
  have hkn2 : decide ((n : Int) ≤ (k : Int)) = false := by simp; omega
  have hkn3 : (k : Int) < (n : Int) := by omega
  have HDN := Lib.hid hdn; have Hd := Lib.hid hdW
  clear hdn hn hS hL hdW hkn ht
  go_enter Try.func12, Try.ntmps12
  go_wp2_with ((with_reducible show wpList _ _ _ (⟨_, .alloc 28, _, _, _, _⟩ :: _) _ _); refine hold ?_)
  refine held (wpList_alloc_to rfl 28 rfl (secv zsec).toArray (by kernel_rfl) ?_)
  go_wp2_with fail
  refine (rright_any _ d _ (Hd.out _ (((Below.refl _ _).alloc (Nat.le_refl _) _).alloc (by simp) _))).mono ?_
  rintro e w1 ⟨rfl, hb1⟩
  have B0 : Bk w1 w.heap.size 25 _ := Bk.below ((Bk.new w 25 _).alloc _) hb1 (by simp only [World.size_alloc]; omega)
  have B1 : Bk w1 (w.heap.size + 1) 28 (secv zsec).toArray := Bk.below (Bk.new2 _ _ _ _) hb1 (by simp only [World.size_alloc]; omega)
  have hb : Below w.heap.size w w1 := (((Below.refl _ _).alloc (Nat.le_refl _) _).alloc (by simp) _).trans (hb1.mono (by simp only [World.size_alloc]; omega))
  obtain ⟨⟨p0, p1, p2, p3⟩, -⟩ := B0.four
  rw [HDN.out] at p3
  have HB1 := Lib.hid B1; have HW := Lib.hid hb
  clear B0 B1 hb hb1
  go_wp2_with ((with_reducible show wpList _ _ _ (⟨some 25, _, _, _, _, _⟩ :: _) _ _); refine hold ?_)
  refine held (wpList_build_to rfl 28 #[] rfl [] rfl (secv zsec).toArray built_zsec ?_)
  go_wp2_with ((with_reducible show wpList _ _ _ (⟨none, .store 28 _ _, _, _, _, _⟩ :: _) _ _); refine hold ?_)
  refine held (wpList_store_wide rfl 28 (.tmp 4) (.tmp 25) rfl (w.heap.size + 1) 0 (secv zsec).toArray rfl rfl 28 _ HB1.out (by simp) (by kernel_rfl) (by simpa using secv_one zsec) ?_)
  intro w5 hw5
  rw [splice_whole rfl] at hw5
  have e5 := hw5.out
  clear hw5
  have C2 : Bk w5 (w.heap.size + 1) 28 (secv zsec).toArray := by rw [e5]; exact HB1.out.setRow_same _
  have hb5 : Below w.heap.size w w5 := by rw [e5]; exact below_setRow HW.out (by omega) _
  have HC2 := Lib.hid C2; have HB5 := Lib.hid hb5
  clear e5 C2 hb5 p0 p1 p2 p3
  go_wp2
  refine bodyPost_ret (v := .tuple #[.agg (secv zsec).toArray, .int .i64 9]) ?_ rfl ⟨rfl, HB5.out⟩
  exact results_cell_tmp rfl _ _ ⟨w.heap.size + 1, 0, none⟩ _ _ rfl rfl (load_sec HC2.out rfl)

set_option maxRecDepth 100000 in
set_option maxHeartbeats 2000000 in
theorem rread_no (v : Value) (d : Dk) (a : Int) (w : World) (hd : DkAt w w.heap.size v d) (h : (rightB d && thereB d.secs.length a) = false) :
    Calls Try.prog 12 #[v, .int .i64 a] w (SecRes w (zsec, 1)) := by
  have hdW := fun W => hd.later (W := W)
  obtain ⟨A, n, c, A', n', c', rfl, hnc, hnc', hc, hc', hS, hL⟩ := hd
  have hn : d.secs.length = n := by have := hS.1; simpa using this
  unfold maxLen at hc hc'
  rw [hn] at h
  have hn63 : (n : Int) ≤ 9223372036854775807 := by omega
  have Hd := Lib.hid hdW
  clear hn hS hL hdW
  have key : ∀ (w1 : World), w1.cell? ⟨w.heap.size, 0, none⟩ = some (.slice A n c) → Bk w1 (w.heap.size + 1) 28 (secv zsec).toArray → Below w.heap.size w w1 → True := fun _ _ _ _ => trivial
  clear key
  by_cases hr : rightB d = true
  · have ht : thereB n a = false := by simpa [hr] using h
    by_cases ha : 0 ≤ a
    · have hk0 : decide (a < 0) = false := by simp; omega
      have hkn2 : decide ((n : Int) ≤ a) = true := by unfold thereB at ht; simp at ht ⊢; omega
      clear h ht
      have Hr := Lib.hid hr
      clear hr
      go_enter Try.func12, Try.ntmps12
      go_wp2_with ((with_reducible show wpList _ _ _ (⟨_, .alloc 28, _, _, _, _⟩ :: _) _ _); refine hold ?_)
      refine held (wpList_alloc_to rfl 28 rfl (secv zsec).toArray (by kernel_rfl) ?_)
      go_wp2_with fail
      refine (rright_any _ d _ (Hd.out _ (((Below.refl _ _).alloc (Nat.le_refl _) _).alloc (by simp) _))).mono ?_
      rintro e w1 ⟨rfl, hb1⟩
      have B0 : Bk w1 w.heap.size 25 _ := Bk.below ((Bk.new w 25 _).alloc _) hb1 (by simp only [World.size_alloc]; omega)
      have B1 : Bk w1 (w.heap.size + 1) 28 (secv zsec).toArray := Bk.below (Bk.new2 _ _ _ _) hb1 (by simp only [World.size_alloc]; omega)
      have hb : Below w.heap.size w w1 := (((Below.refl _ _).alloc (Nat.le_refl _) _).alloc (by simp) _).trans (hb1.mono (by simp only [World.size_alloc]; omega))
      obtain ⟨⟨p0, p1, p2, p3⟩, -⟩ := B0.four
      rw [Hr.out]
      have HB1 := Lib.hid B1; have HW := Lib.hid hb
      clear B0 B1 hb hb1
      go_wp2_with ((with_reducible show wpList _ _ _ (⟨some 22, _, _, _, _, _⟩ :: _) _ _); refine hold ?_)
      refine held (wpList_build_to rfl 28 #[] rfl [] rfl (secv zsec).toArray built_zsec ?_)
      go_wp2_with ((with_reducible show wpList _ _ _ (⟨none, .store 28 _ _, _, _, _, _⟩ :: _) _ _); refine hold ?_)
      refine held (wpList_store_wide rfl 28 (.tmp 4) (.tmp 22) rfl (w.heap.size + 1) 0 (secv zsec).toArray rfl rfl 28 _ HB1.out (by simp) (by kernel_rfl) (by simpa using secv_one zsec) ?_)
      intro w5 hw5
      rw [splice_whole rfl] at hw5
      have e5 := hw5.out
      clear hw5
      have C2 : Bk w5 (w.heap.size + 1) 28 (secv zsec).toArray := by rw [e5]; exact HB1.out.setRow_same _
      have hb5 : Below w.heap.size w w5 := by rw [e5]; exact below_setRow HW.out (by omega) _
      have HC2 := Lib.hid C2; have HB5 := Lib.hid hb5
      clear e5 C2 hb5 p0 p1 p2 p3
      go_wp2
      refine bodyPost_ret (v := .tuple #[.agg (secv zsec).toArray, .int .i64 1]) ?_ rfl ⟨rfl, HB5.out⟩
      exact results_cell_tmp rfl _ _ ⟨w.heap.size + 1, 0, none⟩ _ _ rfl rfl (load_sec HC2.out rfl)
    · have hk0 : decide (a < 0) = true := by simp; omega
      clear h ht
      have Hr := Lib.hid hr
      clear hr
      go_enter Try.func12, Try.ntmps12
      go_wp2_with ((with_reducible show wpList _ _ _ (⟨_, .alloc 28, _, _, _, _⟩ :: _) _ _); refine hold ?_)
      refine held (wpList_alloc_to rfl 28 rfl (secv zsec).toArray (by kernel_rfl) ?_)
      go_wp2_with fail
      refine (rright_any _ d _ (Hd.out _ (((Below.refl _ _).alloc (Nat.le_refl _) _).alloc (by simp) _))).mono ?_
      rintro e w1 ⟨rfl, hb1⟩
      have B0 : Bk w1 w.heap.size 25 _ := Bk.below ((Bk.new w 25 _).alloc _) hb1 (by simp only [World.size_alloc]; omega)
      have B1 : Bk w1 (w.heap.size + 1) 28 (secv zsec).toArray := Bk.below (Bk.new2 _ _ _ _) hb1 (by simp only [World.size_alloc]; omega)
      have hb : Below w.heap.size w w1 := (((Below.refl _ _).alloc (Nat.le_refl _) _).alloc (by simp) _).trans (hb1.mono (by simp only [World.size_alloc]; omega))
      obtain ⟨⟨p0, p1, p2, p3⟩, -⟩ := B0.four
      rw [Hr.out]
      have HB1 := Lib.hid B1; have HW := Lib.hid hb
      clear B0 B1 hb hb1
      go_wp2_with ((with_reducible show wpList _ _ _ (⟨some 22, _, _, _, _, _⟩ :: _) _ _); refine hold ?_)
      refine held (wpList_build_to rfl 28 #[] rfl [] rfl (secv zsec).toArray built_zsec ?_)
      go_wp2_with ((with_reducible show wpList _ _ _ (⟨none, .store 28 _ _, _, _, _, _⟩ :: _) _ _); refine hold ?_)
      refine held (wpList_store_wide rfl 28 (.tmp 4) (.tmp 22) rfl (w.heap.size + 1) 0 (secv zsec).toArray rfl rfl 28 _ HB1.out (by simp) (by kernel_rfl) (by simpa using secv_one zsec) ?_)
      intro w5 hw5
      rw [splice_whole rfl] at hw5
      have e5 := hw5.out
      clear hw5
      have C2 : Bk w5 (w.heap.size + 1) 28 (secv zsec).toArray := by rw [e5]; exact HB1.out.setRow_same _
      have hb5 : Below w.heap.size w w5 := by rw [e5]; exact below_setRow HW.out (by omega) _
      have HC2 := Lib.hid C2; have HB5 := Lib.hid hb5
      clear e5 C2 hb5 p0 p1 p2 p3
      go_wp2
      refine bodyPost_ret (v := .tuple #[.agg (secv zsec).toArray, .int .i64 1]) ?_ rfl ⟨rfl, HB5.out⟩
      exact results_cell_tmp rfl _ _ ⟨w.heap.size + 1, 0, none⟩ _ _ rfl rfl (load_sec HC2.out rfl)
  · have hr' : rightB d = false := by simpa using hr
    clear h hr
    have Hr := Lib.hid hr'
    clear hr'
    go_enter Try.func12, Try.ntmps12
    go_wp2_with ((with_reducible show wpList _ _ _ (⟨_, .alloc 28, _, _, _, _⟩ :: _) _ _); refine hold ?_)
    refine held (wpList_alloc_to rfl 28 rfl (secv zsec).toArray (by kernel_rfl) ?_)
    go_wp2_with fail
    refine (rright_any _ d _ (Hd.out _ (((Below.refl _ _).alloc (Nat.le_refl _) _).alloc (by simp) _))).mono ?_
    rintro e w1 ⟨rfl, hb1⟩
    have B0 : Bk w1 w.heap.size 25 _ := Bk.below ((Bk.new w 25 _).alloc _) hb1 (by simp only [World.size_alloc]; omega)
    have B1 : Bk w1 (w.heap.size + 1) 28 (secv zsec).toArray := Bk.below (Bk.new2 _ _ _ _) hb1 (by simp only [World.size_alloc]; omega)
    have hb : Below w.heap.size w w1 := (((Below.refl _ _).alloc (Nat.le_refl _) _).alloc (by simp) _).trans (hb1.mono (by simp only [World.size_alloc]; omega))
    obtain ⟨⟨p0, p1, p2, p3⟩, -⟩ := B0.four
    rw [Hr.out]
    have HB1 := Lib.hid B1; have HW := Lib.hid hb
    clear B0 B1 hb hb1
    go_wp2_with ((with_reducible show wpList _ _ _ (⟨some 22, _, _, _, _, _⟩ :: _) _ _); refine hold ?_)
    refine held (wpList_build_to rfl 28 #[] rfl [] rfl (secv zsec).toArray built_zsec ?_)
    go_wp2_with ((with_reducible show wpList _ _ _ (⟨none, .store 28 _ _, _, _, _, _⟩ :: _) _ _); refine hold ?_)
    refine held (wpList_store_wide rfl 28 (.tmp 4) (.tmp 22) rfl (w.heap.size + 1) 0 (secv zsec).toArray rfl rfl 28 _ HB1.out (by simp) (by kernel_rfl) (by simpa using secv_one zsec) ?_)
    intro w5 hw5
    rw [splice_whole rfl] at hw5
    have e5 := hw5.out
    clear hw5
    have C2 : Bk w5 (w.heap.size + 1) 28 (secv zsec).toArray := by rw [e5]; exact HB1.out.setRow_same _
    have hb5 : Below w.heap.size w w5 := by rw [e5]; exact below_setRow HW.out (by omega) _
    have HC2 := Lib.hid C2; have HB5 := Lib.hid hb5
    clear e5 C2 hb5 p0 p1 p2 p3
    go_wp2
    refine bodyPost_ret (v := .tuple #[.agg (secv zsec).toArray, .int .i64 1]) ?_ rfl ⟨rfl, HB5.out⟩
    exact results_cell_tmp rfl _ _ ⟨w.heap.size + 1, 0, none⟩ _ _ rfl rfl (load_sec HC2.out rfl)

/-- the document's own Read, of any disk and any place -/
theorem rread_any (v : Value) (d : Dk) (a : Int) (w : World) (hd : DkAt w w.heap.size v d) :
    Calls Try.prog 12 #[v, .int .i64 a] w (SecRes w (readM d a)) := by
  by_cases h : (rightB d && thereB d.secs.length a) = true
  · obtain ⟨h1, h2⟩ : rightB d = true ∧ thereB d.secs.length a = true := by simpa using h
    obtain ⟨k, rfl⟩ : ∃ k : Nat, a = (k : Int) := ⟨a.toNat, by unfold thereB at h2; simp at h2; omega⟩
    by_cases h3 : d.down = true
    · have : readM d (k : Int) = (zsec, 9) := by unfold readM; rw [if_pos h, if_pos h3]; rfl
      rw [this]
      exact rread_down v d k w hd h h3
    · have h3' : d.down = false := by simpa using h3
      have : readM d (k : Int) = ((viewM d).getD k [], 0) := by rw [readM_up h1 h2 h3', Int.toNat_natCast]
      rw [this]
      exact rread_ok v d k w hd h h3'
  · have h' : (rightB d && thereB d.secs.length a) = false := by simpa using h
    have : readM d a = (zsec, 1) := by
      unfold readM
      rw [if_neg h]; rfl
    rw [this]
    exact rread_no v d a w hd h'
end Go.Proofs.Ytfejnfohbagnkaa
