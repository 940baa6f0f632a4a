/-
  Contracts over package event and the document's own: times, numbers, ranges that may be; ends of ranges; equal slices.
-/
import Derived.Test.YtcajmigkpcjbcaaDoorQEventRows
import Derived.Test.YtcajmigkpcjbcaaDoorQUidsB
import Derived.Test.YtcajmigkpcjbcaaDoorQAppV
import Derived.Laws.EntriesVeiled
namespace Go.Proofs.YtcajmigkpcjbcaaDoor
set_option linter.unusedVariables false
set_option linter.unusedSimpArgs false
open Go.RowKit
set_option linter.unusedVariables false
set_option linter.unusedSimpArgs false

theorem tm_lo {z : Int} (h : ¬ 0 ≤ z) : tmB z = false := decide_eq_false fun e => h e.1
theorem tm_hi {z : Int} (h : ¬ z ≤ 1099511627776) : tmB z = false := decide_eq_false fun e => h e.2
theorem tm_yes {z : Int} (h : 0 ≤ z) (h2 : z ≤ 1099511627776) : tmB z = true := decide_eq_true ⟨h, h2⟩
set_option maxHeartbeats 400000 in
theorem evisTime_any (z : Int) (w : World) : Calls Tryd.prog 25 #[.int .i64 z] w fun e w' => e = .returned (.bool (tmB z)) ∧ w = w' := by
  by_cases h1 : 0 ≤ z
  · by_cases h2 : z ≤ 1099511627776
    · have HR := Lib.hid (tm_yes h1 h2)
      go_enter Tryd.func25, Tryd.ntmps25
      go_wp2_with fail
      go_ret
      exact ⟨by rw [HR.out] <;> rfl, rfl⟩
    · have HR := Lib.hid (tm_hi h2)
      go_enter Tryd.func25, Tryd.ntmps25
      go_wp2_with fail
      go_ret
      exact ⟨by rw [HR.out] <;> rfl, rfl⟩
  · have HR := Lib.hid (tm_lo h1)
    go_enter Tryd.func25, Tryd.ntmps25
    go_wp2_with fail
    go_ret
    exact ⟨by rw [HR.out] <;> rfl, rfl⟩
set_option maxHeartbeats 400000 in
theorem xetime_any (z : Int) (w : World) : Calls Tryd.prog 28 #[.int .i64 z] w fun e w' => e = .returned (.bool (tmB z)) ∧ w = w' := by
  by_cases h1 : 0 ≤ z
  · by_cases h2 : z ≤ 1099511627776
    · have HR := Lib.hid (tm_yes h1 h2)
      go_enter Tryd.func28, Tryd.ntmps28
      go_wp2_with fail
      go_ret
      exact ⟨by rw [HR.out] <;> rfl, rfl⟩
    · have HR := Lib.hid (tm_hi h2)
      go_enter Tryd.func28, Tryd.ntmps28
      go_wp2_with fail
      go_ret
      exact ⟨by rw [HR.out] <;> rfl, rfl⟩
  · have HR := Lib.hid (tm_lo h1)
    go_enter Tryd.func28, Tryd.ntmps28
    go_wp2_with fail
    go_ret
    exact ⟨by rw [HR.out] <;> rfl, rfl⟩

/-! ### Rising numbers -/
def lastAt (l : List Int) (k : Nat) : Int := if k = 0 then 0 else l.getD (k - 1) 0
theorem lastAt_next {l : List Int} {k : Nat} {z : Int} (h : l[k]? = some z) : lastAt l (k + 1) = z := by
  unfold lastAt
  rw [if_neg (by omega), Nat.add_sub_cancel]
  simp [h]
theorem riseAt_last {l : List Int} {k : Nat} {z : Int} (h : l[k]? = some z) (hu : riseUp l k) : riseAt l k = decide (lastAt l k < z ∧ z ≤ 4294967295) := by
  unfold riseAt lastAt
  have e : l.getD k 0 = z := by simp [h]
  rw [e]
  refine decide_eq_decide.2 ?_
  rcases Nat.eq_zero_or_pos k with h0 | h0
  · rw [if_pos h0]
    constructor
    · rintro ⟨a, b, c⟩; exact ⟨by omega, b⟩
    · rintro ⟨a, b⟩; exact ⟨by omega, b, .inl h0⟩
  · rw [if_neg (by omega)]
    have h1 := (of_decide_eq_true (hu (k - 1) (by omega))).1
    constructor
    · rintro ⟨a, b, c⟩
      rcases c with c | c
      · omega
      · exact ⟨c, b⟩
    · rintro ⟨a, b⟩; exact ⟨by omega, b, .inr a⟩
theorem idsB_short {l : List Int} (h : l.length < 1) : idsB l = false := by unfold idsB; rw [decide_eq_false (by omega)]; rfl
theorem idsB_long {l : List Int} (h : 60 < l.length) : idsB l = false := by unfold idsB; rw [decide_eq_false (by omega)]; rfl
theorem idsB_no {l : List Int} (h : riseB l = false) : idsB l = false := by unfold idsB; rw [h, Bool.and_false]
theorem idsB_yes {l : List Int} (h1 : ¬ l.length < 1) (h2 : ¬ 60 < l.length) (h : riseB l = true) : idsB l = true := by unfold idsB; rw [h, decide_eq_true (by omega)]; rfl
set_option maxRecDepth 20000 in
set_option maxHeartbeats 2000000 in
theorem evids_any (A : Option Addr) (n c : Nat) (l : List Int) (w : World) (hl : Col ints w w.heap.size A n l) (hn : n ≤ 140737488355328) :
    Calls Tryd.prog 51 #[.slice A n c] w fun e w' => e = .returned (.bool (idsB l)) ∧ w = w' := by
  have HL := Lib.hid hl
  have HLN := Lib.hid hl.1
  clear hl
  by_cases h1 : n < 1
  · have h1' : (n : Int) < 1 := by omega
    have HR := Lib.hid (idsB_short (l := l) (by rw [HLN.out]; exact h1))
    go_enter Tryd.func51, Tryd.ntmps51
    go_wp2_with fail
    go_ret
    exact ⟨by rw [HR.out] <;> rfl, rfl⟩
  by_cases h2 : 60 < n
  · have h1' : ¬ (n : Int) < 1 := by omega
    have h2' : (60 : Int) < (n : Int) := by omega
    have HR := Lib.hid (idsB_long (l := l) (by rw [HLN.out]; exact h2))
    go_enter Tryd.func51, Tryd.ntmps51
    go_wp2_with fail
    go_ret
    exact ⟨by rw [HR.out] <;> rfl, rfl⟩
  have h1' : ¬ (n : Int) < 1 := by omega
  have h2' : ¬ (60 : Int) < (n : Int) := by omega
  go_enter Tryd.func51, Tryd.ntmps51
  go_wp2_with fail
  go_loop [3, 16] (fun p i => ∃ (k : Nat) (q : Int), k ≤ n ∧ i = .int .i64 (k : Int) ∧ p = .int .i64 q ∧ q = lastAt l k ∧ riseUp l k) (fun _ i => n - (intOf i).toNat)
  case atStart => exact ⟨0, 0, Nat.zero_le _, rfl, rfl, rfl, fun i hi => by omega⟩
  case round =>
    obtain ⟨k, q, hk, rfl, rfl, hq, hu⟩ := hrel
    have HQ := Lib.hid hq
    have HU := Lib.hid hu
    clear hq hu
    by_cases hlt : k < n
    · have hk0 : (0 : Int) ≤ (k : Int) := by omega
      have hkn : (k : Int) < (n : Int) := by omega
      obtain ⟨b, o, z, rfl, hbb, hla, htk, hc⟩ := HL.out.at_ hlt
      unfold ints at hc
      have HLA := Lib.hid hla
      have ha := riseAt_last hla HU.out
      rw [← HQ.out] at ha
      have HA := Lib.hid ha
      have HLT := Lib.hid (show k < l.length by rw [HLN.out]; exact hlt)
      clear hla htk ha
      by_cases hz1 : z ≤ q
      · have HR := Lib.hid (idsB_no (riseB_stop HLT.out (by rw [HA.out]; exact decide_eq_false (by omega))))
        go_wp2_with fail
        go_ret
        exact ⟨by rw [HR.out] <;> rfl, rfl⟩
      · by_cases hz2 : 4294967295 < z
        · have HR := Lib.hid (idsB_no (riseB_stop HLT.out (by rw [HA.out]; exact decide_eq_false (by omega))))
          go_wp2_with fail
          go_ret
          exact ⟨by rw [HR.out] <;> rfl, rfl⟩
        · have HN := Lib.hid (riseUp_next HU.out (by rw [HA.out]; exact decide_eq_true (by omega)))
          go_wp2_with fail
          go_round
          case rel => exact ⟨k + 1, z, by omega, by go_num, rfl, (lastAt_next HLA.out).symm, HN.out⟩
          case measure => simp [intOf]; omega
    · have hkn : ¬ (k : Int) < (n : Int) := by omega
      have HR := Lib.hid (idsB_yes (l := l) (by rw [HLN.out]; exact h1) (by rw [HLN.out]; exact h2) (riseUp_all HU.out (by rw [HLN.out]; omega)))
      go_wp2_with fail
      go_ret
      exact ⟨by rw [HR.out] <;> rfl, rfl⟩

/-! ### Ends of ranges -/
section
variable {P : Program}
theorem wpList_append_valsE {ops : Array Oper} {rest : List Oper} {o : Oper} {a : Act} {w : World} {Q : Exit → Act → World → Prop} (hgd : o.guard = none) (s x : Operand) (t : TypeId)
    (ho : o.op = .call { callee := .builtin .append, args := #[s, x], argTypes := #[t, t] }) {e : TypeId} (ht : P.underlying t = some (.slice e)) {zv : Value} {by_ : Nat}
    (he : (P.info? e).map (fun i => (i.zero, i.size, i.bytes)) = some (some zv, 1, by_)) (hzc : zv.cells.size = 1) (hby : by_ ≤ 24)
    (base : Nat) (A : Option Addr) (n c : Nat) (vs : List Value) (hs : a.eval s = .slice A n c) (hown : OwnV w base e A n c vs)
    (A' : Option Addr) (m c' : Nat) (us : List Value) (hx : a.eval x = .slice A' m c') (hl : us.length = m) (hc : 0 < m → ∃ b o, A' = some ⟨b, o, none⟩ ∧ ∀ (i : Nat) (u : Value), us[i]? = some u → w.cell? ⟨b, o + i, none⟩ = some u)
    (hone : ∀ u ∈ us, u.oneCell' = true) (hnm : n + m ≤ 1000000) (hbase : base ≤ w.heap.size)
    (h : ∀ A2 c2 w', OwnV w' base e A2 (n + m) c2 (vs ++ us) → Below base w w' → wpList P ops Q rest (a.put o.dst (.slice A2 (n + m) c2)) w') : wpList P ops Q (o :: rest) a w :=
  wpList_plain hgd fun _ hK => by
    obtain ⟨A2, c2, w', hrun, h1, h2⟩ := run_append_vals (P := P) hown t o.type ht he hzc hby (c' := c') hl hc hone hnm hbase
    unfold Oper.wp execOp
    simp only [ho, resolve, invoke, builtin, Sem.run_bind, Sem.run_pure, Result.andThen_ok, List.map_toArray, List.map_cons, List.map_nil, hs, hx, hrun]
    exact hK _ _ (h A2 c2 w' h1 h2)
end
theorem info_intE : (Tryd.prog.info? 3).map (fun i => (i.zero, i.size, i.bytes)) = some (some (.int .i64 0), 1, 8) := by kernel_rfl
theorem info_rgE : (Tryd.prog.info? 48).map (fun i => (i.zero, i.size, i.bytes)) = some (some (.agg #[.int .i64 0, .int .i64 0]), 2, 16) := by kernel_rfl
theorem OwnV.colE {w : World} {base n c : Nat} {A : Option Addr} {l : List Int} (h : OwnV w base 3 A n c (l.map ints)) : Col ints w w.heap.size A n l := by
  have hlen : l.length = n := by have := OwnV.len h; simpa using this
  refine ⟨hlen, fun hn => ?_⟩
  obtain ⟨g, hA, _, hg, hc⟩ := OwnV.cells h hn
  exact ⟨g, 0, hA, hg, fun i a ha => by rw [Nat.zero_add]; exact hc i _ (by simp [ha])⟩
/-- numbers of one's own are answered -/
def GiveN (l : List Int) (w0 : World) (e : Ending) (w' : World) : Prop := ∃ A c, e = .returned (.slice A l.length c) ∧ Col ints w' w'.heap.size A l.length l ∧ Below w0.heap.size w0 w'
theorem ends_take {l : List Rg} {k : Nat} {x y : Int} (h : l.take (k + 1) = l.take k ++ [(x, y)]) : (endsL (l.take (k + 1))).map ints = (endsL (l.take k)).map ints ++ [.int .i64 x, .int .i64 y] := by
  rw [h, endsL_snoc, List.map_append]; rfl
set_option maxRecDepth 20000 in
set_option maxHeartbeats 2000000 in
theorem evends_any (A : Option Addr) (n c : Nat) (l : List Rg) (w : World) (hl : ColK 2 rgC w w.heap.size A n l) (hn : n ≤ 400000) :
    Calls Tryd.prog 48 #[.slice A n c] w (GiveN (endsL l) w) := by
  have HL := Lib.hid hl
  clear hl
  go_enter Tryd.func48, Tryd.ntmps48
  go_wp2_with fail
  go_loopw [3, 8] (fun t i wx => ∃ (k n2 c2 : Nat) (A2 : Option Addr), k ≤ n ∧ i = .int .i64 (k : Int) ∧ n2 = 2 * k ∧ t = .slice A2 n2 c2 ∧ OwnV wx w.heap.size 3 A2 n2 c2 ((endsL (l.take k)).map ints) ∧ Below w.heap.size w wx) (fun _ i _ => n - (intOf i).toNat)
  case atStart => exact ⟨0, 0, 0, none, Nat.zero_le _, rfl, rfl, rfl, OwnV.nil, Below.refl _ _⟩
  case round =>
    obtain ⟨k, n2, c2, A2, hk, rfl, hn2, rfl, ho, hb⟩ := hrel
    have hn2' : n2 ≤ 800000 := by omega
    have HO := Lib.hid ho
    have HB := Lib.hid hb
    have HN2 := Lib.hid hn2
    clear ho hb hn2
    by_cases hlt : k < n
    · obtain ⟨b, o, x, rfl, hbb, hla, htk, hrow⟩ := (HL.out.below HB.out (Nat.le_refl _)).at_ hlt
      obtain ⟨x, y⟩ := x
      have HTK := Lib.hid (ends_take htk)
      have hk0 : (0 : Int) ≤ (k : Int) := by omega
      have hkn : (k : Int) < (n : Int) := by omega
      have HROW := Lib.hid hrow
      clear hla htk hrow
      go_wp2_with ((with_reducible show wpList _ _ _ (⟨some 11, _, _, _, _, _⟩ :: _) _ _); refine hold ?_)
      refine held (wpList_load_mid rfl 48 (.tmp 10) rfl b (o + k * 2) rfl (rgC (x, y)) _ HROW.out Tryd.underlying48 rfl (by kernel_rfl) ?_)
      unfold rgC
      go_wp2_with ((with_reducible show wpList _ _ _ (⟨some 18, _, _, _, _, _⟩ :: _) _ _); refine hold ?_)
      have hws := HB.out.size
      have hb3 : Below w.heap.size w ((wr.alloc (.cells #[.int .i64 x, .int .i64 y] 48)).alloc (.cells #[.int .i64 x, .int .i64 y] 3)) := (HB.out.alloc hws _).alloc (by simp; omega) _
      have ho3 := (HO.out.alloc (.cells #[.int .i64 x, .int .i64 y] 48)).alloc (.cells #[.int .i64 x, .int .i64 y] 3)
      have h3 : Bk ((wr.alloc (.cells #[.int .i64 x, .int .i64 y] 48)).alloc (.cells #[.int .i64 x, .int .i64 y] 3)) (wr.heap.size + 1) 3 #[.int .i64 x, .int .i64 y] := Bk.new2 _ _ _ _
      refine held (wpList_append_valsE rfl (.tmp 12) (.tmp 17) 22 rfl Tryd.underlying22 info_intE rfl (by omega) w.heap.size A2 n2 c2 _ rfl ho3 (some ⟨wr.heap.size + 1, 0, none⟩) 2 2 [.int .i64 x, .int .i64 y] rfl rfl (fun _ => ⟨_, _, rfl, fun i u hu => by rw [Nat.zero_add, h3.cell i]; simpa using hu⟩) (by simp [Value.oneCell']) (by omega) (by simp; omega) ?_)
      intro A4 c4 w4 ho4 hb4
      have HO4 : Hid (OwnV w4 w.heap.size 3 A4 (n2 + 2) c4 ((endsL (l.take (k + 1))).map ints)) := Lib.hid (by rw [HTK.out]; exact ho4)
      have HB4 := Lib.hid (hb3.trans hb4)
      clear ho3 hb3 h3 hws ho4 hb4
      go_wp2_with fail
      go_roundw
      case rel => exact ⟨k + 1, n2 + 2, c4, A4, by omega, by go_num, by have := HN2.out; omega, rfl, HO4.out, HB4.out⟩
      case measure => simp [intOf]; omega
    · have hkn : ¬ (k : Int) < (n : Int) := by omega
      have ho4 : OwnV wr w.heap.size 3 A2 n2 c2 ((endsL l).map ints) := by have := HO.out; rwa [List.take_of_length_le (by rw [HL.out.1]; omega)] at this
      have hlen : (endsL l).length = n2 := by have := OwnV.len ho4; simpa using this
      have HO4 := Lib.hid ho4
      have HLE := Lib.hid hlen
      clear ho4 hlen
      go_wp2_with fail
      go_ret
      exact ⟨A2, c2, by rw [HLE.out] <;> rfl, by rw [HLE.out]; exact HO4.out.colE, HB.out⟩

/-! ### Is an end wrong? -/
def wrongE (z : Int) : Bool := decide (z < 0 ∨ 4294967295 < z)
set_option maxHeartbeats 400000 in
theorem evisWrong_any (z : Int) (w : World) : Calls Tryd.prog 66 #[.int .i64 z] w fun e w' => e = .returned (.bool (wrongE z)) ∧ w = w' := by
  by_cases h1 : z < 0
  · have HR : Hid (wrongE z = true) := Lib.hid (decide_eq_true (.inl h1))
    go_enter Tryd.func66, Tryd.ntmps66
    go_wp2_with fail
    go_ret
    exact ⟨by rw [HR.out] <;> rfl, rfl⟩
  · by_cases h2 : 4294967295 < z
    · have HR : Hid (wrongE z = true) := Lib.hid (decide_eq_true (.inr h2))
      go_enter Tryd.func66, Tryd.ntmps66
      go_wp2_with fail
      go_ret
      exact ⟨by rw [HR.out] <;> rfl, rfl⟩
    · have HR : Hid (wrongE z = false) := Lib.hid (decide_eq_false (by omega))
      go_enter Tryd.func66, Tryd.ntmps66
      go_wp2_with fail
      go_ret
      exact ⟨by rw [HR.out] <;> rfl, rfl⟩
theorem anyI_next {l : List Int} {k : Nat} {z : Int} {p : Int → Bool} (h : (l.take k).any p = false) (ht : l.take (k + 1) = l.take k ++ [z]) (hz : p z = false) : (l.take (k + 1)).any p = false := by
  rw [ht, List.any_append, h]; simp [hz]
theorem anyI_stop {l : List Int} {p : Int → Bool} {k : Nat} {r : Int} (hr : l[k]? = some r) (h : p r = true) : l.any p = true := List.any_eq_true.2 ⟨r, List.mem_of_getElem? hr, h⟩
set_option maxRecDepth 20000 in
set_option maxHeartbeats 2000000 in
theorem evindexF_any (A : Option Addr) (m c : Nat) (l : List Int) (w : World) (hl : Col ints w w.heap.size A m l) (hm : m ≤ 1000000) :
    Calls Tryd.prog 76 #[.slice A m c, .func (.func 66) #[] #[]] w fun e w' => (∃ z : Int, e = .returned (.int .i64 z) ∧ (decide (0 ≤ z) = l.any wrongE)) ∧ w = w' := by
  have HL := Lib.hid hl
  clear hl
  go_enter Tryd.func76, Tryd.ntmps76
  go_wp2_with fail
  go_loop [8] (fun i => ∃ k : Nat, k ≤ m ∧ i = .int .i64 (k : Int) ∧ (l.take k).any wrongE = false) (fun i => m - (intOf i).toNat)
  case atStart => exact ⟨0, Nat.zero_le _, rfl, rfl⟩
  case round =>
    obtain ⟨k, hk, rfl, ha⟩ := hrel
    have HA := Lib.hid ha
    clear ha
    by_cases hlt : k < m
    · obtain ⟨b, o, z, rfl, hbb, hla, htk, hc⟩ := HL.out.at_ hlt
      unfold ints at hc
      have HLA := Lib.hid hla
      have HTK := Lib.hid htk
      have hk0 : (0 : Int) ≤ (k : Int) := by omega
      have hkn : (k : Int) < (m : Int) := by omega
      have CI := Lib.hid (evisWrong_any z w)
      clear hla htk
      go_wp2_with fail
      refine CI.out.mono ?_
      rintro e w' ⟨rfl, rfl⟩
      cases hok : wrongE z
      · have HS := Lib.hid (anyI_next HA.out HTK.out hok)
        clear hok
        go_wp2_with fail
        go_round
        case rel => exact ⟨k + 1, by omega, by go_num, HS.out⟩
        case measure => simp [intOf]; omega
      · have HS := Lib.hid (anyI_stop HLA.out hok)
        clear hok
        go_wp2_with fail
        go_ret
        exact ⟨⟨(k : Int), rfl, by rw [HS.out, decide_eq_true hk0]⟩, rfl⟩
    · have hkn : ¬ (k : Int) < (m : Int) := by omega
      have HS : Hid (l.any wrongE = false) := Lib.hid (by have := HA.out; rwa [List.take_of_length_le (by rw [HL.out.1]; omega)] at this)
      go_wp2_with fail
      go_ret
      exact ⟨⟨-1, rfl, by rw [HS.out]; rfl⟩, rfl⟩
theorem ret_boolE {a b : Bool} (h : a = b) : Ending.returned (.bool a) = .returned (.bool b) := by rw [h]
set_option maxHeartbeats 1000000 in
theorem evcontainsF_any (A : Option Addr) (m c : Nat) (l : List Int) (w : World) (hl : Col ints w w.heap.size A m l) (hm : m ≤ 1000000) :
    Calls Tryd.prog 67 #[.slice A m c, .func (.func 66) #[] #[]] w fun e w' => e = .returned (.bool (l.any wrongE)) ∧ w = w' := by
  have CI := Lib.hid (evindexF_any A m c l w hl hm)
  clear hl
  go_enter Tryd.func67, Tryd.ntmps67
  go_wp2_with fail
  refine CI.out.mono ?_
  rintro e w' ⟨⟨z, rfl, hz⟩, rfl⟩
  have HZ := Lib.hid hz
  clear hz CI
  by_cases h0 : 0 ≤ z
  · have HR : Hid (l.any wrongE = true) := Lib.hid (by rw [← HZ.out]; exact decide_eq_true h0)
    go_wp2_with fail
    go_ret
    exact ⟨by rw [HR.out] <;> rfl, rfl⟩
  · have HR : Hid (l.any wrongE = false) := Lib.hid (by rw [← HZ.out]; exact decide_eq_false h0)
    go_wp2_with fail
    go_ret
    exact ⟨ret_boolE (by rw [HR.out] <;> first | rfl | exact decide_eq_false (by omega)), rfl⟩
theorem wrong_ends (l : List Rg) : (endsL l).any wrongE = !decide (∀ r ∈ l, okR r) := by
  rw [Bool.eq_iff_iff, List.any_eq_true, Bool.not_eq_true', decide_eq_false_iff_not]
  constructor
  · rintro ⟨z, hz, hw⟩ hall
    unfold endsL at hz
    obtain ⟨r, hr, hz⟩ := List.mem_flatMap.1 hz
    obtain ⟨⟨a, b⟩, c, d⟩ := hall r hr
    have hw' := of_decide_eq_true hw
    simp only [List.mem_cons, List.not_mem_nil, or_false] at hz
    rcases hz with rfl | rfl <;> omega
  · intro h
    refine Decidable.byContradiction fun hn => h fun r hr => ?_
    have h1 : wrongE r.1 = false := Bool.eq_false_iff.2 fun e => hn ⟨r.1, List.mem_flatMap.2 ⟨r, hr, by simp⟩, e⟩
    have h2 : wrongE r.2 = false := Bool.eq_false_iff.2 fun e => hn ⟨r.2, List.mem_flatMap.2 ⟨r, hr, by simp⟩, e⟩
    have h1' := of_decide_eq_false h1
    have h2' := of_decide_eq_false h2
    exact ⟨⟨by omega, by omega⟩, ⟨by omega, by omega⟩⟩
theorem setB_eq (l : List Rg) : setB l = (decide (l.length ≤ 60) && !(endsL l).any wrongE) := by
  rw [wrong_ends, Bool.not_not]
  unfold setB
  rw [← Bool.decide_and]
set_option maxRecDepth 20000 in
set_option maxHeartbeats 1000000 in
theorem evset_any (A : Option Addr) (n c : Nat) (l : List Rg) (w : World) (hl : ColK 2 rgC w w.heap.size A n l) (hn : n ≤ 140737488355328) :
    Calls Tryd.prog 52 #[.slice A n c] w fun e w' => e = .returned (.bool (setB l)) ∧ Below w.heap.size w w' := by
  by_cases h1 : n ≤ 60
  · have h1' : (n : Int) ≤ 60 := by omega
    have CE := Lib.hid (evends_any A n c l w hl (by omega))
    have hlen : (endsL l).length ≤ 1000000 := by rw [endsL_len, hl.1]; omega
    have HLE := Lib.hid hlen
    have HS : Hid (setB l = !(endsL l).any wrongE) := Lib.hid (by rw [setB_eq, decide_eq_true (by rw [hl.1]; exact h1)]; rfl)
    clear hl hlen
    go_enter Tryd.func52, Tryd.ntmps52
    go_wp2_with fail
    refine CE.out.mono ?_
    rintro e w1 ⟨A1, c1, rfl, hc, hb⟩
    have CC := Lib.hid (evcontainsF_any A1 _ c1 _ w1 hc HLE.out)
    have HB := Lib.hid hb
    clear hc hb CE
    go_wp2_with fail
    refine CC.out.mono ?_
    rintro e w' ⟨rfl, rfl⟩
    clear CC
    go_wp2_with fail
    go_ret
    exact ⟨by rw [HS.out] <;> rfl, HB.out⟩
  · have h1' : ¬ (n : Int) ≤ 60 := by omega
    have HS : Hid (setB l = false) := Lib.hid (by rw [setB_eq, decide_eq_false (by rw [hl.1]; exact h1)]; rfl)
    clear hl
    go_enter Tryd.func52, Tryd.ntmps52
    go_wp2_with fail
    go_ret
    exact ⟨by rw [HS.out] <;> rfl, Below.refl _ _⟩
end Go.Proofs.YtcajmigkpcjbcaaDoor
