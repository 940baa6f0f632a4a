/-
  Walks over package sector: the iterator over the loose writes, the last one first, of those that stay; and the two functions that say which stay.
-/
import Derived.Test.YtofbpkaebngnlaaDoorQSecWords
import Derived.Maps.AppendAt
import Derived.Deep.WholeRow
namespace Go.Proofs.YtofbpkaebngnlaaDoor
set_option linter.unusedVariables false
set_option linter.unusedSimpArgs false
open Go.RowKit Go.Shelf

attribute [local go_sem] Oper.semAt_some

/-- what has come when the places from k on are over -/
def comeM {α : Type} (st : Nat → Bool) (xs : List α) (k : Nat) : List α :=
  (((xs.zipIdx).drop k).filter fun p => st p.2).reverse.map (·.1)

theorem comeM_all {α : Type} (st : Nat → Bool) (xs : List α) : comeM st xs xs.length = [] := by
  unfold comeM
  rw [List.drop_eq_nil_of_le (by simp)]
  rfl
theorem comeM_map {α β : Type} (f : α → β) (st : Nat → Bool) (xs : List α) (k : Nat) : (comeM st xs k).map f = comeM st (xs.map f) k := by
  unfold comeM
  have h : ∀ (l : List α) (m : Nat), (l.map f).zipIdx m = (l.zipIdx m).map fun p => (f p.1, p.2) := by
    intro l m
    rw [List.zipIdx_map]
    apply List.map_congr_left
    intro p _
    rfl
  rw [h, ← List.map_drop, List.filter_map, ← List.map_reverse, List.map_map, List.map_map]
  rfl
theorem comeM_step {α : Type} (st : Nat → Bool) (xs : List α) (k : Nat) (hk : k < xs.length) :
    comeM st xs k = comeM st xs (k + 1) ++ (if st k then [xs[k]] else []) := by
  unfold comeM
  rw [List.drop_eq_getElem_cons (by simpa using hk)]
  simp only [List.getElem_zipIdx, Nat.zero_add, List.filter_cons]
  split <;> simp
theorem comeM_length {α : Type} (st : Nat → Bool) (xs : List α) (k : Nat) : (comeM st xs k).length ≤ xs.length - k := by
  unfold comeM
  simp only [List.length_map, List.length_reverse]
  exact Nat.le_trans (List.length_filter_le _ _) (by simp)
theorem comeM_prefix {α : Type} (st : Nat → Bool) (xs : List α) : ∀ (m k : Nat), k + m = xs.length → ∀ j, j ≤ k → comeM st xs k <+: comeM st xs j := by
  intro m k hk j hj
  induction k generalizing m with
  | zero => obtain rfl : j = 0 := by omega
            exact List.prefix_refl _
  | succ k ih =>
    by_cases h : j = k + 1
    · subst h; exact List.prefix_refl _
    · have h1 : comeM st xs (k + 1) <+: comeM st xs k := by rw [comeM_step st xs k (by omega)]; exact List.prefix_append _ _
      exact h1.trans (ih (m + 1) (by omega) (by omega))

/-- a write to a sector that is there, of n -/
abbrev Wr (n : Nat) := { x : Int × List Int // thereB n x.1 = true ∧ x.2.length = 64 }
theorem wr_of {n : Nat} : ∀ {l : List (Int × List Int)}, looseB n l = true → (∀ x ∈ l, x.2.length = 64) → ∃ xs : List (Wr n), xs.map Subtype.val = l
  | [], _, _ => ⟨[], rfl⟩
  | x :: r, h, hl => by
    have h' : thereB n x.1 = true ∧ looseB n r = true := by simpa [looseB] using h
    obtain ⟨xs, hx⟩ := wr_of h'.2 (fun y hy => hl y (by simp [hy]))
    exact ⟨⟨x, h'.1, hl x (by simp)⟩ :: xs, by simp [hx]⟩

/-- a function value that says which writes stay -/
def Stays (F : Fence) (n : Nat) (S : Nat → Prop) (gst : Nat) (cap : Array Value) (w : World) (st : Nat → Bool) : Prop :=
  F.fn gst ∧ (∀ (args : Array Value) (w : World), (callFunc gst args).run Tryd.prog w = .ok (.enter gst args) w) ∧ ∀ (i : Nat) (W : World), i < 1000000 → Keeps S w W → CallsIn F n Tryd.prog gst (#[.int .i64 (i : Int)] ++ cap) W fun e W' => e = .returned (.bool (st i)) ∧ W = W'

set_option maxRecDepth 20000 in
set_option maxHeartbeats 400000 in
theorem every_in (F : Fence) (n : Nat) (hF : F.fn 48) (hro : F.round = none) (i : Int) (w : World) :
    CallsIn F n Tryd.prog 48 #[.int .i64 i] w fun e w' => e = .returned (.bool true) ∧ w = w' := by
  refine callsIn_of_wp Tryd.func48 rfl hF ?_ hro
  simp only [Tryd.ntmps48, List.size_toArray, List.length_cons, List.length_nil, Nat.reduceAdd, Nat.reduceSub, Array.replicate_succ, Array.replicate_zero, List.push_toArray, List.append_toArray, List.nil_append, List.cons_append]
  gi_wp2
  go_ret
  exact ⟨rfl, rfl⟩
theorem every_stays (n : Nat) (S : Nat → Prop) (w : World) : Stays Fence.wide n S 48 #[] w (fun _ => true) :=
  ⟨trivial, enters_of Tryd.func48 (by kernel_rfl) rfl, fun i W _ _ => every_in _ _ trivial rfl i W⟩

set_option maxRecDepth 20000 in
set_option maxHeartbeats 400000 in
/-- fromLast: both arguments are boxed, and captured -/
theorem fromLast_in (F : Fence) (n : Nat) (hF : F.fn 55) (hro : F.round = none) (A : Option Addr) (len cp : Nat) (g : Nat) (cap : Array Value) (w : World) :
    CallsIn F n Tryd.prog 55 #[.slice A len cp, .func (.func g) #[] cap] w fun e w' => e = .returned (.func (.func 60) #[] #[.pointer (some ⟨w.heap.size, 0, none⟩), .pointer (some ⟨w.heap.size + 1, 0, none⟩)]) ∧
      w' = (w.alloc (.cells #[.slice A len cp] 26)).alloc (.cells #[.func (.func g) #[] cap] 74) := by
  refine callsIn_of_wp Tryd.func55 rfl hF ?_ hro
  simp only [Tryd.ntmps55, List.size_toArray, List.length_cons, List.length_nil, Nat.reduceAdd, Nat.reduceSub, Array.replicate_succ, Array.replicate_zero, List.push_toArray, List.append_toArray, List.nil_append, List.cons_append]
  gi_wp2
  go_ret
  exact ⟨rfl, rfl⟩

set_option maxRecDepth 100000 in
set_option maxHeartbeats 2000000 in
/-- the closure of fromLast: for every loop body that keeps what lay below n₀ -/
theorem last1_in {α : Type} (val : α → Int × List Int) (F : Fence) (n : Nat) (hF : F.fn 60) (hro : F.round = none) (hn : 1 ≤ n) (l Bs Bf n₀ : Nat) (S : Nat → Prop) (A : Option Addr) (len cp g : Nat) (cap : Array Value) (xs : List α) (st : Nat → Bool)
    (hlen : len ≤ 100001) (hxl : xs.length = len) (J Jx : List α → World → Prop)
    (hY : ∀ pre x W, J pre W → pre.length < len → YieldAt F (n - 1) Tryd.prog l #[.agg (wrv (val x)).toArray] W fun e W' =>
      (e = .returned (.bool true) ∧ J (pre ++ [x]) W' ∧ Keeps S W W') ∨ (e = .returned (.bool false) ∧ Jx (pre ++ [x]) W'))
    (W : World) (hBs : W.cell? ⟨Bs, 0, none⟩ = some (.slice A len cp)) (hBf : W.cell? ⟨Bf, 0, none⟩ = some (.func (.func g) #[] cap)) (hs0 : S Bs) (hf0 : S Bf) (hSn : ∀ b, b < n₀ → S b)
    (hA : Arr W n₀ 65 A len (xs.map fun x => wrv (val x))) (hSt : Stays F (n - 1) S g cap W st) (h0 : J [] W) :
    CallsIn F n Tryd.prog 60 #[.func (.yield l) #[] #[], .pointer (some ⟨Bs, 0, none⟩), .pointer (some ⟨Bf, 0, none⟩)] W fun e W' => (∃ v, e = .returned v) ∧
      ((∃ ys, ys = comeM st xs 0 ∧ J ys W') ∨ (∃ pre, pre <+: comeM st xs 0 ∧ Jx pre W')) := by
  have hrow : ∀ (k : Nat) (hk : k < xs.length), (wrv (val xs[k])).length = 65 := fun k hk => hA.2.1 _ (List.mem_map.2 ⟨_, List.getElem_mem hk, rfl⟩)
  refine callsIn_of_wp Tryd.func60 rfl hF ?_ hro
  simp only [Tryd.ntmps60, List.size_toArray, List.length_cons, List.length_nil, Nat.reduceAdd, Nat.reduceSub, Array.replicate_succ, Array.replicate_zero, List.push_toArray, List.append_toArray, List.nil_append, List.cons_append]
  gi_wp2
  gi_loopw [4] (fun i wr => ∃ k : Nat, k ≤ len ∧ i = .int .i64 ((k : Int) - 1) ∧ J (comeM st xs k) wr ∧ Keeps S W wr)
    (fun i _ => (intOf i + 1).toNat)
  case atStart => exact ⟨len, Nat.le_refl _, rfl, by rw [← hxl, comeM_all]; exact h0, Keeps.refl _ _⟩
  case round =>
    obtain ⟨k, hk, rfl, hJs, hnx⟩ := hrel
    have hBs' := (hnx.cell (p := ⟨Bs, 0, none⟩) hs0).trans hBs
    have hBf' := (hnx.cell (p := ⟨Bf, 0, none⟩) hf0).trans hBf
    cases k with
    | zero =>
      have e0 : ((0 : Nat) : Int) - 1 = -1 := by omega
      rw [e0]
      gi_wp2
      go_end0
      exact ⟨⟨_, rfl⟩, .inl ⟨_, rfl, hJs⟩⟩
    | succ k =>
      have e1 : ((k + 1 : Nat) : Int) - 1 = (k : Int) := by omega
      rw [e1]
      obtain ⟨bA, oA, rfl, hbA, hrA⟩ := hA.at_ (i := k) (by omega)
      have hkl : k < xs.length := by omega
      have hrA' : wr.rangeAt bA (oA + k * 65) (wrv (val xs[k])) := by
        have := rangeAt_keep hrA (w' := wr) (fun p hp => hnx.cell (by rw [hp]; exact hSn _ hbA))
        simpa [hkl] using this
      have HrA := Lib.hid hrA'
      clear hrA hrA' hA
      have hwl : (wrv (val xs[k])).length = 65 := hrow k hkl
      have hki : (k : Int) < (len : Int) := by omega
      obtain ⟨hg, eg, hSt'⟩ := hSt
      have hcall := Lib.hid (hSt' k wr (by omega) hnx)
      clear hSt'
      by_cases hs : st k = true
      · gi_wp2_with fail
        refine hcall.out.mono ?_
        rintro e w' ⟨rfl, rfl⟩
        gi_wp2_with ((with_reducible show wpListIn _ _ _ _ _ (⟨some 20, _, _, _, _, _⟩ :: _) _ _); refine hold ?_)
        obtain ⟨fn, tmps, assign, body, hy, hR⟩ := hY _ xs[k] wr hJs (by have := comeM_length st xs (k + 1); omega)
        have HR := Lib.hid hR
        clear hR
        refine held (wpListIn_load_mid (by simp [Region.wanted, yielded]) 77 (.tmp 19) rfl bA (oA + k * 65) rfl (wrv (val xs[k])) (.struct (Tryd.prog.fieldsOf 77)) HrA.out Tryd.underlying77 rfl (by rw [hwl]; kernel_rfl) ?_)
        gi_wp2
        refine HR.out.mono ?_
        have hcm : comeM st xs k = comeM st xs (k + 1) ++ [xs[k]] := by rw [comeM_step st xs k hkl, if_pos hs]
        have Hcm := Lib.hid hcm
        clear hcm
        rintro e W3 (⟨rfl, hJ3, hk3⟩ | ⟨rfl, hJx3⟩)
        · gi_wp2
          go_roundw
          case rel => exact ⟨k, by omega, by simp, by rw [Hcm.out]; exact hJ3, hnx.trans hk3⟩
          case measure => simp [intOf]
        · gi_wp2
          refine bodyPost_ret (results_none rfl _ _ _) rfl ?_
          exact ⟨⟨_, rfl⟩, .inr ⟨_, by rw [← Hcm.out]; exact comeM_prefix st xs (xs.length - k) k (by omega) 0 (by omega), hJx3⟩⟩
      · have hs' : st k = false := by simpa using hs
        have hcm : comeM st xs k = comeM st xs (k + 1) := by rw [comeM_step st xs k hkl, if_neg hs]; simp
        have Hcm := Lib.hid hcm
        clear hcm hs
        gi_wp2_with fail
        refine hcall.out.mono ?_
        rintro e w' ⟨rfl, rfl⟩
        gi_wp2
        refine ⟨fun _ h => (by cases h), ?_⟩
        gi_wp2
        go_roundw
        case rel => exact ⟨k, by omega, by simp, by rw [Hcm.out]; exact hJs, hnx⟩
        case measure => simp [intOf]
/-- fromLast hands back an iterator: all that stay, the last one first; or a part of them, where the loop is left -/
theorem fromLast_stops {α : Type} (val : α → Int × List Int) (F : Fence) (n : Nat) (hF : F.fn 60) (hro : F.round = none) (hn : 1 ≤ n) (Bs Bf n₀ : Nat) (S : Nat → Prop) (A : Option Addr) (len cp g : Nat) (cap : Array Value) (xs : List α) (st : Nat → Bool)
    (hlen : len ≤ 100001) (w : World) (hBs : w.cell? ⟨Bs, 0, none⟩ = some (.slice A len cp)) (hBf : w.cell? ⟨Bf, 0, none⟩ = some (.func (.func g) #[] cap)) (hs0 : S Bs) (hf0 : S Bf) (hSn : ∀ b, b < n₀ → S b) (hSw : ∀ b, S b → b < w.heap.size)
    (hA : Arr w n₀ 65 A len (xs.map fun x => wrv (val x))) (hSt : Stays F (n - 1) S g cap w st) :
    SeqStopsK F n Tryd.prog 60 #[.pointer (some ⟨Bs, 0, none⟩), .pointer (some ⟨Bf, 0, none⟩)] (fun x : α => #[.agg (wrv (val x)).toArray]) (Keeps S) (fun ys => ys = comeM st xs 0) (fun pre => pre <+: comeM st xs 0) len w :=
  fun l J Jx W hW _ _ hY h0 => by
    have hK : Keeps S w W := Keeps.of_below hW hSw
    exact last1_in val F n hF hro hn l Bs Bf n₀ S A len cp g cap xs st hlen (by simpa using hA.1) J Jx hY W ((hK.cell (p := ⟨Bs, 0, none⟩) hs0).trans hBs) ((hK.cell (p := ⟨Bf, 0, none⟩) hf0).trans hBf) hs0 hf0 hSn
      (hA.keep fun p hp => hK.cell (hSn _ hp)) ⟨hSt.1, hSt.2.1, fun i W' hi hW' => hSt.2.2 i W' hi (hK.trans hW')⟩ h0
end Go.Proofs.YtofbpkaebngnlaaDoor

/-
  A law on append for the proofs over package sector: rows of many cells behind an empty slice of one's own; and what slices.Clone answers of any slice of sectors.
-/
namespace Go.Proofs.YtofbpkaebngnlaaDoor
set_option linter.unusedVariables false
set_option linter.unusedSimpArgs false
open Go.RowKit

/-- the slice value v holds the rows xs in a block of one's own, from base on, that may be written; or there are none -/
def RowsOut (w : World) (base : Nat) (e : TypeId) (k : Nat) (v : Value) (n : Nat) (xs : List (List Value)) : Prop :=
  ∃ A c, v = .slice A n c ∧ n ≤ c ∧ c ≤ maxLen ∧ xs.length = n ∧ (∀ x ∈ xs, x.length = k) ∧
    (0 < n → ∃ g cs, A = some ⟨g, 0, none⟩ ∧ base ≤ g ∧ Bk w g e cs ∧ n * k ≤ cs.size ∧ ∀ (j : Nat) (u : Value), xs.flatten[j]? = some u → cs[j]? = some u)

theorem RowsOut.arr {w : World} {base k n : Nat} {e : TypeId} {v : Value} {xs : List (List Value)} (h : RowsOut w base e k v n xs) :
    ∃ A c, v = .slice A n c ∧ n ≤ c ∧ c ≤ maxLen ∧ Arr w w.heap.size k A n xs := by
  obtain ⟨A, c, rfl, h1, h2, h3, h4, h5⟩ := h
  refine ⟨A, c, rfl, h1, h2, h3, h4, fun hn => ?_⟩
  obtain ⟨g, cs, rfl, _, hB, _, hc⟩ := h5 hn
  exact (Arr.of_bk hB h3 h4 hc w.heap.size hB.lt).2.2 hn

theorem RowsOut.box {w : World} {base k n : Nat} {e : TypeId} {v : Value} {xs : List (List Value)} (h : RowsOut w base e k v n xs) {p : Addr} (hp : p.block < base) (u : Value) : RowsOut (w.setCell p u) base e k v n xs := by
  obtain ⟨A, c, rfl, h1, h2, h3, h4, h5⟩ := h
  exact ⟨A, c, rfl, h1, h2, h3, h4, fun hn => by
    obtain ⟨g, cs, e1, e2, e3, e4⟩ := h5 hn
    exact ⟨g, cs, e1, e2, e3.far (by omega) _, e4⟩⟩
theorem RowsOut.below {w w' : World} {base k n : Nat} {e : TypeId} {v : Value} {xs : List (List Value)} (h : RowsOut w base e k v n xs) (hb : Below w.heap.size w w') : RowsOut w' base e k v n xs := by
  obtain ⟨A, c, rfl, h1, h2, h3, h4, h5⟩ := h
  exact ⟨A, c, rfl, h1, h2, h3, h4, fun hn => by
    obtain ⟨g, cs, e1, e2, e3, e4⟩ := h5 hn
    exact ⟨g, cs, e1, e2, e3.below hb e3.lt, e4⟩⟩

section
variable {P : Program}

theorem run_append_nil_rows (w : World) (t ty e : TypeId) (i : TypeInfo) (ht : P.underlying t = some (.slice e)) (hi : P.info? e = some i) (g : Nat) (cur : Array Value) (_hB : Bk w g e cur) (c : Nat) :
    (Builtin.append_ #[t, t] ty #[.slice (some ⟨g, 0, none⟩) 0 0, .slice none 0 c]).run P w = .ok (.slice (some ⟨g, 0, none⟩) 0 0) w := by
  simp [Builtin.append_, run_underlying ht, sizeOf, typeInfo, hi, Builtin.lenOf, Builtin.firstCells, storeCells]

/-- append(T{}, xs...) -/
theorem run_append_rows (w : World) (t ty e : TypeId) (z : Value) (k bytes : Nat) (ht : P.underlying t = some (.slice e)) (he : (P.info? e).map (fun i => (i.zero, i.size, i.bytes)) = some (some z, k, bytes))
    (hzs : z.cells.size = k) (hk : 0 < k) (hby : bytes ≤ 1000) (g : Nat) (hB : Bk w g e #[])
    (B : Nat) (A : Option Addr) (n c : Nat) (xs : List (List Value)) (hA : Arr w B k A n xs) (h1 : ∀ x ∈ xs, ∀ v ∈ x, v.oneCell' = true) (hn : n ≤ 1000000) :
    ∃ v' w', (Builtin.append_ #[t, t] ty #[.slice (some ⟨g, 0, none⟩) 0 0, .slice A n c]).run P w = .ok v' w' ∧ RowsOut w' g e k v' n xs ∧ w.grownBy w' (some g) := by
  obtain ⟨i, hi, hz, hs, hb⟩ := info_parts he
  have hg : g ≤ w.heap.size := Nat.le_of_lt hB.lt
  cases A with
  | none =>
    have hn0 : n = 0 := by
      rcases Nat.eq_zero_or_pos n with h | h
      · exact h
      · obtain ⟨b, o, h', _⟩ := hA.2.2 h; cases h'
    subst hn0
    exact ⟨_, w, run_append_nil_rows w t ty e i ht hi g #[] hB c, ⟨_, 0, rfl, Nat.le_refl _, by unfold maxLen; omega, hA.1, hA.2.1, fun h => absurd h (by omega)⟩, World.grownBy.refl w _⟩
  | some ad =>
    have hown : w.ownsRow g e k (.slice (some ⟨g, 0, none⟩) 0 0) 0 [] := ⟨by simp, .inr ⟨g, 0, #[], rfl, Nat.le_refl _, hB, Nat.le_refl _, by unfold maxLen; omega, by simp, by simp⟩⟩
    have hl : xs.flatten.length = n * k := Arr.flat_length hA
    have hnews : ∀ (j : Nat) (u : Value), xs.flatten[j]? = some u → w.cell? (ad.add j) = some u := by
      intro j u hu
      rcases Nat.eq_zero_or_pos n with h | h
      · have : j < xs.flatten.length := (List.getElem?_eq_some_iff.1 hu).1
        rw [hl, h] at this
        omega
      · obtain ⟨b, o, h', _, hc⟩ := hA.2.2 h
        injection h' with h'
        subst h'
        rw [Addr.add_mid]
        exact Arr.flat hA.2.1 hc j u hu
    have h1' : ∀ u ∈ xs.flatten, u.oneCell' = true := by
      intro v hv
      obtain ⟨x, hx, hvx⟩ := List.mem_flatten.1 hv
      exact h1 x hx v hvx
    have hbb : (0 + n) * bytes ≤ 140737488355328 := by
      have := Nat.mul_le_mul (show 0 + n ≤ 1000000 by omega) hby
      omega
    obtain ⟨v', w', hrun, ho, hgr, _, hob⟩ := run_append_own_at (P := P) w g t ty e i z k bytes ht hi hz hs hb hzs hk (.slice (some ⟨g, 0, none⟩) 0 0) 0 [] hown ad n c xs.flatten hl hnews h1' (by unfold maxLen; omega) hbb hg
    refine ⟨v', w', hrun, ?_, hgr⟩
    rw [Nat.zero_add, List.nil_append] at ho
    rcases ho.2 with ⟨rfl, h0⟩ | ⟨g', cap, cur, rfl, hgg, hh, hnc, hcm, hcs, htk⟩
    · subst h0
      exact ⟨none, 0, rfl, Nat.le_refl _, by unfold maxLen; omega, hA.1, hA.2.1, fun h => absurd h (by omega)⟩
    · refine ⟨_, cap, rfl, hnc, hcm, hA.1, hA.2.1, fun _ => ⟨g', cur, rfl, hgg, hh, ?_, fun j u hu => ?_⟩⟩
      · rw [hcs]; exact Nat.mul_le_mul_right k hnc
      · rw [← htk, List.getElem?_take] at hu
        split at hu
        · simpa using hu
        · cases hu

theorem wpList_append_rows {ops : Array Oper} {rest : List Oper} {o : Oper} {a : Act} {w : World} {Q : Exit → Act → World → Prop} (hgd : o.guard = none) (s x : Operand) (t : TypeId)
    (ho : o.op = .call { callee := .builtin .append, args := #[s, x], argTypes := #[t, t] }) (e : TypeId) (z : Value) (k bytes : Nat) (ht : P.underlying t = some (.slice e))
    (he : (P.info? e).map (fun i => (i.zero, i.size, i.bytes)) = some (some z, k, bytes))
    (hzs : z.cells.size = k) (hk : 0 < k) (hby : bytes ≤ 1000) (g : Nat) (hs : a.eval s = .slice (some ⟨g, 0, none⟩) 0 0) (hB : Bk w g e #[])
    (B : Nat) (A : Option Addr) (n c : Nat) (xs : List (List Value)) (hx : a.eval x = .slice A n c) (hA : Arr w B k A n xs) (h1 : ∀ x ∈ xs, ∀ v ∈ x, v.oneCell' = true) (hn : n ≤ 1000000)
    (h : ∀ v' w', RowsOut w' g e k v' n xs → w.grownBy w' (some g) → wpList P ops Q rest (a.put o.dst v') w') : wpList P ops Q (o :: rest) a w :=
  wpList_plain hgd fun _ hK => by
    obtain ⟨v', w', hrun, h2, h3⟩ := run_append_rows (P := P) w t o.type e z k bytes ht he hzs hk hby g hB B A n c xs hA h1 hn
    refine wp_value (v := v') (w' := w') ?_ (hK _ _ (h v' w' h2 h3))
    unfold execOp
    simp only [ho]
    simp [resolve, invoke, builtin, hs, hx, hrun]
end

theorem info_sec : (Tryd.prog.info? 58).map (fun i => (i.zero, i.size, i.bytes)) = some (some (.agg (Array.replicate 64 (.int .u8 0))), 64, 64) := by kernel_rfl

set_option maxRecDepth 20000 in
set_option maxHeartbeats 400000 in
/-- slices.Clone of sectors -/
theorem clone_any (A : Option Addr) (n c : Nat) (xs : List (List Int)) (w : World) (hn : n ≤ 1000000) (hA : Arr w w.heap.size 64 A n (xs.map secv)) :
    Calls Tryd.prog 54 #[.slice A n c] w fun e w' => ∃ v', e = .returned v' ∧ RowsOut w' w.heap.size 58 64 v' n (xs.map secv) ∧ Below w.heap.size w w' := by
  cases A with
  | none =>
    have hn0 : n = 0 := by
      rcases Nat.eq_zero_or_pos n with h | h
      · exact h
      · obtain ⟨b, o, h', _⟩ := hA.2.2 h; cases h'
    subst hn0
    have heq := fun W => Lib.run_eql_slice_nil (P := Tryd.prog) W 25 58 none 0 c 0 0 Tryd.underlying25
    go_enter Tryd.func54, Tryd.ntmps54
    go_wp2
    go_ret
    exact ⟨_, rfl, ⟨_, 0, rfl, Nat.le_refl _, by simp, hA.1, hA.2.1, fun h => absurd h (by omega)⟩, Below.refl _ _⟩
  | some ad =>
    have heq := fun W => Lib.run_eql_slice_nil (P := Tryd.prog) W 25 58 (some ad) n c 0 0 Tryd.underlying25
    have HA := Lib.hid hA
    clear hA
    go_enter Tryd.func54, Tryd.ntmps54
    go_wp2_with ((with_reducible show wpList _ _ _ (⟨some 7, _, _, _, _, _⟩ :: _) _ _); refine hold ?_)
    refine held (wpList_append_rows rfl (.tmp 5) (.tmp 6) 25 rfl 58 (.agg (Array.replicate 64 (.int .u8 0))) 64 64 Tryd.underlying25 info_sec (by simp [Value.cells]) (by omega) (by omega) w.heap.size rfl (Bk.new _ _ _) w.heap.size (some ad) n c (xs.map secv) rfl
      (HA.out.below ((Below.refl w.heap.size w).alloc (Nat.le_refl _) _) (Nat.le_refl _)) (fun x hx => by obtain ⟨y, _, rfl⟩ := List.mem_map.1 hx; exact secv_one y) hn ?_)
    intro v' w' hR hg
    have hb : Below w.heap.size w w' := ((Below.refl w.heap.size w).alloc (Nat.le_refl _) _).grown hg (by simp) (fun k e => by cases e; exact Nat.le_refl _)
    go_wp2
    go_ret
    exact ⟨v', rfl, hR, hb⟩
end Go.Proofs.YtofbpkaebngnlaaDoor

/-
  A walk over package sector: what settled answers, of any disk that may be and any function that says which writes stay: new sectors, with those loose writes done, in order, that stay. It leaves all older memory as it was.
-/
namespace Go.Proofs.YtofbpkaebngnlaaDoor
set_option linter.unusedVariables false
set_option linter.unusedSimpArgs false
open Go.RowKit Go.Shelf

attribute [local go_sem] Oper.semAt_some

set_option maxRecDepth 100000 in
set_option maxHeartbeats 2000000 in
theorem settled_any (v : Value) (d : Dk) (g : Nat) (cap : Array Value) (st : Nat → Bool) (w : World) (hd : DkAt w w.heap.size v d) (hr : rightB d = true)
    (hSt : ∀ (S : Nat → Prop) (m : Nat) (W : World), Below w.heap.size w W → (∀ b, b < w.heap.size → S b) → Stays Fence.wide m S g cap W st) :
    Calls Tryd.prog 47 #[v, .func (.func g) #[] cap] w fun e w' => ∃ v', e = .returned v' ∧ RowsOut w' w.heap.size 58 64 v' d.secs.length ((rowsM d.secs (comeM st d.loose 0)).map secv) ∧ Below w.heap.size w w' := by
  obtain ⟨A, n, c, A', n', c', rfl, hnc, hnc', hc, hc', hS, hL⟩ := hd
  have hn : d.secs.length = n := by have := hS.1; simpa using this
  have hn' : d.loose.length = n' := by have := hL.1; simpa using this
  rw [hn]
  have hR : n ≤ 4096 ∧ n' ≤ 100000 ∧ looseB n d.loose = true := by
    unfold rightB at hr
    simp only [Bool.and_eq_true, decide_eq_true_eq, hn, hn'] at hr
    exact ⟨hr.1.1.1, hr.1.1.2, hr.2⟩
  obtain ⟨h4096, h100, hlo⟩ := hR
  obtain ⟨xs, hxs⟩ := wr_of (n := n) hlo (fun x hx => by have := hL.2.1 (wrv x) (List.mem_map.2 ⟨x, hx, rfl⟩); simpa [wrv_length] using this)
  have HN := Lib.hid hn; have HN' := Lib.hid hn'; have HX := Lib.hid hxs; have HLO := Lib.hid hlo; clear hn hn' hxs hlo
  have HS := Lib.hid hS; have HL := Lib.hid hL; clear hS hL
  have HST := Lib.hid hSt; clear hSt
  refine (callsIn_wide (n := 3)).1 ?_
  refine callsIn_of_wp_marks Tryd.func47 rfl trivial ?_ rfl
  simp only [Tryd.ntmps47, List.size_toArray, List.length_cons, List.length_nil, Nat.reduceAdd, Nat.reduceSub, Array.replicate_succ, Array.replicate_zero, List.push_toArray, List.append_toArray, List.nil_append, List.cons_append]
  have hmk := fun W => run_make_bools (P := Tryd.prog) (t := 99) (e := 4) Tryd.underlying99 (by kernel_rfl) n (by omega) W
  gi_wp2_with fail
  refine ⟨trivial, (callsIn_wide.2 (clone_any A n c d.secs _ (by omega) ?_)).mono ?_⟩
  · exact (HS.out.below ((Below.refl w.heap.size w).alloc (Nat.le_refl _) _) (Nat.le_refl _)).more (by simp)
  rintro e w1 ⟨v1, rfl, hR1, hb1⟩
  obtain ⟨A1, c1, hv1, hnc1, hc1, _, _, hrow1⟩ := hR1
  rw [hv1]
  clear hv1
  have HROW1 := Lib.hid hrow1
  clear hrow1
  have B0 : Bk w1 w.heap.size 28 #[.slice A n c, .slice A' n' c', .int .i64 d.fuse, .bool d.down] := Bk.below (by exact Bk.new _ _ _) hb1 (by simp only [World.size_alloc]; omega)
  have hb : Below w.heap.size w w1 := ((Below.refl _ _).alloc (Nat.le_refl _) _).trans (hb1.mono (by simp only [World.size_alloc]; omega))
  have hl0 : w.heap.size < w1.heap.size := B0.lt
  have hl1 : w.heap.size < w1.heap.size + 1 := by omega
  have hl2 : w.heap.size < w1.heap.size + 1 + 1 := by omega
  have hl3 : w.heap.size < w1.heap.size + 1 + 1 + 1 := by omega
  obtain ⟨⟨p0, p1, p2, p3⟩, q0, q1, q2, q3⟩ := B0.four
  have HB0 := Lib.hid B0
  clear B0
  gi_wp2_with fail
  refine ⟨trivial, (fromLast_in Fence.wide 2 trivial rfl A' n' c' g cap _).mono ?_⟩
  rintro e w' ⟨rfl, rfl⟩
  gi_wp2_with fail
  obtain ⟨g1, hg1, hg1l, hg1n, hROW⟩ : ∃ g1, w.heap.size ≤ g1 ∧ g1 < w1.heap.size + 2 ∧ g1 ≠ w1.heap.size ∧ Hid (0 < n → g1 < w1.heap.size ∧ A1 = some ⟨g1, 0, none⟩ ∧ ∃ cs, Bk w1 g1 58 cs ∧ n * 64 ≤ cs.size ∧ ∀ (j : Nat) (u : Value), (d.secs.map secv).flatten[j]? = some u → cs[j]? = some u) := by
    by_cases h0 : 0 < n
    · obtain ⟨g1, cs, e1, e2, e3, e4, e5⟩ := HROW1.out h0
      have := e3.lt
      simp only [World.size_alloc] at e2
      exact ⟨g1, by omega, by omega, by omega, fun _ => ⟨by omega, e1, cs, e3, e4, e5⟩⟩
    · exact ⟨w1.heap.size + 1, by omega, by omega, by omega, fun h => absurd h h0⟩
  refine wpIn_over (fun W => (Bk W w1.heap.size 25 #[.slice A1 n c1] ∧ Bk W (w1.heap.size + 1) 4 (flagsM n []).toArray ∧ Bk W (w1.heap.size + 1 + 1) 99 #[.slice (some ⟨w1.heap.size + 1, 0, none⟩) n n] ∧
      Bk W (w1.heap.size + 1 + 1 + 1) 26 #[.slice A' n' c'] ∧ Bk W (w1.heap.size + 1 + 1 + 1 + 1) 74 #[.func (.func g) #[] cap]) ∧
      W.heap.size = w1.heap.size + 5 ∧ Below w.heap.size w W ∧ Below w1.heap.size w1 W) ?hF ?hw
  case hF =>
    refine ⟨⟨((((Bk.new _ _ _).alloc _).alloc _).alloc _).alloc _, ?_, ((Bk.new3 _ _ _ _ _).alloc _).alloc _, (Bk.new4 _ _ _ _ _ _).alloc _, ?_⟩, by simp, ?_, ?_⟩
    · rw [flagsM_nil, List.toArray_replicate]
      exact (((Bk.new2 _ _ _ _).alloc _).alloc _).alloc _
    · exact Bk.new' _ _ _ _ (by simp)
    · repeat (first | with_reducible exact hb | (refine Below.alloc ?_ (by first | omega | (simp; done) | (simp; omega)) _))
    · repeat (first | with_reducible exact Below.refl _ _ | (refine Below.alloc ?_ (by first | omega | (simp; done) | (simp; omega)) _))
  case hw =>
    clear hmk p0 p1 p2 p3 q0 q1 q2 q3 HB0 HROW1 hb1
    rintro W0 ⟨⟨K0, K1, K2, K3, K4⟩, hsz, hbw, hbw1⟩
    have hS0 : (fun b => b < w1.heap.size + 5 ∧ b ≠ g1 ∧ b ≠ w1.heap.size + 1) (w1.heap.size + 1 + 1 + 1) := ⟨by omega, by omega, by omega⟩
    have hS1 : (fun b => b < w1.heap.size + 5 ∧ b ≠ g1 ∧ b ≠ w1.heap.size + 1) (w1.heap.size + 1 + 1 + 1 + 1) := ⟨by omega, by omega, by omega⟩
    have hSn : ∀ b, b < w.heap.size → (fun b => b < w1.heap.size + 5 ∧ b ≠ g1 ∧ b ≠ w1.heap.size + 1) b := fun b hb => ⟨by omega, by omega, by omega⟩
    have hSw : ∀ b, (fun b => b < w1.heap.size + 5 ∧ b ≠ g1 ∧ b ≠ w1.heap.size + 1) b → b < W0.heap.size := fun b hb => by rw [hsz]; exact hb.1
    obtain ⟨S, hSd⟩ : ∃ S : Nat → Prop, S = fun b => b < w1.heap.size + 5 ∧ b ≠ g1 ∧ b ≠ w1.heap.size + 1 := ⟨_, rfl⟩
    rw [← hSd] at hS0 hS1 hSn hSw
    have hng : ¬ S g1 := by rw [hSd]; exact fun h => h.2.1 rfl
    have hnf : ¬ S (w1.heap.size + 1) := by rw [hSd]; exact fun h => h.2.2 rfl
    have hs5 : S w1.heap.size := by rw [hSd]; exact ⟨by omega, by omega, by omega⟩
    have hs7 : S (w1.heap.size + 1 + 1) := by rw [hSd]; exact ⟨by omega, by omega, by omega⟩
    clear hSd
    refine wpIn_rangeFunc_ownH (α := Wr n) rfl (by omega) (gf := 60) (lb := #[.pointer (some ⟨w1.heap.size + 1 + 1 + 1, 0, none⟩), .pointer (some ⟨w1.heap.size + 1 + 1 + 1 + 1, 0, none⟩)]) rfl trivial
      (enters_of Tryd.func60 (by kernel_rfl) rfl)
      (fromLast_stops (α := Wr n) Subtype.val Fence.wide 2 trivial rfl (by omega) (w1.heap.size + 1 + 1 + 1) (w1.heap.size + 1 + 1 + 1 + 1) w.heap.size S A' n' c' g cap xs st (by omega) W0 (K3.cell 0) (K4.cell 0) hS0 hS1 hSn hSw ?hA ?hSt)
      Keeps.trans (keeps_putObj hSw) (Below.refl _ _) (fun _ => rfl)
      (fun pre W => (0 < n → ∃ cs, Bk W g1 58 cs ∧ n * 64 ≤ cs.size ∧ ∀ (j : Nat) (u : Value), ((rowsM d.secs (pre.map Subtype.val)).map secv).flatten[j]? = some u → cs[j]? = some u) ∧ Bk W (w1.heap.size + 1) 4 (flagsM n (pre.map Subtype.val)).toArray ∧ Keeps S W0 W)
      (fun _ _ _ => False) ?hI (fun c s A B row h _ _ => h) ?h0
      (fun x a' W => ∃ Bx, W0.heap.size ≤ Bx ∧ Bk W Bx 77 (wrv x.val).toArray ∧ a' = { tmps := #[.agg #[.slice A n c, .slice A' n' c', .int .i64 d.fuse, .bool d.down], .func (.func g) #[] cap, .pointer (some ⟨w.heap.size, 0, none⟩), undef, .slice none 0 0, .pointer (some ⟨w1.heap.size, 0, none⟩), .pointer (some ⟨w1.heap.size + 1 + 1, 0, none⟩), .pointer (some ⟨Bx, 0, none⟩), .pointer (some ⟨w.heap.size, 0, none⟩), .slice A n c, .slice A1 n c1, .slice A1 n c1, .int .i64 n, .slice (some ⟨w1.heap.size + 1, 0, none⟩) n n, .pointer (some ⟨w.heap.size, 1, none⟩), .slice A' n' c', .func (.func g) #[] cap, .func (.func 60) #[] #[.pointer (some ⟨w1.heap.size + 1 + 1 + 1, 0, none⟩), .pointer (some ⟨w1.heap.size + 1 + 1 + 1 + 1, 0, none⟩)], .agg (wrv x.val).toArray, undef, undef, undef, undef, undef, undef, undef, undef, undef, undef, undef, undef, undef, undef, undef, undef, undef], defers := [] })
      (fun x a' _ A B row h hg hr => by obtain ⟨Bx, h1, h2, h3⟩ := h; exact ⟨Bx, h1, h2.kept hg (fun r e => (hr r e).2), h3⟩) ?assign ?body ?done ?stop
    case hA =>
      have := HL.out.below hbw (Nat.le_refl _)
      rw [← HX.out, List.map_map] at this
      exact this
    case hSt => exact HST.out S _ W0 hbw hSn
    case hI =>
      intro s A B row ⟨h1, h2, h3⟩ hg hr
      exact ⟨fun h => by obtain ⟨cs, k1, k2, k3⟩ := h1 h; exact ⟨cs, k1.kept hg (fun r e => (hr r e).2), k2, k3⟩, h2.kept hg (fun r e => (hr r e).2), keeps_from hSw (Nat.le_refl _) s A B row h3 hg hr⟩
    case h0 =>
      refine ⟨fun h => ?_, K1, Keeps.refl _ _⟩
      obtain ⟨e1, _, cs, e2, e3, e4⟩ := hROW.out h
      exact ⟨cs, e2.below hbw1 e1, e3, by rw [List.map_nil, rowsM_nil]; exact e4⟩
    case assign =>
      intro l pre x W K hI hK
      gi_wp2_with ((with_reducible show wpListIn _ _ _ _ _ (⟨_, .alloc _, _, _, _, _⟩ :: _) _ _); refine hold ?_)
      refine held (wpListIn_alloc_to (by simp [Region.wanted]) 77 rfl (wrv (0, zsec)).toArray (by kernel_rfl) ?_)
      gi_wp2_with ((with_reducible show wpListIn _ _ _ _ _ (⟨_, .store 77 _ _, _, _, _, _⟩ :: _) _ _); refine hold ?_)
      have hwl : (wrv x.val).length = 65 := by rw [wrv_length, x.2.2]
      refine held (wpListIn_store_wide (by simp [Region.wanted]) 77 (.tmp 7) (.tmp 18) rfl W.heap.size 0 (wrv x.val).toArray rfl rfl 77 _ (Bk.new _ _ _) (by simp [hwl, wrv_length, zsec]) (by simp only [List.size_toArray, hwl]; kernel_rfl) (by simpa using wrv_one x.val) ?_)
      intro w' hw'
      have e1 : w' = W.alloc (.cells (wrv x.val).toArray 77) := by
        rw [hw'.out, World.setRow_alloc_new]
        have e2 : splice (wrv (0, zsec)).toArray.toList 0 (wrv x.val).toArray.toList = wrv x.val := by
          simp only [splice, List.take_zero, List.nil_append, Nat.zero_add]
          rw [List.drop_eq_nil_of_le (by simp [hwl, wrv_length, zsec])]
          simp
        rw [e2]
      clear hw'
      subst e1
      obtain ⟨h1, h2, h3⟩ := hI
      gi_wp2
      exact hK _ _ ((KeepsOthers.alloc W _).from _) ((Keeps.refl S W).alloc (fun b hb => Nat.lt_of_lt_of_le (hSw b hb) h3.size) _)
        ⟨fun h => by obtain ⟨cs, k1, k2, k3⟩ := h1 h; exact ⟨cs, k1.alloc _, k2, k3⟩, h2.alloc _, h3.alloc (fun b hb => Nat.lt_of_lt_of_le (hSw b hb) h3.size) _⟩
        ⟨W.heap.size, h3.size, Bk.new _ _ _, rfl⟩
    case body =>
      rintro l pre x a' W hl ⟨r, hr⟩ ⟨hI1, hI2, hI3⟩ ⟨Bx, hBx, bX, rfl⟩ hlt
      obtain ⟨k, hk⟩ : ∃ k : Nat, x.val.1 = (k : Int) := Int.eq_ofNat_of_zero_le (by have := x.2.1; simp [thereB] at this; exact this.1)
      have hkn : k < n := by have := x.2.1; rw [hk] at this; simp [thereB] at this; exact this
      have hx64 : x.val.2.length = 64 := x.2.2
      obtain ⟨e1, hA1, -⟩ := hROW.out (by omega)
      subst hA1
      obtain ⟨cs, hcs, hcsz, hcsp⟩ := hI1 (by omega)
      have K0' : Bk W w1.heap.size 25 _ := (hI3.block _ hs5).trans K0
      have K2' : Bk W (w1.heap.size + 1 + 1) 99 _ := (hI3.block _ hs7).trans K2
      have c0 : W.cell? ⟨w1.heap.size, 0, none⟩ = some (.slice (some ⟨g1, 0, none⟩) n c1) := K0'.cell 0
      have c2 : W.cell? ⟨w1.heap.size + 1 + 1, 0, none⟩ = some (.slice (some ⟨w1.heap.size + 1, 0, none⟩) n n) := K2'.cell 0
      have cx : W.cell? ⟨Bx, 0, none⟩ = some (.int .i64 (k : Int)) := by rw [bX.cell, ← hk]; rfl
      have cf : W.cell? ⟨w1.heap.size + 1, k, none⟩ = some (.bool (wrB (pre.map Subtype.val) k)) := by rw [hI2.cell]; simpa using flagsM_at n (pre.map Subtype.val) k hkn
      have ff : W.frozen? ⟨w1.heap.size + 1, k, none⟩ = false := hI2.frozen k
      have hkn' : (k : Int) < (n : Int) := by omega
      have HK := Lib.hid hk; have HCS := Lib.hid hcs; have HCP := Lib.hid hcsp; have HF := Lib.hid hI2; have HKP := Lib.hid hI3; have HBX := Lib.hid bX
      clear hk hcs hcsp hI1 hI2 hI3 K0' K2' bX hr
      by_cases hw : wrB (pre.map Subtype.val) k = true
      · gi_wp2
        refine ⟨KeepsFrom.refl _ _, Keeps.refl _ _, fun _ => ⟨cs, HCS.out, hcsz, ?_⟩, ?_, HKP.out⟩
        · rw [List.map_append, List.map_cons, List.map_nil, rowsM_old d.secs _ x.val k HK.out hw]
          exact HCP.out
        · rw [List.map_append, List.map_cons, List.map_nil, flagsM_old n _ x.val k HK.out hw]
          exact HF.out
      · have hw' : wrB (pre.map Subtype.val) k = false := by simpa using hw
        clear hw
        have hxl : (secv x.val.2).length = 64 := by rw [secv_length, hx64]
        gi_wp2_with ((with_reducible show wpListIn _ _ _ _ _ (⟨some 33, _, _, _, _, _⟩ :: _) _ _); refine hold ?_)
        refine held (wpListIn_load_mid (by simp [Region.wanted]) 58 (.tmp 32) rfl Bx 1 rfl (secv x.val.2) (.array 64 5) ?_ Tryd.underlying58 rfl (by rw [hxl]; kernel_rfl) ?_)
        · intro j u hu
          rw [World.cell?_setCell_other _ _ _ _ (by simp only [ne_eq, Addr.mk.injEq, not_and]; omega), HBX.out.cell]
          rw [Nat.add_comm]
          simpa [wrv] using hu
        gi_wp2_with ((with_reducible show wpListIn _ _ _ _ _ (⟨none, .store 58 _ _, _, _, _, _⟩ :: _) _ _); refine hold ?_)
        have hcs' : Bk (W.setCell ⟨w1.heap.size + 1, k, none⟩ (.bool true)) g1 58 cs := HCS.out.far (by simp; omega) _
        have h64 : k * 64 + 64 ≤ n * 64 := by have := Nat.mul_le_mul_right 64 (show k + 1 ≤ n by omega); omega
        refine held (wpListIn_store_wide (by simp [Region.wanted]) 58 (.tmp 34) (.tmp 33) rfl g1 (k * 64) (secv x.val.2).toArray rfl rfl 58 cs hcs' (by simp only [List.size_toArray, hxl]; omega) (by simp only [List.size_toArray, hxl]; kernel_rfl) (by simpa using secv_one x.val.2) ?_)
        intro w' hw2
        gi_wp2
        have hlen : (rowsM d.secs (pre.map Subtype.val)).length = n := by rw [rowsM_length, HN.out]
        have e2 := hw2.out
        subst e2
        refine ⟨?_, ?_, fun _ => ⟨_, hcs'.setRow_same _, ?_, ?_⟩, ?_, ?_⟩
        · exact ((KeepsOthers.setCell W _ _).trans (keepsOthers_setRow _ g1 58 cs _ hcs')).from _
        · exact ((Keeps.refl S W).setCell (p := ⟨w1.heap.size + 1, k, none⟩) hnf _).setRow hng _
        · rw [List.size_toArray, length_splice _ _ _ (by simp only [hxl, Array.length_toList]; omega)]
          simpa using hcsz
        · intro j u hj
          have hs64 : ∀ s ∈ d.secs, s.length = 64 := fun s hs => by have := HS.out.2.1 (secv s) (List.mem_map.2 ⟨s, hs, rfl⟩); simpa [secv_length] using this
          have hr64 : ∀ y ∈ (rowsM d.secs (pre.map Subtype.val)).map secv, y.length = 64 := by
            intro y hy
            obtain ⟨z, hz, rfl⟩ := List.mem_map.1 hy
            rw [secv_length]
            refine rowsM_len d.secs (pre.map Subtype.val) hs64 (fun q hq => ?_) z hz
            obtain ⟨q', _, rfl⟩ := List.mem_map.1 hq
            exact q'.2.2
          have hfl : ((rowsM d.secs (pre.map Subtype.val)).map secv).flatten.length = n * 64 := by rw [flat_length hr64, List.length_map, hlen]
          rw [List.map_append, List.map_cons, List.map_nil, rowsM_new d.secs _ x.val k HK.out hw' (by rw [HN.out]; exact hkn), List.map_set, flat_set hr64 k (by rw [List.length_map, hlen]; exact hkn) _ hxl] at hj
          have := splice_prefix (cs := cs) (by rw [hfl, hxl]; exact h64) (by rw [hfl]; exact hcsz) HCP.out j u hj
          simpa using this
        · have h1 := (HF.out.put k (.bool true)).setRow_other (g := g1) (by omega) (splice cs.toList (k * 64) (secv x.val.2).toArray.toList).toArray
          rw [List.map_append, List.map_cons, List.map_nil, flagsM_new n _ x.val k HK.out]
          simpa using h1
        · exact (HKP.out.setCell (p := ⟨w1.heap.size + 1, k, none⟩) hnf _).setRow hng _
    case done =>
      rintro D ys W hD rfl ⟨h1, h2, h3⟩ hK
      have K0' : Bk W w1.heap.size 25 _ := (h3.block _ hs5).trans K0
      have c0 : W.cell? ⟨w1.heap.size, 0, none⟩ = some (.slice A1 n c1) := K0'.cell 0
      have HH1 := Lib.hid h1; have HH2 := Lib.hid h2; have HH3 := Lib.hid h3
      clear h1 h2 h3 K0'
      gi_wp2
      refine ⟨by simp, .inl ⟨_, _, rfl, run_takeDeferred hK, ?_⟩⟩
      have hkp : ∀ r, some D = some r → ∃ o : Obj, W.heap[r]? = some o ∧ o.isCells = false := fun r e => by cases e; exact ⟨_, hK, rfl⟩
      have hgb := grownBy_putObj' W D (.deferred none)
      refine ⟨_, results_tmp rfl _ _ _, ⟨_, rfl, ⟨A1, c1, rfl, hnc1, hc1, ?_, ?_, fun h => ?_⟩, ?_⟩⟩
      · rw [List.length_map, rowsM_length, HN.out]
      · intro y hy
        obtain ⟨z, hz, rfl⟩ := List.mem_map.1 hy
        rw [secv_length]
        refine rowsM_len d.secs _ (fun s hs => by have := HS.out.2.1 (secv s) (List.mem_map.2 ⟨s, hs, rfl⟩); simpa [secv_length] using this) (fun q hq => ?_) z hz
        rw [← HX.out, ← comeM_map] at hq
        obtain ⟨q', _, rfl⟩ := List.mem_map.1 hq
        exact q'.2.2
      · obtain ⟨cs, k1, k2, k3⟩ := HH1.out h
        obtain ⟨e1, hA1, -⟩ := hROW.out h
        refine ⟨g1, cs, hA1, hg1, k1.kept hgb hkp, k2, ?_⟩
        rw [← HX.out, ← comeM_map]
        exact k3
      · have h1 : Below w.heap.size w W := hbw.trans (HH3.out.below hSn)
        exact h1.grown hgb (by have := h1.size; exact this) (fun k e => by cases e; omega)
    case stop =>
      intro D c' pre W _ _ h _
      exact h.elim
end Go.Proofs.YtofbpkaebngnlaaDoor

/-
  Lemmas on lists for the proofs over package sector: going through the loose writes from the last one on, and leaving what is written already, is the same as doing them in order. Nothing here speaks of a program.
-/
namespace Go.Proofs.YtofbpkaebngnlaaDoor
set_option linter.unusedVariables false
set_option linter.unusedSimpArgs false
open Go.RowKit

def comeG {α : Type} (st : Nat → Bool) (i : Nat) (xs : List α) : List α := ((xs.zipIdx i).filter fun p => st p.2).reverse.map (·.1)
theorem comeG_zero {α : Type} (st : Nat → Bool) (xs : List α) : comeM st xs 0 = comeG st 0 xs := rfl
theorem comeG_cons {α : Type} (st : Nat → Bool) (i : Nat) (x : α) (r : List α) : comeG st i (x :: r) = comeG st (i + 1) r ++ (if st i then [x] else []) := by
  unfold comeG
  rw [List.zipIdx_cons, List.filter_cons]
  split <;> simp

theorem rowsM_set (ss : List (List Int)) (pre : List (Int × List Int)) (x : Int × List Int) (k : Nat) (hx : x.1 = (k : Int)) (hk : k < ss.length) : rowsM (ss.set k x.2) pre = rowsM ss (pre ++ [x]) := by
  apply List.ext_getElem
  · simp [rowsM]
  · intro i h1 h2
    have hi : i < ss.length := by simpa [rowsM] using h1
    simp only [rowsM, List.getElem_map, List.getElem_range]
    rw [rowM_snoc]
    unfold rowM
    have hf := wrB_find (pre := pre) (i := i)
    cases h : pre.find? (fun x => x.1 == (i : Int)) with
    | some y => rw [h] at hf; simp [hf]
    | none =>
      rw [h] at hf
      simp only [hf, Option.isSome_none, Bool.false_eq_true, if_false]
      by_cases he : k = i
      · subst he
        rw [if_pos hx]
        simp [hk]
      · rw [if_neg (by omega : ¬ x.1 = (i : Int))]
        simp [he]

theorem doneM_eq (st : Nat → Bool) : ∀ (l : List (Int × List Int)) (i : Nat) (ss : List (List Int)), looseB ss.length l = true → doneM st i ss l = rowsM ss (comeG st i l)
  | [], i, ss, _ => by
    show ss = rowsM ss []
    rw [rowsM_nil]
  | x :: r, i, ss, h => by
    have h' : thereB ss.length x.1 = true ∧ looseB ss.length r = true := by simpa [looseB] using h
    rw [comeG_cons]
    unfold doneM
    by_cases hs : st i = true
    · obtain ⟨k, hk⟩ : ∃ k : Nat, x.1 = (k : Int) := Int.eq_ofNat_of_zero_le (by have := h'.1; simp [thereB] at this; exact this.1)
      have hkn : k < ss.length := by have := h'.1; rw [hk] at this; simp [thereB] at this; exact this
      rw [if_pos hs, if_pos hs, doneM_eq st r (i + 1) _ (by rw [List.length_set]; exact h'.2), hk, Int.toNat_natCast, rowsM_set ss _ x k hk hkn]
    · rw [if_neg hs, if_neg hs, doneM_eq st r (i + 1) _ h'.2, List.append_nil]

theorem doneM_come (st : Nat → Bool) (l : List (Int × List Int)) (ss : List (List Int)) (h : looseB ss.length l = true) : rowsM ss (comeM st l 0) = doneM st 0 ss l := by
  rw [comeG_zero, doneM_eq st l 0 ss h]
theorem looseB_right {d : Dk} (h : rightB d = true) : looseB d.secs.length d.loose = true := by
  unfold rightB at h
  simp only [Bool.and_eq_true] at h
  exact h.2
theorem deedF_right (d : Dk) (h : rightB d = true) : fuseB (deedF d.fuse d.down) = true := by
  unfold rightB at h
  simp only [Bool.and_eq_true] at h
  have h1 := h.1.2
  unfold fuseB at h1 ⊢
  simp only [Bool.and_eq_true, decide_eq_true_eq] at h1 ⊢
  unfold deedF
  split
  · exact h1
  · split <;> omega
theorem doneM_length (st : Nat → Bool) : ∀ (l : List (Int × List Int)) (i : Nat) (ss : List (List Int)), (doneM st i ss l).length = ss.length
  | [], _, _ => rfl
  | x :: r, i, ss => by
    unfold doneM
    rw [doneM_length st r (i + 1)]
    split
    · rw [List.length_set]
    · rfl
end Go.Proofs.YtofbpkaebngnlaaDoor

/-
  A walk over package sector: the closure of Start, that asks a bit of the mask.
-/
namespace Go.Proofs.YtofbpkaebngnlaaDoor
set_option linter.unusedVariables false
set_option linter.unusedSimpArgs false
open Go.RowKit Go.Shelf

attribute [local go_sem] Oper.semAt_some

end Go.Proofs.YtofbpkaebngnlaaDoor
