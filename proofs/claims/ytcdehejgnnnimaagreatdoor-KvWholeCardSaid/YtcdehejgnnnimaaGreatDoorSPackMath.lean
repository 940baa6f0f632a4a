/-
 A part of the proof: see the last text.
-/
import Derived.Laws.BytesArg
import Derived.Laws.Strings
import Derived.Test.YtcdehejgnnnimaaGreatDoorSBytes
import Derived.Lib.AppendStr
import Derived.Lib.ConvBytes
import Derived.Test.YtcdehejgnnnimaaGreatDoorProg
import Derived.Laws.BitsAllLaws
import Derived.Lib.SliceRun
namespace Go.Proofs.YtcdehejgnnnimaaGreatDoor
set_option linter.unusedVariables false
set_option linter.unusedSimpArgs false
def encB : Nat → Nat → List Nat
 | 0, _ => []
 | k + 1, v => encB k (v / 256) ++ [v % 256]
def decB (l : List Nat) : Nat := l.foldl (fun a b => a * 256 + b) 0
theorem encB_length : ∀ (k v : Nat), (encB k v).length = k
 | 0, _ => rfl
 | k + 1, v => by rw [encB, List.length_append, encB_length k]; rfl
theorem encB_lt : ∀ (k v : Nat), ∀ x ∈ encB k v, x < 256
 | 0, _ => by intro x hx; cases hx
 | k + 1, v => by
   intro x hx
   rcases List.mem_append.1 hx with h | h
   ·exact encB_lt k _ x h
   ·rw [List.mem_singleton.1 h]; omega
theorem decB_snoc (l : List Nat) (b : Nat) : decB (l ++ [b]) = decB l * 256 + b := by unfold decB; rw [List.foldl_append]; rfl
theorem decB_nil : decB [] = 0 := rfl
theorem snoc_ind {p : List Nat → Prop} (h0 : p []) (h1 : ∀ l b, p l → p (l ++ [b])) (l : List Nat) : p l := by
 have : ∀ r : List Nat, p r.reverse := by
  intro r
  induction r with
  | nil => exact h0
  | cons b r ih => rw [List.reverse_cons]; exact h1 _ _ ih
 have h := this l.reverse
 rwa [List.reverse_reverse] at h
theorem decB_lt (l : List Nat) : (∀ x ∈ l, x < 256) → decB l < 256 ^ l.length := by
 induction l using snoc_ind with
 | h0 => intro _; exact Nat.one_pos
 | h1 l b ih =>
   intro h
   have h1 := ih fun x hx => h x (List.mem_append_left _ hx)
   have h2 := h b (List.mem_append_right _ (List.mem_singleton_self b))
   rw [decB_snoc, List.length_append, List.length_singleton, Nat.pow_succ]
   omega
theorem decB_encB : ∀ (k v : Nat), v < 256 ^ k → decB (encB k v) = v
 | 0, v, h => by rw [Nat.pow_zero] at h; rw [encB, decB_nil]; omega
 | k + 1, v, h => by
   rw [encB, decB_snoc, decB_encB k (v / 256) (by rw [Nat.pow_succ'] at h; exact Nat.div_lt_of_lt_mul h)]
   omega
def clampB (z : Int) : Nat := (min (max z 0) 4611686018427387904).toNat
theorem clampB_le (z : Int) : clampB z ≤ 4611686018427387904 := by unfold clampB; omega
def numsB (l : List Int) : List Nat := (l.map fun z => encB 8 (clampB z)).flatten
theorem numsB_nil : numsB [] = [] := rfl
theorem numsB_snoc (l : List Int) (z : Int) : numsB (l ++ [z]) = numsB l ++ encB 8 (clampB z) := by unfold numsB; simp
theorem numsB_cons (l : List Int) (z : Int) : numsB (z :: l) = encB 8 (clampB z) ++ numsB l := by unfold numsB; simp
theorem numsB_length : ∀ l : List Int, (numsB l).length = 8 * l.length
 | [] => rfl
 | z :: l => by rw [numsB_cons, List.length_append, encB_length, numsB_length l, List.length_cons]; omega
def nats (s : ByteArray) : List Nat := s.data.toList.map (·.toNat)
def strOf (l : List Nat) : ByteArray := strOfNums (l.map fun x : Nat => (x : Int))
theorem nats_length (s : ByteArray) : (nats s).length = s.size := by unfold nats; rw [List.length_map, Array.length_toList]; rfl
theorem nats_lt (s : ByteArray) : ∀ x ∈ nats s, x < 256 := by
 intro x hx
 obtain ⟨b, _, rfl⟩ := List.mem_map.1 hx
 exact b.toNat_lt
theorem strOf_size (l : List Nat) : (strOf l).size = l.length := by unfold strOf; rw [strOfNums_size, List.length_map]
theorem strOf_data (l : List Nat) : (strOf l).data.toList = l.map UInt8.ofNat := by
 unfold strOf
 rw [strOfNums_data, List.map_map]
 rfl
theorem nats_strOf (l : List Nat) (h : ∀ x ∈ l, x < 256) : nats (strOf l) = l := by
 unfold nats
 rw [strOf_data, List.map_map]
 conv => rhs; rw [← List.map_id l]
 refine List.map_congr_left fun x hx => ?_
 have := h x hx
 simp [Nat.mod_eq_of_lt this]
theorem data_inj {a b : ByteArray} (h : a.data.toList = b.data.toList) : a = b := by
 cases a; cases b
 simp only at h
 rw [Array.toList_inj.1 h]
theorem strOf_nats (s : ByteArray) : strOf (nats s) = s := by
 refine data_inj ?_
 rw [strOf_data]
 unfold nats
 rw [List.map_map]
 conv => rhs; rw [← List.map_id s.data.toList]
 refine List.map_congr_left fun x _ => ?_
 simp
theorem strOf_inj {a b : List Nat} (ha : ∀ x ∈ a, x < 256) (hb : ∀ x ∈ b, x < 256) (h : strOf a = strOf b) : a = b := by
 rw [← nats_strOf a ha, ← nats_strOf b hb, h]
theorem strOf_to (l : List Nat) (n : Nat) : (strOf l).extract 0 n = strOf (l.take n) := by
 refine data_inj ?_
 rw [strOf_data, ByteArray.data_extract, Array.toList_extract, strOf_data]
 simp [List.map_take]
theorem strOf_from (l : List Nat) (n : Nat) (k : Nat) (hk : l.length ≤ k) : (strOf l).extract n k = strOf (l.drop n) := by
 refine data_inj ?_
 rw [strOf_data, ByteArray.data_extract, Array.toList_extract, strOf_data]
 rw [List.map_drop, List.extract_eq_take_drop, List.take_of_length_le]
 simp; omega
theorem strOf_eqb (a b : List Nat) (ha : ∀ x ∈ a, x < 256) (hb : ∀ x ∈ b, x < 256) : ((strOf a).toList == (strOf b).toList) = decide (a = b) := by
 rw [ByteArray.toList_eq, ByteArray.toList_eq]
 by_cases h : a = b
 ·subst h; simp
 ·have : ¬ (strOf a).data.toList = (strOf b).data.toList := fun e => h (strOf_inj ha hb (data_inj e))
  have h2 : ¬ (strOf a).data = (strOf b).data := fun e => this (by rw [e])
  simp [h, h2]
def textB (s : List Nat) : List Nat := encB 4 (s.take 4096).length ++ s.take 4096
def textsB (l : List (List Nat)) : List Nat := (l.map textB).flatten
theorem textsB_nil : textsB [] = [] := rfl
theorem textsB_snoc (l : List (List Nat)) (s : List Nat) : textsB (l ++ [s]) = textsB l ++ textB s := by unfold textsB; simp
theorem textsB_cons (l : List (List Nat)) (s : List Nat) : textsB (s :: l) = textB s ++ textsB l := by unfold textsB; simp
theorem textB_length (s : List Nat) : (textB s).length ≤ 4100 := by
 unfold textB
 rw [List.length_append, encB_length, List.length_take]
 omega
theorem textsB_length : ∀ l : List (List Nat), (textsB l).length ≤ 4100 * l.length
 | [] => Nat.le_refl _
 | s :: l => by
   rw [textsB_cons, List.length_append, List.length_cons]
   have := textB_length s
   have := textsB_length l
   omega
def takeV (l : List Nat) (e n : Nat) : List Nat := if e = 0 ∧ n ≤ l.length then l.take n else []
def takeL (l : List Nat) (e n : Nat) : List Nat := if e = 0 ∧ n ≤ l.length then l.drop n else l
def takeE (l : List Nat) (e n : Nat) : Nat := if e = 0 ∧ l.length < n then 2 else e
def numV (l : List Nat) (e : Nat) : Nat := if 4611686018427387904 < decB (takeV l e 8) then 0 else decB (takeV l e 8)
def numE (l : List Nat) (e : Nat) : Nat := if 4611686018427387904 < decB (takeV l e 8) then 3 else takeE l e 8
def textV (l : List Nat) (e : Nat) : List Nat := if 4096 < decB (takeV l e 4) then [] else takeV (takeL l e 4) (takeE l e 4) (decB (takeV l e 4))
def textL (l : List Nat) (e : Nat) : List Nat := if 4096 < decB (takeV l e 4) then takeL l e 4 else takeL (takeL l e 4) (takeE l e 4) (decB (takeV l e 4))
def textE (l : List Nat) (e : Nat) : Nat := if 4096 < decB (takeV l e 4) then 4 else takeE (takeL l e 4) (takeE l e 4) (decB (takeV l e 4))
def countV (l : List Nat) (e : Nat) (most : Int) : Nat := if most < (numV l e : Int) then 0 else numV l e
def countE (l : List Nat) (e : Nat) (most : Int) : Nat := if numE l e = 0 ∧ most < (numV l e : Int) then 4 else numE l e
def failE (e : Nat) (bad : Bool) : Nat := if e = 0 ∧ bad = true then 3 else e
def doneE (l : List Nat) (e : Nat) : Nat := if e = 0 ∧ l ≠ [] then 3 else e
section
variable {l : List Nat} {e n : Nat}
theorem takeV_lt (h : ∀ x ∈ l, x < 256) : ∀ x ∈ takeV l e n, x < 256 := by
 unfold takeV
 split
 ·exact fun x hx => h x (List.mem_of_mem_take hx)
 ·intro x hx; cases hx
theorem takeL_lt (h : ∀ x ∈ l, x < 256) : ∀ x ∈ takeL l e n, x < 256 := by
 unfold takeL
 split
 ·exact fun x hx => h x (List.mem_of_mem_drop hx)
 ·exact h
theorem takeL_len : (takeL l e n).length ≤ l.length := by
 unfold takeL
 split
 ·rw [List.length_drop]; omega
 ·exact Nat.le_refl _
theorem takeV_len : (takeV l e n).length ≤ n := by
 unfold takeV
 split
 ·rw [List.length_take]; omega
 ·exact Nat.zero_le _
theorem takeV_err (h : takeE l e n ≠ 0) : takeV l e n = [] := by
 unfold takeE at h
 unfold takeV
 split
 ·rename_i h2
  rw [if_neg (by omega)] at h
  exact absurd h2.1 h
 ·rfl
theorem textL_lt (h : ∀ x ∈ l, x < 256) : ∀ x ∈ textL l e, x < 256 := by
 unfold textL
 split
 ·exact takeL_lt h
 ·exact takeL_lt (takeL_lt h)
theorem textL_len : (textL l e).length ≤ l.length := by
 unfold textL
 split
 ·exact takeL_len
 ·exact Nat.le_trans takeL_len takeL_len
theorem takeE_stays (h : e ≠ 0) : takeE l e n = e := if_neg (by omega)
theorem takeL_stays (h : e ≠ 0) : takeL l e n = l := if_neg (by omega)
theorem takeV_stays (h : e ≠ 0) : takeV l e n = [] := if_neg (by omega)
theorem num_back (v : Nat) (hv : v ≤ 4611686018427387904) (r : List Nat) : numV (encB 8 v ++ r) 0 = v ∧ takeL (encB 8 v ++ r) 0 8 = r ∧ numE (encB 8 v ++ r) 0 = 0 := by
 have hl : 8 ≤ (encB 8 v ++ r).length := by rw [List.length_append, encB_length]; omega
 have e1 : takeV (encB 8 v ++ r) 0 8 = encB 8 v := by
  unfold takeV
  rw [if_pos ⟨rfl, hl⟩]
  exact List.take_left' (encB_length 8 v)
 have e2 : decB (encB 8 v) = v := decB_encB 8 v (by omega)
 refine ⟨?_, ?_, ?_⟩
 ·unfold numV; rw [e1, e2, if_neg (by omega)]
 ·unfold takeL
  rw [if_pos ⟨rfl, hl⟩]
  exact List.drop_left' (encB_length 8 v)
 ·unfold numE takeE; rw [e1, e2, if_neg (by omega), if_neg (by omega)]
theorem text_back (s r : List Nat) : textV (textB s ++ r) 0 = s.take 4096 ∧ textL (textB s ++ r) 0 = r ∧ textE (textB s ++ r) 0 = 0 := by
 unfold textB
 have hq : (s.take 4096).length ≤ 4096 := by rw [List.length_take]; omega
 generalize s.take 4096 = q at hq
 rw [List.append_assoc]
 have hl : 4 ≤ (encB 4 q.length ++ (q ++ r)).length := by rw [List.length_append, encB_length]; omega
 have e1 : takeV (encB 4 q.length ++ (q ++ r)) 0 4 = encB 4 q.length := by
  unfold takeV
  rw [if_pos ⟨rfl, hl⟩]
  exact List.take_left' (encB_length 4 _)
 have e2 : decB (encB 4 q.length) = q.length := decB_encB 4 _ (by omega)
 have e3 : takeL (encB 4 q.length ++ (q ++ r)) 0 4 = q ++ r := by
  unfold takeL
  rw [if_pos ⟨rfl, hl⟩]
  exact List.drop_left' (encB_length 4 _)
 have e4 : takeE (encB 4 q.length ++ (q ++ r)) 0 4 = 0 := by unfold takeE; rw [if_neg (by omega)]
 have hl2 : q.length ≤ (q ++ r).length := by rw [List.length_append]; omega
 refine ⟨?_, ?_, ?_⟩
 ·unfold textV; rw [e1, e2, if_neg (by omega), e3, e4]; unfold takeV; rw [if_pos ⟨rfl, hl2⟩, List.take_left]
 ·unfold textL; rw [e1, e2, if_neg (by omega), e3, e4]; unfold takeL; rw [if_pos ⟨rfl, hl2⟩, List.drop_left]
 ·unfold textE; rw [e1, e2, if_neg (by omega), e3, e4]; unfold takeE; rw [if_neg (by omega)]
end
end Go.Proofs.YtcdehejgnnnimaaGreatDoor
namespace Go.Proofs.YtcdehejgnnnimaaGreatDoor
set_option linter.unusedVariables false
set_option linter.unusedSimpArgs false
open Go.RowKit
def Col {α : Type} (f : α → Value) (w : World) (B : Nat) (A : Option Addr) (n : Nat) (l : List α) : Prop :=
 l.length = n ∧ (0 < n → ∃ b o, A = some ⟨b, o, none⟩ ∧ b < B ∧ ∀ i a, l[i]? = some a → w.cell? ⟨b, o + i, none⟩ = some (f a))
section
variable {α : Type} {f : α → Value} {w w' : World} {B B' n : Nat} {A : Option Addr} {l : List α}
theorem Col.nil : Col f w B A 0 [] := ⟨rfl, fun h => absurd h (Nat.lt_irrefl _)⟩
theorem Col.keep (h : Col f w B A n l) (hk : ∀ p : Addr, p.block < B → w'.cell? p = w.cell? p) : Col f w' B A n l :=
 ⟨h.1, fun hn => by
  obtain ⟨b, o, e, hb, hc⟩ := h.2 hn
  exact ⟨b, o, e, hb, fun i a ha => (hk _ hb).trans (hc i a ha)⟩⟩
theorem Col.more (h : Col f w B A n l) (hB : B ≤ B') : Col f w B' A n l :=
 ⟨h.1, fun hn => by
  obtain ⟨b, o, e, hb, hc⟩ := h.2 hn
  exact ⟨b, o, e, by omega, hc⟩⟩
theorem Col.below (h : Col f w B A n l) (hb : Below B' w w') (hB : B ≤ B') : Col f w' B A n l := h.keep fun _ hp => hb.cell (by omega)
theorem Col.later (h : Col f w w.heap.size A n l) (hb : Below w.heap.size w w') : Col f w' w'.heap.size A n l := (h.below hb (Nat.le_refl _)).more hb.size
theorem Col.at_ {k : Nat} (h : Col f w B A n l) (hk : k < n) : ∃ b o a, A = some ⟨b, o, none⟩ ∧ b < B ∧ l[k]? = some a ∧ l.take (k + 1) = l.take k ++ [a] ∧ w.cell? ⟨b, o + k, none⟩ = some (f a) := by
 obtain ⟨b, o, e, hb, hc⟩ := h.2 (by omega)
 have hl : k < l.length := by rw [h.1]; exact hk
 exact ⟨b, o, l[k], e, hb, List.getElem?_eq_getElem hl, List.take_succ_eq_append_getElem hl, hc k _ (List.getElem?_eq_getElem hl)⟩
theorem Col.one (w : World) (f : α → Value) (a : α) (hf : (f a).oneCell' = true) (t : TypeId) :
 Col f (w.alloc (.cells #[f a] t)) (w.heap.size + 1) (some ⟨w.heap.size, 0, none⟩) 1 [a] := by
 refine ⟨rfl, fun _ => ⟨w.heap.size, 0, rfl, by omega, fun i x hx => ?_⟩⟩
 have hi : i < 1 := (List.getElem?_eq_some_iff.1 hx).1
 obtain rfl : i = 0 := by omega
 obtain rfl : a = x := by simpa using hx
 rw [cell_of_row _ _ _ _ _ _ (heap_alloc_new w _)]
 rfl
end
theorem strCells_nats (s : ByteArray) : Lib.strCells s = (nats s).map bv := by
 unfold Lib.strCells nats bv
 rw [List.map_map]
 rfl
section
variable {P : Program}
theorem wpList_append_str {ops : Array Oper} {rest : List Oper} {o : Oper} {a : Act} {w : World} {Q : Exit → Act → World → Prop} (hgd : o.guard = none) (s x : Operand) (t u : TypeId)
 (ho : o.op = .call { callee := .builtin .append, args := #[s, x], argTypes := #[t, u] }) {e : TypeId} (ht : P.underlying t = some (.slice e)) (hu : P.underlying u = some .string)
 (he : (P.info? e).map (fun i => (i.zero, i.size, i.bytes)) = some (some (.int .u8 0), 1, 1))
 (base : Nat) (A : Option Addr) (n c : Nat) (l : List Nat) (hs : a.eval s = .slice A n c) (hown : OwnB w base e A n c l)
 (z : ByteArray) (hx : a.eval x = .string z) (hnm : n + z.size ≤ 1000000000) (hbase : base ≤ w.heap.size)
 (h : ∀ A2 c2 w', OwnB w' base e A2 (n + z.size) c2 (l ++ nats z) → Below base w w' → w.grownBy w' (Value.slice A n c).ownBlock → wpList P ops Q rest (a.put o.dst (.slice A2 (n + z.size) c2)) w') : wpList P ops Q (o :: rest) a w := by
 obtain ⟨i, hi, hz, hsz, hby⟩ := info_parts he
 refine Lib.wpList_append_own_string w hgd s x t u ho base e i ht hu hi hz hsz hby (.slice A n c) n (l.map bv) hs hown.1 z hx (by unfold maxLen; omega) (by omega) hbase ?_
 intro v' w' h1 h2 _
 have hsh : ∃ A2 c2, v' = .slice A2 (n + z.size) c2 := by
  rcases h1.2 with ⟨rfl, h0⟩ | ⟨g, cap, cur, rfl, _⟩
  ·rw [h0]; exact ⟨_, _, rfl⟩
  ·exact ⟨_, _, rfl⟩
 obtain ⟨A2, c2, rfl⟩ := hsh
 refine h A2 c2 w' ⟨by rw [List.map_append, ← strCells_nats]; exact h1, fun y hy => ?_⟩ ((Below.refl _ _).grown h2 hbase (fun k hk => (hown.1.lt k hk).1)) h2
 exact (List.mem_append.1 hy).elim (hown.2 y) (nats_lt z y)
theorem run_loadCells_0 (w : World) (a : Addr) : (loadCells a 0).run P w = .ok #[] w := by simp [loadCells, loadCellsFrom]
theorem run_str_of_bytes {w : World} {B : Nat} {A : Option Addr} {n c : Nat} {l : List Nat} (h : Bytes w B A n l) {src dst e : TypeId} (hs : P.underlying src = some (.slice e)) (he : P.underlying e = some (.int .u8)) (hd : P.underlying dst = some .string) :
 (convert src dst (.slice A n c)).run P w = .ok (.string (strOf l)) w := by
 rcases Nat.eq_zero_or_pos n with h0 | h0
 ·subst h0
  have hl : l = [] := List.eq_nil_of_length_eq_zero h.1
  subst hl
  cases A with
  | none => exact run_convert_bytes_nil w src e hs he 0 c dst hd
  | some a =>
    rw [run_convert_bytes_string w src dst e _ 0 c hs he hd, run_bytesToString w a 0 c [] (run_loadCells_0 w a)]
    rfl
 ·obtain ⟨b, o, rfl, _, hc⟩ := h.2.2 h0
  refine run_convert_bytes_arg w src e hs he b o n c (l.map fun x : Nat => (x : Int)) (by rw [List.length_map, h.1]) (fun i hi => ?_) dst hd
  rw [hc i hi]
  unfold byteAt
  simp [List.getD_eq_getElem?_getD, List.getElem?_eq_getElem (show i < l.length by rw [h.1]; exact hi)]
end
theorem bytesWorld_bytes (w : World) (e : TypeId) (s : ByteArray) : Bytes (Lib.bytesWorld w e s) (w.heap.size + 1) (some ⟨w.heap.size, 0, none⟩) s.size (nats s) := by
 refine ⟨nats_length s, nats_lt s, fun _ => ⟨w.heap.size, 0, rfl, by omega, fun i hi => ?_⟩⟩
 rw [Nat.zero_add, Lib.bytesWorld_cell w e s i hi]
 unfold byteAt nats
 have : i < s.data.toList.length := by rw [Array.length_toList]; exact hi
 simp only [List.getD_eq_getElem?_getD, List.getElem?_map, List.getElem?_eq_getElem this, Option.getD_some, Option.map_some]
theorem bytesWorld_grown (w : World) (e : TypeId) (s : ByteArray) (row : Option Nat) : w.grownBy (Lib.bytesWorld w e s) row :=
 ⟨rfl, rfl, rfl, by rw [Lib.bytesWorld_size]; omega, fun k hk _ => Lib.bytesWorld_at_old w e s k hk⟩
theorem grownBy_trans {a w w' : World} {row : Option Nat} (h : a.grownBy w row) (k : w.grownBy w' row) : a.grownBy w' row :=
 ⟨k.os.trans h.os, k.tape.trans h.tape, k.output.trans h.output, Nat.le_trans h.size k.size, fun j hj hr => (k.block j (Nat.lt_of_lt_of_le hj h.size) hr).trans (h.block j hj hr)⟩
end Go.Proofs.YtcdehejgnnnimaaGreatDoor
namespace Go.Proofs.YtcdehejgnnnimaaGreatDoor
set_option linter.unusedVariables false
set_option linter.unusedSimpArgs false
open Go.RowKit
theorem info_u8 : (Tryz.prog.info? 5).map (fun i => (i.zero, i.size, i.bytes)) = some (some (.int .u8 0), 1, 1) := by kernel_rfl
def Made (base : Nat) (w0 : World) (n : Nat) (l : List Nat) (e : Ending) (w' : World) : Prop :=
 ∃ A' c', e = .returned (.slice A' n c') ∧ OwnB w' base 5 A' n c' l ∧ Below base w0 w'
theorem Bytes.one (w : World) {b : Nat} (hb : b < 256) (t : TypeId) : Bytes (w.alloc (.cells #[.int .u8 (b : Int)] t)) (w.heap.size + 1) (some ⟨w.heap.size, 0, none⟩) 1 [b] := by
 refine ⟨rfl, by simpa using hb, fun _ => ⟨w.heap.size, 0, rfl, by omega, fun i hi => ?_⟩⟩
 obtain rfl : i = 0 := by omega
 rw [cell_of_row _ _ _ _ _ _ (heap_alloc_new w _)]
 rfl
theorem OwnB.alloc {w : World} {base n c : Nat} {e : TypeId} {A : Option Addr} {l : List Nat} (h : OwnB w base e A n c l) (o : Obj) : OwnB (w.alloc o) base e A n c l := h.below ((Below.refl _ _).alloc (Nat.le_refl _) _)
set_option maxHeartbeats 400000 in
theorem cloneB_any (A : Option Addr) (n c : Nat) (l : List Nat) (w : World) (hl : Bytes w w.heap.size A n l) (hn : n ≤ 1000000000) :
 Calls Tryz.prog 82 #[.slice A n c] w (Made w.heap.size w n l) := by
 cases A with
 | none =>
   have h0 : n = 0 := by
    rcases Nat.eq_zero_or_pos n with h | h
    ·exact h
    ·obtain ⟨b, o, h', _⟩ := hl.2.2 h; cases h'
   subst h0
   have hl' : l = [] := List.eq_nil_of_length_eq_zero hl.1
   subst hl'
   have heq := fun W => Lib.run_eql_slice_nil (P := Tryz.prog) W 63 5 none 0 c 0 0 Tryz.underlying63
   go_enter Tryz.func82, Tryz.ntmps82
   go_wp2
   go_ret
   exact ⟨_, _, rfl, OwnB.nil, Below.refl _ _⟩
 | some a =>
   have heq := fun W => Lib.run_eql_slice_nil (P := Tryz.prog) W 63 5 (some a) n c 0 0 Tryz.underlying63
   go_enter Tryz.func82, Tryz.ntmps82
   go_wp2_with ((with_reducible show wpList _ _ _ (⟨some 7, _, _, _, _, _⟩ :: _) _ _); refine holdB ?_)
   refine heldB (wpList_append_bytes rfl (.tmp 5) (.tmp 6) 63 rfl Tryz.underlying63 info_u8 w.heap.size (some ⟨w.heap.size, 0, none⟩) 0 0 [] rfl (OwnB.empty w 5) w.heap.size (some a) n c l rfl
    (hl.below ((Below.refl _ _).alloc (Nat.le_refl _) _) (Nat.le_refl _)) (by omega) (by simp) ?_)
   intro A3 c3 w3 ho3 hb3 hg3
   clear hg3
   have hb3' : Below w.heap.size w w3 := ((Below.refl _ _).alloc (Nat.le_refl _) _).trans hb3
   rw [Nat.zero_add, List.nil_append] at ho3
   rw [Nat.zero_add]
   go_wp2
   go_ret
   exact ⟨_, _, rfl, ho3, hb3'⟩
set_option maxHeartbeats 400000 in
theorem lay_any (A : Option Addr) (n c k v base : Nat) (l : List Nat) (w : World) (hl : OwnB w base 5 A n c l) (hn : n + k ≤ 1000000000) (hk : k ≤ 8) (hv : v < 18446744073709551616) (hbase : base ≤ w.heap.size) :
 Calls Tryz.prog 83 #[.slice A n c, .int .i64 (k : Int), .int .u64 (v : Int)] w (Made base w (n + k) (l ++ encB k v)) := by
 have HV := hide hv
 clear hv
 go_enter Tryz.func83, Tryz.ntmps83
 go_wp2
 go_loopw [0, 7] (fun s t wr => ∃ m A' c', m ≤ k ∧ s = .slice A' (n + (k - m)) c' ∧ OwnB wr base 5 A' (n + (k - m)) c' (l ++ encB (k - m) (v / 256 ^ m)) ∧ t = .int .i64 (8 * (m : Int) - 8) ∧ Below base w wr) (fun _ t _ => (intOf t + 8).toNat)
 case atStart => exact ⟨k, A, c, Nat.le_refl _, by simp, by rw [Nat.sub_self]; simpa [encB] using hl, by go_num, Below.refl _ _⟩
 case round =>
  obtain ⟨m, A', c', hm, rfl, ho, rfl, hb⟩ := hrel
  by_cases h0 : m = 0
  ·subst h0
   go_wp2
   go_ret
   refine ⟨A', c', rfl, ?_, hb⟩
   simpa using ho
  ·obtain ⟨j, rfl⟩ : ∃ j, m = j + 1 := ⟨m - 1, by omega⟩
   have e1 : (8 * ((j + 1 : Nat) : Int) - 8) = 8 * (j : Int) := by omega
   rw [e1]
   have hbyte : (v : Int) / 2 ^ (8 * j) % 256 = ((v / 256 ^ j % 256 : Nat) : Int) := by
    rw [show (2 : Int) ^ (8 * j) = ((256 ^ j : Nat) : Int) by rw [Int.pow_mul]; simp]
    omega
   have HB := hide hbyte
   clear hbyte
   go_wp2_with ((with_reducible show wpList _ _ _ (⟨some 21, _, _, _, _, _⟩ :: _) _ _); refine holdB ?_)
   rw [HB.out]
   refine heldB (wpList_append_bytes rfl (.tmp 15) (.tmp 20) 63 rfl Tryz.underlying63 info_u8 base A' (n + (k - (j + 1))) c' _ rfl (ho.alloc _) _ _ 1 1 _ rfl (Bytes.one wr (Nat.mod_lt _ (by omega)) _) (by omega) (by have := hb.size; simp; omega) ?_)
   intro A3 c3 w3 ho3 hb3 hg3
   clear hg3
   have hbb : Below base w w3 := (hb.alloc (Nat.le_trans hbase hb.size) _).trans hb3
   have HL := hide (show k - j = k - (j + 1) + 1 by omega)
   go_wp2
   go_roundw
   case rel => exact ⟨j, A3, c3, by omega, by rw [HL.out]; rfl, by
    rw [HL.out, encB, Nat.div_div_eq_div_mul, ← Nat.pow_succ, ← List.append_assoc]
    exact ho3, by go_num, hbb⟩
   case measure => simp [intOf]; omega
theorem run_make_u8 (W : World) (k : Nat) (hk : k ≤ 1000000000) : (Instr.makeSlice 63 (.int .i64 (k : Int)) (.int .i64 (k : Int))).run Tryz.prog W = .ok (.slice (some ⟨W.heap.size, 0, none⟩) k k) (W.alloc (.cells (madeCells #[.int .u8 0] k) 5)) := by
 obtain ⟨i, hi, hz, hs, hby⟩ := info_parts info_u8
 have := run_make (P := Tryz.prog) W 63 5 i (.int .u8 0) Tryz.underlying63 hi hz .i64 .i64 (k : Int) (k : Int) (by omega) (by omega) (by rw [hby]; omega) (by omega)
 rw [hs, show (Value.int .u8 0).cells = #[.int .u8 0] from rfl] at this
 simpa using this
theorem OwnB.made (w : World) (k : Nat) (hk : k ≤ 1000000000) (e : TypeId) : OwnB (w.alloc (.cells (madeCells #[.int .u8 0] k) e)) w.heap.size e (some ⟨w.heap.size, 0, none⟩) k k (List.replicate k 0) := by
 refine ⟨⟨by simp, .inr ⟨w.heap.size, k, madeCells #[.int .u8 0] k, rfl, Nat.le_refl _, heap_alloc_new w _, Nat.le_refl _, by unfold maxLen; omega, ?_, ?_⟩⟩, ?_⟩
 ·simp [size_madeCells]
 ·apply List.ext_getElem?
  intro i
  by_cases hi : i < k
  ·simp [madeCells, hi, bv, List.getElem?_take, Nat.mod_one]
  ·rw [List.getElem?_eq_none (by simp [size_madeCells]; omega), List.getElem?_eq_none (by simp; omega)]
 ·intro x hx
  rw [(List.mem_replicate.1 hx).2]
  omega
theorem decB_take (l : List Nat) (k : Nat) (h : k < l.length) : decB (l.take (k + 1)) = decB (l.take k) * 256 + byteAt l k := by rw [take_snoc' l k h, decB_snoc]
theorem clampB_mid {z : Int} (h0 : 0 ≤ z) (h1 : z ≤ 4611686018427387904) : clampB z = z.toNat := by unfold clampB; omega
def cutS (z : ByteArray) : ByteArray := z.extract 0 4096
theorem cutS_nats (z : ByteArray) : nats (cutS z) = (nats z).take 4096 := by
 have h := strOf_to (nats z) 4096
 rw [strOf_nats] at h
 unfold cutS
 rw [h, nats_strOf _ (fun x hx => nats_lt z x (List.mem_of_mem_take hx))]
theorem cutS_short {z : ByteArray} (h : z.size ≤ 4096) : cutS z = z := by
 rw [← strOf_nats (cutS z), cutS_nats, List.take_of_length_le (by rw [nats_length]; exact h), strOf_nats]
theorem cutS_size (z : ByteArray) : (cutS z).size = min 4096 z.size := by rw [← nats_length, cutS_nats, List.length_take, nats_length]
theorem textB_cut (z : ByteArray) : textB (nats z) = encB 4 (cutS z).size ++ nats (cutS z) := by unfold textB; rw [← cutS_nats, nats_length]
end Go.Proofs.YtcdehejgnnnimaaGreatDoor
namespace Go.Proofs.YtcdehejgnnnimaaGreatDoor
set_option linter.unusedVariables false
set_option linter.unusedSimpArgs false
open Go.RowKit
set_option maxRecDepth 20000 in
set_option maxHeartbeats 1000000 in
theorem pnum_any (A : Option Addr) (n c : Nat) (l : List Nat) (A' : Option Addr) (m c' : Nat) (zs : List Int) (w : World) (hl : Bytes w w.heap.size A n l) (hz : Col (fun z => .int .i64 z) w w.heap.size A' m zs) (hn : n + 8 * m ≤ 1000000000) :
 Calls Tryz.prog 65 #[.slice A n c, .slice A' m c'] w (Made w.heap.size w (n + 8 * m) (l ++ numsB zs)) := by
 go_enter Tryz.func65, Tryz.ntmps65
 go_wp2_with fail
 refine (cloneB_any A n c l w hl (by omega)).mono ?_
 rintro e w1 ⟨A1, c1, rfl, ho1, hb1⟩
 go_wp2
 go_loopw [5, 12] (fun s t wr => ∃ k : Nat, k ≤ m ∧ t = .int .i64 k ∧ ∃ A2 c2, s = .slice A2 (n + 8 * k) c2 ∧ OwnB wr w.heap.size 5 A2 (n + 8 * k) c2 (l ++ numsB (zs.take k)) ∧ Below w.heap.size w wr) (fun _ t _ => m - (intOf t).toNat)
 case atStart => exact ⟨0, Nat.zero_le _, rfl, A1, c1, rfl, by rw [show numsB (zs.take 0) = [] from rfl, List.append_nil]; exact ho1, hb1⟩
 case round =>
  obtain ⟨k, hk, rfl, A2, c2, rfl, ho, hb⟩ := hrel
  by_cases hlt : k < m
  ·obtain ⟨b, o, z, rfl, hbl, -, ht, hc⟩ := (hz.below hb (Nat.le_refl _)).at_ hlt
   have HT := hide ht
   clear ht
   have HN := hide (numsB_snoc (zs.take k) z)
   have hmm : (if (4611686018427387904 : Int) < (if z < 0 then 0 else z) then 4611686018427387904 else (if z < 0 then 0 else z)) = ((clampB z : Nat) : Int) := by
    unfold clampB
    split <;> split at * <;> omega
   have hcl := clampB_le z
   go_wp2_with fail
   all_goals
    refine (lay_any A2 _ c2 8 (clampB z) w.heap.size _ wr ho (by omega) (by omega) (by omega) hb.size).mono ?_
    rintro e w3 ⟨A3, c3, rfl, ho3, hb3⟩
    have hb3' := hb.trans hb3
    go_wp2
    go_roundw
    case rel => exact ⟨k + 1, by omega, by go_num, A3, c3, rfl, by rw [HT.out, HN.out, ← List.append_assoc]; exact ho3, hb3'⟩
    case measure => simp [intOf]; omega
  ·have HK := hide (show zs.take k = zs from List.take_of_length_le (by rw [hz.1]; omega))
   obtain rfl : k = m := by omega
   go_wp2
   go_ret
   exact ⟨A2, c2, rfl, by rw [HK.out] at ho; exact ho, hb⟩
theorem textsB_take_le (ss : List ByteArray) (k : Nat) (h : k ≤ ss.length) : (textsB ((ss.take k).map nats)).length ≤ 4100 * k := by
 have := textsB_length ((ss.take k).map nats)
 rw [List.length_map, List.length_take, Nat.min_eq_left h] at this
 exact this
set_option maxRecDepth 20000 in
set_option maxHeartbeats 1000000 in
theorem ptext_any (A : Option Addr) (n c : Nat) (l : List Nat) (A' : Option Addr) (m c' : Nat) (ss : List ByteArray) (w : World) (hl : Bytes w w.heap.size A n l) (hz : Col Value.string w w.heap.size A' m ss) (hs : ∀ s ∈ ss, s.size ≤ 140737488355328) (hn : n + 4100 * m ≤ 1000000000) :
 Calls Tryz.prog 66 #[.slice A n c, .slice A' m c'] w (Made w.heap.size w (n + (textsB (ss.map nats)).length) (l ++ textsB (ss.map nats))) := by
 go_enter Tryz.func66, Tryz.ntmps66
 go_wp2_with fail
 refine (cloneB_any A n c l w hl (by omega)).mono ?_
 rintro e w1 ⟨A1, c1, rfl, ho1, hb1⟩
 go_wp2
 go_loopw [5, 12] (fun s t wr => ∃ k : Nat, k ≤ m ∧ t = .int .i64 k ∧ ∃ A2 n2 c2, s = .slice A2 n2 c2 ∧ n2 = n + (textsB ((ss.take k).map nats)).length ∧ OwnB wr w.heap.size 5 A2 n2 c2 (l ++ textsB ((ss.take k).map nats)) ∧ Below w.heap.size w wr) (fun _ t _ => m - (intOf t).toNat)
 case atStart => exact ⟨0, Nat.zero_le _, rfl, A1, n, c1, rfl, rfl, by rw [show textsB ((ss.take 0).map nats) = [] from rfl, List.append_nil]; exact ho1, hb1⟩
 case round =>
  obtain ⟨k, hk, rfl, A2, n2, c2, rfl, hn2, ho, hb⟩ := hrel
  have HN2 := hide hn2
  have hn2' : n2 ≤ n + 4100 * k := by have := textsB_take_le ss k (by rw [hz.1]; exact hk); omega
  clear hn2
  by_cases hlt : k < m
  ·obtain ⟨b, o, z, rfl, hbl, hsub, ht, hc⟩ := (hz.below hb (Nat.le_refl _)).at_ hlt
   have hzs := hs z (List.mem_of_getElem? hsub)
   have HT := hide ht
   clear ht hsub
   have HN := hide (show textsB ((ss.take k ++ [z]).map nats) = textsB ((ss.take k).map nats) ++ textB (nats z) by rw [List.map_append]; exact textsB_snoc _ _)
   have HB := hide (textB_cut z)
   have HL : Hid ((textB (nats z)).length = 4 + (cutS z).size) := hide (by rw [HB.out, List.length_append, encB_length, nats_length])
   have hq : (cutS z).size ≤ 4096 := by rw [cutS_size]; omega
   by_cases hsz : z.size ≤ 4096
   all_goals
    first
     | (have HS := hide (cutS_short hsz)
        have hsI : ¬ (4096 : Int) < (z.size : Int) := by omega)
     | (have HC : Hid (z.extract 0 4096 = cutS z) := hide rfl
        have HM := hide (cutS_size z)
        have hsI : (4096 : Int) < (z.size : Int) := by omega)
    go_wp2_with fail
    first
     | (rw [HC.out, ← HM.out]; clear HC HM; generalize cutS z = q at *)
     | (rw [HS.out] at HB HL hq)
    refine (lay_any A2 _ c2 4 _ w.heap.size _ wr ho (by omega) (by omega) (by omega) hb.size).mono ?_
    rintro e w3 ⟨A3, c3, rfl, ho3, hb3⟩
    have hb3' := hb.trans hb3
    go_wp2_with ((with_reducible show wpList _ _ _ (⟨some 28, _, _, _, _, _⟩ :: _) _ _); refine holdB ?_)
    refine heldB (wpList_append_str rfl (.tmp 26) (.tmp 27) 63 9 rfl Tryz.underlying63 Tryz.underlying9 info_u8 w.heap.size A3 (n2 + 4) c3 _ rfl ho3 _ rfl (by omega) hb3'.size ?_)
    intro A4 c4 w4 ho4 hb4 hg4
    clear hg4
    have hb4' := hb3'.trans hb4
    go_wp2
    go_roundw
    case rel => exact ⟨k + 1, by omega, by go_num, A4, _, c4, rfl, by rw [HT.out, HN.out, List.length_append, HL.out, HN2.out]; omega, by rw [HT.out, HN.out, HB.out, ← List.append_assoc, ← List.append_assoc]; exact ho4, hb4'⟩
    case measure => simp [intOf]; omega
  ·have HK := hide (show ss.take k = ss from List.take_of_length_le (by rw [hz.1]; omega))
   obtain rfl : k = m := by omega
   rw [HK.out] at ho HN2
   rw [HN2.out] at ho
   rw [HN2.out]
   go_wp2
   go_ret
   exact ⟨A2, c2, rfl, ho, hb⟩
end Go.Proofs.YtcdehejgnnnimaaGreatDoor
namespace Go.Proofs.YtcdehejgnnnimaaGreatDoor
set_option linter.unusedVariables false
set_option linter.unusedSimpArgs false
open Go.RowKit
def RdP (w : World) (g : Nat) (l : List Nat) (e : Nat) : Prop := w.heap[g]? = some (.cells #[.string (strOf l), .int .i64 (e : Int)] 130)
section
variable {w w' : World} {g e : Nat} {l : List Nat}
theorem RdP.lt (h : RdP w g l e) : g < w.heap.size := (Array.getElem?_eq_some_iff.1 h).1
theorem RdP.c0 (h : RdP w g l e) : w.cell? ⟨g, 0, none⟩ = some (.string (strOf l)) := by rw [cell_of_row w g 0 _ _ (0, 0) h]; rfl
theorem RdP.c1 (h : RdP w g l e) : w.cell? ⟨g, 1, none⟩ = some (.int .i64 (e : Int)) := by rw [cell_of_row w g 1 _ _ (0, 0) h]; rfl
theorem RdP.f0 (h : RdP w g l e) : w.frozen? ⟨g, 0, none⟩ = false := frozen_of_row w g 0 _ _ h
theorem RdP.f1 (h : RdP w g l e) : w.frozen? ⟨g, 1, none⟩ = false := frozen_of_row w g 1 _ _ h
theorem RdP.grown (h : RdP w g l e) {row : Option Nat} (hg : w.grownBy w' row) (hr : some g ≠ row) : RdP w' g l e := (hg.block g h.lt hr).trans h
theorem RdP.below (h : RdP w g l e) {B : Nat} (hb : Below B w w') (hB : g < B) : RdP w' g l e := (hb.block g hB).trans h
theorem RdP.put0 (h : RdP w g l e) (l' : List Nat) : RdP (w.setCell ⟨g, 0, none⟩ (.string (strOf l'))) g l' e := by
 have := heap_setCell_same w g 0 _ _ (.string (strOf l')) h
 exact this
theorem RdP.put1 (h : RdP w g l e) (e' : Nat) : RdP (w.setCell ⟨g, 1, none⟩ (.int .i64 (e' : Int))) g l e' := by
 have := heap_setCell_same w g 1 _ _ (.int .i64 (e' : Int)) h
 exact this
theorem RdP.new (w : World) (l : List Nat) : RdP (w.alloc (.cells #[.string (strOf l), .int .i64 0] 130)) w.heap.size l 0 := heap_alloc_new w _
end
theorem grownBy_setCell (w : World) (b i : Nat) (v : Value) : w.grownBy (w.setCell ⟨b, i, none⟩ v) (some b) :=
 ⟨rfl, rfl, rfl, by simp, fun k _ hr => Below.heap_setCell w _ v k (fun e => hr (by rw [e]))⟩
def Stood (g : Nat) (l : List Nat) (e : Nat) (w w' : World) : Prop := RdP w' g l e ∧ w.grownBy w' (some g)
def Gave (v : Value) (g : Nat) (l : List Nat) (e : Nat) (w : World) (x : Ending) (w' : World) : Prop := x = .returned v ∧ Stood g l e w w'
def noteE (e k : Nat) : Nat := if e = 0 then k else e
theorem noteE_0 (k : Nat) : noteE 0 k = k := rfl
theorem noteE_ne {e : Nat} (k : Nat) (h : e ≠ 0) : noteE e k = e := if_neg h
set_option maxHeartbeats 400000 in
theorem note_any (g e k : Nat) (l : List Nat) (w : World) (h : RdP w g l e) :
 Calls Tryz.prog 75 #[.pointer (some ⟨g, 0, none⟩), .int .i64 (k : Int)] w (Gave (.tuple #[]) g l (noteE e k) w) := by
 have h1 := h.c1
 have h2 := h.f1
 have hp := h.put1 k
 by_cases he : e = 0
 ·subst he
  rw [noteE_0]
  have H := hide h
  clear h
  go_enter Tryz.func75, Tryz.ntmps75
  go_wp2
  go_end0
  exact ⟨rfl, hp, grownBy_setCell _ _ _ _⟩
 ·rw [noteE_ne k he]
  have heb : ((e : Int) == 0) = false := by simp; omega
  have H := hide h
  clear h
  go_enter Tryz.func75, Tryz.ntmps75
  go_wp2
  go_end0
  exact ⟨rfl, H.out, World.grownBy.refl _ _⟩
theorem takeV_ok {l : List Nat} {n : Nat} (h : n ≤ l.length) : takeV l 0 n = l.take n := if_pos ⟨rfl, h⟩
theorem takeL_ok {l : List Nat} {n : Nat} (h : n ≤ l.length) : takeL l 0 n = l.drop n := if_pos ⟨rfl, h⟩
theorem takeE_ok {l : List Nat} {n : Nat} (h : n ≤ l.length) : takeE l 0 n = 0 := if_neg (by omega)
theorem takeV_short {l : List Nat} {n : Nat} (h : l.length < n) : takeV l 0 n = [] := if_neg (by omega)
theorem takeL_short {l : List Nat} {n : Nat} (h : l.length < n) : takeL l 0 n = l := if_neg (by omega)
theorem takeE_short {l : List Nat} {n : Nat} (h : l.length < n) : takeE l 0 n = 2 := if_pos ⟨rfl, h⟩
theorem strOf_nil : strOf [] = ⟨#[]⟩ := rfl
set_option maxRecDepth 20000 in
set_option maxHeartbeats 400000 in
theorem ptake_any (g e n : Nat) (l : List Nat) (w : World) (h : RdP w g l e) (hl : l.length ≤ 140737488355328) (hn : n ≤ 18446744073709551615 / 2) :
 Calls Tryz.prog 91 #[.pointer (some ⟨g, 0, none⟩), .int .i64 (n : Int)] w (Gave (.string (strOf (takeV l e n))) g (takeL l e n) (takeE l e n) w) := by
 have h0 := h.c0
 have h1 := h.c1
 have h2 := h.f0
 have hsz := strOf_size l
 by_cases he : e = 0
 ·subst he
  have HP := hide (h.put0 (l.drop n))
  have HT := hide (strOf_to l n)
  have HF := hide (strOf_from l n l.length (Nat.le_refl _))
  by_cases hlt : l.length < n
  ·rw [takeV_short hlt, takeL_short hlt, takeE_short hlt, strOf_nil]
   have H := hide h
   clear h
   generalize strOf l = s at *
   go_enter Tryz.func91, Tryz.ntmps91
   go_wp2_with fail
   refine (note_any g 0 2 l w H.out).mono ?_
   rintro e' w1 ⟨rfl, hr1, hg1⟩
   rw [noteE_0] at hr1
   go_wp2
   go_ret
   exact ⟨rfl, hr1, hg1⟩
  ·have hle : n ≤ l.length := by omega
   rw [takeV_ok hle, takeL_ok hle, takeE_ok hle]
   have H := hide h
   clear h
   generalize strOf l = s at *
   go_enter Tryz.func91, Tryz.ntmps91
   go_wp2
   rw [HT.out, HF.out]
   go_ret
   exact ⟨rfl, HP.out, grownBy_setCell _ _ _ _⟩
 ·rw [takeV_stays he, takeL_stays he, takeE_stays he, strOf_nil]
  have heb : ((e : Int) == 0) = false := by simp; omega
  have H := hide h
  clear h
  generalize strOf l = s at *
  go_enter Tryz.func91, Tryz.ntmps91
  go_wp2
  go_ret
  exact ⟨rfl, H.out, World.grownBy.refl _ _⟩
theorem or8 (x y : Nat) (hx : x < 72057594037927936) (hy : y < 256) : bits .or .u64 ((x : Int) * 256) (y : Int) = ((x * 256 + y : Nat) : Int) := by
 have h := u64_or_nat (x * 256) y (by omega) (by omega)
 rw [nat_join 8 (x * 256) y (by omega) (by omega)] at h
 exact h
theorem pow256_le {k m : Nat} (h : k ≤ m) : 256 ^ k ≤ 256 ^ m := Nat.pow_le_pow_right (by omega) h
set_option maxRecDepth 20000 in
set_option maxHeartbeats 400000 in
theorem praw_any (g e n : Nat) (l : List Nat) (w : World) (h : RdP w g l e) (hl : l.length ≤ 140737488355328) (hb : ∀ x ∈ l, x < 256) (hn : n ≤ 8) :
 Calls Tryz.prog 90 #[.pointer (some ⟨g, 0, none⟩), .int .i64 (n : Int)] w (Gave (.int .u64 ((decB (takeV l e n) : Nat) : Int)) g (takeL l e n) (takeE l e n) w) := by
 have kc := fun W s => Lib.run_convert_string_bytes (P := Tryz.prog) W 9 63 5 s Tryz.underlying9 Tryz.underlying63 Tryz.underlying5
 go_enter Tryz.func90, Tryz.ntmps90
 go_wp2_with fail
 refine (ptake_any g e n l w h hl (by omega)).mono ?_
 rintro e' w1 ⟨rfl, hr1, hg1⟩
 have hv : ∀ x ∈ takeV l e n, x < 256 := takeV_lt hb
 have hvl : (takeV l e n).length ≤ n := takeV_len
 generalize takeV l e n = v at *
 generalize takeL l e n = l' at *
 generalize takeE l e n = e2 at *
 have hS : (strOf v).size = v.length := strOf_size v
 have HNS := hide (nats_strOf v hv)
 generalize strOf v = s at *
 go_wp2
 clear kc
 have hB := bytesWorld_bytes w1 5 s
 rw [HNS.out, hS] at hB
 have hgW := grownBy_trans hg1 (bytesWorld_grown w1 5 s (some g))
 have hrW := hr1.grown (bytesWorld_grown w1 5 s none) (by simp)
 generalize Lib.bytesWorld w1 5 s = W at *
 generalize w1.heap.size = bb at *
 clear hr1 hg1 hS HNS
 have HP := hide hrW
 clear hrW h
 go_loop [5, 13] (fun t i => ∃ k : Nat, k ≤ v.length ∧ i = .int .i64 k ∧ t = .int .u64 ((decB (v.take k) : Nat) : Int)) (fun _ i => v.length - (intOf i).toNat)
 case atStart => exact ⟨0, Nat.zero_le _, rfl, rfl⟩
 case round =>
  obtain ⟨k, hk, rfl, rfl⟩ := hrel
  by_cases hlt : k < v.length
  ·obtain ⟨b, o, hA, _, hc⟩ := hB.at_ hlt
   injection hA with hA
   injection hA with hA1 hA2
   subst hA1; subst hA2
   rw [Nat.zero_add] at hc
   have hby := hB.lt k
   have hx : decB (v.take k) < 72057594037927936 := by
    have h1 := decB_lt (v.take k) (fun x hx => hv x (List.mem_of_mem_take hx))
    have h2 : 256 ^ (v.take k).length ≤ 256 ^ 7 := pow256_le (by rw [List.length_take]; omega)
    omega
   have HT := hide (decB_take v k hlt)
   have HO := fun hx => hide (or8 (decB (v.take k)) (byteAt v k) hx hby)
   have HO := HO hx
   generalize decB (v.take k) = x at *
   generalize byteAt v k = y at *
   go_wp2
   go_round
   case rel => exact ⟨k + 1, by omega, by go_num, by rw [HO.out, HT.out]⟩
   case measure => simp [intOf]; omega
  ·have HK := hide (show v.take k = v from List.take_of_length_le (by omega))
   rw [HK.out]
   go_wp2
   go_ret
   exact ⟨rfl, HP.out, hgW⟩
theorem Stood.trans {g : Nat} {l l' : List Nat} {e e' : Nat} {w w' w'' : World} (h : Stood g l e w w') (h' : Stood g l' e' w' w'') : Stood g l' e' w w'' := ⟨h'.1, grownBy_trans h.2 h'.2⟩
set_option maxRecDepth 20000 in
set_option maxHeartbeats 400000 in
theorem pNum_any (g e : Nat) (l : List Nat) (w : World) (h : RdP w g l e) (hl : l.length ≤ 140737488355328) (hb : ∀ x ∈ l, x < 256) :
 Calls Tryz.prog 74 #[.pointer (some ⟨g, 0, none⟩)] w (Gave (.int .i64 ((numV l e : Nat) : Int)) g (takeL l e 8) (numE l e) w) := by
 have HV : Hid (numV l e = if 4611686018427387904 < decB (takeV l e 8) then 0 else decB (takeV l e 8)) := hide rfl
 have HE : Hid (numE l e = if 4611686018427387904 < decB (takeV l e 8) then 3 else takeE l e 8) := hide rfl
 have HX : Hid (takeE l e 8 ≠ 0 → takeV l e 8 = []) := hide takeV_err
 go_enter Tryz.func74, Tryz.ntmps74
 go_wp2_with fail
 refine (praw_any g e 8 l w h hl hb (by omega)).mono ?_
 rintro e' w1 ⟨rfl, hs1⟩
 generalize takeV l e 8 = v at *
 generalize takeE l e 8 = e1 at *
 generalize takeL l e 8 = l1 at *
 by_cases hg : 4611686018427387904 < decB v
 ·have he : e1 = 0 := by
   rcases Nat.eq_zero_or_pos e1 with h0 | h0
   ·exact h0
   ·have := HX.out (by omega); subst this; rw [decB_nil] at hg; omega
  subst he
  have HV2 := hide (HV.out.trans (if_pos hg))
  have HE2 := hide (HE.out.trans (if_pos hg))
  have hgi : (4611686018427387904 : Int) < ((decB v : Nat) : Int) := by omega
  clear hg HV HE HX
  generalize decB v = x at *
  go_wp2_with fail
  refine (note_any g 0 3 l1 w1 hs1.1).mono ?_
  rintro e' w2 ⟨rfl, hs2⟩
  rw [noteE_0] at hs2
  go_wp2
  go_ret
  rw [HV2.out, HE2.out]
  exact ⟨rfl, hs1.trans hs2⟩
 ·have HV2 := hide (HV.out.trans (if_neg hg))
  have HE2 := hide (HE.out.trans (if_neg hg))
  have hgi : ¬ (4611686018427387904 : Int) < ((decB v : Nat) : Int) := by omega
  clear hg HV HE HX
  generalize decB v = x at *
  go_wp2
  go_ret
  rw [HV2.out, HE2.out]
  exact ⟨rfl, hs1⟩
set_option maxRecDepth 20000 in
set_option maxHeartbeats 400000 in
theorem pText_any (g e : Nat) (l : List Nat) (w : World) (h : RdP w g l e) (hl : l.length ≤ 140737488355328) (hb : ∀ x ∈ l, x < 256) :
 Calls Tryz.prog 77 #[.pointer (some ⟨g, 0, none⟩)] w (Gave (.string (strOf (textV l e))) g (textL l e) (textE l e) w) := by
 have HV : Hid (textV l e = if 4096 < decB (takeV l e 4) then [] else takeV (takeL l e 4) (takeE l e 4) (decB (takeV l e 4))) := hide rfl
 have HL : Hid (textL l e = if 4096 < decB (takeV l e 4) then takeL l e 4 else takeL (takeL l e 4) (takeE l e 4) (decB (takeV l e 4))) := hide rfl
 have HE : Hid (textE l e = if 4096 < decB (takeV l e 4) then 4 else takeE (takeL l e 4) (takeE l e 4) (decB (takeV l e 4))) := hide rfl
 have HX : Hid (takeE l e 4 ≠ 0 → takeV l e 4 = []) := hide takeV_err
 have hl1 : (takeL l e 4).length ≤ 140737488355328 := Nat.le_trans takeL_len hl
 go_enter Tryz.func77, Tryz.ntmps77
 go_wp2_with fail
 refine (praw_any g e 4 l w h hl hb (by omega)).mono ?_
 rintro e' w1 ⟨rfl, hs1⟩
 generalize takeV l e 4 = v at *
 generalize takeE l e 4 = e1 at *
 generalize takeL l e 4 = l1 at *
 by_cases hg : 4096 < decB v
 ·have he : e1 = 0 := by
   rcases Nat.eq_zero_or_pos e1 with h0 | h0
   ·exact h0
   ·have := HX.out (by omega); subst this; rw [decB_nil] at hg; omega
  subst he
  have HV2 := hide (HV.out.trans (if_pos hg))
  have HE2 := hide (HE.out.trans (if_pos hg))
  have HL2 := hide (HL.out.trans (if_pos hg))
  have hgi : (4096 : Int) < ((decB v : Nat) : Int) := by omega
  clear hg HV HE HX HL
  generalize decB v = x at *
  go_wp2_with fail
  refine (note_any g 0 4 l1 w1 hs1.1).mono ?_
  rintro e' w2 ⟨rfl, hs2⟩
  rw [noteE_0] at hs2
  go_wp2
  go_ret
  rw [HV2.out, HE2.out, HL2.out]
  exact ⟨rfl, hs1.trans hs2⟩
 ·have HV2 := hide (HV.out.trans (if_neg hg))
  have HE2 := hide (HE.out.trans (if_neg hg))
  have HL2 := hide (HL.out.trans (if_neg hg))
  have hgi : ¬ (4096 : Int) < ((decB v : Nat) : Int) := by omega
  clear HV HE HX HL
  generalize decB v = x at *
  go_wp2_with fail
  refine (ptake_any g e1 x l1 w1 hs1.1 hl1 (by omega)).mono ?_
  rintro e' w2 ⟨rfl, hs2⟩
  go_wp2
  go_ret
  rw [HV2.out, HE2.out, HL2.out]
  exact ⟨rfl, hs1.trans hs2⟩
set_option maxRecDepth 20000 in
set_option maxHeartbeats 400000 in
theorem pCount_any (g e : Nat) (m : Nat) (l : List Nat) (w : World) (h : RdP w g l e) (hl : l.length ≤ 140737488355328) (hb : ∀ x ∈ l, x < 256) (hm : m ≤ 4611686018427387904) :
 Calls Tryz.prog 54 #[.pointer (some ⟨g, 0, none⟩), .int .i64 (m : Int)] w (Gave (.int .i64 ((countV l e m : Nat) : Int)) g (takeL l e 8) (countE l e m) w) := by
 have HV : Hid (countV l e m = if (m : Int) < (numV l e : Int) then 0 else numV l e) := hide rfl
 have HE : Hid (countE l e m = if numE l e = 0 ∧ (m : Int) < (numV l e : Int) then 4 else numE l e) := hide rfl
 have hle : numV l e ≤ 4611686018427387904 := by unfold numV; split <;> omega
 go_enter Tryz.func54, Tryz.ntmps54
 go_wp2_with fail
 refine (pNum_any g e l w h hl hb).mono ?_
 rintro e' w1 ⟨rfl, hs1⟩
 generalize numV l e = x at *
 generalize numE l e = e1 at *
 generalize takeL l e 8 = l1 at *
 by_cases hg : (m : Int) < (x : Int)
 ·have HV2 := hide (HV.out.trans (if_pos hg))
  have HE2 : Hid (countE l e m = noteE e1 4) := hide (HE.out.trans (by simp [hg]; rfl))
  clear HV HE
  go_wp2_with fail
  refine (note_any g e1 4 l1 w1 hs1.1).mono ?_
  rintro e' w2 ⟨rfl, hs2⟩
  go_wp2
  go_ret
  rw [HV2.out, HE2.out]
  exact ⟨rfl, hs1.trans hs2⟩
 ·have HV2 := hide (HV.out.trans (if_neg hg))
  have HE2 := hide (HE.out.trans (if_neg (fun h => hg h.2)))
  clear HV HE
  go_wp2
  go_ret
  rw [HV2.out, HE2.out]
  exact ⟨rfl, hs1⟩
set_option maxHeartbeats 400000 in
theorem pDone_any (g e : Nat) (l : List Nat) (w : World) (h : RdP w g l e) (hb : ∀ x ∈ l, x < 256) :
 Calls Tryz.prog 56 #[.pointer (some ⟨g, 0, none⟩)] w fun x w' => x = .returned (.int .i64 ((doneE l e : Nat) : Int)) ∧ w = w' := by
 have h0 := h.c0
 have h1 := h.c1
 have HE : Hid (doneE l e = if e = 0 ∧ l ≠ [] then 3 else e) := hide rfl
 have hq := strOf_eqb l [] hb (by simp)
 by_cases he : e = 0
 ·subst he
  by_cases hle : l = []
  ·rw [HE.out, if_neg (by simp [hle])]
   have hq2 : ((strOf l).toList == (⟨#[]⟩ : ByteArray).toList) = true := by rw [← strOf_nil, hq]; simp [hle]
   have hq3 : (strOf l).toList = [] := by subst hle; rw [ByteArray.toList_eq]; rfl
   clear hq HE hle h
   generalize strOf l = s at *
   go_enter Tryz.func56, Tryz.ntmps56
   go_wp2
   go_ret
   exact ⟨rfl, rfl⟩
  ·rw [HE.out, if_pos ⟨rfl, hle⟩]
   have hq2 : ((strOf l).toList == (⟨#[]⟩ : ByteArray).toList) = false := by rw [← strOf_nil, hq]; simp [hle]
   have hq3 : ¬ (strOf l).toList = [] := by intro h; simp [h] at hq2
   have hq4 : (!(strOf l).toList.isEmpty) = true := by simpa using hq3
   clear hq HE hle h
   generalize strOf l = s at *
   go_enter Tryz.func56, Tryz.ntmps56
   go_wp2
   go_ret
   exact ⟨rfl, rfl⟩
 ·rw [HE.out, if_neg (fun h => he h.1)]
  have heb : ((e : Int) == 0) = false := by simp; omega
  clear hq HE
  generalize strOf l = s at *
  go_enter Tryz.func56, Tryz.ntmps56
  go_wp2
  go_ret
  exact ⟨rfl, rfl⟩
end Go.Proofs.YtcdehejgnnnimaaGreatDoor
namespace Go.Proofs.YtcdehejgnnnimaaGreatDoor
set_option linter.unusedVariables false
set_option linter.unusedSimpArgs false
open Go.RowKit
def NewRd (l : List Nat) (w : World) (x : Ending) (w' : World) : Prop := x = .returned (.pointer (some ⟨w.heap.size, 0, none⟩)) ∧ RdP w' w.heap.size l 0 ∧ Below w.heap.size w w'
set_option maxHeartbeats 400000 in
theorem pFrom_any (A : Option Addr) (n c B : Nat) (l : List Nat) (w : World) (hl : Bytes w B A n l) :
 Calls Tryz.prog 53 #[.slice A n c] w (NewRd l w) := by
 have kc := run_str_of_bytes (P := Tryz.prog) (c := c) hl Tryz.underlying63 Tryz.underlying5 Tryz.underlying9
 have H := hide (RdP.new w l)
 generalize strOf l = s at *
 go_enter Tryz.func53, Tryz.ntmps53
 go_wp2
 go_ret
 exact ⟨rfl, H.out, (Below.refl _ _).alloc (Nat.le_refl _) _⟩
section
variable {w w' : World} {g B e : Nat} {l : List Nat}
end
theorem Bytes.to {w : World} {B n : Nat} {A : Option Addr} {l : List Nat} (h : Bytes w B A n l) {k : Nat} (hk : k ≤ n) : Bytes w B A k (l.take k) :=
 ⟨by rw [List.length_take, h.1]; omega, fun x hx => h.2.1 x (List.mem_of_mem_take hx), fun h0 => by
  obtain ⟨b, o, e, hb, hc⟩ := h.2.2 (by omega)
  refine ⟨b, o, e, hb, fun i hi => ?_⟩
  rw [hc i (by omega)]
  unfold byteAt
  simp [List.getD_eq_getElem?_getD, List.getElem?_take, hi]⟩
theorem Bytes.from_ {w : World} {B n : Nat} {b o : Nat} {l : List Nat} (h : Bytes w B (some ⟨b, o, none⟩) n l) {k : Nat} (hk : k ≤ n) (hkn : 0 < n) : Bytes w B (some ⟨b, o + k, none⟩) (n - k) (l.drop k) :=
 ⟨by rw [List.length_drop, h.1], fun x hx => h.2.1 x (List.mem_of_mem_drop hx), fun h0 => by
  obtain ⟨b', o', e, hb, hc⟩ := h.2.2 (by omega)
  injection e with e
  injection e with e1 e2
  subst e1; subst e2
  refine ⟨b, o + k, rfl, hb, fun i hi => ?_⟩
  rw [Nat.add_assoc, hc (k + i) (by omega)]
  unfold byteAt
  simp [List.getD_eq_getElem?_getD, List.getElem?_drop]⟩
theorem Bytes.rest {w : World} {B n : Nat} {A : Option Addr} {l : List Nat} (h : Bytes w B A n l) {k : Nat} (hk : k ≤ n) : Bytes w B (A.map fun x => x.add k) (n - k) (l.drop k) := by
 by_cases h0 : n - k = 0
 ·rw [h0, List.drop_eq_nil_of_le (by rw [h.1]; omega)]
  exact Bytes.nil
 ·obtain ⟨b, o, rfl, _⟩ := h.2.2 (by omega)
  have e : (some (⟨b, o, none⟩ : Addr)).map (fun x => x.add k) = some ⟨b, o + k, none⟩ := by rw [Option.map_some, Addr.add_mid]
  rw [e]
  exact h.from_ hk (by omega)
end Go.Proofs.YtcdehejgnnnimaaGreatDoor
