/-
 A part of the proof: see the last text.
-/
import Derived.Below
import Derived.Deep.MidRow
import Derived.WalkKit
import Derived.Laws.MakeOwn
import Derived.OwnWalk
import Derived.Laws.CopyOwn
import Derived.RangeFuncNested
import Derived.RangeFuncBound
import Derived.RangeFuncCalls
import Derived.RangeFuncLeaves
import Derived.Shelf.Abstract
import Derived.Shelf.RegionOpen
import Derived.OwnWalkIn
import Derived.TacticsInMore
import Derived.LoopNIn
import Derived.LoopIn
import Derived.ChangeKeysEq
import Derived.Laws.StructEq
namespace Go.Proofs.YtcdehejgnnnimaaGreatDoor
set_option linter.unusedVariables false
set_option linter.unusedSimpArgs false
open Go.RowKit
structure Keeps (S : Nat → Prop) (w w' : World) : Prop where
 os : w'.os = w.os
 tape : w'.tape = w.tape
 output : w'.output = w.output
 size : w.heap.size ≤ w'.heap.size
 block : ∀ k, S k → w'.heap[k]? = w.heap[k]?
theorem Keeps.refl (S : Nat → Prop) (w : World) : Keeps S w w := ⟨rfl, rfl, rfl, Nat.le_refl _, fun _ _ => rfl⟩
theorem Keeps.trans {S : Nat → Prop} {a b c : World} (h : Keeps S a b) (k : Keeps S b c) : Keeps S a c :=
 ⟨k.os.trans h.os, k.tape.trans h.tape, k.output.trans h.output, Nat.le_trans h.size k.size, fun i hi => (k.block i hi).trans (h.block i hi)⟩
theorem Keeps.cell {S : Nat → Prop} {w w' : World} (h : Keeps S w w') {p : Addr} (hp : S p.block) : w'.cell? p = w.cell? p := World.cell?_of_block (w := w) (h.block p.block hp)
theorem Keeps.frozen {S : Nat → Prop} {w w' : World} (h : Keeps S w w') {p : Addr} (hp : S p.block) : w'.frozen? p = w.frozen? p := World.frozen?_of_block (w := w) (h.block p.block hp)
theorem Keeps.of_below {S : Nat → Prop} {B : Nat} {w w' : World} (h : Below B w w') (hS : ∀ b, S b → b < B) : Keeps S w w' := ⟨h.os, h.tape, h.output, h.size, fun k hk => h.block k (hS k hk)⟩
theorem Keeps.below {S : Nat → Prop} {B : Nat} {w w' : World} (h : Keeps S w w') (hS : ∀ b, b < B → S b) : Below B w w' := ⟨h.os, h.tape, h.output, h.size, fun k hk => h.block k (hS k hk)⟩
theorem Keeps.alloc {S : Nat → Prop} {a w : World} (h : Keeps S a w) (hS : ∀ b, S b → b < w.heap.size) (o : Obj) : Keeps S a (w.alloc o) :=
 h.trans ⟨rfl, rfl, rfl, by simp, fun k hk => Below.heap_alloc _ _ _ (hS k hk)⟩
theorem Keeps.setCell {S : Nat → Prop} {a w : World} (h : Keeps S a w) {p : Addr} (hp : ¬ S p.block) (u : Value) : Keeps S a (w.setCell p u) :=
 h.trans ⟨rfl, rfl, rfl, by simp [World.setCell], fun k hk => Below.heap_setCell _ _ _ _ (fun e => hp (e ▸ hk))⟩
theorem Keeps.setRow {S : Nat → Prop} {a w : World} (h : Keeps S a w) {g : Nat} (hp : ¬ S g) (cs : Array Value) : Keeps S a (w.setRow g cs) :=
 h.trans ⟨rfl, rfl, rfl, by simp, fun k hk => Go.setRow_other w g k cs (fun e => hp (e ▸ hk))⟩
def secv (s : List Int) : List Value := s.map (Value.int .u8)
def wrv (x : Int × List Int) : List Value := .int .i64 x.1 :: secv x.2
theorem secv_length (s : List Int) : (secv s).length = s.length := by simp [secv]
theorem wrv_length (x : Int × List Int) : (wrv x).length = x.2.length + 1 := by simp [wrv, secv]
theorem secv_one (s : List Int) : ∀ v ∈ secv s, v.oneCell' = true := by
 intro v hv
 simp only [secv, List.mem_map] at hv
 obtain ⟨n, _, rfl⟩ := hv
 rfl
theorem wrv_one (x : Int × List Int) : ∀ v ∈ wrv x, v.oneCell' = true := by
 intro v hv
 simp only [wrv, List.mem_cons] at hv
 rcases hv with rfl | hv
 ·rfl
 ·exact secv_one _ _ hv
def Arr (w : World) (B k : Nat) (A : Option Addr) (n : Nat) (xs : List (List Value)) : Prop :=
 xs.length = n ∧ (∀ x ∈ xs, x.length = k) ∧ (0 < n → ∃ b o, A = some ⟨b, o, none⟩ ∧ b < B ∧ ∀ i x, xs[i]? = some x → w.rangeAt b (o + i * k) x)
theorem Arr.nil {w : World} {B k : Nat} {A : Option Addr} : Arr w B k A 0 [] := ⟨rfl, by simp, fun h => absurd h (Nat.lt_irrefl _)⟩
theorem rangeAt_keep {w w' : World} {b o : Nat} {x : List Value} (h : w.rangeAt b o x) (hk : ∀ p : Addr, p.block = b → w'.cell? p = w.cell? p) : w'.rangeAt b o x :=
 fun j v hv => (hk _ rfl).trans (h j v hv)
theorem Arr.keep {w w' : World} {B k n : Nat} {A : Option Addr} {xs : List (List Value)} (h : Arr w B k A n xs) (hk : ∀ p : Addr, p.block < B → w'.cell? p = w.cell? p) : Arr w' B k A n xs :=
 ⟨h.1, h.2.1, fun hn => by
  obtain ⟨b, o, e, hb, hc⟩ := h.2.2 hn
  exact ⟨b, o, e, hb, fun i x hx => rangeAt_keep (hc i x hx) (fun p hp => hk p (by omega))⟩⟩
theorem Arr.more {w : World} {B B' k n : Nat} {A : Option Addr} {xs : List (List Value)} (h : Arr w B k A n xs) (hB : B ≤ B') : Arr w B' k A n xs :=
 ⟨h.1, h.2.1, fun hn => by
  obtain ⟨b, o, e, hb, hc⟩ := h.2.2 hn
  exact ⟨b, o, e, by omega, hc⟩⟩
theorem Arr.below {w w' : World} {B B' k n : Nat} {A : Option Addr} {xs : List (List Value)} (h : Arr w B k A n xs) (hb : Below B' w w') (hB : B ≤ B') : Arr w' B k A n xs :=
 h.keep fun p hp => hb.cell (by omega)
theorem Arr.at_ {w : World} {B k n : Nat} {A : Option Addr} {xs : List (List Value)} (h : Arr w B k A n xs) {i : Nat} (hi : i < n) :
 ∃ b o, A = some ⟨b, o, none⟩ ∧ b < B ∧ w.rangeAt b (o + i * k) (xs.getD i []) := by
 obtain ⟨b, o, e, hb, hc⟩ := h.2.2 (by omega)
 have hl : i < xs.length := by rw [h.1]; exact hi
 exact ⟨b, o, e, hb, hc i _ (by simp [hl])⟩
def Bk (w : World) (b : Nat) (t : TypeId) (cs : Array Value) : Prop := w.heap[b]? = some (.cells cs t (0, 0))
theorem Bk.below {w w' : World} {b B : Nat} {t : TypeId} {cs : Array Value} (h : Bk w b t cs) (hb : Below B w w') (hl : b < B) : Bk w' b t cs := (hb.block b hl).trans h
theorem Bk.cell {w : World} {b : Nat} {t : TypeId} {cs : Array Value} (h : Bk w b t cs) (i : Nat) : w.cell? ⟨b, i, none⟩ = cs[i]? := by
 unfold Bk at h
 simp [World.cell?, h]
theorem Bk.frozen {w : World} {b : Nat} {t : TypeId} {cs : Array Value} (h : Bk w b t cs) (i : Nat) : w.frozen? ⟨b, i, none⟩ = false := by
 unfold Bk at h
 simp [World.frozen?, h]
theorem Bk.new (w : World) (t : TypeId) (cs : Array Value) : Bk (w.alloc (.cells cs t)) w.heap.size t cs := heap_alloc_new w _
theorem Bk.lt {w : World} {b : Nat} {t : TypeId} {cs : Array Value} (h : Bk w b t cs) : b < w.heap.size := (Array.getElem?_eq_some_iff.1 h).1
theorem Bk.alloc {w : World} {b : Nat} {t : TypeId} {cs : Array Value} (h : Bk w b t cs) (o : Obj) : Bk (w.alloc o) b t cs := (Below.heap_alloc w o b h.lt).trans h
theorem Bk.drew {w : World} {b : Nat} {t : TypeId} {cs : Array Value} (h : Bk w b t cs) : Bk w.drew b t cs := h
theorem Bk.far {w : World} {b : Nat} {t : TypeId} {cs : Array Value} (h : Bk w b t cs) {p : Addr} (hp : b ≠ p.block) (u : Value) : Bk (w.setCell p u) b t cs := (Below.heap_setCell w p u b hp).trans h
theorem Bk.put {w : World} {b : Nat} {t : TypeId} {cs : Array Value} (h : Bk w b t cs) (i : Nat) (u : Value) : Bk (w.setCell ⟨b, i, none⟩ u) b t (cs.setIfInBounds i u) := by
 unfold Bk at h ⊢
 simp [World.setCell, Array.getElem?_modify, h]
theorem Bk.new' (w : World) (b : Nat) (t : TypeId) (cs : Array Value) (h : b = w.heap.size) : Bk (w.alloc (.cells cs t)) b t cs := by subst h; exact Bk.new w t cs
theorem Bk.new2 (w : World) (o : Obj) (t : TypeId) (cs : Array Value) : Bk ((w.alloc o).alloc (.cells cs t)) (w.heap.size + 1) t cs := by
 have := Bk.new (w.alloc o) t cs
 rwa [World.size_alloc] at this
theorem Bk.new3 (w : World) (o o2 : Obj) (t : TypeId) (cs : Array Value) : Bk (((w.alloc o).alloc o2).alloc (.cells cs t)) (w.heap.size + 1 + 1) t cs := by
 have := Bk.new2 (w.alloc o) o2 t cs
 rwa [World.size_alloc] at this
theorem Bk.new4 (w : World) (o o2 o3 : Obj) (t : TypeId) (cs : Array Value) : Bk ((((w.alloc o).alloc o2).alloc o3).alloc (.cells cs t)) (w.heap.size + 1 + 1 + 1) t cs := by
 have := Bk.new3 (w.alloc o) o2 o3 t cs
 rwa [World.size_alloc] at this
theorem Bk.four {w : World} {b : Nat} {t : TypeId} {v0 v1 v2 v3 : Value} (h : Bk w b t #[v0, v1, v2, v3]) :
 (w.cell? ⟨b, 0, none⟩ = some v0 ∧ w.cell? ⟨b, 1, none⟩ = some v1 ∧ w.cell? ⟨b, 2, none⟩ = some v2 ∧ w.cell? ⟨b, 3, none⟩ = some v3) ∧
 w.frozen? ⟨b, 0, none⟩ = false ∧ w.frozen? ⟨b, 1, none⟩ = false ∧ w.frozen? ⟨b, 2, none⟩ = false ∧ w.frozen? ⟨b, 3, none⟩ = false :=
 ⟨⟨h.cell 0, h.cell 1, h.cell 2, h.cell 3⟩, h.frozen 0, h.frozen 1, h.frozen 2, h.frozen 3⟩
theorem flat_length {k : Nat} : ∀ {xs : List (List Value)}, (∀ x ∈ xs, x.length = k) → xs.flatten.length = xs.length * k
 | [], _ => by simp
 | x :: r, h => by
   rw [List.flatten_cons, List.length_append, h x (by simp), flat_length (fun y hy => h y (by simp [hy])), List.length_cons, Nat.succ_mul, Nat.add_comm]
theorem Arr.flat_length {w : World} {B k n : Nat} {A : Option Addr} {xs : List (List Value)} (h : Arr w B k A n xs) : xs.flatten.length = n * k := by
 rw [YtcdehejgnnnimaaGreatDoor.flat_length h.2.1, h.1]
theorem flat_at {k : Nat} : ∀ {xs : List (List Value)}, (∀ x ∈ xs, x.length = k) → ∀ (i j : Nat), j < k → xs.flatten[i * k + j]? = (xs[i]?).bind (·[j]?)
 | [], _, i, j, _ => by simp
 | x :: r, h, 0, j, hj => by
   rw [List.flatten_cons, List.getElem?_append_left (by rw [h x (by simp)]; omega)]
   simp
 | x :: r, h, i + 1, j, hj => by
   rw [List.flatten_cons, List.getElem?_append_right (by rw [h x (by simp)]; have := Nat.succ_mul i k; simp only [Nat.succ_eq_add_one] at this; omega), h x (by simp)]
   have e : (i + 1) * k + j - k = i * k + j := by have := Nat.succ_mul i k; simp only [Nat.succ_eq_add_one] at this; omega
   rw [e, flat_at (fun y hy => h y (by simp [hy])) i j hj]
   simp
theorem Arr.flat {w : World} {b o k : Nat} {xs : List (List Value)} (hk : ∀ x ∈ xs, x.length = k) (hc : ∀ i x, xs[i]? = some x → w.rangeAt b (o + i * k) x) : w.rangeAt b o xs.flatten := by
 intro j v hv
 rcases Nat.eq_zero_or_pos k with rfl | hpos
 ·have : xs.flatten.length = 0 := by rw [YtcdehejgnnnimaaGreatDoor.flat_length hk]; simp
  rw [List.eq_nil_of_length_eq_zero this] at hv
  cases hv
 ·have e : j = j / k * k + j % k := by have := Nat.div_add_mod j k; rw [Nat.mul_comm] at this; exact this.symm
  rw [e, flat_at hk _ _ (Nat.mod_lt _ hpos)] at hv
  cases hx : xs[j / k]? with
  | none => simp [hx] at hv
  | some x =>
    simp only [hx, Option.bind_some] at hv
    have := hc _ x hx _ v hv
    rw [Nat.add_assoc, ← e] at this
    exact this
theorem Arr.of_bk {w : World} {b k n : Nat} {t : TypeId} {cs : Array Value} {xs : List (List Value)} (h : Bk w b t cs) (hl : xs.length = n) (hk : ∀ x ∈ xs, x.length = k) (hcs : ∀ (j : Nat) (v : Value), xs.flatten[j]? = some v → cs[j]? = some v)
 (B : Nat) (hB : b < B) : Arr w B k (some ⟨b, 0, none⟩) n xs := by
 refine ⟨hl, hk, fun _ => ⟨b, 0, rfl, hB, fun i x hx j v hv => ?_⟩⟩
 rw [h.cell, Nat.zero_add]
 refine hcs _ v ?_
 have hj : j < k := by
  have := (List.getElem?_eq_some_iff.1 hv).1
  rw [hk x (List.mem_of_getElem? hx)] at this
  exact this
 rw [flat_at hk i j hj, hx]
 exact hv
structure Dk where
 secs : List (List Int)
 loose : List (Int × List Int)
 fuse : Int
 down : Bool
 deriving DecidableEq
def DkAt (w : World) (B : Nat) (v : Value) (d : Dk) : Prop :=
 ∃ A n c A' n' c', v = .agg #[.slice A n c, .slice A' n' c', .int .i64 d.fuse, .bool d.down] ∧ n ≤ c ∧ n' ≤ c' ∧ c ≤ maxLen ∧ c' ≤ maxLen ∧
   Arr w B 64 A n (d.secs.map secv) ∧ Arr w B 65 A' n' (d.loose.map wrv)
theorem DkAt.below {w w' : World} {B B' : Nat} {v : Value} {d : Dk} (h : DkAt w B v d) (hb : Below B' w w') (hB : B ≤ B') : DkAt w' B v d := by
 obtain ⟨A, n, c, A', n', c', e, h1, h2, h3, h4, h5, h6⟩ := h
 exact ⟨A, n, c, A', n', c', e, h1, h2, h3, h4, h5.below hb hB, h6.below hb hB⟩
theorem DkAt.more {w : World} {B B' : Nat} {v : Value} {d : Dk} (h : DkAt w B v d) (hB : B ≤ B') : DkAt w B' v d := by
 obtain ⟨A, n, c, A', n', c', e, h1, h2, h3, h4, h5, h6⟩ := h
 exact ⟨A, n, c, A', n', c', e, h1, h2, h3, h4, h5.more hB, h6.more hB⟩
def fuseB (f : Int) : Bool := decide (-1 ≤ f) && decide (f ≤ 1099511627776)
def thereB (n : Nat) (a : Int) : Bool := decide (0 ≤ a) && decide (a < n)
def looseB (n : Nat) (l : List (Int × List Int)) : Bool := l.all fun x => thereB n x.1
def rightB (d : Dk) : Bool := decide (d.secs.length ≤ 4096) && decide (d.loose.length ≤ 100000) && fuseB d.fuse && looseB d.secs.length d.loose
def deedF (f : Int) (b : Bool) : Int := if b then f else if 0 < f then f - 1 else f
def deedD (f : Int) (b : Bool) : Bool := b || f == 0
def newM (n : Int) : Dk × Int :=
 if 0 ≤ n ∧ n ≤ 4096 then (⟨List.replicate n.toNat (List.replicate 64 0), [], -1, false⟩, 0) else (⟨[], [], 0, false⟩, 1)
def armM (d : Dk) (f : Int) : Dk × Int := if (rightB d && fuseB f) = true then ({ d with fuse := f }, 0) else (d, 1)
def putM (d : Dk) (a : Int) (s : List Int) : Dk × Int :=
 if (rightB d && thereB d.secs.length a) = true then
  if deedD d.fuse d.down = true then ({ d with fuse := deedF d.fuse d.down, down := true }, 9)
  else ({ d with loose := d.loose ++ [(a, s)], fuse := deedF d.fuse d.down }, 0)
 else (d, 1)
def doneM (stays : Nat → Bool) : Nat → List (List Int) → List (Int × List Int) → List (List Int)
 | _, ss, [] => ss
 | i, ss, x :: r => doneM stays (i + 1) (if stays i then ss.set x.1.toNat x.2 else ss) r
def viewM (d : Dk) : List (List Int) := doneM (fun _ => true) 0 d.secs d.loose
def bitM (mask : Nat) (i : Nat) : Bool := mask.testBit (i % 64)
def flushM (d : Dk) : Dk × Int :=
 if rightB d = true then
  if deedD d.fuse d.down = true then ({ d with fuse := deedF d.fuse d.down, down := true }, 9)
  else (⟨viewM d, [], deedF d.fuse d.down, d.down⟩, 0)
 else (d, 1)
def startM (d : Dk) (mask : Nat) : Dk × Int :=
 if rightB d = true then (⟨doneM (bitM mask) 0 d.secs d.loose, [], -1, false⟩, 0) else (d, 1)
def readM (d : Dk) (a : Int) : List Int × Int :=
 if (rightB d && thereB d.secs.length a) = true then
  if d.down = true then (List.replicate 64 0, 9) else ((viewM d).getD a.toNat [], 0)
 else (List.replicate 64 0, 1)
def DkRes (w : World) (x : Dk × Int) (e : Ending) (w' : World) : Prop :=
 ∃ v, e = .returned (.tuple #[v, .int .i64 x.2]) ∧ DkAt w' w'.heap.size v x.1 ∧ Below w.heap.size w w'
theorem DkRes.same {w W : World} {A A' : Option Addr} {n c n' c' : Nat} {f er : Int} {b : Bool} {x : Dk × Int} {ss : List (List Int)} {ls : List (Int × List Int)} (hx : x = (⟨ss, ls, f, b⟩, er))
 (hS : Arr w w.heap.size 64 A n (ss.map secv)) (hL : Arr w w.heap.size 65 A' n' (ls.map wrv)) (h1 : n ≤ c) (h2 : n' ≤ c') (h3 : c ≤ maxLen) (h4 : c' ≤ maxLen) (hb : Below w.heap.size w W) :
 DkRes w x (.returned (.tuple #[.agg #[.slice A n c, .slice A' n' c', .int .i64 f, .bool b], .int .i64 er])) W := by
 subst hx
 exact ⟨_, rfl, ⟨A, n, c, A', n', c', rfl, h1, h2, h3, h4, (hS.below hb (Nat.le_refl _)).more hb.size, (hL.below hb (Nat.le_refl _)).more hb.size⟩, hb⟩
theorem DkRes.of {w w2 W : World} {A A' : Option Addr} {n c n' c' : Nat} {f er : Int} {b : Bool} {x : Dk × Int} {ss : List (List Int)} {ls : List (Int × List Int)} (hx : x = (⟨ss, ls, f, b⟩, er))
 (h1 : n ≤ c) (h2 : n' ≤ c') (h3 : c ≤ maxLen) (h4 : c' ≤ maxLen)
 (hS : Arr w2 w.heap.size 64 A n (ss.map secv)) (hb2 : Below w.heap.size w w2) (hb : Below w.heap.size w2 W)
 (hL' : Arr W W.heap.size 65 A' n' (ls.map wrv)) :
 DkRes w x (.returned (.tuple #[.agg #[.slice A n c, .slice A' n' c', .int .i64 f, .bool b], .int .i64 er])) W := by
 subst hx
 exact ⟨_, rfl, ⟨A, n, c, A', n', c', rfl, h1, h2, h3, h4, (hS.below hb (Nat.le_refl _)).more (by have := hb2.size; have := hb.size; omega), hL'⟩, hb2.trans hb⟩
theorem DkAt.later {w W : World} {v : Value} {d : Dk} (h : DkAt w w.heap.size v d) (hb : Below w.heap.size w W) : DkAt W W.heap.size v d := (h.below hb (Nat.le_refl _)).more hb.size
end Go.Proofs.YtcdehejgnnnimaaGreatDoor
namespace Go.Proofs.YtcdehejgnnnimaaGreatDoor
set_option linter.unusedVariables false
set_option linter.unusedSimpArgs false
open Go.RowKit
theorem madeCells_replicate (k n : Nat) (v : Value) (hk : 0 < k) : madeCells (Array.replicate k v) n = Array.replicate n v := by
 apply Array.ext
 ·simp [madeCells]
 ·intro i h1 h2
  have : i % k < k := Nat.mod_lt _ hk
  simp [madeCells, this]
def zsec : List Int := List.replicate 64 0
theorem secv_zsec : secv zsec = List.replicate 64 (.int .u8 0) := by simp [secv, zsec]
theorem run_make_secs {P : Program} {t e : TypeId} (ht : P.underlying t = some (.slice e))
 (he : (P.info? e).map (fun i => (i.zero, i.size, i.bytes)) = some (some (.agg (Array.replicate 64 (.int .u8 0))), 64, 64)) (n : Int) (h0 : 0 ≤ n) (h1 : n ≤ 1000000) (W : World) :
 (Instr.makeSlice t (.int .i64 n) (.int .i64 n)).run P W = .ok (.slice (some ⟨W.heap.size, 0, none⟩) n.toNat n.toNat) (W.alloc (.cells (Array.replicate (n.toNat * 64) (.int .u8 0)) e)) := by
 obtain ⟨i, hi, hz, hs, hb⟩ := info_parts he
 have := run_make (P := P) W t e i _ ht hi hz .i64 .i64 n n h0 (Int.le_refl _) (by rw [hb]; omega) (by omega)
 rw [this, hs]
 show Result.ok _ (W.alloc (.cells (madeCells (Array.replicate 64 (.int .u8 0)) _) e)) = _
 rw [madeCells_replicate _ _ _ (by omega)]
def zwrs (m : Nat) : Array Value := madeCells (wrv (0, zsec)).toArray (m * 65)
theorem zwrs_size (m : Nat) : (zwrs m).size = m * 65 := by simp [zwrs, size_madeCells]
theorem run_make_writes {P : Program} {t e : TypeId} (ht : P.underlying t = some (.slice e))
 (he : (P.info? e).map (fun i => (i.zero, i.size, i.bytes)) = some (some (.agg (wrv (0, zsec)).toArray), 65, 72)) (m : Nat) (h1 : m ≤ 1000000) (W : World) :
 (Instr.makeSlice t (.int .i64 ((m : Int) + 1)) (.int .i64 ((m : Int) + 1))).run P W = .ok (.slice (some ⟨W.heap.size, 0, none⟩) (m + 1) (m + 1)) (W.alloc (.cells (zwrs (m + 1)) e)) := by
 obtain ⟨i, hi, hz, hs, hb⟩ := info_parts he
 have := run_make (P := P) W t e i _ ht hi hz .i64 .i64 ((m : Int) + 1) ((m : Int) + 1) (by omega) (Int.le_refl _) (by rw [hb]; omega) (by omega)
 rw [this, hs, show ((m : Int) + 1).toNat = m + 1 by omega]
 rfl
theorem run_make_bools {P : Program} {t e : TypeId} (ht : P.underlying t = some (.slice e))
 (he : (P.info? e).map (fun i => (i.zero, i.size, i.bytes)) = some (some (.bool false), 1, 1)) (n : Nat) (h1 : n ≤ 1000000) (W : World) :
 (Instr.makeSlice t (.int .i64 (n : Int)) (.int .i64 (n : Int))).run P W = .ok (.slice (some ⟨W.heap.size, 0, none⟩) n n) (W.alloc (.cells (List.replicate n (Value.bool false)).toArray e)) := by
 obtain ⟨i, hi, hz, hs, hb⟩ := info_parts he
 have := run_make (P := P) W t e i _ ht hi hz .i64 .i64 (n : Int) (n : Int) (by omega) (Int.le_refl _) (by rw [hb]; omega) (by omega)
 rw [this, hs, Int.toNat_natCast, Nat.mul_one]
 have e1 : madeCells (Value.bool false).cells n = (List.replicate n (Value.bool false)).toArray := by
  apply Array.ext'
  rw [show (Value.bool false).cells = #[Value.bool false] from rfl, toList_madeCells_one]
 rw [e1]
theorem Arr.zeros (w : World) (b n : Nat) (e : TypeId) (h : Bk w b e (Array.replicate (n * 64) (.int .u8 0))) (B : Nat) (hB : b < B) :
 Arr w B 64 (some ⟨b, 0, none⟩) n ((List.replicate n zsec).map secv) := by
 refine ⟨by simp, fun x hx => ?_, fun hn => ⟨b, 0, rfl, hB, fun i x hx => ?_⟩⟩
 ·simp only [List.map_replicate, List.mem_replicate] at hx
  rw [hx.2]; simp [secv, zsec]
 ·simp only [List.map_replicate, List.getElem?_replicate] at hx
  split at hx
  ·rename_i hi
   injection hx with hx
   subst hx
   intro j v hv
   rw [h.cell, secv_zsec, List.getElem?_replicate] at *
   split at hv
   ·injection hv with hv
    subst hv
    have : i * 64 + 64 ≤ n * 64 := by have := Nat.mul_le_mul_right 64 (show i + 1 ≤ n by omega); omega
    rw [Array.getElem?_replicate, if_pos (by omega)]
   ·cases hv
  ·cases hx
theorem setRow_other' (w : World) (g k : Nat) (cs : Array Value) (h : k ≠ g) : (w.setRow g cs).heap[k]? = w.heap[k]? := Go.setRow_other w g k cs h
theorem splice_two (z xs y : List Value) (h : xs.length + y.length = z.length) : splice (splice z 0 xs) xs.length y = xs ++ y := by
 have e : splice z 0 xs = xs ++ z.drop xs.length := by simp [splice]
 rw [e]
 unfold splice
 rw [List.take_left, List.drop_eq_nil_of_le (by simp; omega), List.append_nil]
theorem fold_set (off : Nat) : ∀ (l : List Value) (i : Nat) (cs : Array Value), off + i + l.length ≤ cs.size →
 ((l.zipIdx i).foldl (fun (cs : Array Value) (x : Value × Nat) => cs.setIfInBounds (off + x.2) x.1) cs).toList = splice cs.toList (off + i) l
 | [], i, cs, h => by simp [splice]
 | v :: r, i, cs, h => by
   have h' : off + (i + 1) + r.length ≤ (cs.setIfInBounds (off + i) v).size := by simp at h ⊢; omega
   rw [List.zipIdx_cons, List.foldl_cons, fold_set off r (i + 1) _ h']
   have e := list_seg_step cs.toList (off + i) v r (by simp at h ⊢; omega)
   simp only [splice, Array.toList_setIfInBounds, List.length_cons]
   have e1 : off + (i + 1) = off + i + 1 := by omega
   rw [e1]
   simpa [Nat.add_assoc] using e
section
variable {P : Program}
theorem hold {p : Prop} (h : Hid p) : p := h
theorem held {p : Prop} (h : p) : Hid p := h
theorem wp_value {o : Oper} {a : Act} {w w' : World} {K : Act → World → Prop} {Q : Exit → Act → World → Prop} {v : Value}
 (h : (execOp a.eval o).run P w = .ok (.value v) w') (hK : K (a.put o.dst v) w') : o.wp P a w K Q := by
 unfold Oper.wp
 simp only [h]
 exact hK
theorem wp_skip {o : Oper} {a : Act} {w w' : World} {K : Act → World → Prop} {Q : Exit → Act → World → Prop}
 (h : (execOp a.eval o).run P w = .ok .skip w') (hK : K (a.put o.dst undef) w') : o.wp P a w K Q := by
 unfold Oper.wp
 simp only [h]
 exact hK
theorem wpList_over {ops : Array Oper} {l : List Oper} {a : Act} {W : World} {Q : Exit → Act → World → Prop} (F : World → Prop) (hF : F W) (h : ∀ W', F W' → wpList P ops Q l a W') : Hid (wpList P ops Q l a W) := h W hF
theorem wpList_alloc_to {ops : Array Oper} {rest : List Oper} {o : Oper} {a : Act} {w : World} {Q : Exit → Act → World → Prop} (hgd : o.guard = none) (ty : TypeId) (ho : o.op = .alloc ty) (z : Array Value)
 (hz : (P.info? ty).map (·.zero) = some (some (.agg z))) (h : wpList P ops Q rest (a.put o.dst (.pointer (some ⟨w.heap.size, 0, none⟩))) (w.alloc (.cells z ty))) : wpList P ops Q (o :: rest) a w :=
 wpList_plain hgd fun _ hK => by
  cases hq : P.info? ty with
  | none => simp [hq] at hz
  | some i =>
    have hz' : i.zero = some (.agg z) := by simpa [hq] using hz
    refine wp_value (v := .pointer (some ⟨w.heap.size, 0, none⟩)) (w' := w.alloc (.cells z ty)) ?_ (hK _ _ h)
    unfold execOp
    simp only [ho]
    simp [Instr.alloc, zeroValue, typeInfo, hq, hz', newVar, Value.cells, newRow]
theorem wpList_build_to {ops : Array Oper} {rest : List Oper} {o : Oper} {a : Act} {w : World} {Q : Exit → Act → World → Prop} (hgd : o.guard = none) (t : TypeId) (parts : Array (Nat × Operand)) (ho : o.op = .build t parts)
 (vals : List (Nat × Value)) (hv : (parts.toList.map fun p => (p.1, a.eval p.2)) = vals) (cells : Array Value) (hb : P.built t vals = some cells)
 (h : wpList P ops Q rest (a.put o.dst (.agg cells)) w) : wpList P ops Q (o :: rest) a w :=
 wpList_plain hgd fun _ hK => by
  refine wp_value (v := .agg cells) (w' := w) ?_ (hK _ _ h)
  unfold execOp
  simp only [ho, Sem.run_bind, run_build w t _ cells (by rw [Array.toList_map]; exact hv ▸ hb), Result.andThen_ok]
  rfl
theorem Bk.setRow_other {w : World} {b g : Nat} {t : TypeId} {cs : Array Value} (h : Bk w b t cs) (hne : b ≠ g) (cs' : Array Value) : Bk (w.setRow g cs') b t cs := (YtcdehejgnnnimaaGreatDoor.setRow_other' w g b cs' hne).trans h
theorem Bk.setRow_same {w : World} {g : Nat} {t : TypeId} {cs : Array Value} (h : Bk w g t cs) (cs' : Array Value) : Bk (w.setRow g cs') g t cs' := setRow_heap w g cs cs' t (0, 0) h
theorem wpList_store_wide {ops : Array Oper} {rest : List Oper} {o : Oper} {a : Act} {w : World} {Q : Exit → Act → World → Prop} (hgd : o.guard = none) (ty : TypeId) (x y : Operand) (ho : o.op = .store ty x y)
 (g off : Nat) (cells : Array Value) (hx : a.eval x = .pointer (some ⟨g, off, none⟩)) (hy : a.eval y = .agg cells)
 (t : TypeId) (cur : Array Value) (hg : Bk w g t cur) (hfit : off + cells.size ≤ cur.size) (hi : (P.info? ty).map (·.size) = some cells.size) (h1 : ∀ v ∈ cells.toList, v.oneCell' = true)
 (h : ∀ w', Hid (w' = w.setRow g (splice cur.toList off cells.toList).toArray) → wpList P ops Q rest (a.put o.dst undef) w') : wpList P ops Q (o :: rest) a w :=
 wpList_plain hgd fun _ hK => by
  refine wp_skip (w' := w.setRow g (splice cur.toList off cells.toList).toArray) ?_ (hK _ _ (h _ rfl))
  have := run_storeCells_at P g off t cells.toList 0 cur w hg (by simpa using hfit) h1
  simp only [Nat.add_zero, List.append_assoc] at this
  cases hq : P.info? ty with
  | none => simp [hq] at hi
  | some i =>
    have hs : cells.size = i.size := by simp [hq] at hi; omega
    unfold execOp
    simp only [ho, hx, hy, Instr.storeAt, Instr.sureAddr, Sem.run_bind, Sem.run_pure, Result.andThen_ok]
    simp [storeVar, sizeOf, typeInfo, hq, Value.cells, hs, this, splice]
theorem wpList_copy_wide {ops : Array Oper} {rest : List Oper} {o : Oper} {a : Act} {w : World} {Q : Exit → Act → World → Prop} (hgd : o.guard = none) (d s : Operand) (dT sT : TypeId)
 (ho : o.op = .call { callee := .builtin .copy, args := #[d, s], argTypes := #[dT, sT] }) (elem : TypeId) (k : Nat) (hu : P.underlying dT = some (.slice elem)) (hsz : (P.info? elem).map (·.size) = some k)
 (g dLen dCap sLen sCap : Nat) (A : Option Addr) (hd : a.eval d = .slice (some ⟨g, 0, none⟩) dLen dCap) (hs : a.eval s = .slice A sLen sCap) (hle : sLen ≤ dLen)
 (t : TypeId) (cur : Array Value) (hg : Bk w g t cur) (B : Nat) (xs : List (List Value)) (hA : Arr w B k A sLen xs) (hfit : sLen * k ≤ cur.size) (h1 : ∀ x ∈ xs, ∀ v ∈ x, v.oneCell' = true)
 (h : ∀ w', Hid (w' = w.setRow g (splice cur.toList 0 xs.flatten).toArray) → wpList P ops Q rest (a.put o.dst (goInt sLen)) w') : wpList P ops Q (o :: rest) a w :=
 wpList_plain hgd fun _ hK => by
  refine wp_value (v := goInt sLen) (w' := w.setRow g (splice cur.toList 0 xs.flatten).toArray) ?_ (hK _ _ (h _ rfl))
  have hlen : xs.flatten.length = sLen * k := Arr.flat_length hA
  have h1' : ∀ v ∈ xs.flatten, v.oneCell' = true := by
   intro v hv
   obtain ⟨x, hx, hvx⟩ := List.mem_flatten.1 hv
   exact h1 x hx v hvx
  have hst := run_storeCells_at P g 0 t xs.flatten 0 cur w hg (by simpa [hlen] using hfit) h1'
  simp only [Nat.add_zero, List.append_assoc, Nat.zero_add] at hst
  have hmin : Nat.min sLen dLen = sLen := Nat.min_eq_left hle
  cases hq : P.info? elem with
  | none => simp [hq] at hsz
  | some i =>
    have hik : i.size = k := by simpa [hq] using hsz
    by_cases h0 : sLen = 0
    ·have hx0 : xs = [] := List.eq_nil_of_length_eq_zero (by rw [hA.1, h0])
     subst hx0
     have hself : w.setRow g (splice cur.toList 0 ([] : List (List Value)).flatten).toArray = w := by simp [splice]; exact setRow_self w g cur t (0, 0) hg
     rw [hself]
     unfold execOp
     simp only [ho]
     cases A with
     | none => simp [resolve, invoke, builtin, hd, hs, Builtin.copy_, run_underlying hu, Builtin.lenOf, Builtin.firstCells, sizeOf, typeInfo, hq, h0, storeCells]
     | some ad => simp [resolve, invoke, builtin, hd, hs, Builtin.copy_, run_underlying hu, Builtin.lenOf, Builtin.firstCells, sizeOf, typeInfo, hq, h0, storeCells, loadCells, loadCellsFrom]
    ·obtain ⟨b, off, rfl, hb, hc⟩ := hA.2.2 (by omega)
     have hl : (loadCells ⟨b, off, none⟩ (sLen * k)).run P w = .ok xs.flatten.toArray w := by
      rw [← hlen]
      exact run_loadCells_list (P := P) w ⟨b, off, none⟩ xs.flatten (fun j v hv => by rw [Addr.add_mid]; exact Arr.flat hA.2.1 hc j v hv)
     unfold execOp
     simp only [ho]
     simp [resolve, invoke, builtin, hd, hs, Builtin.copy_, run_underlying hu, Builtin.lenOf, Builtin.firstCells, sizeOf, typeInfo, hq, hik, hmin, hl, hst, splice]
end
end Go.Proofs.YtcdehejgnnnimaaGreatDoor
namespace Go.Proofs.YtcdehejgnnnimaaGreatDoor
set_option linter.unusedVariables false
set_option linter.unusedSimpArgs false
open Go.RowKit Go.Shelf
theorem Bk.kept {w w' : World} {row : Option Nat} {b : Nat} {t : TypeId} {cs : Array Value} (h : Bk w b t cs) (hg : w.grownBy w' row) (hr : ∀ r, row = some r → ∃ o : Obj, w.heap[r]? = some o ∧ o.isCells = false) : Bk w' b t cs :=
 (hg.block b h.lt (fun e => by obtain ⟨o, ho, hc⟩ := hr b e.symm; rw [show w.heap[b]? = _ from h] at ho; cases ho; cases hc)).trans h
theorem keeps_from {β : Type} {S : Nat → Prop} {B : Nat} {w0 : World} (hS : ∀ b, S b → b < B) (h0 : B ≤ w0.heap.size) : OwnFrom B (fun (_ : β) W => Keeps S w0 W) :=
 fun _ A C row hs hg hr => hs.trans ⟨hg.os, hg.tape, hg.output, hg.size, fun k hk => hg.block k (by have := hS k hk; have := hs.size; omega) (fun e => by have := (hr k e.symm).1; have := hS k hk; omega)⟩
theorem keepsOthers_setRow (W : World) (g : Nat) (t : TypeId) (cs cs' : Array Value) (h : Bk W g t cs) : KeepsOthers W (W.setRow g cs') :=
 ⟨by simp, fun k o hk ho => by
  by_cases e : k = g
  ·subst e
   rw [show W.heap[k]? = _ from h] at hk
   cases hk
   cases ho
  ·exact (Go.setRow_other W g k cs' e).trans hk⟩
theorem keeps_putObj {S : Nat → Prop} {B : Nat} (hS : ∀ b, S b → b < B) (W : World) (l : Nat) (o o' : Obj) (hl : B ≤ l) (_ : W.heap[l]? = some o) (_ : o.isCells = false) (_ : o.isWalk = false) : Keeps S W (W.putObj l o') := by
 have hg := grownBy_putObj' W l o'
 refine ⟨hg.os, hg.tape, hg.output, hg.size, fun k hk => ?_⟩
 have hkB := hS k hk
 by_cases hkl : k < W.heap.size
 ·exact hg.block k hkl (fun e => by cases e; omega)
 ·have h1 : W.heap[k]? = none := Array.getElem?_eq_none (by omega)
  have h2 : (W.putObj l o').heap.size = W.heap.size := by simp [World.putObj]
  rw [h1, Array.getElem?_eq_none (by omega)]
section
variable {P : Program} {F : Fence} {n : Nat}
theorem wpIn_over {c : Code} {a : Act} {W : World} {Q : Exit → Act → World → Prop} (G : World → Prop) (hF : G W) (h : ∀ W', G W' → c.wpIn F n P Q a W') : c.wpIn F n P Q a W := h W hF
theorem wpListIn_wanted {ops : Array Oper} {rest : List Oper} {o : Oper} {a : Act} {w : World} {Q : Exit → Act → World → Prop} (hw : Region.wanted o (yielded ops a.tmps) = true)
 (h : ∀ K : Act → World → Prop, (∀ a w, wpListIn F n P ops Q rest a w → K a w) → o.wpIn F n P a w K Q) : wpListIn F n P ops Q (o :: rest) a w :=
 wpListIn_step fun K hK => by rw [if_pos hw]; exact h K hK
theorem wpIn_value {o : Oper} {a : Act} {w w' : World} {K : Act → World → Prop} {Q : Exit → Act → World → Prop} {v : Value}
 (hab : o.about P w a.eval = none) (hd : ∀ c, o.op ≠ .defer c) (h : (execOp a.eval o).run P w = .ok (.value v) w') (hK : K (a.put o.dst v) w') : o.wpIn F n P a w K Q := by
 refine ⟨fun f hf => (by rw [hab] at hf; cases hf), ?_⟩
 rw [Oper.semAt_plain F _ _ hd, h]
 exact hK
theorem wpIn_skip {o : Oper} {a : Act} {w w' : World} {K : Act → World → Prop} {Q : Exit → Act → World → Prop}
 (hab : o.about P w a.eval = none) (hd : ∀ c, o.op ≠ .defer c) (h : (execOp a.eval o).run P w = .ok .skip w') (hK : K (a.put o.dst undef) w') : o.wpIn F n P a w K Q := by
 refine ⟨fun f hf => (by rw [hab] at hf; cases hf), ?_⟩
 rw [Oper.semAt_plain F _ _ hd, h]
 exact hK
theorem wpListIn_load_mid {ops : Array Oper} {rest : List Oper} {op : Oper} {a : Act} {w : World} {Q : Exit → Act → World → Prop} (hgd : Region.wanted op (yielded ops a.tmps) = true) (ty : TypeId) (x : Operand) (ho : op.op = .load ty x)
 (b o : Nat) (hx : a.eval x = .pointer (some ⟨b, o, none⟩)) (cs : List Value) (d : TypeDesc) (hc : w.rangeAt b o cs)
 (hu : P.underlying ty = some d) (hd : d.isRow = true) (hi : (P.info? ty).map (·.size) = some cs.length)
 (h : wpListIn F n P ops Q rest (a.put op.dst (.agg cs.toArray)) w) : wpListIn F n P ops Q (op :: rest) a w :=
 wpListIn_wanted hgd fun _ hK => by
  refine wpIn_value (v := .agg cs.toArray) (w' := w) (by simp [Oper.about, ho]) (by rw [ho]; intro c hc'; cases hc') ?_ (hK _ _ h)
  unfold execOp
  simp only [ho, hx, Instr.loadAt, Instr.sureAddr, Sem.run_bind, Sem.run_pure, Result.andThen_ok, run_loadVar_mid w b o ty cs d hc hu hd hi]
theorem wpListIn_alloc_to {ops : Array Oper} {rest : List Oper} {o : Oper} {a : Act} {w : World} {Q : Exit → Act → World → Prop} (hgd : Region.wanted o (yielded ops a.tmps) = true) (ty : TypeId) (ho : o.op = .alloc ty) (z : Array Value)
 (hz : (P.info? ty).map (·.zero) = some (some (.agg z))) (h : wpListIn F n P ops Q rest (a.put o.dst (.pointer (some ⟨w.heap.size, 0, none⟩))) (w.alloc (.cells z ty))) : wpListIn F n P ops Q (o :: rest) a w :=
 wpListIn_wanted hgd fun _ hK => by
  cases hq : P.info? ty with
  | none => simp [hq] at hz
  | some i =>
    have hz' : i.zero = some (.agg z) := by simpa [hq] using hz
    refine wpIn_value (v := .pointer (some ⟨w.heap.size, 0, none⟩)) (w' := w.alloc (.cells z ty)) (by simp [Oper.about, ho]) (by rw [ho]; intro c hc'; cases hc') ?_ (hK _ _ h)
    unfold execOp
    simp only [ho]
    simp [Instr.alloc, zeroValue, typeInfo, hq, hz', newVar, Value.cells, newRow]
theorem wpListIn_store_wide {ops : Array Oper} {rest : List Oper} {o : Oper} {a : Act} {w : World} {Q : Exit → Act → World → Prop} (hgd : Region.wanted o (yielded ops a.tmps) = true) (ty : TypeId) (x y : Operand) (ho : o.op = .store ty x y)
 (g off : Nat) (cells : Array Value) (hx : a.eval x = .pointer (some ⟨g, off, none⟩)) (hy : a.eval y = .agg cells)
 (t : TypeId) (cur : Array Value) (hg : Bk w g t cur) (hfit : off + cells.size ≤ cur.size) (hi : (P.info? ty).map (·.size) = some cells.size) (h1 : ∀ v ∈ cells.toList, v.oneCell' = true)
 (h : ∀ w', Hid (w' = w.setRow g (splice cur.toList off cells.toList).toArray) → wpListIn F n P ops Q rest (a.put o.dst undef) w') : wpListIn F n P ops Q (o :: rest) a w :=
 wpListIn_wanted hgd fun _ hK => by
  refine wpIn_skip (w' := w.setRow g (splice cur.toList off cells.toList).toArray) (by simp [Oper.about, ho]) (by rw [ho]; intro c hc'; cases hc') ?_ (hK _ _ (h _ rfl))
  have := run_storeCells_at P g off t cells.toList 0 cur w hg (by simpa using hfit) h1
  simp only [Nat.add_zero, List.append_assoc] at this
  cases hq : P.info? ty with
  | none => simp [hq] at hi
  | some i =>
    have hs : cells.size = i.size := by simp [hq] at hi; omega
    unfold execOp
    simp only [ho, hx, hy, Instr.storeAt, Instr.sureAddr, Sem.run_bind, Sem.run_pure, Result.andThen_ok]
    simp [storeVar, sizeOf, typeInfo, hq, Value.cells, hs, this, splice]
end
end Go.Proofs.YtcdehejgnnnimaaGreatDoor
namespace Go.Proofs.YtcdehejgnnnimaaGreatDoor
set_option linter.unusedVariables false
set_option linter.unusedSimpArgs false
open Go.RowKit
theorem splice_at {α : Type} (L y : List α) (off j : Nat) (h : off + y.length ≤ L.length) :
 (splice L off y)[j]? = if j < off then L[j]? else if j < off + y.length then y[j - off]? else L[j]? := by
 unfold splice
 rw [List.getElem?_append, List.getElem?_append]
 have hl : (L.take off).length = off := by simp; omega
 rw [hl]
 by_cases h1 : j < off
 ·simp [h1]
 ·by_cases h2 : j < off + y.length
  ·have : j - off < y.length := by omega
   simp [h1, h2, this]
  ·have : ¬ j - off < y.length := by omega
   simp only [h1, h2, this, if_false, List.getElem?_drop]
   congr 1
   omega
theorem splice_prefix {L y : List Value} {cs : Array Value} {off : Nat} (h : off + y.length ≤ L.length) (hL : L.length ≤ cs.size) (hc : ∀ (j : Nat) (u : Value), L[j]? = some u → cs[j]? = some u)
 (j : Nat) (u : Value) (hj : (splice L off y)[j]? = some u) : (splice cs.toList off y).toArray[j]? = some u := by
 rw [List.getElem?_toArray, splice_at _ _ _ _ (by simp; omega)]
 rw [splice_at _ _ _ _ h] at hj
 by_cases h1 : j < off
 ·rw [if_pos h1] at hj ⊢
  simpa using hc j u hj
 ·rw [if_neg h1] at hj ⊢
  by_cases h2 : j < off + y.length
  ·rw [if_pos h2] at hj ⊢
   exact hj
  ·rw [if_neg h2] at hj ⊢
   simpa using hc j u hj
theorem flat_set {k : Nat} {xs : List (List Value)} (hk : ∀ x ∈ xs, x.length = k) (i : Nat) (hi : i < xs.length) (y : List Value) (hy : y.length = k) :
 (xs.set i y).flatten = splice xs.flatten (i * k) y := by
 have hl : xs.flatten.length = xs.length * k := flat_length hk
 have hik : i * k + k ≤ xs.length * k := by have := Nat.mul_le_mul_right k (show i + 1 ≤ xs.length by omega); rw [Nat.succ_mul] at this; exact this
 have hk' : ∀ x ∈ xs.set i y, x.length = k := fun x hx => by
  rcases List.mem_or_eq_of_mem_set hx with h | h
  ·exact hk x h
  ·rw [h, hy]
 apply List.ext_getElem?
 intro j
 rw [splice_at _ _ _ _ (by rw [hl, hy]; exact hik), hy]
 rcases Nat.eq_zero_or_pos k with h0 | hpos
 ·subst h0
  have e1 : (xs.set i y).flatten = [] := List.eq_nil_of_length_eq_zero (by rw [flat_length hk']; simp)
  have e2 : xs.flatten = [] := List.eq_nil_of_length_eq_zero (by rw [hl]; simp)
  rw [e1, e2]
  simp
 ·have e : j = j / k * k + j % k := by have := Nat.div_add_mod j k; rw [Nat.mul_comm] at this; exact this.symm
  have hm := Nat.mod_lt j hpos
  generalize hq : j / k = q at e
  generalize hr : j % k = r at e hm
  subst e
  rw [flat_at hk' q r hm, flat_at hk q r hm, List.getElem?_set]
  by_cases hqi : q = i
  ·subst hqi
   rw [if_pos rfl, if_pos hi, if_neg (by omega), if_pos (by omega)]
   simp
  ·by_cases hlt : q < i
   ·have : q * k + k ≤ i * k := by have := Nat.mul_le_mul_right k (show q + 1 ≤ i by omega); rw [Nat.succ_mul] at this; exact this
    rw [if_neg (fun h : i = q => hqi h.symm), if_pos (by omega)]
   ·have : i * k + k ≤ q * k := by have := Nat.mul_le_mul_right k (show i + 1 ≤ q by omega); rw [Nat.succ_mul] at this; exact this
    rw [if_neg (fun h : i = q => hqi h.symm), if_neg (by omega), if_neg (by omega)]
def rowM (ss : List (List Int)) (pre : List (Int × List Int)) (i : Nat) : List Int :=
 match pre.find? (fun x => x.1 == (i : Int)) with
 | some x => x.2
 | none => ss.getD i []
def wrB (pre : List (Int × List Int)) (i : Nat) : Bool := pre.any fun x => x.1 == (i : Int)
def rowsM (ss : List (List Int)) (pre : List (Int × List Int)) : List (List Int) := (List.range ss.length).map (rowM ss pre)
def flagsM (n : Nat) (pre : List (Int × List Int)) : List Value := (List.range n).map fun i => Value.bool (wrB pre i)
theorem rowsM_nil (ss : List (List Int)) : rowsM ss [] = ss := by
 apply List.ext_getElem
 ·simp [rowsM]
 ·intro i h1 h2
  simp [rowsM, rowM, h2]
theorem rowsM_length (ss : List (List Int)) (pre : List (Int × List Int)) : (rowsM ss pre).length = ss.length := by simp [rowsM]
theorem flagsM_nil (n : Nat) : flagsM n [] = List.replicate n (Value.bool false) := by
 apply List.ext_getElem
 ·simp [flagsM]
 ·intro i h1 h2
  simp [flagsM, wrB]
theorem flagsM_at (n : Nat) (pre : List (Int × List Int)) (i : Nat) (h : i < n) : (flagsM n pre)[i]? = some (Value.bool (wrB pre i)) := by simp [flagsM, h]
theorem rowsM_len {k : Nat} (ss : List (List Int)) (pre : List (Int × List Int)) (hs : ∀ s ∈ ss, s.length = k) (hp : ∀ x ∈ pre, x.2.length = k) : ∀ y ∈ rowsM ss pre, y.length = k := by
 intro y hy
 simp only [rowsM, List.mem_map, List.mem_range] at hy
 obtain ⟨i, hi, rfl⟩ := hy
 unfold rowM
 cases h : pre.find? (fun x => x.1 == (i : Int)) with
 | some z => exact hp z (List.mem_of_find?_eq_some h)
 | none =>
   rw [List.getD_eq_getElem?_getD, List.getElem?_eq_getElem hi]
   exact hs _ (List.getElem_mem hi)
theorem wrB_snoc (pre : List (Int × List Int)) (x : Int × List Int) (i : Nat) : wrB (pre ++ [x]) i = (wrB pre i || x.1 == (i : Int)) := by simp [wrB]
theorem wrB_find {pre : List (Int × List Int)} {i : Nat} : wrB pre i = (pre.find? (fun x => x.1 == (i : Int))).isSome := by
 unfold wrB
 rw [Bool.eq_iff_iff]
 simp [List.find?_isSome]
theorem rowM_snoc (ss : List (List Int)) (pre : List (Int × List Int)) (x : Int × List Int) (i : Nat) : rowM ss (pre ++ [x]) i = if wrB pre i = true then rowM ss pre i else if x.1 = (i : Int) then x.2 else rowM ss pre i := by
 unfold rowM
 rw [List.find?_append]
 have hf := wrB_find (pre := pre) (i := i)
 cases h : pre.find? (fun x => x.1 == (i : Int)) with
 | some y => rw [h] at hf; simp [hf]
 | none =>
   rw [h] at hf
   by_cases hx : x.1 = (i : Int)
   ·simp [hf, hx]
   ·simp [hf, hx]
theorem rowsM_old (ss : List (List Int)) (pre : List (Int × List Int)) (x : Int × List Int) (k : Nat) (hx : x.1 = (k : Int)) (hw : wrB pre k = true) : rowsM ss (pre ++ [x]) = rowsM ss pre := by
 unfold rowsM
 apply List.map_congr_left
 intro i _
 rw [rowM_snoc]
 by_cases h : wrB pre i = true
 ·rw [if_pos h]
 ·rw [if_neg h]
  by_cases he : x.1 = (i : Int)
  ·have : i = k := by omega
   subst this
   exact absurd hw h
  ·rw [if_neg he]
theorem flagsM_old (n : Nat) (pre : List (Int × List Int)) (x : Int × List Int) (k : Nat) (hx : x.1 = (k : Int)) (hw : wrB pre k = true) : flagsM n (pre ++ [x]) = flagsM n pre := by
 unfold flagsM
 apply List.map_congr_left
 intro i _
 rw [wrB_snoc]
 by_cases he : x.1 = (i : Int)
 ·have : i = k := by omega
  subst this
  rw [hw]; rfl
 ·have : (x.1 == (i : Int)) = false := by simpa using he
  rw [this, Bool.or_false]
theorem rowsM_new (ss : List (List Int)) (pre : List (Int × List Int)) (x : Int × List Int) (k : Nat) (hx : x.1 = (k : Int)) (hw : wrB pre k = false) (_hk : k < ss.length) : rowsM ss (pre ++ [x]) = (rowsM ss pre).set k x.2 := by
 apply List.ext_getElem
 ·simp [rowsM]
 ·intro i h1 h2
  have hi : i < ss.length := by simpa [rowsM] using h1
  rw [List.getElem_set]
  simp only [rowsM, List.getElem_map, List.getElem_range]
  rw [rowM_snoc]
  by_cases he : k = i
  ·subst he
   rw [if_pos rfl, if_neg (by simp [hw]), if_pos hx]
  ·rw [if_neg he, if_neg (by omega : ¬ x.1 = (i : Int))]
   split <;> rfl
theorem flagsM_new (n : Nat) (pre : List (Int × List Int)) (x : Int × List Int) (k : Nat) (hx : x.1 = (k : Int)) : flagsM n (pre ++ [x]) = (flagsM n pre).set k (.bool true) := by
 apply List.ext_getElem
 ·simp [flagsM]
 ·intro i h1 h2
  rw [List.getElem_set]
  simp only [flagsM, List.getElem_map, List.getElem_range]
  rw [wrB_snoc]
  by_cases he : k = i
  ·subst he
   rw [if_pos rfl, hx]; simp
  ·have : (x.1 == (i : Int)) = false := by simp; omega
   rw [if_neg he, this, Bool.or_false]
end Go.Proofs.YtcdehejgnnnimaaGreatDoor
namespace Go.Proofs.YtcdehejgnnnimaaGreatDoor
set_option linter.unusedVariables false
set_option linter.unusedSimpArgs false
open Go.RowKit
section
variable {P : Program}
theorem run_part_int (w : World) {e : TypeId} {k : IntKind} (he : P.underlying e = some (.int k)) (cs : Array Value) (off : Nat) (v : Value) (hv : cs[off]? = some v) : (part e cs off).run P w = .ok v w := by
 have hagg : (isAgg e).run P w = .ok false w := by
  unfold isAgg
  rw [Sem.run_bind, run_underlying he w]
  simp
 simp [part, hagg, hv]
theorem run_eq_items (d : Nat) {e : TypeId} (he : P.underlying e = some (.int .u8)) (a b : List Int) : ∀ (is : List Nat) (w : World), (∀ i ∈ is, i < a.length ∧ i < b.length) →
 (Op.eqItems (d + 1) e 1 (secv a).toArray (secv b).toArray is).run P w = .ok (is.all fun i => a.getD i 0 == b.getD i 0) w
 | [], w, _ => by simp [Op.eqItems]
 | i :: r, w, h => by
   obtain ⟨ha, hb⟩ := h i (by simp)
   have h1 : (secv a).toArray[i * 1]? = some (.int .u8 (a.getD i 0)) := by simp [secv, ha]
   have h2 : (secv b).toArray[i * 1]? = some (.int .u8 (b.getD i 0)) := by simp [secv, hb]
   have ih := run_eq_items d he a b r w (fun j hj => h j (by simp [hj]))
   simp only [Op.eqItems, Sem.run_bind, run_part_int w he _ _ _ h1, run_part_int w he _ _ _ h2, Result.andThen_ok, run_equalIn_int w d e .u8 .u8 _ _ he]
   by_cases hab : (a.getD i 0 == b.getD i 0) = true
   ·rw [hab]
    simp only [Bool.not_true, Bool.false_eq_true, if_false, ih, List.all_cons, hab, Bool.true_and]
   ·have hab' : (a.getD i 0 == b.getD i 0) = false := by simpa using hab
    rw [hab']
    simp only [Bool.not_false, if_true, Sem.run_pure, List.all_cons, hab', Bool.false_and]
theorem all_eq {n : Nat} {a b : List Int} (ha : a.length = n) (hb : b.length = n) : ((List.range n).all fun i => a.getD i 0 == b.getD i 0) = decide (a = b) := by
 rw [Bool.eq_iff_iff, List.all_eq_true, decide_eq_true_eq]
 constructor
 ·intro h
  apply List.ext_getElem
  ·rw [ha, hb]
  ·intro i h1 h2
   have := h i (by simp; omega)
   simpa [h1, h2] using this
 ·rintro rfl i _
  simp
theorem run_equalIn_sec (w : World) (d : Nat) {t e : TypeId} {n : Nat} {i : TypeInfo} (ht : P.underlying t = some (.array n e)) (he : P.underlying e = some (.int .u8)) (hi : P.info? e = some i) (hc : P.cellsOf e = 1) {a b : List Int} (ha : a.length = n) (hb : b.length = n) :
 (Op.equalIn (d + 2) t (.agg (secv a).toArray) (.agg (secv b).toArray)).run P w = .ok (decide (a = b)) w := by
 rw [run_equalIn_array w (d + 1) _ _ ht hi, hc, run_eq_items d he a b _ w (fun j hj => by simp at hj; omega), all_eq ha hb]
theorem run_eql_sec (w : World) {t e : TypeId} {n : Nat} {i : TypeInfo} (ht : P.underlying t = some (.array n e)) (he : P.underlying e = some (.int .u8)) (hi : P.info? e = some i) (hc : P.cellsOf e = 1) {a b : List Int} (ha : a.length = n) (hb : b.length = n) :
 (binOp .eql t (.agg (secv a).toArray) (.agg (secv b).toArray)).run P w = .ok (.bool (decide (a = b))) w := by
 simp only [binOp]
 simp [Op.equal, Op.maxDepth, run_equalIn_sec w 9998 ht he hi hc ha hb]
end
end Go.Proofs.YtcdehejgnnnimaaGreatDoor
