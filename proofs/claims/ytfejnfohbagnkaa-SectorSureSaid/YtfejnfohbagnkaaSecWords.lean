/-
  Words on a disk of sectors for the proofs over package sector: what a slice of rows of cells holds, and what the document says of reading, writing and falling, as plain functions on lists. Nothing here speaks of a program.
-/
import Derived.Below
import Derived.Deep.MidRow
import Derived.WalkKit
namespace Go.Proofs.Ytfejnfohbagnkaa
open Go.RowKit

/-- the blocks of S lie as they lay; the streams are as they were; no block has gone -/
structure Keeps (S : Nat → Prop) (w w' : World) : Prop where
  os : w'.os = w.os
  tape : w'.tape = w.tape
  output : w'.output = w.output
  size : w.heap.size ≤ w'.heap.size
  block : ∀ k, S k → w'.heap[k]? = w.heap[k]?
theorem Keeps.refl (S : Nat → Prop) (w : World) : Keeps S w w := ⟨rfl, rfl, rfl, Nat.le_refl _, fun _ _ => rfl⟩
theorem Keeps.trans {S : Nat → Prop} {a b c : World} (h : Keeps S a b) (k : Keeps S b c) : Keeps S a c :=
  ⟨k.os.trans h.os, k.tape.trans h.tape, k.output.trans h.output, Nat.le_trans h.size k.size, fun i hi => (k.block i hi).trans (h.block i hi)⟩
theorem Keeps.cell {S : Nat → Prop} {w w' : World} (h : Keeps S w w') {p : Addr} (hp : S p.block) : w'.cell? p = w.cell? p := World.cell?_of_block (w := w) (h.block p.block hp)
theorem Keeps.frozen {S : Nat → Prop} {w w' : World} (h : Keeps S w w') {p : Addr} (hp : S p.block) : w'.frozen? p = w.frozen? p := World.frozen?_of_block (w := w) (h.block p.block hp)
theorem Keeps.of_below {S : Nat → Prop} {B : Nat} {w w' : World} (h : Below B w w') (hS : ∀ b, S b → b < B) : Keeps S w w' := ⟨h.os, h.tape, h.output, h.size, fun k hk => h.block k (hS k hk)⟩
theorem Keeps.below {S : Nat → Prop} {B : Nat} {w w' : World} (h : Keeps S w w') (hS : ∀ b, b < B → S b) : Below B w w' := ⟨h.os, h.tape, h.output, h.size, fun k hk => h.block k (hS k hk)⟩
theorem Keeps.alloc {S : Nat → Prop} {a w : World} (h : Keeps S a w) (hS : ∀ b, S b → b < w.heap.size) (o : Obj) : Keeps S a (w.alloc o) :=
  h.trans ⟨rfl, rfl, rfl, by simp, fun k hk => Below.heap_alloc _ _ _ (hS k hk)⟩
theorem Keeps.setCell {S : Nat → Prop} {a w : World} (h : Keeps S a w) {p : Addr} (hp : ¬ S p.block) (u : Value) : Keeps S a (w.setCell p u) :=
  h.trans ⟨rfl, rfl, rfl, by simp [World.setCell], fun k hk => Below.heap_setCell _ _ _ _ (fun e => hp (e ▸ hk))⟩
theorem Keeps.setRow {S : Nat → Prop} {a w : World} (h : Keeps S a w) {g : Nat} (hp : ¬ S g) (cs : Array Value) : Keeps S a (w.setRow g cs) :=
  h.trans ⟨rfl, rfl, rfl, by simp, fun k hk => Go.setRow_other w g k cs (fun e => hp (e ▸ hk))⟩

/-- a sector's bytes, and a write, as cells -/
def secv (s : List Int) : List Value := s.map (Value.int .u8)
def wrv (x : Int × List Int) : List Value := .int .i64 x.1 :: secv x.2

theorem secv_length (s : List Int) : (secv s).length = s.length := by simp [secv]
theorem wrv_length (x : Int × List Int) : (wrv x).length = x.2.length + 1 := by simp [wrv, secv]

theorem secv_inj {s t : List Int} (h : secv s = secv t) : s = t := by
  unfold secv at h
  exact (List.map_inj_right (fun a b hab => by injection hab)).1 h

theorem secv_one (s : List Int) : ∀ v ∈ secv s, v.oneCell' = true := by
  intro v hv
  simp only [secv, List.mem_map] at hv
  obtain ⟨n, _, rfl⟩ := hv
  rfl
theorem wrv_one (x : Int × List Int) : ∀ v ∈ wrv x, v.oneCell' = true := by
  intro v hv
  simp only [wrv, List.mem_cons] at hv
  rcases hv with rfl | hv
  · rfl
  · exact secv_one _ _ hv

/-- the slice (A, n) holds the rows xs, k cells each, in a block below B -/
def Arr (w : World) (B k : Nat) (A : Option Addr) (n : Nat) (xs : List (List Value)) : Prop :=
  xs.length = n ∧ (∀ x ∈ xs, x.length = k) ∧ (0 < n → ∃ b o, A = some ⟨b, o, none⟩ ∧ b < B ∧ ∀ i x, xs[i]? = some x → w.rangeAt b (o + i * k) x)

theorem Arr.nil {w : World} {B k : Nat} {A : Option Addr} : Arr w B k A 0 [] := ⟨rfl, by simp, fun h => absurd h (Nat.lt_irrefl _)⟩

theorem rangeAt_keep {w w' : World} {b o : Nat} {x : List Value} (h : w.rangeAt b o x) (hk : ∀ p : Addr, p.block = b → w'.cell? p = w.cell? p) : w'.rangeAt b o x :=
  fun j v hv => (hk _ rfl).trans (h j v hv)

theorem Arr.keep {w w' : World} {B k n : Nat} {A : Option Addr} {xs : List (List Value)} (h : Arr w B k A n xs) (hk : ∀ p : Addr, p.block < B → w'.cell? p = w.cell? p) : Arr w' B k A n xs :=
  ⟨h.1, h.2.1, fun hn => by
    obtain ⟨b, o, e, hb, hc⟩ := h.2.2 hn
    exact ⟨b, o, e, hb, fun i x hx => rangeAt_keep (hc i x hx) (fun p hp => hk p (by omega))⟩⟩
theorem Arr.more {w : World} {B B' k n : Nat} {A : Option Addr} {xs : List (List Value)} (h : Arr w B k A n xs) (hB : B ≤ B') : Arr w B' k A n xs :=
  ⟨h.1, h.2.1, fun hn => by
    obtain ⟨b, o, e, hb, hc⟩ := h.2.2 hn
    exact ⟨b, o, e, by omega, hc⟩⟩
theorem Arr.below {w w' : World} {B B' k n : Nat} {A : Option Addr} {xs : List (List Value)} (h : Arr w B k A n xs) (hb : Below B' w w') (hB : B ≤ B') : Arr w' B k A n xs :=
  h.keep fun p hp => hb.cell (by omega)
theorem Arr.at_ {w : World} {B k n : Nat} {A : Option Addr} {xs : List (List Value)} (h : Arr w B k A n xs) {i : Nat} (hi : i < n) :
    ∃ b o, A = some ⟨b, o, none⟩ ∧ b < B ∧ w.rangeAt b (o + i * k) (xs.getD i []) := by
  obtain ⟨b, o, e, hb, hc⟩ := h.2.2 (by omega)
  have hl : i < xs.length := by rw [h.1]; exact hi
  exact ⟨b, o, e, hb, hc i _ (by simp [hl])⟩

/-- block b is just the cells cs, none frozen -/
def Bk (w : World) (b : Nat) (t : TypeId) (cs : Array Value) : Prop := w.heap[b]? = some (.cells cs t (0, 0))
theorem Bk.below {w w' : World} {b B : Nat} {t : TypeId} {cs : Array Value} (h : Bk w b t cs) (hb : Below B w w') (hl : b < B) : Bk w' b t cs := (hb.block b hl).trans h
theorem Bk.cell {w : World} {b : Nat} {t : TypeId} {cs : Array Value} (h : Bk w b t cs) (i : Nat) : w.cell? ⟨b, i, none⟩ = cs[i]? := by
  unfold Bk at h
  simp [World.cell?, h]
theorem Bk.frozen {w : World} {b : Nat} {t : TypeId} {cs : Array Value} (h : Bk w b t cs) (i : Nat) : w.frozen? ⟨b, i, none⟩ = false := by
  unfold Bk at h
  simp [World.frozen?, h]
theorem Bk.new (w : World) (t : TypeId) (cs : Array Value) : Bk (w.alloc (.cells cs t)) w.heap.size t cs := heap_alloc_new w _
theorem Bk.lt {w : World} {b : Nat} {t : TypeId} {cs : Array Value} (h : Bk w b t cs) : b < w.heap.size := (Array.getElem?_eq_some_iff.1 h).1
theorem Bk.alloc {w : World} {b : Nat} {t : TypeId} {cs : Array Value} (h : Bk w b t cs) (o : Obj) : Bk (w.alloc o) b t cs := (Below.heap_alloc w o b h.lt).trans h
theorem Bk.drew {w : World} {b : Nat} {t : TypeId} {cs : Array Value} (h : Bk w b t cs) : Bk w.drew b t cs := h
theorem Bk.far {w : World} {b : Nat} {t : TypeId} {cs : Array Value} (h : Bk w b t cs) {p : Addr} (hp : b ≠ p.block) (u : Value) : Bk (w.setCell p u) b t cs := (Below.heap_setCell w p u b hp).trans h
theorem Bk.put {w : World} {b : Nat} {t : TypeId} {cs : Array Value} (h : Bk w b t cs) (i : Nat) (u : Value) : Bk (w.setCell ⟨b, i, none⟩ u) b t (cs.setIfInBounds i u) := by
  unfold Bk at h ⊢
  simp [World.setCell, Array.getElem?_modify, h]
theorem Bk.new' (w : World) (b : Nat) (t : TypeId) (cs : Array Value) (h : b = w.heap.size) : Bk (w.alloc (.cells cs t)) b t cs := by subst h; exact Bk.new w t cs
theorem Bk.new2 (w : World) (o : Obj) (t : TypeId) (cs : Array Value) : Bk ((w.alloc o).alloc (.cells cs t)) (w.heap.size + 1) t cs := by
  have := Bk.new (w.alloc o) t cs
  rwa [World.size_alloc] at this
theorem Bk.new3 (w : World) (o o2 : Obj) (t : TypeId) (cs : Array Value) : Bk (((w.alloc o).alloc o2).alloc (.cells cs t)) (w.heap.size + 1 + 1) t cs := by
  have := Bk.new2 (w.alloc o) o2 t cs
  rwa [World.size_alloc] at this
theorem Bk.new4 (w : World) (o o2 o3 : Obj) (t : TypeId) (cs : Array Value) : Bk ((((w.alloc o).alloc o2).alloc o3).alloc (.cells cs t)) (w.heap.size + 1 + 1 + 1) t cs := by
  have := Bk.new3 (w.alloc o) o2 o3 t cs
  rwa [World.size_alloc] at this
theorem Bk.four {w : World} {b : Nat} {t : TypeId} {v0 v1 v2 v3 : Value} (h : Bk w b t #[v0, v1, v2, v3]) :
    (w.cell? ⟨b, 0, none⟩ = some v0 ∧ w.cell? ⟨b, 1, none⟩ = some v1 ∧ w.cell? ⟨b, 2, none⟩ = some v2 ∧ w.cell? ⟨b, 3, none⟩ = some v3) ∧
    w.frozen? ⟨b, 0, none⟩ = false ∧ w.frozen? ⟨b, 1, none⟩ = false ∧ w.frozen? ⟨b, 2, none⟩ = false ∧ w.frozen? ⟨b, 3, none⟩ = false :=
  ⟨⟨h.cell 0, h.cell 1, h.cell 2, h.cell 3⟩, h.frozen 0, h.frozen 1, h.frozen 2, h.frozen 3⟩
/-- rows of k cells, one behind the other -/
theorem flat_length {k : Nat} : ∀ {xs : List (List Value)}, (∀ x ∈ xs, x.length = k) → xs.flatten.length = xs.length * k
  | [], _ => by simp
  | x :: r, h => by
    rw [List.flatten_cons, List.length_append, h x (by simp), flat_length (fun y hy => h y (by simp [hy])), List.length_cons, Nat.succ_mul, Nat.add_comm]
theorem Arr.flat_length {w : World} {B k n : Nat} {A : Option Addr} {xs : List (List Value)} (h : Arr w B k A n xs) : xs.flatten.length = n * k := by
  rw [Ytfejnfohbagnkaa.flat_length h.2.1, h.1]
theorem flat_at {k : Nat} : ∀ {xs : List (List Value)}, (∀ x ∈ xs, x.length = k) → ∀ (i j : Nat), j < k → xs.flatten[i * k + j]? = (xs[i]?).bind (·[j]?)
  | [], _, i, j, _ => by simp
  | x :: r, h, 0, j, hj => by
    rw [List.flatten_cons, List.getElem?_append_left (by rw [h x (by simp)]; omega)]
    simp
  | x :: r, h, i + 1, j, hj => by
    rw [List.flatten_cons, List.getElem?_append_right (by rw [h x (by simp)]; have := Nat.succ_mul i k; simp only [Nat.succ_eq_add_one] at this; omega), h x (by simp)]
    have e : (i + 1) * k + j - k = i * k + j := by have := Nat.succ_mul i k; simp only [Nat.succ_eq_add_one] at this; omega
    rw [e, flat_at (fun y hy => h y (by simp [hy])) i j hj]
    simp
theorem Arr.flat {w : World} {b o k : Nat} {xs : List (List Value)} (hk : ∀ x ∈ xs, x.length = k) (hc : ∀ i x, xs[i]? = some x → w.rangeAt b (o + i * k) x) : w.rangeAt b o xs.flatten := by
  intro j v hv
  rcases Nat.eq_zero_or_pos k with rfl | hpos
  · have : xs.flatten.length = 0 := by rw [Ytfejnfohbagnkaa.flat_length hk]; simp
    rw [List.eq_nil_of_length_eq_zero this] at hv
    cases hv
  · have e : j = j / k * k + j % k := by have := Nat.div_add_mod j k; rw [Nat.mul_comm] at this; exact this.symm
    rw [e, flat_at hk _ _ (Nat.mod_lt _ hpos)] at hv
    cases hx : xs[j / k]? with
    | none => simp [hx] at hv
    | some x =>
      simp only [hx, Option.bind_some] at hv
      have := hc _ x hx _ v hv
      rw [Nat.add_assoc, ← e] at this
      exact this
/-- rows out of a block that is known whole -/
theorem Arr.of_bk {w : World} {b k n : Nat} {t : TypeId} {cs : Array Value} {xs : List (List Value)} (h : Bk w b t cs) (hl : xs.length = n) (hk : ∀ x ∈ xs, x.length = k) (hcs : ∀ (j : Nat) (v : Value), xs.flatten[j]? = some v → cs[j]? = some v)
    (B : Nat) (hB : b < B) : Arr w B k (some ⟨b, 0, none⟩) n xs := by
  refine ⟨hl, hk, fun _ => ⟨b, 0, rfl, hB, fun i x hx j v hv => ?_⟩⟩
  rw [h.cell, Nat.zero_add]
  refine hcs _ v ?_
  have hj : j < k := by
    have := (List.getElem?_eq_some_iff.1 hv).1
    rw [hk x (List.mem_of_getElem? hx)] at this
    exact this
  rw [flat_at hk i j hj, hx]
  exact hv

/-- a disk, as data -/
structure Dk where
  secs : List (List Int)
  loose : List (Int × List Int)
  fuse : Int
  down : Bool
  deriving DecidableEq

/-- the value v is the disk d, whose rows lie below block B -/
def DkAt (w : World) (B : Nat) (v : Value) (d : Dk) : Prop :=
  ∃ A n c A' n' c', v = .agg #[.slice A n c, .slice A' n' c', .int .i64 d.fuse, .bool d.down] ∧ n ≤ c ∧ n' ≤ c' ∧ c ≤ maxLen ∧ c' ≤ maxLen ∧
    Arr w B 64 A n (d.secs.map secv) ∧ Arr w B 65 A' n' (d.loose.map wrv)

theorem DkAt.below {w w' : World} {B B' : Nat} {v : Value} {d : Dk} (h : DkAt w B v d) (hb : Below B' w w') (hB : B ≤ B') : DkAt w' B v d := by
  obtain ⟨A, n, c, A', n', c', e, h1, h2, h3, h4, h5, h6⟩ := h
  exact ⟨A, n, c, A', n', c', e, h1, h2, h3, h4, h5.below hb hB, h6.below hb hB⟩
theorem DkAt.more {w : World} {B B' : Nat} {v : Value} {d : Dk} (h : DkAt w B v d) (hB : B ≤ B') : DkAt w B' v d := by
  obtain ⟨A, n, c, A', n', c', e, h1, h2, h3, h4, h5, h6⟩ := h
  exact ⟨A, n, c, A', n', c', e, h1, h2, h3, h4, h5.more hB, h6.more hB⟩

/-! ### what the document says, as functions -/
def fuseB (f : Int) : Bool := decide (-1 ≤ f) && decide (f ≤ 1099511627776)
def thereB (n : Nat) (a : Int) : Bool := decide (0 ≤ a) && decide (a < n)
def looseB (n : Nat) (l : List (Int × List Int)) : Bool := l.all fun x => thereB n x.1
def rightB (d : Dk) : Bool := decide (d.secs.length ≤ 4096) && decide (d.loose.length ≤ 100000) && fuseB d.fuse && looseB d.secs.length d.loose

/-- a deed: is it let, and the disk's fuse and state behind it -/
def deedF (f : Int) (b : Bool) : Int := if b then f else if 0 < f then f - 1 else f
def deedD (f : Int) (b : Bool) : Bool := b || f == 0

/-- what the calls answer: the disk and the error -/
def newM (n : Int) : Dk × Int :=
  if 0 ≤ n ∧ n ≤ 4096 then (⟨List.replicate n.toNat (List.replicate 64 0), [], -1, false⟩, 0) else (⟨[], [], 0, false⟩, 1)
def armM (d : Dk) (f : Int) : Dk × Int := if (rightB d && fuseB f) = true then ({ d with fuse := f }, 0) else (d, 1)
def putM (d : Dk) (a : Int) (s : List Int) : Dk × Int :=
  if (rightB d && thereB d.secs.length a) = true then
    if deedD d.fuse d.down = true then ({ d with fuse := deedF d.fuse d.down, down := true }, 9)
    else ({ d with loose := d.loose ++ [(a, s)], fuse := deedF d.fuse d.down }, 0)
  else (d, 1)
/-- the loose writes done, in order, of those that stay by their places -/
def doneM (stays : Nat → Bool) : Nat → List (List Int) → List (Int × List Int) → List (List Int)
  | _, ss, [] => ss
  | i, ss, x :: r => doneM stays (i + 1) (if stays i then ss.set x.1.toNat x.2 else ss) r
def viewM (d : Dk) : List (List Int) := doneM (fun _ => true) 0 d.secs d.loose
def bitM (mask : Nat) (i : Nat) : Bool := mask.testBit (i % 64)
def flushM (d : Dk) : Dk × Int :=
  if rightB d = true then
    if deedD d.fuse d.down = true then ({ d with fuse := deedF d.fuse d.down, down := true }, 9)
    else (⟨viewM d, [], deedF d.fuse d.down, d.down⟩, 0)
  else (d, 1)
def startM (d : Dk) (mask : Nat) : Dk × Int :=
  if rightB d = true then (⟨doneM (bitM mask) 0 d.secs d.loose, [], -1, false⟩, 0) else (d, 1)
def readM (d : Dk) (a : Int) : List Int × Int :=
  if (rightB d && thereB d.secs.length a) = true then
    if d.down = true then (List.replicate 64 0, 9) else ((viewM d).getD a.toNat [], 0)
  else (List.replicate 64 0, 1)

/-- a call that answers the disk d and the error er, and leaves all older memory as it was -/
def DkRes (w : World) (x : Dk × Int) (e : Ending) (w' : World) : Prop :=
  ∃ v, e = .returned (.tuple #[v, .int .i64 x.2]) ∧ DkAt w' w'.heap.size v x.1 ∧ Below w.heap.size w w'

theorem bcell {W w1 : World} (hb : Below W.heap.size W w1) :
    (∀ b o, b < W.heap.size → w1.cell? ⟨b, o, none⟩ = W.cell? ⟨b, o, none⟩) ∧ (∀ b o, b < W.heap.size → w1.frozen? ⟨b, o, none⟩ = W.frozen? ⟨b, o, none⟩) :=
  ⟨fun b o h => hb.cell (p := ⟨b, o, none⟩) h, fun b o h => hb.frozen (p := ⟨b, o, none⟩) h⟩
/-- a disk that is answered with the rows that came in -/
theorem DkRes.same {w W : World} {A A' : Option Addr} {n c n' c' : Nat} {f er : Int} {b : Bool} {x : Dk × Int} {ss : List (List Int)} {ls : List (Int × List Int)} (hx : x = (⟨ss, ls, f, b⟩, er))
    (hS : Arr w w.heap.size 64 A n (ss.map secv)) (hL : Arr w w.heap.size 65 A' n' (ls.map wrv)) (h1 : n ≤ c) (h2 : n' ≤ c') (h3 : c ≤ maxLen) (h4 : c' ≤ maxLen) (hb : Below w.heap.size w W) :
    DkRes w x (.returned (.tuple #[.agg #[.slice A n c, .slice A' n' c', .int .i64 f, .bool b], .int .i64 er])) W := by
  subst hx
  exact ⟨_, rfl, ⟨A, n, c, A', n', c', rfl, h1, h2, h3, h4, (hS.below hb (Nat.le_refl _)).more hb.size, (hL.below hb (Nat.le_refl _)).more hb.size⟩, hb⟩
/-- a disk that is answered with the old sectors and a new row of loose writes: the row lies in a world w2, and behind it boxes alone have turned, that lie apart from it -/
theorem DkRes.of {w w2 W : World} {A A' : Option Addr} {n c n' c' : Nat} {f er : Int} {b : Bool} {x : Dk × Int} {ss : List (List Int)} {ls : List (Int × List Int)} (hx : x = (⟨ss, ls, f, b⟩, er))
    (h1 : n ≤ c) (h2 : n' ≤ c') (h3 : c ≤ maxLen) (h4 : c' ≤ maxLen)
    (hS : Arr w2 w.heap.size 64 A n (ss.map secv)) (hb2 : Below w.heap.size w w2) (hb : Below w.heap.size w2 W)
    (hL' : Arr W W.heap.size 65 A' n' (ls.map wrv)) :
    DkRes w x (.returned (.tuple #[.agg #[.slice A n c, .slice A' n' c', .int .i64 f, .bool b], .int .i64 er])) W := by
  subst hx
  exact ⟨_, rfl, ⟨A, n, c, A', n', c', rfl, h1, h2, h3, h4, (hS.below hb (Nat.le_refl _)).more (by have := hb2.size; have := hb.size; omega), hL'⟩, hb2.trans hb⟩
theorem DkAt.later {w W : World} {v : Value} {d : Dk} (h : DkAt w w.heap.size v d) (hb : Below w.heap.size w W) : DkAt W W.heap.size v d := (h.below hb (Nat.le_refl _)).more hb.size
end Go.Proofs.Ytfejnfohbagnkaa
