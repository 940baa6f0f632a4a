/-
 A part of the proof: see the last text.
-/
import Derived.Test.YtcdehejgnnnimaaGreatDoorSSecWords
import Derived.Test.YtcdehejgnnnimaaGreatDoorSPackMath
import Derived.Test.YtcdehejgnnnimaaGreatDoorSSumMath
import Derived.Test.YtcdehejgnnnimaaGreatDoorSSecStart
import Derived.Deep.RegionHeld3
import Derived.WalkLawsBesides
import Derived.Deep.QuietTactic
import Derived.BigQuiet
import Derived.Laws.CopyOwn
namespace Go.Proofs.YtcdehejgnnnimaaGreatDoor
open List renaming setIfInBounds_toArray → jA, set_cons_zero → jB, set_cons_succ → jC
set_option linter.unusedVariables false
set_option linter.unusedSimpArgs false
open Go.RowKit
set_option linter.unusedVariables false
set_option linter.unusedSimpArgs false
def okR (b : List Nat) : Prop := 1 ≤ b.length ∧ b.length ≤ 6000
instance (b : List Nat) : Decidable (okR b) := by unfold okR; infer_instance
def takesN (n : Nat) : Nat := if 1 ≤ n ∧ n ≤ 6000 then 1 + (n + 63) / 64 else 0
theorem takesN_ok {n : Nat} (h1 : 1 ≤ n) (h2 : n ≤ 6000) : takesN n = 1 + (n + 63) / 64 := if_pos ⟨h1, h2⟩
theorem takesN_no {n : Nat} (h : n < 1 ∨ 6000 < n) : takesN n = 0 := if_neg (by omega)
theorem takesN_le (n : Nat) : takesN n ≤ 95 := by unfold takesN; split <;> omega
theorem takesN_pos {n : Nat} : 0 < takesN n ↔ 1 ≤ n ∧ n ≤ 6000 := by unfold takesN; split <;> omega
def sumT (L : List (List Nat)) : Nat := (L.map fun b => takesN b.length).sum
theorem sumT_nil : sumT [] = 0 := rfl
theorem sumT_cons (b : List Nat) (L : List (List Nat)) : sumT (b :: L) = takesN b.length + sumT L := by simp [sumT]
theorem sumT_append (L M : List (List Nat)) : sumT (L ++ M) = sumT L + sumT M := by simp [sumT]
theorem sumT_snoc (L : List (List Nat)) (b : List Nat) : sumT (L ++ [b]) = sumT L + takesN b.length := by rw [sumT_append]; simp [sumT]
theorem sumT_ge : ∀ {L : List (List Nat)}, (∀ b ∈ L, okR b) → 2 * L.length ≤ sumT L
 | [], _ => by simp [sumT]
 | b :: r, h => by
   have h1 := h b (by simp)
   have h2 := sumT_ge (L := r) fun x hx => h x (by simp [hx])
   rw [sumT_cons, takesN_ok h1.1 h1.2, List.length_cons]
   have : 1 ≤ b.length := h1.1
   omega
def secN (l : List Nat) : List Int := l.map (fun x : Nat => (x : Int))
theorem secN_length (l : List Nat) : (secN l).length = l.length := by simp [secN]
def padB (l : List Nat) : List Nat := l ++ List.replicate (64 - l.length) 0
theorem padB_length {l : List Nat} (h : l.length ≤ 64) : (padB l).length = 64 := by simp [padB]; omega
def pieceB (b : List Nat) (i : Nat) : List Nat := (b.drop (64 * i)).take 64
theorem pieceB_length (b : List Nat) (i : Nat) : (pieceB b i).length = min 64 (b.length - 64 * i) := by simp [pieceB]
def chunkL (b : List Nat) (i : Nat) : List Int := secN (padB (pieceB b i))
theorem chunkL_length (b : List Nat) (i : Nat) : (chunkL b i).length = 64 := by
 unfold chunkL
 rw [secN_length, padB_length]
 rw [pieceB_length]; omega
def nck (n : Nat) : Nat := (n + 63) / 64
def bodyL (b : List Nat) : List (List Int) := (List.range (nck b.length)).map (chunkL b)
theorem bodyL_length (b : List Nat) : (bodyL b).length = nck b.length := by simp [bodyL]
theorem bodyL_64 (b : List Nat) : ∀ s ∈ bodyL b, s.length = 64 := by
 intro s hs
 obtain ⟨i, _, rfl⟩ := List.mem_map.1 hs
 exact chunkL_length b i
def markN (g k n s : Nat) : List Nat := [87, 76, 79, 71] ++ encB 8 g ++ encB 8 k ++ encB 8 n ++ encB 8 s ++ List.replicate 28 0
theorem markN_length (g k n s : Nat) : (markN g k n s).length = 64 := by simp [markN, encB_length]
def markL (g k : Nat) (b : List Nat) : List Int := secN (markN g k b.length (moreC 0 b))
theorem markL_length (g k : Nat) (b : List Nat) : (markL g k b).length = 64 := by unfold markL; rw [secN_length, markN_length]
def recL (g k : Nat) (b : List Nat) : List (List Int) := markL g k b :: bodyL b
theorem recL_length {g k : Nat} {b : List Nat} (h : okR b) : (recL g k b).length = takesN b.length := by
 rw [takesN_ok h.1 h.2, recL, List.length_cons, bodyL_length]; unfold nck; omega
def logL (g : Nat) : Nat → List (List Nat) → List (List Int)
 | _, [] => []
 | k, b :: r => recL g k b ++ logL g (k + 1) r
theorem logL_append (g : Nat) : ∀ (L M : List (List Nat)) (k : Nat), logL g k (L ++ M) = logL g k L ++ logL g (k + L.length) M
 | [], M, k => by simp [logL]
 | b :: r, M, k => by
   rw [List.cons_append, logL, logL, logL_append g r M (k + 1), List.append_assoc, List.length_cons]
   congr 3; omega
theorem logL_snoc (g k : Nat) (L : List (List Nat)) (b : List Nat) : logL g k (L ++ [b]) = logL g k L ++ recL g (k + L.length) b := by rw [logL_append]; simp [logL]
theorem logL_length (g : Nat) : ∀ {L : List (List Nat)} (k : Nat), (∀ b ∈ L, okR b) → (logL g k L).length = sumT L
 | [], _, _ => rfl
 | b :: r, k, h => by
   rw [logL, List.length_append, recL_length (h b (by simp)), logL_length g (k + 1) (fun x hx => h x (by simp [hx])), sumT_cons]
theorem logL_64 (g : Nat) : ∀ (L : List (List Nat)) (k : Nat), ∀ s ∈ logL g k L, s.length = 64
 | [], _, s, hs => by cases hs
 | b :: r, k, s, hs => by
   rcases List.mem_append.1 hs with h | h
   ·rcases List.mem_cons.1 h with rfl | h
    ·exact markL_length g k b
    ·exact bodyL_64 b s h
   ·exact logL_64 g r (k + 1) s h
inductive Deed where
 | put (a : Nat) (s : List Int)
 | flush
def putsD : Nat → List (List Int) → List Deed
 | _, [] => []
 | a, s :: r => .put a s :: putsD (a + 1) r
theorem putsD_append : ∀ (xs ys : List (List Int)) (a : Nat), putsD a (xs ++ ys) = putsD a xs ++ putsD (a + xs.length) ys
 | [], ys, a => by simp [putsD]
 | x :: r, ys, a => by
   rw [List.cons_append, putsD, putsD, putsD_append r ys (a + 1), List.cons_append, List.length_cons]
   congr 3; omega
theorem putsD_snoc (xs : List (List Int)) (y : List Int) (a : Nat) : putsD a (xs ++ [y]) = putsD a xs ++ [.put (a + xs.length) y] := by rw [putsD_append]; rfl
theorem putsD_length : ∀ (xs : List (List Int)) (a : Nat), (putsD a xs).length = xs.length
 | [], _ => rfl
 | x :: r, a => by rw [putsD, List.length_cons, putsD_length r (a + 1), List.length_cons]
def layD (o size g : Nat) (L : List (List Nat)) : List Deed :=
 putsD o (List.replicate size zsec) ++ (.flush :: (putsD (o + 1) (logL g 0 L).tail ++ [.flush, .put o (markL g 0 (L.headD [])), .flush]))
def appD (a g k : Nat) (b : List Nat) : List Deed := putsD (a + 1) (bodyL b) ++ [.flush, .put a (markL g k b), .flush]
def formD (size : Nat) (L : List (List Nat)) : List Deed := .put size zsec :: layD 0 size 1 L
def doD (d : Dk) : Deed → Dk × Int
 | .put a s => putM d a s
 | .flush => flushM d
def runM : Dk → List Deed → Dk × Int
 | d, [] => (d, 0)
 | d, x :: r => if (doD d x).2 = 0 then runM (doD d x).1 r else doD d x
theorem runM_cons (d : Dk) (x : Deed) (r : List Deed) : runM d (x :: r) = if (doD d x).2 = 0 then runM (doD d x).1 r else doD d x := rfl
theorem runM_one (d : Dk) (x : Deed) : runM d [x] = doD d x := by
 show (if (doD d x).2 = 0 then ((doD d x).1, 0) else doD d x) = _
 split
 ·rename_i h; rw [← h]
 ·rfl
theorem runM_ok : ∀ {a b : List Deed} {d : Dk}, (runM d a).2 = 0 → runM d (a ++ b) = runM (runM d a).1 b
 | [], _, _, _ => rfl
 | x :: r, b, d, h => by
   rw [runM_cons] at h
   rw [List.cons_append, runM_cons, runM_cons]
   by_cases hx : (doD d x).2 = 0
   ·rw [if_pos hx] at h
    rw [if_pos hx, if_pos hx]
    exact runM_ok h
   ·rw [if_neg hx] at h
    exact absurd h hx
theorem runM_bad : ∀ {a b : List Deed} {d : Dk}, (runM d a).2 ≠ 0 → runM d (a ++ b) = runM d a
 | [], _, _, h => absurd rfl h
 | x :: r, b, d, h => by
   rw [runM_cons] at h
   rw [List.cons_append, runM_cons, runM_cons]
   by_cases hx : (doD d x).2 = 0
   ·rw [if_pos hx] at h
    rw [if_pos hx, if_pos hx]
    exact runM_bad h
   ·rw [if_neg hx, if_neg hx]
abbrev SL := List (List Int) × List (Int × List Int)
def effS (x : SL) : Deed → SL
 | .put a s => (x.1, x.2 ++ [((a : Int), s)])
 | .flush => (doneM (fun _ => true) 0 x.1 x.2, [])
def effM (x : SL) (ds : List Deed) : SL := ds.foldl effS x
theorem effM_nil (x : SL) : effM x [] = x := rfl
theorem effM_cons (x : SL) (y : Deed) (r : List Deed) : effM x (y :: r) = effM (effS x y) r := rfl
theorem effM_append (x : SL) (a b : List Deed) : effM x (a ++ b) = effM (effM x a) b := List.foldl_append
theorem doneM_len (st : Nat → Bool) : ∀ (l : List (Int × List Int)) (i : Nat) (S : List (List Int)), (doneM st i S l).length = S.length
 | [], _, _ => rfl
 | x :: r, i, S => by
   unfold doneM
   rw [doneM_len st r]
   split
   ·rw [List.length_set]
   ·rfl
def inD (n : Nat) : Deed → Prop
 | .put a s => a < n ∧ s.length = 64
 | .flush => True
theorem rightB_of {d : Dk} : rightB d = true ↔ d.secs.length ≤ 4096 ∧ d.loose.length ≤ 100000 ∧ fuseB d.fuse = true ∧ looseB d.secs.length d.loose = true := by
 unfold rightB
 simp only [Bool.and_eq_true, decide_eq_true_eq]
 constructor
 ·rintro ⟨⟨⟨a, b⟩, c⟩, e⟩; exact ⟨a, b, c, e⟩
 ·rintro ⟨a, b, c, e⟩; exact ⟨⟨⟨a, b⟩, c⟩, e⟩
theorem deedF_fuse {f : Int} (h : fuseB f = true) : fuseB (deedF f false) = true := by
 unfold fuseB at h ⊢
 unfold deedF
 simp only [Bool.and_eq_true, decide_eq_true_eq] at h ⊢
 simp only [Bool.false_eq_true, if_false]
 split <;> omega
theorem deed_fall {f : Int} (h : deedD f false = true) : f = 0 := by simpa [deedD] using h
theorem thereB_of {n a : Nat} (h : a < n) : thereB n (a : Int) = true := by
 unfold thereB
 simp only [Bool.and_eq_true, decide_eq_true_eq]
 omega
theorem looseB_snoc {n : Nat} {l : List (Int × List Int)} {x : Int × List Int} (h : looseB n l = true) (hx : thereB n x.1 = true) : looseB n (l ++ [x]) = true := by
 unfold looseB at h ⊢
 rw [List.all_append, h]
 simpa using hx
theorem do_cases (d : Dk) (x : Deed) (hr : rightB d = true) (hd : d.down = false) (hx : inD d.secs.length x) (hn : d.loose.length + 1 ≤ 100000) :
 (doD d x = (⟨(effS (d.secs, d.loose) x).1, (effS (d.secs, d.loose) x).2, deedF d.fuse false, false⟩, 0) ∧ d.fuse ≠ 0 ∧ rightB (doD d x).1 = true) ∨
 (doD d x = (⟨d.secs, d.loose, 0, true⟩, 9) ∧ d.fuse = 0) := by
 obtain ⟨S, l, f, b⟩ := d
 simp only at hd hn
 subst hd
 obtain ⟨h1, h2, h3, h4⟩ := rightB_of.1 hr
 simp only at h1 h2 h3 h4
 cases x with
 | put a s =>
   have ht : thereB S.length (a : Int) = true := thereB_of hx.1
   have hc : (rightB ⟨S, l, f, false⟩ && thereB S.length (a : Int)) = true := by rw [hr, ht]; rfl
   by_cases hf : deedD f false = true
   ·right
    have h0 := deed_fall hf
    refine ⟨?_, h0⟩
    show putM _ _ _ = _
    unfold putM
    simp only [hc, hf, if_true]
    subst h0
    rfl
   ·left
    have e : doD ⟨S, l, f, false⟩ (.put a s) = (⟨S, l ++ [((a : Int), s)], deedF f false, false⟩, 0) := by
     show putM _ _ _ = _
     unfold putM
     simp only [hc, hf, if_true]
     simp
    refine ⟨e, ?_, ?_⟩
    ·rintro rfl; exact hf rfl
    ·rw [e]
     refine rightB_of.2 ⟨h1, by simp; omega, deedF_fuse h3, looseB_snoc h4 ht⟩
 | flush =>
   by_cases hf : deedD f false = true
   ·right
    have h0 := deed_fall hf
    refine ⟨?_, h0⟩
    show flushM _ = _
    unfold flushM
    simp only [hr, hf, if_true]
    subst h0
    rfl
   ·left
    have e : doD ⟨S, l, f, false⟩ .flush = (⟨doneM (fun _ => true) 0 S l, [], deedF f false, false⟩, 0) := by
     show flushM _ = _
     unfold flushM
     simp only [hr, hf, if_true]
     simp [viewM]
    refine ⟨e, ?_, ?_⟩
    ·rintro rfl; exact hf rfl
    ·rw [e]
     refine rightB_of.2 ⟨by show (doneM _ 0 S l).length ≤ 4096; rw [doneM_len]; exact h1, by simp, deedF_fuse h3, rfl⟩
theorem effS_len (x : SL) (y : Deed) : (effS x y).1.length = x.1.length := by
 cases y with
 | put a s => rfl
 | flush => exact doneM_len _ _ _ _
theorem effS_loose (x : SL) (y : Deed) : (effS x y).2.length ≤ x.2.length + 1 := by
 cases y with
 | put a s => simp [effS]
 | flush => simp [effS]
theorem run_cases : ∀ (ds : List Deed) (d : Dk), rightB d = true → d.down = false → (∀ x ∈ ds, inD d.secs.length x) → d.loose.length + ds.length ≤ 100000 →
 (∃ f, runM d ds = (⟨(effM (d.secs, d.loose) ds).1, (effM (d.secs, d.loose) ds).2, f, false⟩, 0) ∧ rightB (runM d ds).1 = true ∧ (d.fuse = -1 → f = -1)) ∨
 (d.fuse ≠ -1 ∧ ∃ ds1 ds2, ds = ds1 ++ ds2 ∧ ds2 ≠ [] ∧ runM d ds = (⟨(effM (d.secs, d.loose) ds1).1, (effM (d.secs, d.loose) ds1).2, 0, true⟩, 9) ∧ rightB (runM d ds).1 = true)
 | [], d, hr, hd, _, _ => by
   refine .inl ⟨d.fuse, ?_, hr, id⟩
   obtain ⟨S, l, f, b⟩ := d
   simp only at hd
   subst hd
   rfl
 | x :: r, d, hr, hd, hx, hn => by
   rw [List.length_cons] at hn
   rcases do_cases d x hr hd (hx x (by simp)) (by omega) with ⟨e, hf, hr'⟩ | ⟨e, hf⟩
   ·have hrun : runM d (x :: r) = runM (doD d x).1 r := by
     show (if (doD d x).2 = 0 then _ else _) = _
     rw [if_pos (by rw [e])]
    rw [hrun]
    have hS : (doD d x).1.secs.length = d.secs.length := by rw [e]; exact effS_len _ _
    have hd1 : (doD d x).1.down = false := by rw [e]
    have hl1 : (doD d x).1.loose.length ≤ d.loose.length + 1 := by rw [e]; exact effS_loose (d.secs, d.loose) x
    have ih := run_cases r (doD d x).1 hr' hd1 (fun y hy => by rw [hS]; exact hx y (by simp [hy])) (by omega)
    have hf1 : (doD d x).1.fuse = deedF d.fuse false := by rw [e]
    have hp : ((doD d x).1.secs, (doD d x).1.loose) = effS (d.secs, d.loose) x := by rw [e]
    rw [hp, hf1] at ih
    rcases ih with ⟨f, h1, h2, h3⟩ | ⟨h0, ds1, ds2, h1, h2, h3, h4⟩
    ·refine .inl ⟨f, h1, h2, fun h => h3 ?_⟩
     rw [h]; decide
    ·refine .inr ⟨fun h => h0 (by rw [h]; decide), x :: ds1, ds2, by rw [h1]; rfl, h2, h3, h4⟩
   ·have hrun : runM d (x :: r) = doD d x := by
     show (if (doD d x).2 = 0 then _ else _) = _
     rw [if_neg (by rw [e]; exact (by decide : ¬ (9 : Int) = 0))]
    rw [hrun, e]
    refine .inr ⟨by rw [hf]; decide, [], x :: r, rfl, by simp, rfl, ?_⟩
    obtain ⟨h1, h2, h3, h4⟩ := rightB_of.1 hr
    exact rightB_of.2 ⟨h1, h2, (by decide : fuseB 0 = true), h4⟩
def setAll : Nat → List (List Int) → List (List Int) → List (List Int)
 | _, [], S => S
 | a, x :: r, S => setAll (a + 1) r (S.set a x)
theorem setAll_len : ∀ (xs : List (List Int)) (a : Nat) (S : List (List Int)), (setAll a xs S).length = S.length
 | [], _, _ => rfl
 | x :: r, a, S => by rw [setAll, setAll_len r, List.length_set]
theorem setAll_out : ∀ (xs : List (List Int)) (a i : Nat) (S : List (List Int)), i < a ∨ a + xs.length ≤ i → (setAll a xs S)[i]? = S[i]?
 | [], _, _, _, _ => rfl
 | x :: r, a, i, S, h => by
   rw [List.length_cons] at h
   rw [setAll, setAll_out r (a + 1) i _ (by omega), List.getElem?_set_ne (by omega)]
theorem setAll_in : ∀ (xs : List (List Int)) (a i : Nat) (S : List (List Int)), i < xs.length → a + xs.length ≤ S.length → (setAll a xs S)[a + i]? = xs[i]?
 | [], _, _, _, h, _ => absurd h (by simp)
 | x :: r, a, 0, S, h, hS => by
   rw [List.length_cons] at hS
   rw [Nat.add_zero, setAll, setAll_out r (a + 1) a _ (by omega), List.getElem?_set_self (by omega)]
   rfl
 | x :: r, a, i + 1, S, h, hS => by
   rw [List.length_cons] at h hS
   rw [setAll, show a + (i + 1) = a + 1 + i by omega, setAll_in r (a + 1) i _ (by omega) (by rw [List.length_set]; omega)]
   rfl
def looseP : Nat → List (List Int) → List (Int × List Int)
 | _, [] => []
 | a, x :: r => ((a : Int), x) :: looseP (a + 1) r
theorem looseP_mem : ∀ {xs : List (List Int)} {a : Nat} {y : Int × List Int}, y ∈ looseP a xs → ∃ i, i < xs.length ∧ y.1 = ((a + i : Nat) : Int) ∧ xs[i]? = some y.2
 | [], _, _, h => by cases h
 | x :: r, a, y, h => by
   rcases List.mem_cons.1 h with rfl | h
   ·exact ⟨0, by simp, rfl, rfl⟩
   ·obtain ⟨i, h1, h2, h3⟩ := looseP_mem h
    exact ⟨i + 1, by simp; omega, by rw [h2]; congr 1; omega, by simpa using h3⟩
theorem effM_puts : ∀ (xs : List (List Int)) (a : Nat) (S : List (List Int)) (l : List (Int × List Int)), effM (S, l) (putsD a xs) = (S, l ++ looseP a xs)
 | [], _, S, l => by simp [putsD, looseP, effM_nil]
 | x :: r, a, S, l => by
   rw [putsD, effM_cons]
   show effM (S, l ++ [((a : Int), x)]) _ = _
   rw [effM_puts r (a + 1) S, looseP]
   simp
theorem doneM_puts : ∀ (xs : List (List Int)) (a i : Nat) (S : List (List Int)), doneM (fun _ => true) i S (looseP a xs) = setAll a xs S
 | [], _, _, _ => rfl
 | x :: r, a, i, S => by
   rw [looseP, setAll]
   unfold doneM
   rw [if_pos rfl, doneM_puts r (a + 1)]
   rfl
theorem doneM_sub (st : Nat → Bool) : ∀ (l : List (Int × List Int)) (i : Nat) (S : List (List Int)) (a : Nat),
 (doneM st i S l)[a]? = S[a]? ∨ ∃ x ∈ l, x.1.toNat = a ∧ (doneM st i S l)[a]? = some x.2 ∧ a < S.length
 | [], _, _, _ => .inl rfl
 | x :: r, i, S, a => by
   unfold doneM
   by_cases hs : st i = true
   ·rw [if_pos hs]
    rcases doneM_sub st r (i + 1) (S.set x.1.toNat x.2) a with h | ⟨y, hy, h1, h2, h3⟩
    ·by_cases ha : x.1.toNat = a
     ·subst ha
      by_cases hl : x.1.toNat < S.length
      ·right
       refine ⟨x, by simp, rfl, ?_, hl⟩
       rw [h, List.getElem?_set_self hl]
      ·left
       rw [h, List.getElem?_eq_none (by rw [List.length_set]; omega), List.getElem?_eq_none (by omega)]
     ·left
      rw [h, List.getElem?_set_ne ha]
    ·exact .inr ⟨y, by simp [hy], h1, h2, by simpa using h3⟩
   ·rw [if_neg hs]
    rcases doneM_sub st r (i + 1) S a with h | ⟨y, hy, h1, h2, h3⟩
    ·exact .inl h
    ·exact .inr ⟨y, by simp [hy], h1, h2, h3⟩
theorem crash_puts (st : Nat → Bool) (xs : List (List Int)) (a : Nat) (S : List (List Int)) (i : Nat) :
 (doneM st 0 S (looseP a xs))[i]? = S[i]? ∨ (a ≤ i ∧ i < a + xs.length ∧ (doneM st 0 S (looseP a xs))[i]? = xs[i - a]?) := by
 rcases doneM_sub st (looseP a xs) 0 S i with h | ⟨y, hy, h1, h2, h3⟩
 ·exact .inl h
 ·obtain ⟨j, hj, e1, e2⟩ := looseP_mem hy
  right
  have : i = a + j := by rw [← h1, e1]; omega
  subst this
  refine ⟨by omega, by omega, ?_⟩
  rw [h2, show a + j - a = j by omega, e2]
theorem puts_cut : ∀ (xs : List (List Int)) (a : Nat) (ds1 ds2 rest : List Deed), putsD a xs ++ rest = ds1 ++ ds2 →
 (∃ i, i ≤ xs.length ∧ ds1 = putsD a (xs.take i)) ∨ (∃ ds3, ds1 = putsD a xs ++ ds3 ∧ rest = ds3 ++ ds2)
 | [], a, ds1, ds2, rest, h => .inr ⟨ds1, rfl, h⟩
 | x :: r, a, [], ds2, rest, h => .inl ⟨0, by simp, rfl⟩
 | x :: r, a, y :: ds1, ds2, rest, h => by
   rw [putsD, List.cons_append, List.cons_append] at h
   injection h with h0 h
   subst h0
   rcases puts_cut r (a + 1) ds1 ds2 rest h with ⟨i, h1, h2⟩ | ⟨ds3, h1, h2⟩
   ·exact .inl ⟨i + 1, by simp; omega, by rw [h2]; rfl⟩
   ·exact .inr ⟨ds3, by rw [h1, putsD]; rfl, h2⟩
end Go.Proofs.YtcdehejgnnnimaaGreatDoor
namespace Go.Proofs.YtcdehejgnnnimaaGreatDoor
open List renaming setIfInBounds_toArray → jA, set_cons_zero → jB, set_cons_succ → jC
set_option linter.unusedVariables false
set_option linter.unusedSimpArgs false
open Go.RowKit
theorem Arr.other {w w' : World} {B k n g : Nat} {A : Option Addr} {xs : List (List Value)} {t : TypeId} {cs : Array Value} (h : Arr w B k A n xs) (hb : Bk w g t cs) (hs : cs.size < k) (hBw : B ≤ w.heap.size)
 (hg : w.grownBy w' (some g)) : Arr w' B k A n xs := by
 refine ⟨h.1, h.2.1, fun hn => ?_⟩
 obtain ⟨b, o, e, hbB, hc⟩ := h.2.2 hn
 refine ⟨b, o, e, hbB, fun j x hx => ?_⟩
 have hne : b ≠ g := by
  intro he
  subst he
  have hx0 : xs[0]? = some (xs[0]'(by rw [h.1]; exact hn)) := List.getElem?_eq_getElem _
  have hl := h.2.1 _ (List.getElem_mem (by rw [h.1]; exact hn : 0 < xs.length))
  have := hc 0 _ hx0 cs.size _ (List.getElem?_eq_getElem (by rw [hl]; exact hs))
  rw [hb.cell] at this
  have hlt : o + 0 * k + cs.size < cs.size := by
   rcases Nat.lt_or_ge (o + 0 * k + cs.size) cs.size with h1 | h1
   ·exact h1
   ·rw [Array.getElem?_eq_none h1] at this; cases this
  omega
 exact rangeAt_keep (hc j x hx) (fun p hp => World.cell?_of_block (w := w) (hg.block p.block (by omega) (fun e => hne (by injection e with e; rw [← hp, e]))))
theorem DkAt.other {w w' : World} {B g : Nat} {v : Value} {d : Dk} {t : TypeId} {cs : Array Value} (h : DkAt w B v d) (hb : Bk w g t cs) (hs : cs.size < 64) (hBw : B ≤ w.heap.size) (hg : w.grownBy w' (some g)) : DkAt w' B v d := by
 obtain ⟨A, n, c, A', n', c', e, h1, h2, h3, h4, h5, h6⟩ := h
 exact ⟨A, n, c, A', n', c', e, h1, h2, h3, h4, h5.other hb hs hBw hg, h6.other hb (by omega) hBw hg⟩
theorem grown_of_below {w w' : World} (h : Below w.heap.size w w') (row : Option Nat) : w.grownBy w' row := ⟨h.os, h.tape, h.output, h.size, fun k hk _ => h.block k hk⟩
theorem Below.of_grown {B : Nat} {w w' : World} {g : Nat} (h : w.grownBy w' (some g)) (hB : B ≤ g) (hw : B ≤ w.heap.size) : Below B w w' := ⟨h.os, h.tape, h.output, h.size, fun k hk => h.block k (by omega) (fun e => by injection e with e; omega)⟩
theorem Bk.grown {w w' : World} {b : Nat} {t : TypeId} {cs : Array Value} {row : Option Nat} (h : Bk w b t cs) (hg : w.grownBy w' row) (hne : some b ≠ row) : Bk w' b t cs := (hg.block b h.lt hne).trans h
def PenIs (w : World) (g : Nat) (d : Dk) : Prop :=
 ∃ A n c A' n' c', Bk w g 116 #[.slice A n c, .slice A' n' c', .int .i64 d.fuse, .bool d.down] ∧ DkAt w w.heap.size (.agg #[.slice A n c, .slice A' n' c', .int .i64 d.fuse, .bool d.down]) d
theorem PenIs.lt {w : World} {g : Nat} {d : Dk} (h : PenIs w g d) : g < w.heap.size := by obtain ⟨A, n, c, A', n', c', h, _⟩ := h; exact h.lt
theorem PenIs.below {w w' : World} {g : Nat} {d : Dk} (h : PenIs w g d) (hb : Below w.heap.size w w') : PenIs w' g d := by
 obtain ⟨A, n, c, A', n', c', h1, h2⟩ := h
 exact ⟨A, n, c, A', n', c', h1.below hb h1.lt, h2.later hb⟩
def penE (x : Dk × Int) : Ending := if x.2 = 0 then .returned (.tuple #[]) else .panicked [{ v := .iface 28 (.int .i64 x.2), recovered := false }]
theorem penE_ok {x : Dk × Int} (h : x.2 = 0) : penE x = .returned (.tuple #[]) := if_pos h
theorem penE_bad {x : Dk × Int} (h : x.2 ≠ 0) : penE x = .panicked [{ v := .iface 28 (.int .i64 x.2), recovered := false }] := if_neg h
def PenRes (g : Nat) (x : Dk × Int) (w : World) (e : Ending) (w' : World) : Prop := e = penE x ∧ PenIs w' g x.1 ∧ w.grownBy w' (some g)
theorem PenRes.first {g : Nat} {x : Dk × Int} {w w0 w' : World} {e : Ending} (h : PenRes g x w e w') (h0 : w0.grownBy w (some g)) : PenRes g x w0 e w' := ⟨h.1, h.2.1, grownBy_trans h0 h.2.2⟩
theorem stored4_grown (w : World) (b : Nat) (a0 a1 a2 a3 : Value) : w.grownBy (stored4 w b a0 a1 a2 a3) (some b) := by
 unfold stored4
 exact grownBy_trans (grownBy_trans (grownBy_trans (grownBy_setCell _ _ _ _) (grownBy_setCell _ _ _ _)) (grownBy_setCell _ _ _ _)) (grownBy_setCell _ _ _ _)
set_option maxRecDepth 20000 in
set_option maxHeartbeats 1000000 in
theorem goOn_any (g : Nat) (u0 u1 u2 u3 v : Value) (d : Dk) (er : Int) (w : World) (hB : Bk w g 116 #[u0, u1, u2, u3]) (hd : DkAt w w.heap.size v d) :
 Calls Tryz.prog 63 #[.pointer (some ⟨g, 0, none⟩), v, .int .i64 er] w (PenRes g (d, er) w) := by
 obtain ⟨A, n, c, A', n', c', rfl, hr⟩ := hd
 have hd : DkAt w w.heap.size (.agg #[.slice A n c, .slice A' n' c', .int .i64 d.fuse, .bool d.down]) d := ⟨A, n, c, A', n', c', rfl, hr⟩
 clear hr
 have hlt := hB.lt
 have hf := stored4_facts hB (.slice A n c) (.slice A' n' c') (.int .i64 d.fuse) (.bool d.down)
 have hb1 := (Below.refl (stored4 w g (.slice A n c) (.slice A' n' c') (.int .i64 d.fuse) (.bool d.down)).heap.size (stored4 w g (.slice A n c) (.slice A' n' c') (.int .i64 d.fuse) (.bool d.down))).alloc (Nat.le_refl _) (.cells #[.slice A n c, .slice A' n' c', .int .i64 d.fuse, .bool d.down] 27)
 have HP := Lib.hid (PenIs.below (show PenIs _ g d from ⟨A, n, c, A', n', c', hf.1, hf.2.1 _ _ hd⟩) hb1)
 have HG := Lib.hid (grownBy_trans (stored4_grown w g (.slice A n c) (.slice A' n' c') (.int .i64 d.fuse) (.bool d.down)) (grown_of_below hb1 (some g)))
 obtain ⟨⟨p0, p1, p2, p3⟩, q0, q1, q2, q3⟩ := hB.four
 clear hb1 hf hd hB
 unfold PenRes penE
 by_cases he : er = 0
 ·subst he
  rw [if_pos rfl]
  go_enter Tryz.func63, Tryz.ntmps63
  go_wp2
  go_end0
  exact ⟨rfl, HP.out, HG.out⟩
 ·rw [if_neg he]
  have hne : (er != 0) = true := by simpa using he
  go_enter Tryz.func63, Tryz.ntmps63
  go_wp2
  exact ⟨rfl, rfl, HP.out, HG.out⟩
section
variable {P : Program}
theorem exec_loadw {o : Oper} {ρ : Operand → Value} {w : World} {ty : TypeId} {x : Operand} (ho : o.op = .load ty x) {b off : Nat} (hx : ρ x = .pointer (some ⟨b, off, none⟩)) {cs : Array Value} {d : TypeDesc} (hc : w.rangeAt b off cs.toList)
 (hu : P.underlying ty = some d) (hd : d.isRow = true) (hi : (P.info? ty).map (·.size) = some cs.size) : (execOp ρ o).run P w = .ok (.value (.agg cs)) w := by
 unfold execOp
 simp only [ho, hx, Instr.loadAt, Instr.sureAddr, Sem.run_bind, Sem.run_pure, Result.andThen_ok, run_loadVar_mid w b off ty cs.toList d hc hu hd (by rw [Array.length_toList]; exact hi), Array.toArray_toList]
end
theorem Bk.rng {w : World} {b : Nat} {t : TypeId} {cs : Array Value} (h : Bk w b t cs) : w.rangeAt b 0 cs.toList := fun i v hv => by
 rw [Nat.zero_add, h.cell]
 simpa using hv
theorem size_secA {s : List Int} (h : s.length = 64) : (Tryz.prog.info? 84).map (·.size) = some (secv s).toArray.size := by
 rw [List.size_toArray, secv_length, h]; exact size_sec
theorem DkRes.val {w w' : World} {x : Dk × Int} {e : Ending} (h : DkRes w x e w') : ∃ v, e = .returned (.tuple #[v, .int .i64 x.2]) ∧ DkAt w' w'.heap.size v x.1 ∧ Below w.heap.size w w' := h
set_option maxRecDepth 20000 in
set_option maxHeartbeats 2000000 in
theorem pput_any (g : Nat) (d : Dk) (a : Int) (s : List Int) (w : World) (hp : PenIs w g d) (hs : s.length = 64) :
 Calls Tryz.prog 35 #[.pointer (some ⟨g, 0, none⟩), .int .i64 a, .agg (secv s).toArray] w (PenRes g (putM d a s) w) := by
 obtain ⟨A, n, c, A', n', c', hB, hd⟩ := hp
 have hlt := hB.lt
 go_enter Tryz.func35, Tryz.ntmps35
 go_wp2_with fail
 have hm : Tryz.prog.follows .mixedOrders = true := by kernel_rfl
 have hb0 : Below w.heap.size w (w.alloc (.cells (secv s).toArray 84)).drew := ((Below.refl _ _).alloc (Nat.le_refl _) _).drew
 have hBx : Bk (w.alloc (.cells (secv s).toArray 84)).drew w.heap.size 84 (secv s).toArray := (Bk.new w 84 (secv s).toArray).drew
 have hB1 := hB.below hb0 hB.lt
 have hd1 := hd.later hb0
 have hg0 := grown_of_below hb0 (some g)
 refine wp_region_held_drew (S := fun W => Bk W w.heap.size 84 (secv s).toArray ∧ w.grownBy W (some g)) hm ⟨hBx, hg0⟩ (fun hHeld => ?_)
 generalize (w.alloc (.cells (secv s).toArray 84)).drew = W at *
 obtain ⟨⟨p0, p1, p2, p3⟩, q0, q1, q2, q3⟩ := hB1.four
 have HB1 := Lib.hid hB1
 have HD1 := Lib.hid hd1
 have HS := Lib.hid hs
 clear hB hd hb0 hBx hB1 hd1 hg0 hs
 simp only [List.size_toArray, List.length_cons, List.length_nil, Nat.reduceAdd]
 refine wpAnyH_take (i := 0) (v := .pointer (some ⟨g, 0, none⟩)) rfl (by kernel_rfl) (by kernel_rfl) (by kernel_rfl) (fun _ _ _ h => h) (Or.inl ⟨by rfl, fun w0 hC => by simp [execOp, Act.eval, Act.put, go_sem]⟩) hHeld ?_
 try simp only [Act.put, jA, jB, jC]
 refine wpAnyH_take (i := 1) (v := .pointer (some ⟨g, 0, none⟩)) rfl (by kernel_rfl) (by kernel_rfl) (by kernel_rfl) (fun _ _ _ h => h) (Or.inl ⟨by rfl, fun w0 hC => by simp [execOp, Act.eval, Act.put, go_sem]⟩) hHeld ?_
 try simp only [Act.put, jA, jB, jC]
 refine wpAnyH_take (i := 2) (v := .pointer (some ⟨g, 0, none⟩)) rfl (by kernel_rfl) (by kernel_rfl) (by kernel_rfl) (fun _ _ _ h => h) (Or.inl ⟨by rfl, fun w0 hC => by simp [execOp, Act.eval, Act.put, go_sem]⟩) hHeld ?_
 try simp only [Act.put, jA, jB, jC]
 refine wpAnyH_take (i := 3) (v := .pointer (some ⟨g, 0, none⟩)) rfl (by kernel_rfl) (by kernel_rfl) (by kernel_rfl) (fun _ _ _ h => h) (Or.inl ⟨by rfl, fun w0 hC => by simp [execOp, Act.eval, Act.put, go_sem]⟩) hHeld ?_
 try simp only [Act.put, jA, jB, jC]
 refine wpAnyH_take (i := 5) (v := .int .i64 a) rfl (by kernel_rfl) (by kernel_rfl) (by kernel_rfl) (fun _ _ _ h => h) (Or.inl ⟨by rfl, fun w0 hC => by simp [execOp, Act.eval, Act.put, go_sem]⟩) hHeld ?_
 try simp only [Act.put, jA, jB, jC]
 refine wpAnyH_take (i := 6) (v := .agg (secv s).toArray) rfl (by kernel_rfl) (by kernel_rfl) (by kernel_rfl) (fun _ _ _ h => h) (Or.inl ⟨by rfl, fun w0 hC => exec_loadw rfl rfl hC.1.rng Tryz.underlying84 rfl (size_secA HS.out)⟩) hHeld ?_
 try simp only [Act.put, jA, jB, jC]
 refine wpAnyH_ready (rs := [4]) (by kernel_rfl) (by simp) (AllReadyH.cons rfl (fun K hK => ?_) AllReadyH.nil)
 rw [if_pos (by rfl)]
 go_wp2_with fail
 refine hK.out _ _ hHeld (fun hHeld => ?_)
 clear hK K
 try simp only [Act.put, jA, jB, jC]
 refine wpAnyH_ready (rs := [7]) (by kernel_rfl) (by simp) (AllReadyH.cons rfl (fun K hK => ?_) AllReadyH.nil)
 rw [if_pos (by rfl)]
 go_wp2_with fail
 refine (put_any _ d a s W HD1.out HS.out).mono ?_
 rintro e w1 ⟨v1, rfl, hd2, hb2⟩
 have hB2 := HB1.out.below hb2 HB1.out.lt
 have hG2 := grown_of_below hb2 (some g)
 have HD2 := Lib.hid hd2; have HB2 := Lib.hid hB2
 generalize hx : putM d a s = x at *
 have HX := Lib.hid hx
 clear hx p0 p1 p2 p3 q0 q1 q2 q3 HB1 HD1 hd2 hB2
 refine hK.out _ _ ⟨hHeld.1.below hb2 hHeld.1.lt, grownBy_trans hHeld.2 hG2⟩ (fun hHeld => ?_)
 clear hK K
 try simp only [Act.put, jA, jB, jC]
 clear hb2 hG2
 refine wpAnyH_take (i := 8) (v := v1) rfl (by kernel_rfl) (by kernel_rfl) (by kernel_rfl) (fun _ _ _ h => h) (Or.inl ⟨by rfl, fun w0 hC => by simp [execOp, Act.eval, Act.put, go_sem]⟩) hHeld ?_
 try simp only [Act.put, jA, jB, jC]
 refine wpAnyH_take (i := 9) (v := .int .i64 x.2) rfl (by kernel_rfl) (by kernel_rfl) (by kernel_rfl) (fun _ _ _ h => h) (Or.inl ⟨by rfl, fun w0 hC => by simp [execOp, Act.eval, Act.put, go_sem]⟩) hHeld ?_
 try simp only [Act.put, jA, jB, jC]
 refine wpAnyH_ready (rs := [10]) (by kernel_rfl) (by simp) (AllReadyH.cons rfl (fun K hK => ?_) AllReadyH.nil)
 rw [if_pos (by rfl)]
 go_wp2_with fail
 refine (goOn_any g _ _ _ _ v1 x.1 x.2 w1 HB2.out HD2.out).mono ?_
 rintro e w2 ⟨he, hp2, hg2⟩
 by_cases h0 : x.2 = 0
 ·rw [penE_ok h0] at he
  subst he
  have HP2 := Lib.hid hp2
  have hB3 : Bk w2 w.heap.size 84 (secv s).toArray := hHeld.1.grown hg2 (fun e => by injection e with e; omega)
  have HG2 := Lib.hid (grownBy_trans hHeld.2 hg2)
  clear hp2 hg2
  refine hK.out _ _ ⟨hB3, HG2.out⟩ (fun hHeld => ?_)
  clear hK K
  try simp only [Act.put, jA, jB, jC]
  refine wpAnyH_done (by kernel_rfl) ?_ _
  go_wp2
  go_end0
  exact ⟨(penE_ok h0).symm, HP2.out, HG2.out⟩
 ·rw [penE_bad h0] at he
  subst he
  have HP2 := Lib.hid hp2
  have HG2 := Lib.hid (grownBy_trans hHeld.2 hg2)
  clear hp2 hg2
  go_wp2
  exact ⟨rfl, (penE_bad h0).symm, HP2.out, HG2.out⟩
set_option maxRecDepth 20000 in
set_option maxHeartbeats 2000000 in
theorem pflush_any (g : Nat) (d : Dk) (w : World) (hp : PenIs w g d) :
 Calls Tryz.prog 46 #[.pointer (some ⟨g, 0, none⟩)] w (PenRes g (flushM d) w) := by
 obtain ⟨A, n, c, A', n', c', hB, hd⟩ := hp
 have hlt := hB.lt
 obtain ⟨⟨p0, p1, p2, p3⟩, q0, q1, q2, q3⟩ := hB.four
 have HB := Lib.hid hB
 clear hB
 go_enter Tryz.func46, Tryz.ntmps46
 go_wp2_with fail
 refine (flush_any _ d w hd).mono ?_
 rintro e w1 ⟨v1, rfl, hd2, hb2⟩
 have HB2 := Lib.hid (HB.out.below hb2 HB.out.lt)
 have HG2 := Lib.hid (grown_of_below hb2 (some g))
 generalize flushM d = x at *
 clear HB hd p0 p1 p2 p3 q0 q1 q2 q3 hb2
 go_wp2_with fail
 refine (goOn_any g _ _ _ _ v1 x.1 x.2 w1 HB2.out hd2).mono ?_
 rintro e w2 ⟨he, hp2, hg2⟩
 have HP2 := Lib.hid hp2
 have HG3 := Lib.hid (grownBy_trans HG2.out hg2)
 clear hp2 hg2
 by_cases h0 : x.2 = 0
 ·rw [penE_ok h0] at he
  subst he
  go_wp2
  go_end0
  exact ⟨(penE_ok h0).symm, HP2.out, HG3.out⟩
 ·rw [penE_bad h0] at he
  subst he
  go_wp2
  exact ⟨rfl, (penE_bad h0).symm, HP2.out, HG3.out⟩
end Go.Proofs.YtcdehejgnnnimaaGreatDoor
namespace Go.Proofs.YtcdehejgnnnimaaGreatDoor
open List renaming setIfInBounds_toArray → jA, set_cons_zero → jB, set_cons_succ → jC
set_option linter.unusedVariables false
set_option linter.unusedSimpArgs false
open Go.RowKit
theorem takes_int (n : Nat) (w : World) (hn : n ≤ 140737488355328) :
 Calls Tryz.prog 42 #[.int .i64 (n : Int)] w fun e w' => e = .returned (.int .i64 ((takesN n : Nat) : Int)) ∧ w = w' := by
 by_cases h1 : n < 1
 ·rw [takesN_no (.inl h1)]
  have h1i : (n : Int) < 1 := by omega
  have hd : decide ((n : Int) < 1) = true := by simp; omega
  go_enter Tryz.func42, Tryz.ntmps42
  go_wp2
  go_ret
  exact ⟨rfl, rfl⟩
 ·have hd : decide ((n : Int) < 1) = false := by simp; omega
  by_cases h2 : 6000 < n
  ·rw [takesN_no (.inr h2)]
   have hd2 : decide (6000 < (n : Int)) = true := by simp; omega
   go_enter Tryz.func42, Tryz.ntmps42
   go_wp2
   go_ret
   exact ⟨rfl, rfl⟩
  ·have hd2 : decide (6000 < (n : Int)) = false := by simp; omega
   have HT := Lib.hid (takesN_ok (n := n) (by omega) (by omega))
   have h0 : 0 ≤ (n : Int) := by omega
   have h6 : (n : Int) ≤ 6000 := by omega
   go_enter Tryz.func42, Tryz.ntmps42
   go_wp2
   go_ret
   exact ⟨ret_int (by rw [HT.out]; omega), rfl⟩
theorem genMay_any (n : Int) (w : World) : Calls Tryz.prog 67 #[.int .i64 n] w fun e w' => e = .returned (.bool (decide (1 ≤ n) && decide (n ≤ 1099511627776))) ∧ w = w' := by
 by_cases h1 : 1 ≤ n
 ·have hd : decide (1 ≤ n) = true := by simpa using h1
  go_enter Tryz.func67, Tryz.ntmps67
  go_wp2
  go_ret
  exact ⟨by simp [hd], rfl⟩
 ·have hd : decide (1 ≤ n) = false := by simpa using h1
  go_enter Tryz.func67, Tryz.ntmps67
  go_wp2
  go_ret
  exact ⟨by simp [hd], rfl⟩
def halfV (o size : Nat) : Value := .agg #[.int .i64 (o : Int), .int .i64 (size : Int)]
set_option maxRecDepth 20000 in
set_option maxHeartbeats 400000 in
theorem halfOf_any (v : Value) (d : Dk) (h : Nat) (w : World) (hd : DkAt w w.heap.size v d) (hh : h ≤ 1) (hn : d.secs.length ≤ 4096) :
 Calls Tryz.prog 32 #[v, .int .i64 (h : Int)] w fun e w' => e = .returned (halfV (h * (d.secs.length / 2)) (d.secs.length / 2)) ∧ Below w.heap.size w w' := by
 obtain ⟨A, n, c, A', n', c', rfl, hnc, hnc', hc, hc', hS, hL⟩ := hd
 have hl : n = d.secs.length := by have := hS.1; simpa using this.symm
 rw [← hl] at hn ⊢
 clear hS hL hl
 have h0 : 0 ≤ (n : Int) := by omega
 have h4 : (n : Int) ≤ 4096 := by omega
 have e1 : ((h * (n / 2) : Nat) : Int) = (h : Int) * ((n : Int) / 2) := by push_cast; rfl
 have hb : h = 0 ∨ h = 1 := by omega
 have hm : ((n / 2 : Nat) : Int) = (n : Int) / 2 := by push_cast; rfl
 unfold halfV
 rw [e1, hm]
 clear e1 hm hnc hnc' hc hc'
 rcases hb with rfl | rfl
 all_goals
  go_enter Tryz.func32, Tryz.ntmps32
  go_wp2
  refine bodyPost_ret (v := .agg #[.int .i64 _, .int .i64 ((n : Int) / 2)]) (by simp [results, Tryz.results32, go_sem]; try rfl) rfl ?_
  refine ⟨by simp, ?_⟩
  repeat (first | with_reducible exact Below.refl _ _ | (refine Below.setCell ?_ (by simp <;> omega) _) | (refine Below.alloc ?_ (by simp <;> omega) _))
def needN (L : List (List Nat)) : Nat := if (∀ b ∈ L, okR b) then sumT L else 0
theorem needN_ok {L : List (List Nat)} (h : ∀ b ∈ L, okR b) : needN L = sumT L := if_pos h
theorem needN_pos {L : List (List Nat)} : 0 < needN L ↔ (∀ b ∈ L, okR b) ∧ L ≠ [] := by
 unfold needN
 split
 ·rename_i h
  constructor
  ·intro hp
   refine ⟨h, ?_⟩
   rintro rfl
   simp [sumT] at hp
  ·rintro ⟨_, hne⟩
   have := sumT_ge h
   have : 0 < L.length := List.length_pos_iff.2 hne
   omega
 ·rename_i h
  constructor
  ·intro hp; omega
  ·rintro ⟨h1, _⟩; exact absurd h1 h
theorem textAt_mem {L : List (List Nat)} {k : Nat} (h : k < L.length) : textAt L k ∈ L := by
 unfold textAt
 rw [List.getD_eq_getElem?_getD, List.getElem?_eq_getElem h]
 exact List.getElem_mem h
theorem take_text {L : List (List Nat)} {k : Nat} (h : k < L.length) : L.take (k + 1) = L.take k ++ [textAt L k] := by
 unfold textAt
 rw [List.take_succ_eq_append_getElem h, List.getD_eq_getElem?_getD, List.getElem?_eq_getElem h]
 rfl
theorem sumTtake (L : List (List Nat)) (k : Nat) : sumT (L.take k) ≤ 95 * k := by
 have h : ∀ M : List (List Nat), sumT M ≤ 95 * M.length := by
  intro M
  induction M with
  | nil => simp [sumT]
  | cons b r ih => rw [sumT_cons, List.length_cons]; have := takesN_le b.length; omega
 have := h (L.take k)
 have h2 : (L.take k).length ≤ k := List.length_take_le k L
 have h3 := Nat.mul_le_mul_left 95 h2
 omega
set_option maxRecDepth 20000 in
set_option maxHeartbeats 1000000 in
theorem need_any (A : Option Addr) (n c B : Nat) (L : List (List Nat)) (w : World) (hl : Bss w B A n L) (hn : n ≤ 1000000) :
 Calls Tryz.prog 30 #[.slice A n c] w fun e w' => e = .returned (.int .i64 ((needN L : Nat) : Int)) ∧ w = w' := by
 have hlen : L.length = n := hl.1
 have HL := Lib.hid hlen
 clear hlen
 go_enter Tryz.func30, Tryz.ntmps30
 go_wp2
 go_loop [3, 9] (fun s i => ∃ k : Nat, k ≤ n ∧ (∀ b ∈ L.take k, okR b) ∧ i = .int .i64 k ∧ s = .int .i64 ((sumT (L.take k) : Nat) : Int)) (fun _ i => n - (intOf i).toNat)
 case atStart => exact ⟨0, Nat.zero_le _, by simp, rfl, rfl⟩
 case round =>
  obtain ⟨k, hk, hok, rfl, rfl⟩ := hrel
  by_cases hlt : k < n
  ·obtain ⟨b, o, A', n', c', rfl, hbB, hcell, hn', hby⟩ := hl.at_ hlt
   have hkL : k < L.length := by rw [HL.out]; exact hlt
   have hb' : (textAt L k).length = n' := hby.1
   have HT := Lib.hid (take_text hkL)
   have hi1 : (k : Int) < (n : Int) := by omega
   have hs95 := sumTtake L k
   have htk := takesN_le n'
   by_cases h0 : takesN n' = 0
   ·have HN : Hid (needN L = 0) := by
     refine Lib.hid (if_neg fun h => ?_)
     have := h _ (textAt_mem hkL)
     rw [okR, hb'] at this
     have := takesN_pos.2 this
     omega
    have HOK := Lib.hid hok
    have h0i : (((takesN n' : Nat) : Int) == 0) = true := by simp; omega
    clear hok h0
    generalize sumT (L.take k) = z at *
    go_wp2_with fail
    refine (takes_int n' _ hn').mono ?_
    rintro e w' ⟨rfl, rfl⟩
    go_wp2
    go_ret
    exact ⟨by rw [HN.out]; rfl, rfl⟩
   ·have hok2 : okR (textAt L k) := by
     have := takesN_pos.1 (Nat.pos_of_ne_zero h0)
     rw [okR, hb']; exact this
    have h0i : (((takesN n' : Nat) : Int) == 0) = false := by simp; omega
    have HS : Hid (sumT (L.take (k + 1)) = sumT (L.take k) + takesN n') := Lib.hid (by rw [HT.out, sumT_snoc, hb'])
    have HOK : Hid (∀ b ∈ L.take (k + 1), okR b) := by
     refine Lib.hid ?_
     rw [HT.out]
     intro x hx
     rcases List.mem_append.1 hx with h | h
     ·exact hok x h
     ·rw [List.mem_singleton.1 h]; exact hok2
    clear hok h0
    go_wp2_with fail
    refine (takes_int n' _ hn').mono ?_
    rintro e w' ⟨rfl, rfl⟩
    generalize hz : takesN n' = z at *
    generalize hy : sumT (L.take k) = y at *
    have HZ := Lib.hid hz; have HY := Lib.hid hy
    clear hz hy
    go_wp2
    go_round
    case rel => exact ⟨k + 1, by omega, HOK.out, by go_num, by rw [HS.out]; go_num⟩
    case measure => simp [intOf]; omega
  ·have hkn : k = n := by omega
   have HN : Hid (needN L = sumT (L.take k)) := by
    rw [List.take_of_length_le (by rw [HL.out]; omega)] at hok ⊢
    exact Lib.hid (needN_ok hok)
   have Hkn := Lib.hid hkn
   clear hkn hok
   go_wp2
   go_ret
   exact ⟨by rw [HN.out]; rfl, rfl⟩
end Go.Proofs.YtcdehejgnnnimaaGreatDoor
namespace Go.Proofs.YtcdehejgnnnimaaGreatDoor
open List renaming setIfInBounds_toArray → jA, set_cons_zero → jB, set_cons_succ → jC
set_option linter.unusedVariables false
set_option linter.unusedSimpArgs false
open Go.RowKit
theorem secv_bv (l : List Nat) : secv (secN l) = l.map bv := by
 unfold secv secN
 rw [List.map_map]
 rfl
theorem splice_pad {l : List Nat} (h : l.length ≤ 64) : splice (secv zsec) 0 (l.map bv) = secv (secN (padB l)) := by
 rw [secv_bv, padB, List.map_append, List.map_replicate]
 unfold splice
 have e : secv zsec = List.replicate 64 (Value.int .u8 0) := rfl
 rw [List.length_map, Nat.zero_add, e, List.take_zero, List.nil_append, List.drop_replicate]
 rfl
section
variable {P : Program}
theorem wpList_slice_from {ops : Array Oper} {rest : List Oper} {o : Oper} {a : Act} {w : World} {Q : Exit → Act → World → Prop} (hgd : o.guard = none) (x lo : Operand) (t e : TypeId)
 (ho : o.op = .slice t x (some lo) none none) (ht : P.underlying t = some (.slice e)) (hsz : (P.info? e).map (·.size) = some 1)
 (A : Option Addr) (n c k B : Nat) (l : List Nat) (hx : a.eval x = .slice A n c) (hlo : a.eval lo = .int .i64 (k : Int)) (hl : Bytes w B A n l) (hk : k ≤ n) (hnc : n ≤ c)
 (h : ∀ A' c', n - k ≤ c' → c' ≤ c → Bytes w B A' (n - k) (l.drop k) → wpList P ops Q rest (a.put o.dst (.slice A' (n - k) c')) w) : wpList P ops Q (o :: rest) a w :=
 wpList_plain hgd fun _ hK => by
  have hel : P.elem t = e := by simp [Program.elem, ht]
  have ht' : P.underlying t = some (.slice (P.elem t)) := by rw [hel]; exact ht
  have hs : ∀ W : World, (sizeOf (P.elem t)).run P W = .ok 1 W := by
   intro W
   rw [hel]
   cases hq : P.info? e with
   | none => simp [hq] at hsz
   | some i =>
     have : i.size = 1 := by simpa [hq] using hsz
     simp [sizeOf, hq, this, go_sem, run_typeInfo _ hq]
  have hrun : (Instr.sliceAt t (.slice A n c) (some (.int .i64 (k : Int))) none none).run P w = .ok (.slice (if c = k then A else A.map (·.add k)) (n - k) (c - k)) w := by
   rw [run_sliceAt_slice w t _ _ _ _ ht', run_slice_l w t A n c ht' .i64 (k : Int) (by omega) (by omega), hs]
   simp only [Result.andThen_ok, sliced, Int.toNat_natCast, Nat.mul_one]
  have hB := hl.rest hk
  have hB' : Bytes w B (if c = k then A else A.map (·.add k)) (n - k) (l.drop k) := by
   by_cases hck : c = k
   ·have h0 : n - k = 0 := by omega
    rw [h0] at hB ⊢
    exact ⟨hB.1, hB.2.1, fun h => absurd h (Nat.lt_irrefl _)⟩
   ·rw [if_neg hck]; exact hB
  refine wp_value (v := .slice (if c = k then A else A.map (·.add k)) (n - k) (c - k)) (w' := w) ?_ (hK _ _ (h _ _ (by omega) (by omega) hB'))
  unfold execOp
  simp [ho, hx, hlo, hrun]
end
theorem size_u8 : (Tryz.prog.info? 5).map (·.size) = some 1 := by kernel_rfl
theorem run_puts_ok {d : Dk} {a i : Nat} {f : Nat → List Int} (h : (runM d (putsD a ((List.range i).map f))).2 = 0) :
 runM d (putsD a ((List.range (i + 1)).map f)) = putM (runM d (putsD a ((List.range i).map f))).1 ((a + i : Nat) : Int) (f i) := by
 rw [List.range_succ, List.map_append, List.map_singleton, putsD_snoc, runM_ok h, List.length_map, List.length_range, runM_one]
 rfl
theorem run_puts_bad {d : Dk} {a i m : Nat} {f : Nat → List Int} (hi : i ≤ m) (h : (runM d (putsD a ((List.range i).map f))).2 ≠ 0) :
 runM d (putsD a ((List.range m).map f)) = runM d (putsD a ((List.range i).map f)) := by
 obtain ⟨k, rfl⟩ : ∃ k, m = i + k := ⟨m - i, by omega⟩
 rw [List.range_add, List.map_append, putsD_append, runM_bad h]
def PbRel (g : Nat) (d : Dk) (a n c : Nat) (l : List Nat) (w : World) (x y : Value) (wr : World) : Prop :=
 ∃ (i m : Nat) (A' : Option Addr) (c' : Nat), m = n - 64 * i ∧ i ≤ nck n ∧ x = .int .i64 ((a + i : Nat) : Int) ∧ y = .slice A' m c' ∧ m ≤ c' ∧ c' ≤ c ∧ Bytes wr g A' m (l.drop (64 * i)) ∧
   (runM d (putsD a ((List.range i).map (chunkL l)))).2 = 0 ∧ PenIs wr g (runM d (putsD a ((List.range i).map (chunkL l)))).1 ∧ w.grownBy wr (some g)
set_option maxRecDepth 20000 in
set_option maxHeartbeats 4000000 in
theorem putBytes_any (g : Nat) (d : Dk) (a : Nat) (A : Option Addr) (n c : Nat) (l : List Nat) (w : World) (hp : PenIs w g d) (hl : Bytes w g A n l) (hnc : n ≤ c) (hc : c ≤ maxLen) (hn : n ≤ 6000) (ha : a ≤ 1000000) :
 Calls Tryz.prog 45 #[.pointer (some ⟨g, 0, none⟩), .int .i64 (a : Int), .slice A n c] w (PenRes g (runM d (putsD a (bodyL l))) w) := by
 have hlen := hl.1
 have hbody : bodyL l = (List.range (nck n)).map (chunkL l) := by rw [← hlen]; rfl
 rw [hbody]
 have HLEN := Lib.hid hlen
 have hgl := hp.lt
 unfold maxLen at hc
 have hck : nck n ≤ 95 := by unfold nck; omega
 have HST : Hid (PbRel g d a n c l w (.int .i64 (a : Int)) (.slice A n c) w) := Lib.hid ⟨0, n, A, c, by omega, Nat.zero_le _, rfl, rfl, hnc, Nat.le_refl _, by simpa using hl, rfl, hp, World.grownBy.refl _ _⟩
 clear hbody hlen hl hp
 go_enter Tryz.func45, Tryz.ntmps45
 go_wp2_with fail
 go_loopw [1, 2] (fun x y wr => PbRel g d a n c l w x y wr) (fun x _ _ => a + 100 - (intOf x).toNat)
 case atStart => exact HST.out
 case round =>
  obtain ⟨i, m, A', c', hm, hi, rfl, rfl, hmc, hcc, hby, hrun, hpen, hgr⟩ := hrel
  clear HST
  have HM := Lib.hid hm
  clear hm
  by_cases hlt : 0 < m
  ·have hlti : (0 : Int) < (m : Int) := by omega
   have hin : i < nck n := by have := HM.out; unfold nck; omega
   obtain ⟨k, hk⟩ : ∃ k, k = min 64 m := ⟨_, rfl⟩
   have hk64 : k ≤ 64 := by omega
   have hkm : k ≤ m := by omega
   have hkp : 0 < k := by omega
   have HK := Lib.hid hk
   clear hk
   have HR := Lib.hid hrun
   have HP := Lib.hid hpen
   have HG := Lib.hid hgr
   have HB := Lib.hid hby
   clear hrun hpen hgr hby
   go_wp2_with ((with_reducible show wpList _ _ _ (⟨_, .alloc 84, _, _, _, _⟩ :: _) _ _); refine hold ?_)
   refine held (wpList_alloc_to rfl 84 rfl (secv zsec).toArray (by kernel_rfl) ?_)
   have hb1 : Below wr.heap.size wr (wr.alloc (.cells (secv zsec).toArray 84)) := (Below.refl _ _).alloc (Nat.le_refl _) _
   have HBX := Lib.hid (Bk.new wr 84 (secv zsec).toArray)
   have HP1 := Lib.hid (HP.out.below hb1)
   have HB1 := Lib.hid (HB.out.below hb1 (Nat.le_of_lt HP.out.lt))
   have hgw := HP.out.lt
   go_wp2_with ((with_reducible show wpList _ _ _ (⟨some 13, _, _, _, _, _⟩ :: _) _ _); refine hold ?_)
   have hpl : (pieceB l i).length = k := by rw [pieceB_length, HK.out, HM.out, HLEN.out]
   refine held (wpList_copy_splice rfl (.tmp 11) (.tmp 12) 63 63 rfl 5 Tryz.underlying63 size_u8 (some ⟨wr.heap.size, 0, none⟩) A' 64 64 m c' rfl rfl wr.heap.size 0 (secv zsec) 84 HBX.out ((pieceB l i).map bv) ?hn ?hpos ?hfit (bv_one _) wr.heap.size wr hb1 (Nat.le_refl _) ?_)
   case hn => rw [List.length_map, hpl, HK.out]; exact Nat.min_comm _ _
   case hfit => rw [List.length_map, hpl, secv_length]; simp [zsec]; omega
   case hpos =>
    intro _
    refine ⟨rfl, ?_⟩
    obtain ⟨b, o, e, hbB, hcell⟩ := HB1.out.2.2 hlt
    refine ⟨_, e, fun j v hv => ?_⟩
    have hj : j < k := by
     have := (List.getElem?_eq_some_iff.1 hv).1
     rw [List.length_map, hpl] at this
     exact this
    rw [Addr.add_mid, hcell j (by omega)]
    have e2 : ((pieceB l i).map bv)[j]? = some (bv (byteAt (l.drop (64 * i)) j)) := by
     rw [List.getElem?_map, pieceB, List.getElem?_take, if_pos (by omega)]
     unfold byteAt
     rw [List.getD_eq_getElem?_getD, List.getElem?_eq_getElem (by rw [List.length_drop, HLEN.out]; have := HM.out; omega)]
     rfl
    rw [e2] at hv
    exact hv
   intro w2 hx2 hb2
   rw [List.length_map, hpl]
   have HX2 : Hid (Bk w2 wr.heap.size 84 (secv (chunkL l i)).toArray) := Lib.hid (by
    have := hx2.out
    rw [splice_pad (by rw [hpl]; exact hk64)] at this
    exact this)
   have HP2 := Lib.hid (HP.out.below hb2)
   have HB2 := Lib.hid (HB.out.below hb2 (Nat.le_of_lt HP.out.lt))
   have HG2 := Lib.hid (grownBy_trans HG.out (grown_of_below hb2 (some g)))
   have hlt2 := HX2.out.lt
   clear HBX hb1 HP1 HB1 hx2 hb2 HB HP HG
   have hgk : goInt k = .int .i64 (k : Int) := rfl
   rw [hgk]
   clear hgk
   go_wp2_with ((with_reducible show wpList _ _ _ (⟨some 14, _, _, _, _, _⟩ :: _) _ _); refine hold ?_)
   refine held (wpList_slice_from rfl (.tmp 10) (.tmp 13) 63 5 rfl Tryz.underlying63 size_u8 A' m c' k g (l.drop (64 * i)) rfl rfl HB2.out hkm hmc ?_)
   intro A2 c2 hm2 hc2 hby2
   have HB3 := Lib.hid hby2
   clear hby2 HB2
   go_wp2_with ((with_reducible show wpList _ _ _ (⟨some 17, _, _, _, _, _⟩ :: _) _ _); refine hold ?_)
   refine held (wpList_load_mid rfl 84 (.tmp 6) rfl wr.heap.size 0 rfl (secv (chunkL l i)) (.array 64 5) (fun j v hv => by rw [Nat.zero_add, HX2.out.cell]; simpa using hv) Tryz.underlying84 rfl (by rw [secv_length, chunkL_length]; exact size_sec) ?_)
   go_wp2_with fail
   refine (pput_any g _ ((a : Int) + (i : Int)) (chunkL l i) w2 HP2.out (chunkL_length l i)).mono ?_
   rintro e w3 ⟨he, hp3, hg3⟩
   have hcast : ((a + i : Nat) : Int) = (a : Int) + (i : Int) := by omega
   have hnext := run_puts_ok (a := a) HR.out
   rw [hcast] at hnext
   have HG3 := Lib.hid (grownBy_trans HG2.out hg3)
   have hB4 : Bytes w3 g A2 (m - k) (l.drop (64 * i + k)) := by
    have := HB3.out.below (Below.of_grown (B := g) hg3 (Nat.le_refl _) (Nat.le_of_lt HP2.out.lt)) (Nat.le_refl _)
    rw [List.drop_drop] at this
    exact this
   rw [← hnext] at he hp3
   by_cases h0 : (runM d (putsD a ((List.range (i + 1)).map (chunkL l)))).2 = 0
   ·rw [penE_ok h0] at he
    subst he
    have HREL : Hid (PbRel g d a n c l w (.int .i64 ((a : Int) + (i : Int) + 1)) (.slice A2 (m - k) c2) w3) := by
     have e3 : 64 * (i + 1) = 64 * i + k ∨ l.drop (64 * (i + 1)) = l.drop (64 * i + k) := by
      by_cases h64 : k = 64
      ·left; omega
      ·right
       have := HK.out; have := HM.out
       rw [List.drop_eq_nil_of_le (by rw [HLEN.out]; omega), List.drop_eq_nil_of_le (by rw [HLEN.out]; omega)]
     have e4 : l.drop (64 * (i + 1)) = l.drop (64 * i + k) := by
      rcases e3 with h | h
      ·rw [h]
      ·exact h
     refine Lib.hid ⟨i + 1, m - k, A2, c2, by have := HK.out; have := HM.out; omega, hin, by first | (congr 1; omega) | congr 1, rfl, hm2, by omega, by rw [e4]; exact hB4, h0, hp3, HG3.out⟩
    clear hp3 hg3 hnext hcast hB4 h0 HX2 HP2 HG2 HB3
    go_wp2
    go_roundw
    case rel => exact HREL.out
    case measure => simp [intOf]; omega
   ·rw [penE_bad h0] at he
    subst he
    have hall := run_puts_bad (m := nck n) (a := a) (d := d) (f := chunkL l) hin h0
    clear hnext
    generalize runM d (putsD a ((List.range (i + 1)).map (chunkL l))) = X at *
    have HALL := Lib.hid hall
    clear hall
    have HP3 := Lib.hid hp3
    have HB0 := Lib.hid h0
    clear hp3 hg3 hcast hB4 h0
    go_wp2
    rw [HALL.out]
    exact ⟨rfl, (penE_bad HB0.out).symm, HP3.out, HG3.out⟩
  ·have hin : i = nck n := by have := HM.out; unfold nck at hi ⊢; omega
   have hlti : ¬ (0 : Int) < (m : Int) := by omega
   have HI := Lib.hid hin
   have HR := Lib.hid hrun
   have HP := Lib.hid hpen
   have HG := Lib.hid hgr
   clear hrun hpen hgr hby hin
   go_wp2
   go_end0
   rw [← HI.out]
   exact ⟨(penE_ok HR.out).symm, HP.out, HG.out⟩
theorem putBytes_at (g : Nat) (d : Dk) (a : Nat) (z : Int) (hz : z = (a : Int)) (A : Option Addr) (n c : Nat) (l : List Nat) (w : World) (hp : PenIs w g d) (hl : Bytes w g A n l) (hnc : n ≤ c) (hc : c ≤ maxLen) (hn : n ≤ 6000) (ha : a ≤ 1000000) :
 Calls Tryz.prog 45 #[.pointer (some ⟨g, 0, none⟩), .int .i64 z, .slice A n c] w (PenRes g (runM d (putsD a (bodyL l))) w) := by
 subst hz
 exact putBytes_any g d a A n c l w hp hl hnc hc hn ha
end Go.Proofs.YtcdehejgnnnimaaGreatDoor
