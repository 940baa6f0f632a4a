/-
  Plain mathematics of package wal: records as sectors, what is put when a half is laid or a record is appended, deed by deed, and what a disk is behind them, or behind a fall among them. Nothing here speaks of a program.
-/
import Derived.Test.YtofbpkaebngnlaaDoorQSecWords
import Derived.Test.YtofbpkaebngnlaaDoorQPackMath
namespace Go.Proofs.YtofbpkaebngnlaaDoor
set_option linter.unusedVariables false
set_option linter.unusedSimpArgs false
open Go.RowKit
set_option linter.unusedVariables false
set_option linter.unusedSimpArgs false

/-! ### records as sectors -/
def okR (b : List Nat) : Prop := 1 ≤ b.length ∧ b.length ≤ 6000
instance (b : List Nat) : Decidable (okR b) := by unfold okR; infer_instance
def takesN (n : Nat) : Nat := if 1 ≤ n ∧ n ≤ 6000 then 1 + (n + 63) / 64 else 0
theorem takesN_ok {n : Nat} (h1 : 1 ≤ n) (h2 : n ≤ 6000) : takesN n = 1 + (n + 63) / 64 := if_pos ⟨h1, h2⟩
theorem takesN_no {n : Nat} (h : n < 1 ∨ 6000 < n) : takesN n = 0 := if_neg (by omega)
theorem takesN_le (n : Nat) : takesN n ≤ 95 := by unfold takesN; split <;> omega
theorem takesN_pos {n : Nat} : 0 < takesN n ↔ 1 ≤ n ∧ n ≤ 6000 := by unfold takesN; split <;> omega
def sumT (L : List (List Nat)) : Nat := (L.map fun b => takesN b.length).sum
theorem sumT_nil : sumT [] = 0 := rfl
theorem sumT_cons (b : List Nat) (L : List (List Nat)) : sumT (b :: L) = takesN b.length + sumT L := by simp [sumT]
theorem sumT_append (L M : List (List Nat)) : sumT (L ++ M) = sumT L + sumT M := by simp [sumT]
theorem sumT_snoc (L : List (List Nat)) (b : List Nat) : sumT (L ++ [b]) = sumT L + takesN b.length := by rw [sumT_append]; simp [sumT]
theorem sumT_ge : ∀ {L : List (List Nat)}, (∀ b ∈ L, okR b) → 2 * L.length ≤ sumT L
  | [], _ => by simp [sumT]
  | b :: r, h => by
    have h1 := h b (by simp)
    have h2 := sumT_ge (L := r) fun x hx => h x (by simp [hx])
    rw [sumT_cons, takesN_ok h1.1 h1.2, List.length_cons]
    have : 1 ≤ b.length := h1.1
    omega

def secN (l : List Nat) : List Int := l.map (fun x : Nat => (x : Int))
theorem secN_length (l : List Nat) : (secN l).length = l.length := by simp [secN]
theorem secN_inj {a b : List Nat} (h : secN a = secN b) : a = b := by
  unfold secN at h
  exact (List.map_inj_right (fun a b hab => by have h2 : (a : Int) = (b : Int) := hab; omega)).1 h
def padB (l : List Nat) : List Nat := l ++ List.replicate (64 - l.length) 0
theorem padB_length {l : List Nat} (h : l.length ≤ 64) : (padB l).length = 64 := by simp [padB]; omega
def pieceB (b : List Nat) (i : Nat) : List Nat := (b.drop (64 * i)).take 64
theorem pieceB_length (b : List Nat) (i : Nat) : (pieceB b i).length = min 64 (b.length - 64 * i) := by simp [pieceB]
def chunkL (b : List Nat) (i : Nat) : List Int := secN (padB (pieceB b i))
theorem chunkL_length (b : List Nat) (i : Nat) : (chunkL b i).length = 64 := by
  unfold chunkL
  rw [secN_length, padB_length]
  rw [pieceB_length]; omega
def nck (n : Nat) : Nat := (n + 63) / 64
def bodyL (b : List Nat) : List (List Int) := (List.range (nck b.length)).map (chunkL b)
theorem bodyL_length (b : List Nat) : (bodyL b).length = nck b.length := by simp [bodyL]
theorem bodyL_64 (b : List Nat) : ∀ s ∈ bodyL b, s.length = 64 := by
  intro s hs
  obtain ⟨i, _, rfl⟩ := List.mem_map.1 hs
  exact chunkL_length b i

def markN (g k n s : Nat) : List Nat := [87, 76, 79, 71] ++ encB 8 g ++ encB 8 k ++ encB 8 n ++ encB 8 s ++ List.replicate 28 0
theorem markN_length (g k n s : Nat) : (markN g k n s).length = 64 := by simp [markN, encB_length]
def markL (g k : Nat) (b : List Nat) : List Int := secN (markN g k b.length (moreC 0 b))
theorem markL_length (g k : Nat) (b : List Nat) : (markL g k b).length = 64 := by unfold markL; rw [secN_length, markN_length]
def recL (g k : Nat) (b : List Nat) : List (List Int) := markL g k b :: bodyL b
theorem recL_length {g k : Nat} {b : List Nat} (h : okR b) : (recL g k b).length = takesN b.length := by
  rw [takesN_ok h.1 h.2, recL, List.length_cons, bodyL_length]; unfold nck; omega
def logL (g : Nat) : Nat → List (List Nat) → List (List Int)
  | _, [] => []
  | k, b :: r => recL g k b ++ logL g (k + 1) r
theorem logL_append (g : Nat) : ∀ (L M : List (List Nat)) (k : Nat), logL g k (L ++ M) = logL g k L ++ logL g (k + L.length) M
  | [], M, k => by simp [logL]
  | b :: r, M, k => by
    rw [List.cons_append, logL, logL, logL_append g r M (k + 1), List.append_assoc, List.length_cons]
    congr 3; omega
theorem logL_snoc (g k : Nat) (L : List (List Nat)) (b : List Nat) : logL g k (L ++ [b]) = logL g k L ++ recL g (k + L.length) b := by rw [logL_append]; simp [logL]
theorem logL_length (g : Nat) : ∀ {L : List (List Nat)} (k : Nat), (∀ b ∈ L, okR b) → (logL g k L).length = sumT L
  | [], _, _ => rfl
  | b :: r, k, h => by
    rw [logL, List.length_append, recL_length (h b (by simp)), logL_length g (k + 1) (fun x hx => h x (by simp [hx])), sumT_cons]
theorem logL_64 (g : Nat) : ∀ (L : List (List Nat)) (k : Nat), ∀ s ∈ logL g k L, s.length = 64
  | [], _, s, hs => by cases hs
  | b :: r, k, s, hs => by
    rcases List.mem_append.1 hs with h | h
    · rcases List.mem_cons.1 h with rfl | h
      · exact markL_length g k b
      · exact bodyL_64 b s h
    · exact logL_64 g r (k + 1) s h

/-! ### deeds -/
inductive Deed where
  | put (a : Nat) (s : List Int)
  | flush
def putsD : Nat → List (List Int) → List Deed
  | _, [] => []
  | a, s :: r => .put a s :: putsD (a + 1) r
theorem putsD_append : ∀ (xs ys : List (List Int)) (a : Nat), putsD a (xs ++ ys) = putsD a xs ++ putsD (a + xs.length) ys
  | [], ys, a => by simp [putsD]
  | x :: r, ys, a => by
    rw [List.cons_append, putsD, putsD, putsD_append r ys (a + 1), List.cons_append, List.length_cons]
    congr 3; omega
theorem putsD_snoc (xs : List (List Int)) (y : List Int) (a : Nat) : putsD a (xs ++ [y]) = putsD a xs ++ [.put (a + xs.length) y] := by rw [putsD_append]; rfl
theorem putsD_length : ∀ (xs : List (List Int)) (a : Nat), (putsD a xs).length = xs.length
  | [], _ => rfl
  | x :: r, a => by rw [putsD, List.length_cons, putsD_length r (a + 1), List.length_cons]
def layD (o size g : Nat) (L : List (List Nat)) : List Deed :=
  putsD o (List.replicate size zsec) ++ (.flush :: (putsD (o + 1) (logL g 0 L).tail ++ [.flush, .put o (markL g 0 (L.headD [])), .flush]))
def appD (a g k : Nat) (b : List Nat) : List Deed := putsD (a + 1) (bodyL b) ++ [.flush, .put a (markL g k b), .flush]
def formD (size : Nat) (L : List (List Nat)) : List Deed := .put size zsec :: layD 0 size 1 L

def doD (d : Dk) : Deed → Dk × Int
  | .put a s => putM d a s
  | .flush => flushM d
def runM : Dk → List Deed → Dk × Int
  | d, [] => (d, 0)
  | d, x :: r => if (doD d x).2 = 0 then runM (doD d x).1 r else doD d x
theorem runM_cons (d : Dk) (x : Deed) (r : List Deed) : runM d (x :: r) = if (doD d x).2 = 0 then runM (doD d x).1 r else doD d x := rfl
theorem runM_nil (d : Dk) : runM d [] = (d, 0) := rfl
theorem runM_one (d : Dk) (x : Deed) : runM d [x] = doD d x := by
  show (if (doD d x).2 = 0 then ((doD d x).1, 0) else doD d x) = _
  split
  · rename_i h; rw [← h]
  · rfl
theorem runM_ok : ∀ {a b : List Deed} {d : Dk}, (runM d a).2 = 0 → runM d (a ++ b) = runM (runM d a).1 b
  | [], _, _, _ => rfl
  | x :: r, b, d, h => by
    rw [runM_cons] at h
    rw [List.cons_append, runM_cons, runM_cons]
    by_cases hx : (doD d x).2 = 0
    · rw [if_pos hx] at h
      rw [if_pos hx, if_pos hx]
      exact runM_ok h
    · rw [if_neg hx] at h
      exact absurd h hx
theorem runM_bad : ∀ {a b : List Deed} {d : Dk}, (runM d a).2 ≠ 0 → runM d (a ++ b) = runM d a
  | [], _, _, h => absurd rfl h
  | x :: r, b, d, h => by
    rw [runM_cons] at h
    rw [List.cons_append, runM_cons, runM_cons]
    by_cases hx : (doD d x).2 = 0
    · rw [if_pos hx] at h
      rw [if_pos hx, if_pos hx]
      exact runM_bad h
    · rw [if_neg hx, if_neg hx]

/-! ### what deeds do, but for the fuse -/
abbrev SL := List (List Int) × List (Int × List Int)
def effS (x : SL) : Deed → SL
  | .put a s => (x.1, x.2 ++ [((a : Int), s)])
  | .flush => (doneM (fun _ => true) 0 x.1 x.2, [])
def effM (x : SL) (ds : List Deed) : SL := ds.foldl effS x
theorem effM_nil (x : SL) : effM x [] = x := rfl
theorem effM_cons (x : SL) (y : Deed) (r : List Deed) : effM x (y :: r) = effM (effS x y) r := rfl
theorem effM_append (x : SL) (a b : List Deed) : effM x (a ++ b) = effM (effM x a) b := List.foldl_append
theorem doneM_len (st : Nat → Bool) : ∀ (l : List (Int × List Int)) (i : Nat) (S : List (List Int)), (doneM st i S l).length = S.length
  | [], _, _ => rfl
  | x :: r, i, S => by
    unfold doneM
    rw [doneM_len st r]
    split
    · rw [List.length_set]
    · rfl
def inD (n : Nat) : Deed → Prop
  | .put a s => a < n ∧ s.length = 64
  | .flush => True
theorem rightB_of {d : Dk} : rightB d = true ↔ d.secs.length ≤ 4096 ∧ d.loose.length ≤ 100000 ∧ fuseB d.fuse = true ∧ looseB d.secs.length d.loose = true := by
  unfold rightB
  simp only [Bool.and_eq_true, decide_eq_true_eq]
  constructor
  · rintro ⟨⟨⟨a, b⟩, c⟩, e⟩; exact ⟨a, b, c, e⟩
  · rintro ⟨a, b, c, e⟩; exact ⟨⟨⟨a, b⟩, c⟩, e⟩
theorem deedF_fuse {f : Int} (h : fuseB f = true) : fuseB (deedF f false) = true := by
  unfold fuseB at h ⊢
  unfold deedF
  simp only [Bool.and_eq_true, decide_eq_true_eq] at h ⊢
  simp only [Bool.false_eq_true, if_false]
  split <;> omega
theorem deed_fall {f : Int} (h : deedD f false = true) : f = 0 := by simpa [deedD] using h
theorem thereB_of {n a : Nat} (h : a < n) : thereB n (a : Int) = true := by
  unfold thereB
  simp only [Bool.and_eq_true, decide_eq_true_eq]
  omega
theorem looseB_snoc {n : Nat} {l : List (Int × List Int)} {x : Int × List Int} (h : looseB n l = true) (hx : thereB n x.1 = true) : looseB n (l ++ [x]) = true := by
  unfold looseB at h ⊢
  rw [List.all_append, h]
  simpa using hx
/-- one deed on a disk that is up: it is done, or the disk falls -/
theorem do_cases (d : Dk) (x : Deed) (hr : rightB d = true) (hd : d.down = false) (hx : inD d.secs.length x) (hn : d.loose.length + 1 ≤ 100000) :
    (doD d x = (⟨(effS (d.secs, d.loose) x).1, (effS (d.secs, d.loose) x).2, deedF d.fuse false, false⟩, 0) ∧ d.fuse ≠ 0 ∧ rightB (doD d x).1 = true) ∨
    (doD d x = (⟨d.secs, d.loose, 0, true⟩, 9) ∧ d.fuse = 0) := by
  obtain ⟨S, l, f, b⟩ := d
  simp only at hd hn
  subst hd
  obtain ⟨h1, h2, h3, h4⟩ := rightB_of.1 hr
  simp only at h1 h2 h3 h4
  cases x with
  | put a s =>
    have ht : thereB S.length (a : Int) = true := thereB_of hx.1
    have hc : (rightB ⟨S, l, f, false⟩ && thereB S.length (a : Int)) = true := by rw [hr, ht]; rfl
    by_cases hf : deedD f false = true
    · right
      have h0 := deed_fall hf
      refine ⟨?_, h0⟩
      show putM _ _ _ = _
      unfold putM
      simp only [hc, hf, if_true]
      subst h0
      rfl
    · left
      have e : doD ⟨S, l, f, false⟩ (.put a s) = (⟨S, l ++ [((a : Int), s)], deedF f false, false⟩, 0) := by
        show putM _ _ _ = _
        unfold putM
        simp only [hc, hf, if_true]
        simp
      refine ⟨e, ?_, ?_⟩
      · rintro rfl; exact hf rfl
      · rw [e]
        refine rightB_of.2 ⟨h1, by simp; omega, deedF_fuse h3, looseB_snoc h4 ht⟩
  | flush =>
    by_cases hf : deedD f false = true
    · right
      have h0 := deed_fall hf
      refine ⟨?_, h0⟩
      show flushM _ = _
      unfold flushM
      simp only [hr, hf, if_true]
      subst h0
      rfl
    · left
      have e : doD ⟨S, l, f, false⟩ .flush = (⟨doneM (fun _ => true) 0 S l, [], deedF f false, false⟩, 0) := by
        show flushM _ = _
        unfold flushM
        simp only [hr, hf, if_true]
        simp [viewM]
      refine ⟨e, ?_, ?_⟩
      · rintro rfl; exact hf rfl
      · rw [e]
        refine rightB_of.2 ⟨by show (doneM _ 0 S l).length ≤ 4096; rw [doneM_len]; exact h1, by simp, deedF_fuse h3, rfl⟩
theorem effS_len (x : SL) (y : Deed) : (effS x y).1.length = x.1.length := by
  cases y with
  | put a s => rfl
  | flush => exact doneM_len _ _ _ _
theorem effS_loose (x : SL) (y : Deed) : (effS x y).2.length ≤ x.2.length + 1 := by
  cases y with
  | put a s => simp [effS]
  | flush => simp [effS]
/-- deeds on a disk that is up: all are done, or the disk falls ahead of one -/
theorem run_cases : ∀ (ds : List Deed) (d : Dk), rightB d = true → d.down = false → (∀ x ∈ ds, inD d.secs.length x) → d.loose.length + ds.length ≤ 100000 →
    (∃ f, runM d ds = (⟨(effM (d.secs, d.loose) ds).1, (effM (d.secs, d.loose) ds).2, f, false⟩, 0) ∧ rightB (runM d ds).1 = true ∧ (d.fuse = -1 → f = -1)) ∨
    (d.fuse ≠ -1 ∧ ∃ ds1 ds2, ds = ds1 ++ ds2 ∧ ds2 ≠ [] ∧ runM d ds = (⟨(effM (d.secs, d.loose) ds1).1, (effM (d.secs, d.loose) ds1).2, 0, true⟩, 9) ∧ rightB (runM d ds).1 = true)
  | [], d, hr, hd, _, _ => by
    refine .inl ⟨d.fuse, ?_, hr, id⟩
    obtain ⟨S, l, f, b⟩ := d
    simp only at hd
    subst hd
    rfl
  | x :: r, d, hr, hd, hx, hn => by
    rw [List.length_cons] at hn
    rcases do_cases d x hr hd (hx x (by simp)) (by omega) with ⟨e, hf, hr'⟩ | ⟨e, hf⟩
    · have hrun : runM d (x :: r) = runM (doD d x).1 r := by
        show (if (doD d x).2 = 0 then _ else _) = _
        rw [if_pos (by rw [e])]
      rw [hrun]
      have hS : (doD d x).1.secs.length = d.secs.length := by rw [e]; exact effS_len _ _
      have hd1 : (doD d x).1.down = false := by rw [e]
      have hl1 : (doD d x).1.loose.length ≤ d.loose.length + 1 := by rw [e]; exact effS_loose (d.secs, d.loose) x
      have ih := run_cases r (doD d x).1 hr' hd1 (fun y hy => by rw [hS]; exact hx y (by simp [hy])) (by omega)
      have hf1 : (doD d x).1.fuse = deedF d.fuse false := by rw [e]
      have hp : ((doD d x).1.secs, (doD d x).1.loose) = effS (d.secs, d.loose) x := by rw [e]
      rw [hp, hf1] at ih
      rcases ih with ⟨f, h1, h2, h3⟩ | ⟨h0, ds1, ds2, h1, h2, h3, h4⟩
      · refine .inl ⟨f, h1, h2, fun h => h3 ?_⟩
        rw [h]; decide
      · refine .inr ⟨fun h => h0 (by rw [h]; decide), x :: ds1, ds2, by rw [h1]; rfl, h2, h3, h4⟩
    · have hrun : runM d (x :: r) = doD d x := by
        show (if (doD d x).2 = 0 then _ else _) = _
        rw [if_neg (by rw [e]; exact (by decide : ¬ (9 : Int) = 0))]
      rw [hrun, e]
      refine .inr ⟨by rw [hf]; decide, [], x :: r, rfl, by simp, rfl, ?_⟩
      obtain ⟨h1, h2, h3, h4⟩ := rightB_of.1 hr
      exact rightB_of.2 ⟨h1, h2, (by decide : fuseB 0 = true), h4⟩

/-! ### sectors put one behind the other -/
def setAll : Nat → List (List Int) → List (List Int) → List (List Int)
  | _, [], S => S
  | a, x :: r, S => setAll (a + 1) r (S.set a x)
theorem setAll_len : ∀ (xs : List (List Int)) (a : Nat) (S : List (List Int)), (setAll a xs S).length = S.length
  | [], _, _ => rfl
  | x :: r, a, S => by rw [setAll, setAll_len r, List.length_set]
theorem setAll_out : ∀ (xs : List (List Int)) (a i : Nat) (S : List (List Int)), i < a ∨ a + xs.length ≤ i → (setAll a xs S)[i]? = S[i]?
  | [], _, _, _, _ => rfl
  | x :: r, a, i, S, h => by
    rw [List.length_cons] at h
    rw [setAll, setAll_out r (a + 1) i _ (by omega), List.getElem?_set_ne (by omega)]
theorem setAll_in : ∀ (xs : List (List Int)) (a i : Nat) (S : List (List Int)), i < xs.length → a + xs.length ≤ S.length → (setAll a xs S)[a + i]? = xs[i]?
  | [], _, _, _, h, _ => absurd h (by simp)
  | x :: r, a, 0, S, h, hS => by
    rw [List.length_cons] at hS
    rw [Nat.add_zero, setAll, setAll_out r (a + 1) a _ (by omega), List.getElem?_set_self (by omega)]
    rfl
  | x :: r, a, i + 1, S, h, hS => by
    rw [List.length_cons] at h hS
    rw [setAll, show a + (i + 1) = a + 1 + i by omega, setAll_in r (a + 1) i _ (by omega) (by rw [List.length_set]; omega)]
    rfl
def looseP : Nat → List (List Int) → List (Int × List Int)
  | _, [] => []
  | a, x :: r => ((a : Int), x) :: looseP (a + 1) r
theorem looseP_mem : ∀ {xs : List (List Int)} {a : Nat} {y : Int × List Int}, y ∈ looseP a xs → ∃ i, i < xs.length ∧ y.1 = ((a + i : Nat) : Int) ∧ xs[i]? = some y.2
  | [], _, _, h => by cases h
  | x :: r, a, y, h => by
    rcases List.mem_cons.1 h with rfl | h
    · exact ⟨0, by simp, rfl, rfl⟩
    · obtain ⟨i, h1, h2, h3⟩ := looseP_mem h
      exact ⟨i + 1, by simp; omega, by rw [h2]; congr 1; omega, by simpa using h3⟩
theorem effM_puts : ∀ (xs : List (List Int)) (a : Nat) (S : List (List Int)) (l : List (Int × List Int)), effM (S, l) (putsD a xs) = (S, l ++ looseP a xs)
  | [], _, S, l => by simp [putsD, looseP, effM_nil]
  | x :: r, a, S, l => by
    rw [putsD, effM_cons]
    show effM (S, l ++ [((a : Int), x)]) _ = _
    rw [effM_puts r (a + 1) S, looseP]
    simp
theorem doneM_puts : ∀ (xs : List (List Int)) (a i : Nat) (S : List (List Int)), doneM (fun _ => true) i S (looseP a xs) = setAll a xs S
  | [], _, _, _ => rfl
  | x :: r, a, i, S => by
    rw [looseP, setAll]
    unfold doneM
    rw [if_pos rfl, doneM_puts r (a + 1)]
    rfl
theorem doneM_sub (st : Nat → Bool) : ∀ (l : List (Int × List Int)) (i : Nat) (S : List (List Int)) (a : Nat),
    (doneM st i S l)[a]? = S[a]? ∨ ∃ x ∈ l, x.1.toNat = a ∧ (doneM st i S l)[a]? = some x.2 ∧ a < S.length
  | [], _, _, _ => .inl rfl
  | x :: r, i, S, a => by
    unfold doneM
    by_cases hs : st i = true
    · rw [if_pos hs]
      rcases doneM_sub st r (i + 1) (S.set x.1.toNat x.2) a with h | ⟨y, hy, h1, h2, h3⟩
      · by_cases ha : x.1.toNat = a
        · subst ha
          by_cases hl : x.1.toNat < S.length
          · right
            refine ⟨x, by simp, rfl, ?_, hl⟩
            rw [h, List.getElem?_set_self hl]
          · left
            rw [h, List.getElem?_eq_none (by rw [List.length_set]; omega), List.getElem?_eq_none (by omega)]
        · left
          rw [h, List.getElem?_set_ne ha]
      · exact .inr ⟨y, by simp [hy], h1, h2, by simpa using h3⟩
    · rw [if_neg hs]
      rcases doneM_sub st r (i + 1) S a with h | ⟨y, hy, h1, h2, h3⟩
      · exact .inl h
      · exact .inr ⟨y, by simp [hy], h1, h2, h3⟩
/-- what is left of sectors put one behind the other, when the power goes -/
theorem crash_puts (st : Nat → Bool) (xs : List (List Int)) (a : Nat) (S : List (List Int)) (i : Nat) :
    (doneM st 0 S (looseP a xs))[i]? = S[i]? ∨ (a ≤ i ∧ i < a + xs.length ∧ (doneM st 0 S (looseP a xs))[i]? = xs[i - a]?) := by
  rcases doneM_sub st (looseP a xs) 0 S i with h | ⟨y, hy, h1, h2, h3⟩
  · exact .inl h
  · obtain ⟨j, hj, e1, e2⟩ := looseP_mem hy
    right
    have : i = a + j := by rw [← h1, e1]; omega
    subst this
    refine ⟨by omega, by omega, ?_⟩
    rw [h2, show a + j - a = j by omega, e2]
/-- a part of deeds that begin with puts -/
theorem puts_cut : ∀ (xs : List (List Int)) (a : Nat) (ds1 ds2 rest : List Deed), putsD a xs ++ rest = ds1 ++ ds2 →
    (∃ i, i ≤ xs.length ∧ ds1 = putsD a (xs.take i)) ∨ (∃ ds3, ds1 = putsD a xs ++ ds3 ∧ rest = ds3 ++ ds2)
  | [], a, ds1, ds2, rest, h => .inr ⟨ds1, rfl, h⟩
  | x :: r, a, [], ds2, rest, h => .inl ⟨0, by simp, rfl⟩
  | x :: r, a, y :: ds1, ds2, rest, h => by
    rw [putsD, List.cons_append, List.cons_append] at h
    injection h with h0 h
    subst h0
    rcases puts_cut r (a + 1) ds1 ds2 rest h with ⟨i, h1, h2⟩ | ⟨ds3, h1, h2⟩
    · exact .inl ⟨i + 1, by simp; omega, by rw [h2]; rfl⟩
    · exact .inr ⟨ds3, by rw [h1, putsD]; rfl, h2⟩
end Go.Proofs.YtofbpkaebngnlaaDoor
