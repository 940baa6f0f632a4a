/-
 A part of the proof: see the last text.
-/
import Derived.Test.YtcdehejgnnnimaaGreatDoorSKvTrans
import Derived.Test.YtcdehejgnnnimaaGreatDoorSKvSnap
import Derived.Test.YtcdehejgnnnimaaGreatDoorSKvGet
import Derived.Test.YtcdehejgnnnimaaGreatDoorSKvRise
import Derived.Test.YtcdehejgnnnimaaGreatDoorSKvRight
namespace Go.Proofs.YtcdehejgnnnimaaGreatDoor
set_option linter.unusedVariables false
set_option linter.unusedSimpArgs false
open Go.RowKit
set_option linter.unusedVariables false
set_option linter.unusedSimpArgs false
theorem next_back {c : Chg} (h : okC c = true) (r : List Nat) : nxC (chgN c ++ r) 0 = c ∧ nxL (chgN c ++ r) 0 = r ∧ nxE (chgN c ++ r) 0 = 0 := by
 obtain ⟨k, v, g⟩ := c
 unfold okC mayB keyB at h
 simp only [Bool.and_eq_true, decide_eq_true_eq] at h
 obtain ⟨⟨⟨hk1, hk2⟩, hv⟩, hg⟩ := h
 have tk : (nats k).take 4096 = nats k := List.take_of_length_le (by rw [nats_length]; omega)
 have tv : (nats v).take 4096 = nats v := List.take_of_length_le (by rw [nats_length]; omega)
 cases g
 ·have e : chgN (k, v, false) ++ r = encB 8 0 ++ (textB (nats k) ++ (textB (nats v) ++ r)) := by
   rw [chg_false, numsB_cons, show clampB 0 = 0 from rfl]
   simp only [List.map_cons, List.map_nil, textsB_cons, textsB_nil, List.append_assoc, List.append_nil, List.nil_append, numsB_nil]
  rw [e]
  obtain ⟨a1, a2, a3⟩ := num_back 0 (by omega) (textB (nats k) ++ (textB (nats v) ++ r))
  obtain ⟨b1, b2, b3⟩ := text_back (nats k) (textB (nats v) ++ r)
  obtain ⟨c1, c2, c3⟩ := text_back (nats v) r
  have hA : nxA (encB 8 0 ++ (textB (nats k) ++ (textB (nats v) ++ r))) 0 = textB (nats k) ++ (textB (nats v) ++ r) := a2
  have hF : nxF (encB 8 0 ++ (textB (nats k) ++ (textB (nats v) ++ r))) 0 = 0 := by unfold nxF; rw [a1, a3]; rfl
  have hB : nxB (encB 8 0 ++ (textB (nats k) ++ (textB (nats v) ++ r))) 0 = textB (nats v) ++ r := by unfold nxB; rw [hA, hF]; exact b2
  have hG : nxG (encB 8 0 ++ (textB (nats k) ++ (textB (nats v) ++ r))) 0 = 0 := by unfold nxG; rw [hA, hF]; exact b3
  have hK : nxK (encB 8 0 ++ (textB (nats k) ++ (textB (nats v) ++ r))) 0 = nats k := by unfold nxK; rw [hA, hF, b1, tk]
  refine ⟨?_, ?_, ?_⟩
  ·unfold nxC; rw [a1, if_neg (by decide), hK, hB, hG, c1, tv, strOf_nats, strOf_nats]
  ·unfold nxL; rw [a1, if_neg (by decide), hB, hG, c2]
  ·unfold nxE; rw [a1, if_neg (by decide), hB, hG, c3]
 ·have hv0 : v = ⟨#[]⟩ := by
   have hs : v.size = 0 := by simpa using hg
   exact data_eq (by have : v.data.size = 0 := hs; rw [Array.size_eq_zero_iff.1 this])
  have e : chgN (k, v, true) ++ r = encB 8 1 ++ (textB (nats k) ++ r) := by
   rw [chg_true, numsB_cons, show clampB 1 = 1 from rfl]
   simp only [List.map_cons, List.map_nil, textsB_cons, textsB_nil, List.append_assoc, List.append_nil, List.nil_append, numsB_nil]
  rw [e]
  obtain ⟨a1, a2, a3⟩ := num_back 1 (by omega) (textB (nats k) ++ r)
  obtain ⟨b1, b2, b3⟩ := text_back (nats k) r
  have hA : nxA (encB 8 1 ++ (textB (nats k) ++ r)) 0 = textB (nats k) ++ r := a2
  have hF : nxF (encB 8 1 ++ (textB (nats k) ++ r)) 0 = 0 := by unfold nxF; rw [a1, a3]; rfl
  have hB : nxB (encB 8 1 ++ (textB (nats k) ++ r)) 0 = r := by unfold nxB; rw [hA, hF]; exact b2
  have hG : nxG (encB 8 1 ++ (textB (nats k) ++ r)) 0 = 0 := by unfold nxG; rw [hA, hF]; exact b3
  have hK : nxK (encB 8 1 ++ (textB (nats k) ++ r)) 0 = nats k := by unfold nxK; rw [hA, hF, b1, tk]
  refine ⟨?_, ?_, ?_⟩
  ·unfold nxC; rw [a1, if_pos rfl, hK, strOf_nats, hv0]
  ·unfold nxL; rw [a1, if_pos rfl, hB]
  ·unfold nxE; rw [a1, if_pos rfl, hG]
theorem stK_front (l : List Nat) (e : Nat) : ∀ k, stK l e (k + 1) = (nxC l e :: (stK (nxL l e) (nxE l e) k).1, (stK (nxL l e) (nxE l e) k).2)
 | 0 => rfl
 | k + 1 => by
   show ((stK l e (k + 1)).1 ++ [nxC (stK l e (k + 1)).2.1 (stK l e (k + 1)).2.2], nxL (stK l e (k + 1)).2.1 (stK l e (k + 1)).2.2, nxE (stK l e (k + 1)).2.1 (stK l e (k + 1)).2.2) = _
   rw [stK_front l e k]
   rfl
theorem stK_back (r : List Nat) : ∀ (cs : List Chg), cs.all okC = true → stK ((cs.map chgN).flatten ++ r) 0 cs.length = (cs, r, 0)
 | [], _ => rfl
 | c :: cs, h => by
   rw [List.all_cons, Bool.and_eq_true] at h
   obtain ⟨h1, h2, h3⟩ := next_back h.1 ((cs.map chgN).flatten ++ r)
   rw [List.map_cons, List.flatten_cons, List.append_assoc, List.length_cons, stK_front, h1, h2, h3, stK_back r cs h.2]
theorem dec_back {cs : List Chg} (h : changesB cs = true) : decE (transN cs) = 0 ∧ decV (transN cs) = cs := by
 have h0 := h
 unfold changesB at h
 rw [Bool.and_eq_true] at h
 have hl : cs.length ≤ 400 := of_decide_eq_true h.1
 have hc : clampB (cs.length : Int) = cs.length := by unfold clampB; omega
 have e : transN cs = encB 8 cs.length ++ (cs.map chgN).flatten := by
  unfold transN
  rw [numsB_cons, hc, numsB_nil, List.append_nil]
 obtain ⟨a1, a2, a3⟩ := num_back cs.length (by omega) (cs.map chgN).flatten
 have hS : decS (transN cs) = (cs, [], 0) := by
  unfold decS countE countV
  rw [e, a1, a2, a3, if_neg (by omega), if_neg (by omega)]
  have := stK_back [] cs h.2
  rwa [List.append_nil] at this
 have hD : decD (transN cs) = 0 := by unfold decD; rw [hS]; rfl
 have hE : decE (transN cs) = 0 := by unfold decE; rw [hD, hS, if_pos rfl, if_pos h0]
 exact ⟨hE, by unfold decV; rw [if_pos hE, hS]⟩
end Go.Proofs.YtcdehejgnnnimaaGreatDoor
namespace Go.Proofs.YtcdehejgnnnimaaGreatDoor
set_option linter.unusedVariables false
set_option linter.unusedSimpArgs false
open Go.RowKit
set_option linter.unusedVariables false
set_option linter.unusedSimpArgs false
def playF (f : Fn) (L : List (List Nat)) : Fn := L.foldl (fun f b => runF f (decV b)) f
theorem playF_snoc (f : Fn) (L : List (List Nat)) (b : List Nat) : playF f (L ++ [b]) = runF (playF f L) (decV b) := by unfold playF; rw [List.foldl_append]; rfl
theorem runF_append (f : Fn) (a b : List Chg) : runF f (a ++ b) = runF (runF f a) b := by unfold runF; rw [List.foldl_append]
theorem playF_cons (f : Fn) (b : List Nat) (L : List (List Nat)) : playF f (b :: L) = playF (runF f (decV b)) L := by unfold playF; rw [List.foldl_cons]
theorem play_parts : ∀ (css : List (List Chg)), (∀ cs ∈ css, changesB cs = true) → ∀ f : Fn, playF f (css.map transN) = runF f css.flatten
 | [], _, f => rfl
 | cs :: css, h, f => by
   have e := (dec_back (h cs (List.mem_cons_self ..))).2
   rw [List.map_cons, List.flatten_cons, runF_append, playF_cons, e]
   exact play_parts css (fun x hx => h x (List.mem_cons_of_mem _ hx)) _
theorem okC_put {p : Pr} (h : mayB p.1 p.2 = true) : okC (putC p) = true := by
 unfold okC putC
 simp only
 rw [h]
 rfl
theorem changesB_snoc {cs : List Chg} {c : Chg} (h : changesB cs = true) (hc : okC c = true) (hl : cs.length < 400) : changesB (cs ++ [c]) = true := by
 unfold changesB at h ⊢
 rw [Bool.and_eq_true] at h ⊢
 refine ⟨by rw [List.length_append]; exact decide_eq_true (by simp; omega), ?_⟩
 rw [List.all_append, h.2]
 simp [hc]
theorem changesB_len {cs : List Chg} (h : changesB cs = true) : cs.length ≤ 400 := by
 unfold changesB at h
 rw [Bool.and_eq_true] at h
 exact of_decide_eq_true h.1
def SnapP (s : List (List Nat) × List Chg) (l : List Pr) : Prop := ∃ css : List (List Chg), s.1 = css.map transN ∧ css.flatten ++ s.2 = l.map putC ∧ (∀ cs ∈ css, changesB cs = true) ∧ changesB s.2 = true
theorem SnapP.step {s : List (List Nat) × List Chg} {l : List Pr} {p : Pr} (h : SnapP s l) (hp : mayB p.1 p.2 = true) (hl : l.length < 400) : SnapP (stepS s p) (l ++ [p]) := by
 obtain ⟨L, cs⟩ := s
 obtain ⟨css, h1, h2, h3, h4⟩ := h
 have h1 : L = css.map transN := h1
 have h2 : css.flatten ++ cs = l.map putC := h2
 have h4 : changesB cs = true := h4
 by_cases hc : cs ≠ [] ∧ 6000 < (transN cs).length + (chgN (putC p)).length
 ·rw [stepS_flush hc.1 hc.2]
  refine ⟨css ++ [cs], by show L ++ [transN cs] = _; rw [h1, List.map_append]; rfl, ?_, ?_, ?_⟩
  ·show (css ++ [cs]).flatten ++ [putC p] = _
   rw [List.flatten_append, List.map_append, ← h2]
   simp
  ·intro x hx
   rcases List.mem_append.1 hx with h5 | h5
   ·exact h3 x h5
   ·rw [List.mem_singleton.1 h5]; exact h4
  ·have := changesB_snoc (cs := []) (c := putC p) (by decide) (okC_put hp) (by decide)
   exact this
 ·rw [stepS_more hc]
  refine ⟨css, h1, ?_, h3, ?_⟩
  ·show css.flatten ++ (cs ++ [putC p]) = _
   rw [← List.append_assoc, h2, List.map_append]
   rfl
  ·have hlen : cs.length ≤ l.length := by
    have := congrArg List.length h2
    rw [List.length_append, List.length_map] at this
    omega
   exact changesB_snoc h4 (okC_put hp) (by omega)
theorem SnapP.steps : ∀ (m l : List Pr) (s : List (List Nat) × List Chg), SnapP s l → (∀ p ∈ m, mayB p.1 p.2 = true) → l.length + m.length ≤ 400 → SnapP (m.foldl stepS s) (l ++ m)
 | [], l, s, h, _, _ => by rw [List.append_nil]; exact h
 | p :: m, l, s, h, hm, hl => by
   rw [List.length_cons] at hl
   have := SnapP.steps m (l ++ [p]) (stepS s p) (h.step (hm p (List.mem_cons_self ..)) (by omega)) (fun q hq => hm q (List.mem_cons_of_mem _ hq)) (by rw [List.length_append, List.length_singleton]; omega)
   rw [List.append_assoc] at this
   exact this
theorem snap_parts {l : List Pr} (h : ∀ p ∈ l, mayB p.1 p.2 = true) (hl : l.length ≤ 400) : ∃ css : List (List Chg), snapL l = css.map transN ∧ css.flatten = l.map putC ∧ ∀ cs ∈ css, changesB cs = true := by
 obtain ⟨css, h1, h2, h3, h4⟩ := SnapP.steps l [] ([], []) ⟨[], rfl, rfl, (fun cs hcs => (by cases hcs)), (by decide)⟩ h (by simpa using hl)
 rw [List.nil_append] at h2
 refine ⟨css ++ [(snapS l).2], ?_, ?_, ?_⟩
 ·unfold snapL
  rw [List.map_append]
  show (snapS l).1 ++ _ = _
  have : (snapS l).1 = css.map transN := h1
  rw [this]
  rfl
 ·rw [List.flatten_append]
  show css.flatten ++ ((snapS l).2 ++ []) = _
  rw [List.append_nil]
  exact h2
 ·intro x hx
  rcases List.mem_append.1 hx with h5 | h5
  ·exact h3 x h5
  ·rw [List.mem_singleton.1 h5]; exact h4
theorem runF_puts (f : Fn) : ∀ (l : List Pr) (f : Fn), runF f (l.map putC) = putsF f l
 | [], f => rfl
 | p :: l, f => by
   show runF (stepF f (putC p)) (l.map putC) = putsF (updF f p.1 (some p.2)) l
   have : stepF f (putC p) = updF f p.1 (some p.2) := by unfold stepF putC; rfl
   rw [this]
   exact runF_puts f l _
theorem putsF_lists {l : List Pr} (h : Rising l) : putsF (fun _ => none) l = fnOf l := by
 have key : ∀ (l : List Pr) (f : Fn) (k : ByteArray), Rising l → putsF f l k = ((fnOf l k).or (f k)) := by
  intro l
  induction l with
  | nil => intro f k _; rfl
  | cons p l ih =>
    intro f k hr
    show putsF (updF f p.1 (some p.2)) l k = _
    rw [ih _ k (List.pairwise_cons.1 hr).2]
    by_cases hk : p.1 = k
    ·have hno : fnOf l k = none := fnOf_none (fun q hq e => by
      have := (List.pairwise_cons.1 hr).1 q hq
      rw [e, hk] at this
      exact ltK_irrefl _ this)
     have hp : fnOf (p :: l) k = some p.2 := by unfold fnOf; rw [List.find?_cons, decide_eq_true hk]; rfl
     rw [hno, hp]
     unfold updF
     rw [if_pos hk.symm]
     rfl
    ·have hp : fnOf (p :: l) k = fnOf l k := by unfold fnOf; rw [List.find?_cons, decide_eq_false hk]
     rw [hp]
     unfold updF
     rw [if_neg (fun e => hk e.symm)]
 funext k
 rw [key l _ k h, Option.or_none]
theorem play_snap {l : List Pr} (h : PairsOk l) : playF (fun _ => none) (snapL l) = fnOf l := by
 obtain ⟨css, h1, h2, h3⟩ := snap_parts h.2.1 h.1
 rw [h1, play_parts css h3, h2, runF_puts (fun _ => none), putsF_lists h.2.2]
end Go.Proofs.YtcdehejgnnnimaaGreatDoor
namespace Go.Proofs.YtcdehejgnnnimaaGreatDoor
set_option linter.unusedVariables false
set_option linter.unusedSimpArgs false
open Go.RowKit
set_option linter.unusedVariables false
set_option linter.unusedSimpArgs false
theorem nodup_len {α : Type} [DecidableEq α] : ∀ (a b : List α), a.Nodup → (∀ x ∈ a, x ∈ b) → a.length ≤ b.length
 | [], _, _, _ => Nat.zero_le _
 | x :: a, b, hn, hs => by
   have hx := hs x (List.mem_cons_self ..)
   have hn' := List.nodup_cons.1 hn
   have := nodup_len a (b.erase x) hn'.2 (fun y hy => (List.mem_erase_of_ne (fun e => hn'.1 (by rw [← e]; exact hy))).2 (hs y (List.mem_cons_of_mem _ hy)))
   rw [List.length_erase_of_mem hx] at this
   have : 0 < b.length := List.length_pos_of_mem hx
   rw [List.length_cons]
   omega
theorem rising_nodup {l : List Pr} (h : Rising l) : (l.map (·.1)).Nodup := by
 unfold List.Nodup
 rw [List.pairwise_map]
 exact h.imp (fun hab e => by rw [e] at hab; exact ltK_irrefl _ hab)
theorem runF_keys : ∀ (cs : List Chg) (f : Fn) (k : ByteArray), runF f cs k ≠ none → f k ≠ none ∨ k ∈ cs.map (·.1)
 | [], f, k, h => .inl h
 | c :: cs, f, k, h => by
   rcases runF_keys cs (stepF f c) k h with h1 | h1
   ·unfold stepF updF at h1
    by_cases hk : k = c.1
    ·exact .inr (by rw [hk, List.map_cons]; exact List.mem_cons_self ..)
    ·rw [if_neg hk] at h1
     exact .inl h1
   ·exact .inr (by rw [List.map_cons]; exact List.mem_cons_of_mem _ h1)
theorem putsF_keys : ∀ (l : List Pr) (f : Fn) (k : ByteArray), putsF f l k ≠ none → f k ≠ none ∨ k ∈ l.map (·.1)
 | [], f, k, h => .inl h
 | p :: l, f, k, h => by
   rcases putsF_keys l (updF f p.1 (some p.2)) k h with h1 | h1
   ·unfold updF at h1
    by_cases hk : k = p.1
    ·exact .inr (by rw [hk, List.map_cons]; exact List.mem_cons_self ..)
    ·rw [if_neg hk] at h1
     exact .inl h1
   ·exact .inr (by rw [List.map_cons]; exact List.mem_cons_of_mem _ h1)
theorem lists_len {m l : List Pr} {cs : List Chg} (h : Lists m (runF (putsF (fun _ => none) l) cs)) : m.length ≤ l.length + cs.length := by
 have := nodup_len (m.map (·.1)) (l.map (·.1) ++ cs.map (·.1)) (rising_nodup h.1) (fun k hk => by
  obtain ⟨p, hp, rfl⟩ := List.mem_map.1 hk
  have hf := (h.2 p.1 p.2).1 hp
  rcases runF_keys cs _ p.1 (by rw [hf]; exact (fun e => by cases e)) with h1 | h1
  ·rcases putsF_keys l _ p.1 h1 with h2 | h2
   ·exact absurd rfl h2
   ·exact List.mem_append_left _ h2
  ·exact List.mem_append_right _ h1)
 rw [List.length_append, List.length_map, List.length_map, List.length_map] at this
 exact this
theorem enc_ways {cs : List Chg} {w w' : World} {e : Ending} (h : EncIs cs w e w') :
 (∃ A n c, e = .returned (.tuple #[.slice A n c, .int .i64 0]) ∧ changesB cs = true ∧ (transN cs).length ≤ 6000 ∧ OwnB w' w.heap.size 5 A n c (transN cs) ∧ Below w.heap.size w w') ∨
 (∃ A n c, changesB cs = false ∧ e = .returned (.tuple #[.slice A n c, .int .i64 1]) ∧ Below w.heap.size w w') ∨
 (∃ A n c, 6000 < (transN cs).length ∧ e = .returned (.tuple #[.slice A n c, .int .i64 4]) ∧ Below w.heap.size w w') := by
 obtain ⟨A, n, c, rfl, ho, hb⟩ := h
 by_cases hc : changesB cs = true
 ·by_cases hl : 6000 < (transN cs).length
  ·have e : encE cs = 4 := by unfold encE; rw [if_pos hc, if_pos hl]
   rw [e]
   exact .inr (.inr ⟨A, n, c, hl, rfl, hb⟩)
  ·have e : encE cs = 0 := by unfold encE; rw [if_pos hc, if_neg hl]
   have e2 : encV cs = transN cs := by unfold encV; rw [if_pos ⟨hc, by omega⟩]
   rw [e]
   rw [e2] at ho
   exact .inl ⟨A, n, c, rfl, hc, by omega, ho, hb⟩
 ·have hf : changesB cs = false := by simpa using hc
  have e : encE cs = 1 := by unfold encE; rw [if_neg hc]
  rw [e]
  exact .inr (.inl ⟨A, n, c, hf, rfl, hb⟩)
end Go.Proofs.YtcdehejgnnnimaaGreatDoor
namespace Go.Proofs.YtcdehejgnnnimaaGreatDoor
set_option linter.unusedVariables false
set_option linter.unusedSimpArgs false
open Go.RowKit
set_option linter.unusedVariables false
set_option linter.unusedSimpArgs false
def NotIn (A : Option Addr) (n : Nat) (bs : List Nat) : Prop := 0 < n → ∀ p, A = some p → ∀ b ∈ bs, p.block ≠ b
theorem col_stored4 {α : Type} {k n : Nat} {f : α → List Value} {W : World} {A : Option Addr} {l : List α} (h : ColK k f W W.heap.size A n l) (b : Nat) (hne : 0 < n → ∀ p, A = some p → p.block ≠ b) (a0 a1 a2 a3 : Value) :
 ColK k f (stored4 W b a0 a1 a2 a3) (stored4 W b a0 a1 a2 a3).heap.size A n l := by
 have hs : (stored4 W b a0 a1 a2 a3).heap.size = W.heap.size := by unfold stored4; simp
 rw [hs]
 refine ⟨h.1, fun hn => ?_⟩
 obtain ⟨bb, o, e, hb, hc⟩ := h.2 hn
 exact ⟨bb, o, e, hb, fun i a hi => rangeAtK_keep (hc i a hi) (fun j => stored4_cell _ _ _ _ _ _ (p := ⟨bb, j, none⟩) (show bb ≠ b from hne hn ⟨bb, o, none⟩ e))⟩
theorem col_stored5 {α : Type} {k n : Nat} {f : α → List Value} {W : World} {A : Option Addr} {l : List α} (h : ColK k f W W.heap.size A n l) (b : Nat) (hne : 0 < n → ∀ p, A = some p → p.block ≠ b) (a0 a1 a2 a3 a4 : Value) :
 ColK k f (stored5 W b a0 a1 a2 a3 a4) (stored5 W b a0 a1 a2 a3 a4).heap.size A n l := by
 have hs : (stored5 W b a0 a1 a2 a3 a4).heap.size = W.heap.size := by unfold stored5 stored4; simp
 rw [hs]
 refine ⟨h.1, fun hn => ?_⟩
 obtain ⟨bb, o, e, hb, hc⟩ := h.2 hn
 refine ⟨bb, o, e, hb, fun i a hi => rangeAtK_keep (hc i a hi) (fun j => ?_)⟩
 unfold stored5
 rw [World.cell?_setCell_other _ ⟨b, 4, none⟩ ⟨bb, j, none⟩ a4 (fun e' => absurd (congrArg Addr.block e') (show b ≠ bb from Ne.symm (show bb ≠ b from hne hn ⟨bb, o, none⟩ e)))]
 exact stored4_cell _ _ _ _ _ _ (p := ⟨bb, j, none⟩) (show bb ≠ b from hne hn ⟨bb, o, none⟩ e)
structure ComL (w : World) (x : Dk) (A9 A9' A5 A8 : Option Addr) (n9 c9 n9' c9' n5 c5 n8 h g u k b1 b2 b3 b4 b9 : Nat) (m : List Pr) (r1 r9 : Array Value) (W : World) : Prop where
 k1 : Bk W b1 27 r1
 k2 : Bk W b2 35 #[.int .i64 (h : Int), .int .i64 (g : Int), .int .i64 (u : Int), .int .i64 (k : Int), .slice A5 n5 c5]
 k3 : Bk W b3 27 #[.slice none 0 0, .slice none 0 0, .int .i64 0, .bool false]
 k4 : Bk W b4 35 #[.int .i64 0, .int .i64 0, .int .i64 0, .int .i64 0, .slice none 0 0]
 k9 : Bk W b9 32 r9
 hd : DkAt W W.heap.size (.agg #[.slice A9 n9 c9, .slice A9' n9' c9', .int .i64 x.fuse, .bool x.down]) x
 hm : ColK 2 pairC W W.heap.size A8 n8 m
 hb : Below w.heap.size w W
def EndS (w : World) (b3 b4 : Nat) (A A' : Option Addr) (n c n' c' : Nat) (x : Dk) (z0 z1 z2 z3 : Int) (A8 : Option Addr) (n8 c8 : Nat) (m : List Pr) (W : World) : Prop := LiesS w b3 b4 A A' n c n' c' x z0 z1 z2 z3 A8 n8 c8 W ∧ ColK 2 pairC W W.heap.size A8 n8 m
theorem EndS.drewC {w : World} {b3 b4 : Nat} {A A' : Option Addr} {n c n' c' : Nat} {x : Dk} {z0 z1 z2 z3 : Int} {A8 : Option Addr} {n8 c8 : Nat} {m : List Pr} {W : World} (h : EndS w b3 b4 A A' n c n' c' x z0 z1 z2 z3 A8 n8 c8 m W) : EndS w b3 b4 A A' n c n' c' x z0 z1 z2 z3 A8 n8 c8 m W.drew := ⟨h.1.drew, h.2.later ((Below.refl _ _).drew)⟩
section
variable {w W : World} {x : Dk} {A9 A9' A5 A8 : Option Addr} {n9 c9 n9' c9' n5 c5 n8 h g u k b1 b2 b3 b4 b9 : Nat} {m : List Pr} {a0 a1 a2 a3 e0 e1 e2 e3 : Value} {r1 r9 : Array Value}
theorem ComL.below {W' : World} (H : ComL w x A9 A9' A5 A8 n9 c9 n9' c9' n5 c5 n8 h g u k b1 b2 b3 b4 b9 m r1 r9 W) (hb : Below W.heap.size W W') : ComL w x A9 A9' A5 A8 n9 c9 n9' c9' n5 c5 n8 h g u k b1 b2 b3 b4 b9 m r1 r9 W' :=
 ⟨H.k1.below hb H.k1.lt, H.k2.below hb H.k2.lt, H.k3.below hb H.k3.lt, H.k4.below hb H.k4.lt, H.k9.below hb H.k9.lt, H.hd.later hb, H.hm.later hb, H.hb.trans (hb.mono H.hb.size)⟩
theorem ComL.turn {y : Dk} {B9 B9' : Option Addr} {e9 f9 e9' f9' : Nat} (H : ComL w x A9 A9' A5 A8 n9 c9 n9' c9' n5 c5 n8 h g u k b1 b2 b3 b4 b9 m r1 r9 W) (hd : DkAt W W.heap.size (.agg #[.slice B9 e9 f9, .slice B9' e9' f9', .int .i64 y.fuse, .bool y.down]) y) :
 ComL w y B9 B9' A5 A8 e9 f9 e9' f9' n5 c5 n8 h g u k b1 b2 b3 b4 b9 m r1 r9 W := ⟨H.k1, H.k2, H.k3, H.k4, H.k9, hd, H.hm, H.hb⟩
theorem ComL.disk (H : ComL w x A9 A9' A5 A8 n9 c9 n9' c9' n5 c5 n8 h g u k b1 b2 b3 b4 b9 m #[a0, a1, a2, a3] r9 W) (h1 : w.heap.size ≤ b1) (hn : b2 ≠ b1 ∧ b3 ≠ b1 ∧ b4 ≠ b1 ∧ b9 ≠ b1) (hni : NotIn A8 n8 [b1, b3, b4, b9]) :
 ComL w x A9 A9' A5 A8 n9 c9 n9' c9' n5 c5 n8 h g u k b1 b2 b3 b4 b9 m #[.slice A9 n9 c9, .slice A9' n9' c9', .int .i64 x.fuse, .bool x.down] r9 (stored4 W b1 (.slice A9 n9 c9) (.slice A9' n9' c9') (.int .i64 x.fuse) (.bool x.down)) := by
 have hf := stored4_facts H.k1 (.slice A9 n9 c9) (.slice A9' n9' c9') (.int .i64 x.fuse) (.bool x.down)
 exact ⟨hf.1, hf.2.2.2 _ _ _ hn.1 H.k2, hf.2.2.2 _ _ _ hn.2.1 H.k3, hf.2.2.2 _ _ _ hn.2.2.1 H.k4, hf.2.2.2 _ _ _ hn.2.2.2 H.k9, hf.2.1 _ _ H.hd, col_stored4 H.hm b1 (fun h0 p hp => hni h0 p hp b1 (by simp)) _ _ _ _, hf.2.2.1 _ _ H.hb h1⟩
theorem ComL.log (H : ComL w x A9 A9' A5 A8 n9 c9 n9' c9' n5 c5 n8 h g u k b1 b2 b3 b4 b9 m r1 #[a0, a1, a2, a3] W) (h9 : w.heap.size ≤ b9) (hn : b1 ≠ b9 ∧ b2 ≠ b9 ∧ b3 ≠ b9 ∧ b4 ≠ b9) (hni : NotIn A8 n8 [b1, b3, b4, b9]) (z0 z1 z2 z3 : Value) :
 ComL w x A9 A9' A5 A8 n9 c9 n9' c9' n5 c5 n8 h g u k b1 b2 b3 b4 b9 m r1 #[z0, z1, z2, z3] (stored4 W b9 z0 z1 z2 z3) := by
 have hf := stored4_facts H.k9 z0 z1 z2 z3
 exact ⟨hf.2.2.2 _ _ _ hn.1 H.k1, hf.2.2.2 _ _ _ hn.2.1 H.k2, hf.2.2.2 _ _ _ hn.2.2.1 H.k3, hf.2.2.2 _ _ _ hn.2.2.2 H.k4, hf.1, hf.2.1 _ _ H.hd, col_stored4 H.hm b9 (fun h0 p hp => hni h0 p hp b9 (by simp)) _ _ _ _, hf.2.2.1 _ _ H.hb h9⟩
theorem ComL.fill {y0 y1 y2 y3 : Int} {c8 : Nat} (H : ComL w x A9 A9' A5 A8 n9 c9 n9' c9' n5 c5 n8 h g u k b1 b2 b3 b4 b9 m r1 r9 W) (h3 : w.heap.size ≤ b3) (h4 : w.heap.size ≤ b4) (hne : b4 ≠ b3) (hni : NotIn A8 n8 [b1, b3, b4, b9]) :
 Hid (EndS w b3 b4 A9 A9' n9 c9 n9' c9' x y0 y1 y2 y3 A8 n8 c8 m (stored5 (stored4 W b3 (.slice A9 n9 c9) (.slice A9' n9' c9') (.int .i64 x.fuse) (.bool x.down)) b4 (.int .i64 y0) (.int .i64 y1) (.int .i64 y2) (.int .i64 y3) (.slice A8 n8 c8))) :=
 Lib.hid ⟨(two_boxesS y0 y1 y2 y3 A8 n8 c8 H.k3 H.k4 hne H.hd H.hb h3 h4).out, col_stored5 (col_stored4 H.hm b3 (fun h0 p hp => hni h0 p hp b3 (by simp)) _ _ _ _) b4 (fun h0 p hp => hni h0 p hp b4 (by simp)) _ _ _ _ _⟩
end
def CmpF (n : Nat) (d : Dk) (h g : Nat) (L L' : List (List Nat)) (y : Dk) (er : Int) (h2 g2 u2 k2 : Nat) : Prop :=
 (n / 2 < sumT L' ∧ y = d ∧ er = 8) ∨
 (er = 0 ∧ h2 = 1 - h ∧ g2 = g + 1 ∧ u2 = sumT L' ∧ k2 = L'.length ∧ Rest n y ∧ (d.fuse = -1 → y.fuse = -1) ∧ HoldsZ n y (1 - h) (g + 1) L') ∨
 (er = 9 ∧ d.fuse ≠ -1 ∧ rightB y = true ∧ y.secs.length = n ∧ (∀ m, Holds n (startM y m).1 h g L ∨ Holds n (startM y m).1 (1 - h) (g + 1) L'))
def CmpOut (n : Nat) (d : Dk) (h g : Nat) (L L' : List (List Nat)) (w : World) (e : Ending) (w' : World) : Prop := ∃ y er h2 g2 u2 k2, Hid (CmpF n d h g L L' y er h2 g2 u2 k2) ∧ LogRes w (y, er) (logN h2 g2 u2 k2) e w'
theorem compact_out {n : Nat} (v : Value) (d : Dk) (h g u k : Nat) (L : List (List Nat)) (l : List Pr) (A1 : Option Addr) (n1 c1 : Nat) (w : World) (hd : DkAt w w.heap.size v d) (hF : Rest n d) (H : HoldsZ n d h g L) (hg : g < 1099511627776) (hu : u = sumT L) (hk : k = L.length) (hP : PairsOk l) (hL : Rss w w.heap.size A1 n1 (snapL l)) (ht : Tab w) :
 Calls Tryz.prog 24 #[v, .agg #[.int .i64 (h : Int), .int .i64 (g : Int), .int .i64 (u : Int), .int .i64 (k : Int)], .slice A1 n1 c1] w (CmpOut n d h g L (snapL l) w) := by
 have hn1 : n1 ≤ 1000000 := by
  have h1 := snapL_len l
  have h2 := hP.1
  have h3 : (snapL l).length = n1 := hL.1
  omega
 have h0 : needN (snapL l) ≠ 0 := by
  have := (needN_pos (L := snapL l)).2 ⟨snapL_ok hP.2.1, snapL_ne l⟩
  omega
 have hc := compact_ways v d h g L (snapL l) A1 n1 c1 w hd hF H hg hL hn1 ht
 rw [← hu, ← hk] at hc
 refine hc.mono fun e w' he => ?_
 unfold CmpWays at he
 rw [← hu, ← hk] at he
 rcases he with ⟨hz, _⟩ | ⟨_, hf, hr⟩ | ⟨_, hf, x, hRx, hfx, hZx, hr⟩ | ⟨_, hfd, x, hRx, hlx, hZx, hr⟩
 ·exact absurd hz h0
 ·exact ⟨d, 8, h, g, u, k, Lib.hid (.inl ⟨hf, rfl, rfl⟩), hr⟩
 ·exact ⟨x, 0, 1 - h, g + 1, sumT (snapL l), (snapL l).length, Lib.hid (.inr (.inl ⟨rfl, rfl, rfl, rfl, rfl, hRx, hfx, hZx⟩)), hr⟩
 ·exact ⟨x, 9, h, g, u, k, Lib.hid (.inr (.inr ⟨rfl, hfd, hRx, hlx, hZx⟩)), hr⟩
end Go.Proofs.YtcdehejgnnnimaaGreatDoor
