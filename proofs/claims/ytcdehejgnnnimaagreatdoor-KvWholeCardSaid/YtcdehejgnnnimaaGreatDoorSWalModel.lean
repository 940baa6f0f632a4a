/-
 A part of the proof: see the last text.
-/
import Derived.Test.YtcdehejgnnnimaaGreatDoorSWalOpen
namespace Go.Proofs.YtcdehejgnnnimaaGreatDoor
set_option linter.unusedVariables false
set_option linter.unusedSimpArgs false
open Go.RowKit
def Fine (n : Nat) (d : Dk) : Prop := rightB d = true ∧ d.secs.length = n ∧ d.loose = [] ∧ d.fuse = -1 ∧ d.down = false
theorem fine_run {n : Nat} {d : Dk} {ds : List Deed} (hF : Fine n d) (hin : ∀ x ∈ ds, inD n x) (hl : ds.length ≤ 100000) (he : (effM (d.secs, []) ds).2 = []) :
 (runM d ds).2 = 0 ∧ Fine n (runM d ds).1 ∧ (runM d ds).1.secs = (effM (d.secs, []) ds).1 := by
 obtain ⟨h1, h2, h3, h4, h5⟩ := hF
 rcases run_cases ds d h1 h5 (by rw [h2]; exact hin) (by rw [h3]; simpa using hl) with ⟨f, e, hr, hf⟩ | ⟨hne, _⟩
 ·rw [h3] at e
  rw [he] at e
  have hl2 : (effM (d.secs, []) ds).1.length = n := by
   have : ∀ (ds : List Deed) (x : SL), (effM x ds).1.length = x.1.length := by
    intro ds
    induction ds with
    | nil => intro x; rfl
    | cons y r ih => intro x; rw [effM_cons, ih, effS_len]
   rw [this, h2]
  refine ⟨by rw [e], ⟨hr, by rw [e]; exact hl2, by rw [e], by rw [e]; exact hf h4, by rw [e]⟩, by rw [e]⟩
 ·exact absurd h4 hne
theorem seen_fine {n : Nat} {d : Dk} (hF : Fine n d) (a : Nat) : seen d a = d.secs.getD a [] := by
 unfold seen viewM
 rw [hF.2.2.1]
 rfl
theorem flush_puts (a : Nat) (xs S : List (List Int)) : effM (S, []) (putsD a xs ++ [.flush]) = (setAll a xs S, []) := by
 rw [effM_append, effM_puts, List.nil_append]
 show (doneM (fun _ => true) 0 S (looseP a xs), []) = _
 rw [doneM_puts]
theorem logL_cons (g : Nat) {L : List (List Nat)} (h : L ≠ []) : logL g 0 L = markL g 0 (L.headD []) :: (logL g 0 L).tail := by
 cases L with
 | nil => exact absurd rfl h
 | cons b r => rfl
def layS (o size g : Nat) (L : List (List Nat)) (S : List (List Int)) : List (List Int) := (setAll (o + 1) (logL g 0 L).tail (setAll o (List.replicate size zsec) S)).set o (markL g 0 (L.headD []))
theorem lay_eff (o size g : Nat) (L : List (List Nat)) (S : List (List Int)) : effM (S, []) (layD o size g L) = (layS o size g L S, []) := by
 have e : layD o size g L = (putsD o (List.replicate size zsec) ++ [.flush]) ++ ((putsD (o + 1) (logL g 0 L).tail ++ [.flush]) ++ (putsD o [markL g 0 (L.headD [])] ++ [.flush])) := by
  unfold layD
  simp [putsD]
 rw [e, effM_append, flush_puts, effM_append, flush_puts, flush_puts]
 rfl
theorem layS_out {o size g : Nat} {L : List (List Nat)} {S : List (List Int)} (hok : ∀ b ∈ L, okR b) (hfit : sumT L ≤ size) (hne : L ≠ []) (i : Nat) (hi : i < o ∨ o + size ≤ i) : (layS o size g L S)[i]? = S[i]? := by
 have hl := logL_length g 0 hok
 have hp : 0 < (logL g 0 L).length := by rw [logL_cons g hne]; simp
 unfold layS
 have hne' : o ≠ i := by omega
 rw [List.getElem?_set_ne hne', setAll_out _ _ _ _ (by rw [List.length_tail]; omega), setAll_out _ _ _ _ (by rw [List.length_replicate]; omega)]
theorem layS_in {o size g : Nat} {L : List (List Nat)} {S : List (List Int)} (hok : ∀ b ∈ L, okR b) (hfit : sumT L ≤ size) (hne : L ≠ []) (hS : o + size ≤ S.length) (i : Nat) (hi : i < (logL g 0 L).length) : (layS o size g L S)[o + i]? = (logL g 0 L)[i]? := by
 have hl := logL_length g 0 hok
 have hc := logL_cons g hne
 unfold layS
 cases i with
 | zero =>
   show ((setAll (o + 1) (logL g 0 L).tail (setAll o (List.replicate size zsec) S)).set o (markL g 0 (L.headD [])))[o]? = _
   rw [List.getElem?_set_self (by rw [setAll_len, setAll_len]; omega), hc]
   rfl
 | succ i =>
   rw [List.getElem?_set_ne (by omega), show o + (i + 1) = o + 1 + i by omega, setAll_in _ _ _ _ (by rw [List.length_tail]; omega) (by rw [List.length_tail, setAll_len]; omega), List.getElem?_tail]
theorem layS_zero {o size g : Nat} {L : List (List Nat)} {S : List (List Int)} (hok : ∀ b ∈ L, okR b) (hfit : sumT L ≤ size) (hne : L ≠ []) (hS : o + size ≤ S.length) (i : Nat) (h1 : sumT L ≤ i) (h2 : i < size) : (layS o size g L S)[o + i]? = some zsec := by
 have hl := logL_length g 0 hok
 have hp : 0 < (logL g 0 L).length := by rw [logL_cons g hne]; simp
 unfold layS
 rw [List.getElem?_set_ne (by omega), setAll_out _ _ _ _ (by rw [List.length_tail]; omega), setAll_in _ _ _ _ (by rw [List.length_replicate]; omega) (by rw [List.length_replicate]; omega), List.getElem?_replicate, if_pos h2]
theorem split_at {L : List (List Nat)} {k : Nat} (hk : k < L.length) : L = L.take k ++ (textAt L k :: L.drop (k + 1)) := by
 conv => lhs; rw [← List.take_append_drop (k + 1) L, take_text hk]
 simp
theorem logL_mark (g : Nat) {L : List (List Nat)} (hok : ∀ b ∈ L, okR b) {k : Nat} (hk : k < L.length) : (logL g 0 L)[sumT (L.take k)]? = some (markL g k (textAt L k)) ∧ ∀ i, i < nck (textAt L k).length → (logL g 0 L)[sumT (L.take k) + 1 + i]? = some (chunkL (textAt L k) i) := by
 have hl : (logL g 0 (L.take k)).length = sumT (L.take k) := logL_length g 0 fun b hb => hok b (List.mem_of_mem_take hb)
 have e : logL g 0 L = logL g 0 (L.take k) ++ (markL g k (textAt L k) :: (bodyL (textAt L k) ++ logL g (k + 1) (L.drop (k + 1)))) := by
  conv => lhs; rw [split_at hk, logL_append]
  have : 0 + (L.take k).length = k := by rw [List.length_take]; omega
  rw [this]
  rfl
 refine ⟨?_, fun i hi => ?_⟩
 ·rw [e, List.getElem?_append_right (by omega), hl, Nat.sub_self]
  rfl
 ·rw [e, List.getElem?_append_right (by omega), hl, show sumT (L.take k) + 1 + i - sumT (L.take k) = i + 1 by omega, List.getElem?_cons_succ, List.getElem?_append_left (by rw [bodyL_length]; exact hi), bodyL, List.getElem?_map, List.getElem?_range hi]
  rfl
theorem inD_puts {n a : Nat} {xs : List (List Int)} (h : a + xs.length ≤ n) (h64 : ∀ s ∈ xs, s.length = 64) : ∀ x ∈ putsD a xs, inD n x := by
 induction xs generalizing a with
 | nil => intro x hx; cases hx
 | cons y r ih =>
   intro x hx
   rw [List.length_cons] at h
   rcases List.mem_cons.1 hx with rfl | hx
   ·exact ⟨by omega, h64 y (by simp)⟩
   ·exact ih (by omega) (fun s hs => h64 s (by simp [hs])) x hx
theorem inD_lay {n o size g : Nat} {L : List (List Nat)} (hok : ∀ b ∈ L, okR b) (hfit : sumT L ≤ size) (hne : L ≠ []) (h : o + size ≤ n) : ∀ x ∈ layD o size g L, inD n x := by
 have hl := logL_length g 0 hok
 have hp : 0 < (logL g 0 L).length := by rw [logL_cons g hne]; simp
 intro x hx
 unfold layD at hx
 rcases List.mem_append.1 hx with hx | hx
 ·exact inD_puts (by rw [List.length_replicate]; omega) (by intro s hs; rw [(List.mem_replicate.1 hs).2]; rfl) x hx
 ·rcases List.mem_cons.1 hx with rfl | hx
  ·trivial
  ·rcases List.mem_append.1 hx with hx | hx
   ·exact inD_puts (by rw [List.length_tail]; omega) (fun s hs => logL_64 g L 0 s (List.mem_of_mem_tail hs)) x hx
   ·simp only [List.mem_cons, List.not_mem_nil, or_false] at hx
    rcases hx with rfl | rfl | rfl
    ·trivial
    ·exact ⟨by omega, markL_length _ _ _⟩
    ·trivial
theorem layD_length {o size g : Nat} {L : List (List Nat)} (hok : ∀ b ∈ L, okR b) (hfit : sumT L ≤ size) : (layD o size g L).length ≤ 2 * size + 4 := by
 have hl := logL_length g 0 hok
 unfold layD
 rw [List.length_append, List.length_cons, List.length_append, putsD_length, putsD_length, List.length_replicate, List.length_tail]
 simp
 omega
def LogZ (d : Dk) (o size g : Nat) (L : List (List Nat)) : Prop := Log d o size g L ∧ ∀ j, sumT L ≤ j → j < size → seen d (o + j) = zsec
theorem getD_of {S : List (List Int)} {i : Nat} {s : List Int} (h : S[i]? = some s) : S.getD i [] = s := by rw [List.getD_eq_getElem?_getD, h]; rfl
end Go.Proofs.YtcdehejgnnnimaaGreatDoor
namespace Go.Proofs.YtcdehejgnnnimaaGreatDoor
set_option linter.unusedVariables false
set_option linter.unusedSimpArgs false
open Go.RowKit
def appS (a g k : Nat) (b : List Nat) (S : List (List Int)) : List (List Int) := (setAll (a + 1) (bodyL b) S).set a (markL g k b)
theorem app_eff (a g k : Nat) (b : List Nat) (S : List (List Int)) : effM (S, []) (appD a g k b) = (appS a g k b S, []) := by
 have e : appD a g k b = (putsD (a + 1) (bodyL b) ++ [.flush]) ++ (putsD a [markL g k b] ++ [.flush]) := by
  unfold appD
  simp [putsD]
 rw [e, effM_append, flush_puts, flush_puts]
 rfl
theorem appS_out {a g k : Nat} {b : List Nat} {S : List (List Int)} (hb : okR b) (i : Nat) (hi : i < a ∨ a + takesN b.length ≤ i) : (appS a g k b S)[i]? = S[i]? := by
 have ht : takesN b.length = 1 + nck b.length := takesN_ok hb.1 hb.2
 unfold appS
 have hne : a ≠ i := by omega
 rw [List.getElem?_set_ne hne, setAll_out _ _ _ _ (by rw [bodyL_length]; omega)]
theorem appS_mark {a g k : Nat} {b : List Nat} {S : List (List Int)} (h : a < S.length) : (appS a g k b S)[a]? = some (markL g k b) := by
 unfold appS
 rw [List.getElem?_set_self (by rw [setAll_len]; exact h)]
theorem appS_body {a g k : Nat} {b : List Nat} {S : List (List Int)} (hb : okR b) (h : a + takesN b.length ≤ S.length) (i : Nat) (hi : i < nck b.length) : (appS a g k b S)[a + 1 + i]? = some (chunkL b i) := by
 have ht : takesN b.length = 1 + nck b.length := takesN_ok hb.1 hb.2
 unfold appS
 have hne : a ≠ a + 1 + i := by omega
 rw [List.getElem?_set_ne hne, setAll_in _ _ _ _ (by rw [bodyL_length]; exact hi) (by rw [bodyL_length]; omega), bodyL, List.getElem?_map, List.getElem?_range hi]
 rfl
theorem inD_app {n a g k : Nat} {b : List Nat} (hb : okR b) (h : a + takesN b.length ≤ n) : ∀ x ∈ appD a g k b, inD n x := by
 have ht : takesN b.length = 1 + nck b.length := takesN_ok hb.1 hb.2
 intro x hx
 unfold appD at hx
 rcases List.mem_append.1 hx with hx | hx
 ·exact inD_puts (by rw [bodyL_length]; omega) (bodyL_64 b) x hx
 ·simp only [List.mem_cons, List.not_mem_nil, or_false] at hx
  rcases hx with rfl | rfl | rfl
  ·trivial
  ·exact ⟨by omega, markL_length _ _ _⟩
  ·trivial
theorem textAt_snoc {L : List (List Nat)} {b : List Nat} {k : Nat} (hk : k < L.length) : textAt (L ++ [b]) k = textAt L k ∧ (L ++ [b]).take k = L.take k := by
 refine ⟨?_, List.take_append_of_le_length (by omega)⟩
 unfold textAt
 rw [List.getD_eq_getElem?_getD, List.getD_eq_getElem?_getD, List.getElem?_append_left hk]
theorem textAt_last (L : List (List Nat)) (b : List Nat) : textAt (L ++ [b]) L.length = b ∧ (L ++ [b]).take L.length = L := by
 refine ⟨?_, by simp⟩
 unfold textAt
 simp
theorem form_log {n : Nat} {d : Dk} {L : List (List Nat)} (hF : Fine n d) (hok : ∀ b ∈ L, okR b) (hby : ∀ b ∈ L, ∀ x ∈ b, x < 256) (hfit : sumT L ≤ n / 2) (hne : L ≠ []) :
 (runM d (formD (n / 2) L)).2 = 0 ∧ Fine n (runM d (formD (n / 2) L)).1 ∧ LogZ (runM d (formD (n / 2) L)).1 0 (n / 2) 1 L ∧ HeadNo (runM d (formD (n / 2) L)).1 (n / 2) := by
 have hn : n ≤ 4096 := by rw [← hF.2.1]; exact (rightB_of.1 hF.1).1
 have hp : 0 < L.length := List.length_pos_iff.2 hne
 have hge := sumT_ge hok
 have hlen := layD_length (o := 0) (g := 1) hok hfit
 have heff : effM (d.secs, []) (formD (n / 2) L) = (layS 0 (n / 2) 1 L (d.secs.set (n / 2) zsec), []) := by
  have e : effM (d.secs, []) (formD (n / 2) L) = effM (effM (d.secs.set (n / 2) zsec, []) (putsD 0 (List.replicate (n / 2) zsec) ++ [.flush])) (putsD (0 + 1) (logL 1 0 L).tail ++ [.flush, .put 0 (markL 1 0 (L.headD [])), .flush]) := by
   have e0 : formD (n / 2) L = (.put (n / 2) zsec :: (putsD 0 (List.replicate (n / 2) zsec) ++ [.flush])) ++ (putsD (0 + 1) (logL 1 0 L).tail ++ [.flush, .put 0 (markL 1 0 (L.headD [])), .flush]) := by
    unfold formD layD
    simp
   have e1 : effM (d.secs, []) (.put (n / 2) zsec :: (putsD 0 (List.replicate (n / 2) zsec) ++ [.flush])) = effM (d.secs.set (n / 2) zsec, []) (putsD 0 (List.replicate (n / 2) zsec) ++ [.flush]) := by
    rw [flush_puts, effM_cons, effM_append]
    show effM (effM (d.secs, [] ++ [(((n / 2 : Nat) : Int), zsec)]) _) [.flush] = _
    rw [effM_puts]
    show (doneM (fun _ => true) 0 d.secs ((((n / 2 : Nat) : Int), zsec) :: looseP 0 (List.replicate (n / 2) zsec)), []) = _
    unfold doneM
    rw [if_pos rfl, doneM_puts, Int.toNat_natCast]
   rw [e0, effM_append, e1]
  rw [e, flush_puts]
  have e2 : putsD (0 + 1) (logL 1 0 L).tail ++ [.flush, .put 0 (markL 1 0 (L.headD [])), .flush] = (putsD (0 + 1) (logL 1 0 L).tail ++ [.flush]) ++ (putsD 0 [markL 1 0 (L.headD [])] ++ [.flush]) := by simp [putsD]
  rw [e2, effM_append, flush_puts, flush_puts]
  rfl
 have hin : ∀ x ∈ formD (n / 2) L, inD n x := by
  intro x hx
  rcases List.mem_cons.1 hx with rfl | hx
  ·exact ⟨by omega, rfl⟩
  ·exact inD_lay hok hfit hne (by omega) x hx
 obtain ⟨h1, h2, h3⟩ := fine_run hF hin (by unfold formD; rw [List.length_cons]; omega) (by rw [heff])
 rw [heff] at h3
 have hS : 0 + n / 2 ≤ (d.secs.set (n / 2) zsec).length := by rw [List.length_set, hF.2.1]; omega
 have hsee : ∀ i s, (layS 0 (n / 2) 1 L (d.secs.set (n / 2) zsec))[i]? = some s → seen (runM d (formD (n / 2) L)).1 i = s := fun i s hs => by rw [seen_fine h2, h3]; exact getD_of hs
 have hll := logL_length 1 0 hok
 refine ⟨h1, h2, ⟨⟨hok, hby, hfit, by omega, by omega, fun k hk => ?_, ?_⟩, fun j hj1 hj2 => hsee _ _ (layS_zero hok hfit hne hS j hj1 hj2)⟩, ?_⟩
 ·obtain ⟨hm, hb⟩ := logL_mark 1 hok hk
  refine ⟨hsee _ _ ?_, fun i hi => hsee _ _ ?_⟩
  ·rw [layS_in hok hfit hne hS _ (List.getElem?_eq_some_iff.1 hm).1]; exact hm
  ·rw [show 0 + sumT (L.take k) + 1 + i = 0 + (sumT (L.take k) + 1 + i) by omega, layS_in hok hfit hne hS _ (List.getElem?_eq_some_iff.1 (hb i hi)).1]; exact hb i hi
 ·by_cases h : sumT L = n / 2
  ·exact .inl h
  ·exact .inr (hsee _ _ (layS_zero hok hfit hne hS _ (Nat.le_refl _) (by omega)))
 ·refine hsee _ _ ?_
  rw [layS_out hok hfit hne _ (by omega), List.getElem?_set_self (by rw [hF.2.1]; omega)]
end Go.Proofs.YtcdehejgnnnimaaGreatDoor
namespace Go.Proofs.YtcdehejgnnnimaaGreatDoor
set_option linter.unusedVariables false
set_option linter.unusedSimpArgs false
open Go.RowKit
def Rest (n : Nat) (d : Dk) : Prop := rightB d = true ∧ d.secs.length = n ∧ d.loose = [] ∧ d.down = false
theorem Fine.rest {n : Nat} {d : Dk} (h : Fine n d) : Rest n d := ⟨h.1, h.2.1, h.2.2.1, h.2.2.2.2⟩
theorem Rest.fine {n : Nat} {d : Dk} (h : Rest n d) (hf : d.fuse = -1) : Fine n d := ⟨h.1, h.2.1, h.2.2.1, hf, h.2.2.2⟩
theorem Rest.seen_ {n : Nat} {d : Dk} (hF : Rest n d) (a : Nat) : seen d a = d.secs.getD a [] := by
 unfold seen viewM
 rw [hF.2.2.1]
 rfl
theorem Rest.arm {n : Nat} {d : Dk} (h : Rest n d) {f : Int} (hf : fuseB f = true) : armM d f = ({ d with fuse := f }, 0) ∧ Rest n { d with fuse := f } := by
 have e : (rightB d && fuseB f) = true := by rw [h.1, hf]; rfl
 refine ⟨by unfold armM; rw [if_pos e], ?_, h.2.1, h.2.2.1, h.2.2.2⟩
 obtain ⟨h1, h2, h3, h4⟩ := rightB_of.1 h.1
 exact rightB_of.2 ⟨h1, h2, hf, h4⟩
def backS (m : Nat) (x : SL) : List (List Int) := doneM (bitM m) 0 x.1 x.2
theorem effM_len : ∀ (ds : List Deed) (x : SL), (effM x ds).1.length = x.1.length
 | [], _ => rfl
 | y :: r, x => by rw [effM_cons, effM_len r, effS_len]
theorem lay_fall {o size g : Nat} {L : List (List Nat)} {S : List (List Int)} (m : Nat) (hok : ∀ b ∈ L, okR b) (hfit : sumT L ≤ size) (hne : L ≠ []) (hS : o + size ≤ S.length) {ds1 ds2 : List Deed} (hds : layD o size g L = ds1 ++ ds2) :
 (∀ i, i < o ∨ o + size ≤ i → (backS m (effM (S, []) ds1))[i]? = S[i]?) ∧ ((backS m (effM (S, []) ds1))[o]? = S[o]? ∨ (backS m (effM (S, []) ds1))[o]? = some zsec ∨ backS m (effM (S, []) ds1) = layS o size g L S) := by
 have hll := logL_length g 0 hok
 have hp : 0 < (logL g 0 L).length := by rw [logL_cons g hne]; simp
 have hz : ∀ (i : Nat) (s : List Int), (List.replicate size zsec)[i]? = some s → s = zsec := fun i s h => by
  rw [List.getElem?_replicate] at h
  split at h
  ·exact (Option.some.inj h).symm
  ·cases h
 have hzt : ∀ (k i : Nat) (s : List Int), ((List.replicate size zsec).take k)[i]? = some s → s = zsec := fun k i s h => by
  rw [List.getElem?_take] at h
  split at h
  ·exact hz i s h
  ·cases h
 have ph1 : ∀ k, k ≤ size → (∀ i, i < o ∨ o + size ≤ i → (backS m (effM (S, []) (putsD o ((List.replicate size zsec).take k))))[i]? = S[i]?) ∧ ((backS m (effM (S, []) (putsD o ((List.replicate size zsec).take k))))[o]? = S[o]? ∨ (backS m (effM (S, []) (putsD o ((List.replicate size zsec).take k))))[o]? = some zsec) := fun k hk => by
  rw [effM_puts, List.nil_append]
  unfold backS
  refine ⟨fun i hi => ?_, ?_⟩
  ·rcases crash_puts (bitM m) ((List.replicate size zsec).take k) o S i with h | ⟨h1, h2, h3⟩
   ·exact h
   ·rw [List.length_take, List.length_replicate] at h2
    omega
  ·rcases crash_puts (bitM m) ((List.replicate size zsec).take k) o S o with h | ⟨h1, h2, h3⟩
   ·exact .inl h
   ·right
    show (doneM (bitM m) 0 S (looseP o ((List.replicate size zsec).take k)))[o]? = _
    rw [h3]
    rw [Nat.sub_self, List.getElem?_take] at *
    have hk0 : 0 < k := by rw [List.length_take, List.length_replicate] at h2; omega
    rw [if_pos hk0, List.getElem?_replicate, if_pos (by omega)]
 unfold layD at hds
 rcases puts_cut (List.replicate size zsec) o ds1 ds2 _ hds with ⟨k, hk, e⟩ | ⟨ds3, e, hr⟩
 ·subst e
  obtain ⟨p1, p2⟩ := ph1 k (by simpa using hk)
  exact ⟨p1, p2.imp id .inl⟩
 ·subst e
  cases ds3 with
  | nil =>
    have := ph1 size (Nat.le_refl _)
    rw [List.take_of_length_le (by simp)] at this
    rw [List.append_nil]
    exact ⟨this.1, this.2.imp id .inl⟩
  | cons y ds4 =>
    rw [List.cons_append] at hr
    injection hr with hy hr
    subst hy
    have e1 : effM (S, []) (putsD o (List.replicate size zsec) ++ .flush :: ds4) = effM (setAll o (List.replicate size zsec) S, []) ds4 := by
     rw [show putsD o (List.replicate size zsec) ++ Deed.flush :: ds4 = (putsD o (List.replicate size zsec) ++ [.flush]) ++ ds4 by simp, effM_append, flush_puts]
    rw [e1]
    have hS1 : ∀ i, i < o ∨ o + size ≤ i → (setAll o (List.replicate size zsec) S)[i]? = S[i]? := fun i hi => setAll_out _ _ _ _ (by rw [List.length_replicate]; omega)
    have hS1o : (setAll o (List.replicate size zsec) S)[o]? = some zsec := by
     have := setAll_in (List.replicate size zsec) o 0 S (by rw [List.length_replicate]; omega) (by rw [List.length_replicate]; omega)
     rw [Nat.add_zero] at this
     rw [this, List.getElem?_replicate, if_pos (by omega)]
    have hlt : (logL g 0 L).tail.length + 1 ≤ size := by rw [List.length_tail]; omega
    have ph2 : ∀ k, (∀ i, i < o ∨ o + size ≤ i → (backS m (effM (setAll o (List.replicate size zsec) S, []) (putsD (o + 1) ((logL g 0 L).tail.take k))))[i]? = S[i]?) ∧ (backS m (effM (setAll o (List.replicate size zsec) S, []) (putsD (o + 1) ((logL g 0 L).tail.take k))))[o]? = some zsec := fun k => by
     rw [effM_puts, List.nil_append]
     unfold backS
     refine ⟨fun i hi => ?_, ?_⟩
     ·rcases crash_puts (bitM m) ((logL g 0 L).tail.take k) (o + 1) (setAll o (List.replicate size zsec) S) i with h | ⟨h1, h2, h3⟩
      ·exact h.trans (hS1 i hi)
      ·rw [List.length_take] at h2
       omega
     ·rcases crash_puts (bitM m) ((logL g 0 L).tail.take k) (o + 1) (setAll o (List.replicate size zsec) S) o with h | ⟨h1, h2, h3⟩
      ·exact h.trans hS1o
      ·omega
    rcases puts_cut (logL g 0 L).tail (o + 1) ds4 ds2 _ hr with ⟨k, hk, e⟩ | ⟨ds5, e, hr2⟩
    ·subst e
     exact ⟨(ph2 k).1, .inr (.inl (ph2 k).2)⟩
    ·subst e
     have hfull := ph2 (logL g 0 L).tail.length
     rw [List.take_of_length_le (Nat.le_refl _)] at hfull
     have hS2 : ∀ i, i < o ∨ o + size ≤ i → (setAll (o + 1) (logL g 0 L).tail (setAll o (List.replicate size zsec) S))[i]? = S[i]? := fun i hi => (setAll_out _ _ _ _ (by omega)).trans (hS1 i hi)
     have hS2o : (setAll (o + 1) (logL g 0 L).tail (setAll o (List.replicate size zsec) S))[o]? = some zsec := (setAll_out _ _ _ _ (by omega)).trans hS1o
     have hlay : ∀ i, i < o ∨ o + size ≤ i → (layS o size g L S)[i]? = S[i]? := fun i hi => layS_out hok hfit hne i hi
     rcases ds5 with _ | ⟨y1, _ | ⟨y2, _ | ⟨y3, ds6⟩⟩⟩
     ·rw [List.append_nil]
      exact ⟨hfull.1, .inr (.inl hfull.2)⟩
     ·simp only [List.cons_append, List.nil_append, List.cons.injEq] at hr2
      obtain ⟨rfl, _⟩ := hr2
      rw [flush_puts]
      exact ⟨hS2, .inr (.inl hS2o)⟩
     ·simp only [List.cons_append, List.nil_append, List.cons.injEq] at hr2
      obtain ⟨rfl, rfl, _⟩ := hr2
      rw [show putsD (o + 1) (logL g 0 L).tail ++ [Deed.flush, Deed.put o (markL g 0 (L.headD []))] = (putsD (o + 1) (logL g 0 L).tail ++ [.flush]) ++ [Deed.put o (markL g 0 (L.headD []))] by simp, effM_append, flush_puts]
      show (∀ i, i < o ∨ o + size ≤ i → (doneM (bitM m) 0 (setAll (o + 1) (logL g 0 L).tail (setAll o (List.replicate size zsec) S)) [((o : Int), markL g 0 (L.headD []))])[i]? = S[i]?) ∧ ((doneM (bitM m) 0 (setAll (o + 1) (logL g 0 L).tail (setAll o (List.replicate size zsec) S)) [((o : Int), markL g 0 (L.headD []))])[o]? = S[o]? ∨ (doneM (bitM m) 0 (setAll (o + 1) (logL g 0 L).tail (setAll o (List.replicate size zsec) S)) [((o : Int), markL g 0 (L.headD []))])[o]? = some zsec ∨ doneM (bitM m) 0 (setAll (o + 1) (logL g 0 L).tail (setAll o (List.replicate size zsec) S)) [((o : Int), markL g 0 (L.headD []))] = layS o size g L S)
      by_cases hb : bitM m 0 = true
      ·have e : doneM (bitM m) 0 (setAll (o + 1) (logL g 0 L).tail (setAll o (List.replicate size zsec) S)) [((o : Int), markL g 0 (L.headD []))] = layS o size g L S := by
        unfold doneM
        rw [if_pos hb]
        rfl
       rw [e]
       exact ⟨hlay, .inr (.inr rfl)⟩
      ·have e : doneM (bitM m) 0 (setAll (o + 1) (logL g 0 L).tail (setAll o (List.replicate size zsec) S)) [((o : Int), markL g 0 (L.headD []))] = setAll (o + 1) (logL g 0 L).tail (setAll o (List.replicate size zsec) S) := by
        unfold doneM
        rw [if_neg hb]
        rfl
       rw [e]
       exact ⟨hS2, .inr (.inl hS2o)⟩
     ·simp only [List.cons_append, List.nil_append, List.cons.injEq] at hr2
      obtain ⟨rfl, rfl, rfl, hr3⟩ := hr2
      have hd6 : ds6 = [] := (List.append_eq_nil_iff.1 hr3.symm).1
      subst hd6
      rw [show putsD (o + 1) (logL g 0 L).tail ++ [Deed.flush, Deed.put o (markL g 0 (L.headD [])), Deed.flush] = (putsD (o + 1) (logL g 0 L).tail ++ [.flush]) ++ (putsD o [markL g 0 (L.headD [])] ++ [Deed.flush]) by simp [putsD], effM_append, flush_puts, flush_puts]
      exact ⟨hlay, .inr (.inr rfl)⟩
theorem app_fall {a g k : Nat} {b : List Nat} {S : List (List Int)} (m : Nat) (hb : okR b) {ds1 ds2 : List Deed} (hds : appD a g k b = ds1 ++ ds2) :
 (∀ i, i < a ∨ a + takesN b.length ≤ i → (backS m (effM (S, []) ds1))[i]? = S[i]?) ∧ ((backS m (effM (S, []) ds1))[a]? = S[a]? ∨ backS m (effM (S, []) ds1) = appS a g k b S) := by
 have ht : takesN b.length = 1 + nck b.length := takesN_ok hb.1 hb.2
 have hbl := bodyL_length b
 have ph : ∀ j, (∀ i, i < a ∨ a + takesN b.length ≤ i → (backS m (effM (S, []) (putsD (a + 1) ((bodyL b).take j))))[i]? = S[i]?) ∧ (backS m (effM (S, []) (putsD (a + 1) ((bodyL b).take j))))[a]? = S[a]? := fun j => by
  rw [effM_puts, List.nil_append]
  unfold backS
  have : ∀ i, i ≤ a ∨ a + takesN b.length ≤ i → (doneM (bitM m) 0 S (looseP (a + 1) ((bodyL b).take j)))[i]? = S[i]? := fun i hi => by
   rcases crash_puts (bitM m) ((bodyL b).take j) (a + 1) S i with h | ⟨h1, h2, h3⟩
   ·exact h
   ·rw [List.length_take] at h2
    omega
  exact ⟨fun i hi => this i (by omega), this a (by omega)⟩
 have hS2 : ∀ i, i ≤ a ∨ a + takesN b.length ≤ i → (setAll (a + 1) (bodyL b) S)[i]? = S[i]? := fun i hi => setAll_out _ _ _ _ (by omega)
 have happ : ∀ i, i < a ∨ a + takesN b.length ≤ i → (appS a g k b S)[i]? = S[i]? := fun i hi => appS_out hb i hi
 unfold appD at hds
 rcases puts_cut (bodyL b) (a + 1) ds1 ds2 _ hds with ⟨j, hj, e⟩ | ⟨ds5, e, hr2⟩
 ·subst e
  exact ⟨(ph j).1, .inl (ph j).2⟩
 ·subst e
  have hfull := ph (bodyL b).length
  rw [List.take_of_length_le (Nat.le_refl _)] at hfull
  rcases ds5 with _ | ⟨y1, _ | ⟨y2, _ | ⟨y3, ds6⟩⟩⟩
  ·rw [List.append_nil]
   exact ⟨hfull.1, .inl hfull.2⟩
  ·simp only [List.cons_append, List.nil_append, List.cons.injEq] at hr2
   obtain ⟨rfl, _⟩ := hr2
   rw [flush_puts]
   exact ⟨fun i hi => hS2 i (by omega), .inl (hS2 a (by omega))⟩
  ·simp only [List.cons_append, List.nil_append, List.cons.injEq] at hr2
   obtain ⟨rfl, rfl, _⟩ := hr2
   rw [show putsD (a + 1) (bodyL b) ++ [Deed.flush, Deed.put a (markL g k b)] = (putsD (a + 1) (bodyL b) ++ [.flush]) ++ [Deed.put a (markL g k b)] by simp, effM_append, flush_puts]
   show (∀ i, i < a ∨ a + takesN b.length ≤ i → (doneM (bitM m) 0 (setAll (a + 1) (bodyL b) S) [((a : Int), markL g k b)])[i]? = S[i]?) ∧ ((doneM (bitM m) 0 (setAll (a + 1) (bodyL b) S) [((a : Int), markL g k b)])[a]? = S[a]? ∨ doneM (bitM m) 0 (setAll (a + 1) (bodyL b) S) [((a : Int), markL g k b)] = appS a g k b S)
   by_cases hb : bitM m 0 = true
   ·have e : doneM (bitM m) 0 (setAll (a + 1) (bodyL b) S) [((a : Int), markL g k b)] = appS a g k b S := by
     unfold doneM
     rw [if_pos hb]
     rfl
    rw [e]
    exact ⟨happ, .inr rfl⟩
   ·have e : doneM (bitM m) 0 (setAll (a + 1) (bodyL b) S) [((a : Int), markL g k b)] = setAll (a + 1) (bodyL b) S := by
     unfold doneM
     rw [if_neg hb]
     rfl
    rw [e]
    exact ⟨fun i hi => hS2 i (by omega), .inl (hS2 a (by omega))⟩
  ·simp only [List.cons_append, List.nil_append, List.cons.injEq] at hr2
   obtain ⟨rfl, rfl, rfl, hr3⟩ := hr2
   have hd6 : ds6 = [] := (List.append_eq_nil_iff.1 hr3.symm).1
   subst hd6
   rw [show putsD (a + 1) (bodyL b) ++ [Deed.flush, Deed.put a (markL g k b), Deed.flush] = (putsD (a + 1) (bodyL b) ++ [.flush]) ++ (putsD a [markL g k b] ++ [Deed.flush]) by simp [putsD], effM_append, flush_puts, flush_puts]
   exact ⟨happ, .inr rfl⟩
theorem Log.congr {d d' : Dk} {o size g : Nat} {L : List (List Nat)} (h : Log d o size g L) (he : ∀ i, o ≤ i → i < o + size → seen d' i = seen d i) : Log d' o size g L := by
 obtain ⟨k1, k2, k3, k4, k5, k6, k7⟩ := h
 refine ⟨k1, k2, k3, k4, k5, fun k hk => ?_, ?_⟩
 ·obtain ⟨m1, m2⟩ := k6 k hk
  have hokk := k1 _ (textAt_mem hk)
  have htk : takesN (textAt L k).length = 1 + nck (textAt L k).length := takesN_ok hokk.1 hokk.2
  have hle : sumT (L.take k) + takesN (textAt L k).length ≤ sumT L := by
   have e : sumT L = sumT (L.take (k + 1)) + sumT (L.drop (k + 1)) := by rw [← sumT_append, List.take_append_drop]
   rw [take_text hk, sumT_snoc] at e
   omega
  refine ⟨by rw [he _ (by omega) (by omega)]; exact m1, fun i hi => by rw [he _ (by omega) (by omega)]; exact m2 i hi⟩
 ·rcases k7 with h | h
  ·exact .inl h
  ·by_cases hs : sumT L = size
   ·exact .inl hs
   ·exact .inr (by rw [he _ (by omega) (by omega)]; exact h)
theorem LogZ.congr {d d' : Dk} {o size g : Nat} {L : List (List Nat)} (h : LogZ d o size g L) (he : ∀ i, o ≤ i → i < o + size → seen d' i = seen d i) : LogZ d' o size g L :=
 ⟨h.1.congr he, fun j h1 h2 => by rw [he _ (by omega) (by omega)]; exact h.2 j h1 h2⟩
theorem GenIs.congr {d d' : Dk} {o size G : Nat} (h : GenIs d o size G) (he : seen d' o = seen d o) : GenIs d' o size G := by
 rcases h with ⟨h1, h2⟩ | ⟨n, s, h⟩
 ·exact .inl ⟨h1, he.trans h2⟩
 ·exact .inr ⟨n, s, by rw [he]; exact h⟩
theorem layS_log {n o size g : Nat} {d d' : Dk} {L : List (List Nat)} (hF : Rest n d) (hF' : Rest n d') (hs : d'.secs = layS o size g L d.secs) (hok : ∀ b ∈ L, okR b) (hby : ∀ b ∈ L, ∀ x ∈ b, x < 256) (hfit : sumT L ≤ size) (hne : L ≠ []) (ho : o + size ≤ n) (hg1 : 1 ≤ g) (hg2 : g ≤ 1099511627776) :
 LogZ d' o size g L ∧ ∀ i, i < o ∨ o + size ≤ i → seen d' i = seen d i := by
 have hS : o + size ≤ d.secs.length := by rw [hF.2.1]; exact ho
 have hsee : ∀ i s, (layS o size g L d.secs)[i]? = some s → seen d' i = s := fun i s h => by rw [hF'.seen_, hs]; exact getD_of h
 have hll := logL_length g 0 hok
 refine ⟨⟨⟨hok, hby, hfit, hg1, hg2, fun k hk => ?_, ?_⟩, fun j hj1 hj2 => hsee _ _ (layS_zero hok hfit hne hS j hj1 hj2)⟩, fun i hi => ?_⟩
 ·obtain ⟨hm, hb⟩ := logL_mark g hok hk
  refine ⟨hsee _ _ ?_, fun i hi => hsee _ _ ?_⟩
  ·rw [layS_in hok hfit hne hS _ (List.getElem?_eq_some_iff.1 hm).1]; exact hm
  ·rw [show o + sumT (L.take k) + 1 + i = o + (sumT (L.take k) + 1 + i) by omega, layS_in hok hfit hne hS _ (List.getElem?_eq_some_iff.1 (hb i hi)).1]; exact hb i hi
 ·by_cases h : sumT L = size
  ·exact .inl h
  ·exact .inr (hsee _ _ (layS_zero hok hfit hne hS _ (Nat.le_refl _) (by omega)))
 ·rw [hF'.seen_, hF.seen_, hs, List.getD_eq_getElem?_getD, List.getD_eq_getElem?_getD, layS_out hok hfit hne i hi]
theorem appS_log {n o size g : Nat} {d d' : Dk} {L : List (List Nat)} {b : List Nat} (hF : Rest n d) (hF' : Rest n d') (hL : LogZ d o size g L) (hs : d'.secs = appS (o + sumT L) g L.length b d.secs) (hb : okR b) (hbb : ∀ x ∈ b, x < 256) (hfit : sumT L + takesN b.length ≤ size) (ho : o + size ≤ n) :
 LogZ d' o size g (L ++ [b]) ∧ ∀ i, i < o ∨ o + size ≤ i → seen d' i = seen d i := by
 have ht : takesN b.length = 1 + nck b.length := takesN_ok hb.1 hb.2
 have hS : o + size ≤ d.secs.length := by rw [hF.2.1]; exact ho
 have hsee : ∀ i s, (appS (o + sumT L) g L.length b d.secs)[i]? = some s → seen d' i = s := fun i s h => by rw [hF'.seen_, hs]; exact getD_of h
 have hold : ∀ i, i < o + sumT L ∨ o + sumT L + takesN b.length ≤ i → seen d' i = seen d i := fun i hi => by
  rw [hF'.seen_, hF.seen_, hs, List.getD_eq_getElem?_getD, List.getD_eq_getElem?_getD, appS_out hb i hi]
 obtain ⟨⟨k1, k2, k3, k4, k5, k6, k7⟩, k8⟩ := hL
 have hle : ∀ k, k < L.length → sumT (L.take k) + takesN (textAt L k).length ≤ sumT L := fun k hk => by
  have e : sumT L = sumT (L.take (k + 1)) + sumT (L.drop (k + 1)) := by rw [← sumT_append, List.take_append_drop]
  rw [take_text hk, sumT_snoc] at e
  omega
 refine ⟨⟨⟨?_, ?_, ?_, k4, k5, ?_, ?_⟩, ?_⟩, fun i hi => hold i (by omega)⟩
 ·intro x hx
  rcases List.mem_append.1 hx with h | h
  ·exact k1 x h
  ·rw [List.mem_singleton.1 h]; exact hb
 ·intro x hx
  rcases List.mem_append.1 hx with h | h
  ·exact k2 x h
  ·rw [List.mem_singleton.1 h]; exact hbb
 ·rw [sumT_snoc]; exact hfit
 ·intro k hk
  rw [List.length_append, List.length_singleton] at hk
  by_cases hkl : k < L.length
  ·obtain ⟨e1, e2⟩ := textAt_snoc (b := b) hkl
   rw [e1, e2]
   obtain ⟨m1, m2⟩ := k6 k hkl
   have h5 := hle k hkl
   have hokk := k1 _ (textAt_mem hkl)
   have htk : takesN (textAt L k).length = 1 + nck (textAt L k).length := takesN_ok hokk.1 hokk.2
   refine ⟨by rw [hold _ (by omega)]; exact m1, fun i hi => by rw [hold _ (by omega)]; exact m2 i hi⟩
  ·obtain rfl : k = L.length := by omega
   obtain ⟨e1, e2⟩ := textAt_last L b
   rw [e1, e2]
   refine ⟨hsee _ _ (appS_mark (by omega)), fun i hi => hsee _ _ (appS_body hb (by omega) i hi)⟩
 ·rw [sumT_snoc]
  by_cases h : sumT L + takesN b.length = size
  ·exact .inl h
  ·right
   rw [hold _ (by omega)]
   exact k8 _ (by omega) (by omega)
 ·intro j hj1 hj2
  rw [sumT_snoc] at hj1
  rw [hold _ (by omega)]
  exact k8 j (by omega) hj2
def Holds (n : Nat) (d : Dk) (h g : Nat) (L : List (List Nat)) : Prop :=
 h ≤ 1 ∧ L ≠ [] ∧ Log d (h * (n / 2)) (n / 2) g L ∧ ∃ G, G < g ∧ GenIs d ((1 - h) * (n / 2)) (n / 2) G
def HoldsZ (n : Nat) (d : Dk) (h g : Nat) (L : List (List Nat)) : Prop :=
 h ≤ 1 ∧ L ≠ [] ∧ LogZ d (h * (n / 2)) (n / 2) g L ∧ ∃ G, G < g ∧ GenIs d ((1 - h) * (n / 2)) (n / 2) G
theorem HoldsZ.holds {n : Nat} {d : Dk} {h g : Nat} {L : List (List Nat)} (H : HoldsZ n d h g L) : Holds n d h g L := ⟨H.1, H.2.1, H.2.2.1.1, H.2.2.2⟩
theorem Holds.fuse {n : Nat} {d : Dk} {h g : Nat} {L : List (List Nat)} (H : Holds n d h g L) (f : Int) : Holds n { d with fuse := f } h g L := H
theorem HoldsZ.fuse {n : Nat} {d : Dk} {h g : Nat} {L : List (List Nat)} (H : HoldsZ n d h g L) (f : Int) : HoldsZ n { d with fuse := f } h g L := H
theorem halves {n h : Nat} (hh : h ≤ 1) : (h = 0 ∧ h * (n / 2) = 0 ∧ (1 - h) * (n / 2) = n / 2) ∨ (h = 1 ∧ h * (n / 2) = n / 2 ∧ (1 - h) * (n / 2) = 0) := by
 have : h = 0 ∨ h = 1 := by omega
 rcases this with rfl | rfl
 ·exact .inl ⟨rfl, by omega, by omega⟩
 ·exact .inr ⟨rfl, by omega, by omega⟩
theorem Holds.lay {n : Nat} {d d' : Dk} {h g : Nat} {L L' : List (List Nat)} (hF : Rest n d) (hF' : Rest n d') (H : Holds n d h g L) (hs : d'.secs = layS ((1 - h) * (n / 2)) (n / 2) (g + 1) L' d.secs) (hok : ∀ b ∈ L', okR b) (hby : ∀ b ∈ L', ∀ x ∈ b, x < 256) (hfit : sumT L' ≤ n / 2) (hne : L' ≠ []) (hg : g < 1099511627776) : HoldsZ n d' (1 - h) (g + 1) L' := by
 obtain ⟨h1, h2, h3, h4⟩ := H
 obtain ⟨p1, p2⟩ := layS_log hF hF' hs hok hby hfit hne (by rcases halves (n := n) h1 with ⟨a, b, c⟩ | ⟨a, b, c⟩ <;> omega) (by omega) (by omega)
 refine ⟨by omega, hne, p1, g, by omega, ?_⟩
 have hp : 0 < L.length := List.length_pos_iff.2 h2
 have hgt := sumT_ge h3.1
 have hle := h3.2.2.1
 rw [show 1 - (1 - h) = h by omega]
 obtain ⟨n1, s1, e⟩ := h3.head h2
 refine .inr ⟨n1, s1, ?_⟩
 rw [p2 _ (by rcases halves (n := n) h1 with ⟨a, b, c⟩ | ⟨a, b, c⟩ <;> omega)]
 exact e
theorem Holds.lay_back {n : Nat} {d d' : Dk} {h g : Nat} {L L' : List (List Nat)} (m : Nat) (hF : Rest n d) (hF' : Rest n d') (H : Holds n d h g L) {ds1 ds2 : List Deed} (hds : layD ((1 - h) * (n / 2)) (n / 2) (g + 1) L' = ds1 ++ ds2) (hs : d'.secs = backS m (effM (d.secs, []) ds1)) (hok : ∀ b ∈ L', okR b) (hby : ∀ b ∈ L', ∀ x ∈ b, x < 256) (hfit : sumT L' ≤ n / 2) (hne : L' ≠ []) (hg : g < 1099511627776) :
 Holds n d' h g L ∨ Holds n d' (1 - h) (g + 1) L' := by
 have h1 := H.1
 obtain ⟨p1, p2⟩ := lay_fall (S := d.secs) m hok hfit hne (by rw [hF.2.1]; rcases halves (n := n) h1 with ⟨a, b, c⟩ | ⟨a, b, c⟩ <;> omega) hds
 rw [← hs] at p1 p2
 have hsee : ∀ i, i < (1 - h) * (n / 2) ∨ (1 - h) * (n / 2) + n / 2 ≤ i → seen d' i = seen d i := fun i hi => by
  rw [hF'.seen_, hF.seen_, List.getD_eq_getElem?_getD, List.getD_eq_getElem?_getD, p1 i hi]
 have hown : ∀ i, h * (n / 2) ≤ i → i < h * (n / 2) + n / 2 → seen d' i = seen d i := fun i ha hb => hsee i (by rcases halves (n := n) h1 with ⟨a, b, c⟩ | ⟨a, b, c⟩ <;> omega)
 rcases p2 with p2 | p2 | p2
 ·left
  obtain ⟨_, h2, h3, G, h4, h5⟩ := H
  exact ⟨h1, h2, h3.congr hown, G, h4, h5.congr (by rw [hF'.seen_, hF.seen_, List.getD_eq_getElem?_getD, List.getD_eq_getElem?_getD, p2])⟩
 ·left
  obtain ⟨_, h2, h3, G, h4, h5⟩ := H
  exact ⟨h1, h2, h3.congr hown, 0, by omega, .inl ⟨rfl, by unfold HeadNo; rw [hF'.seen_]; exact getD_of p2⟩⟩
 ·exact .inr (Holds.lay hF hF' H p2 hok hby hfit hne hg).holds
theorem HoldsZ.app {n : Nat} {d d' : Dk} {h g : Nat} {L : List (List Nat)} {b : List Nat} (hF : Rest n d) (hF' : Rest n d') (H : HoldsZ n d h g L) (hs : d'.secs = appS (h * (n / 2) + sumT L) g L.length b d.secs) (hb : okR b) (hbb : ∀ x ∈ b, x < 256) (hfit : sumT L + takesN b.length ≤ n / 2) : HoldsZ n d' h g (L ++ [b]) := by
 obtain ⟨h1, h2, h3, G, h4, h5⟩ := H
 obtain ⟨p1, p2⟩ := appS_log hF hF' h3 hs hb hbb hfit (by rcases halves (n := n) h1 with ⟨a, b, c⟩ | ⟨a, b, c⟩ <;> omega)
 have hpos := (takesN_pos (n := b.length)).2 ⟨hb.1, hb.2⟩
 exact ⟨h1, by simp, p1, G, h4, h5.congr (p2 _ (by rcases halves (n := n) h1 with ⟨a, b, c⟩ | ⟨a, b, c⟩ <;> omega))⟩
theorem HoldsZ.app_back {n : Nat} {d d' : Dk} {h g : Nat} {L : List (List Nat)} {b : List Nat} (m : Nat) (hF : Rest n d) (hF' : Rest n d') (H : HoldsZ n d h g L) {ds1 ds2 : List Deed} (hds : appD (h * (n / 2) + sumT L) g L.length b = ds1 ++ ds2) (hs : d'.secs = backS m (effM (d.secs, []) ds1)) (hb : okR b) (hbb : ∀ x ∈ b, x < 256) (hfit : sumT L + takesN b.length ≤ n / 2) :
 Holds n d' h g L ∨ Holds n d' h g (L ++ [b]) := by
 have h1 := H.1
 have hpos := (takesN_pos (n := b.length)).2 ⟨hb.1, hb.2⟩
 obtain ⟨p1, p2⟩ := app_fall (S := d.secs) m hb hds
 rw [← hs] at p1 p2
 rcases p2 with p2 | p2
 ·left
  obtain ⟨_, h2, h3, G, h4, h5⟩ := H
  have hsee : ∀ i, i ≤ h * (n / 2) + sumT L ∨ h * (n / 2) + sumT L + takesN b.length ≤ i → seen d' i = seen d i := fun i hi => by
   rw [hF'.seen_, hF.seen_, List.getD_eq_getElem?_getD, List.getD_eq_getElem?_getD]
   by_cases e : i = h * (n / 2) + sumT L
   ·rw [e, p2]
   ·rw [p1 i (by omega)]
  have hlog : Log d' (h * (n / 2)) (n / 2) g L := by
   obtain ⟨k1, k2, k3, k4, k5, k6, k7⟩ := h3.1
   refine ⟨k1, k2, k3, k4, k5, fun k hk => ?_, ?_⟩
   ·obtain ⟨m1, m2⟩ := k6 k hk
    have hokk := k1 _ (textAt_mem hk)
    have htk : takesN (textAt L k).length = 1 + nck (textAt L k).length := takesN_ok hokk.1 hokk.2
    have hle : sumT (L.take k) + takesN (textAt L k).length ≤ sumT L := by
     have e : sumT L = sumT (L.take (k + 1)) + sumT (L.drop (k + 1)) := by rw [← sumT_append, List.take_append_drop]
     rw [take_text hk, sumT_snoc] at e
     omega
    refine ⟨by rw [hsee _ (by omega)]; exact m1, fun i hi => by rw [hsee _ (by omega)]; exact m2 i hi⟩
   ·rcases k7 with h | h
    ·exact .inl h
    ·exact .inr (by rw [hsee _ (by omega)]; exact h)
  exact ⟨h1, h2, hlog, G, h4, h5.congr (hsee _ (by rcases halves (n := n) h1 with ⟨a, b, c⟩ | ⟨a, b, c⟩ <;> omega))⟩
 ·exact .inr (HoldsZ.app hF hF' H p2 hb hbb hfit).holds
theorem start_rest {n : Nat} {d : Dk} (hr : rightB d = true) (hl : d.secs.length = n) (m : Nat) : startM d m = (⟨doneM (bitM m) 0 d.secs d.loose, [], -1, false⟩, 0) ∧ Fine n ⟨doneM (bitM m) 0 d.secs d.loose, [], -1, false⟩ := by
 have hlen : (doneM (bitM m) 0 d.secs d.loose).length = n := (doneM_len _ _ _ _).trans hl
 refine ⟨by unfold startM; rw [if_pos hr], rightB_of.2 ⟨?_, by simp, (by decide : fuseB (-1) = true), by simp [looseB]⟩, hlen, rfl, rfl, rfl⟩
 rw [hlen, ← hl]
 exact (rightB_of.1 hr).1
theorem rest_run {n : Nat} {d : Dk} {ds : List Deed} (hF : Rest n d) (hin : ∀ x ∈ ds, inD n x) (hl : ds.length ≤ 100000) (he : (effM (d.secs, []) ds).2 = []) :
 ((runM d ds).2 = 0 ∧ Rest n (runM d ds).1 ∧ (runM d ds).1.secs = (effM (d.secs, []) ds).1 ∧ (d.fuse = -1 → (runM d ds).1.fuse = -1)) ∨
 ((runM d ds).2 = 9 ∧ d.fuse ≠ -1 ∧ rightB (runM d ds).1 = true ∧ (runM d ds).1.secs.length = n ∧ ∀ m, ∃ ds1 ds2, ds = ds1 ++ ds2 ∧ (startM (runM d ds).1 m).1.secs = backS m (effM (d.secs, []) ds1)) := by
 obtain ⟨h1, h2, h3, h4⟩ := hF
 rcases run_cases ds d h1 h4 (by rw [h2]; exact hin) (by rw [h3]; simpa using hl) with ⟨f, e, hr, hf⟩ | ⟨hne, ds1, ds2, hds, _, e, hr⟩
 ·left
  rw [h3, he] at e
  have hl2 : (effM (d.secs, []) ds).1.length = n := (effM_len ds (d.secs, [])).trans h2
  refine ⟨by rw [e], ⟨hr, by rw [e]; exact hl2, by rw [e], by rw [e]⟩, by rw [e], fun h => by rw [e]; exact hf h⟩
 ·right
  rw [h3] at e
  have hl2 : (effM (d.secs, []) ds1).1.length = n := (effM_len ds1 (d.secs, [])).trans h2
  refine ⟨by rw [e], hne, hr, by rw [e]; exact hl2, fun m => ⟨ds1, ds2, hds, ?_⟩⟩
  unfold startM
  rw [if_pos hr, e]
  rfl
end Go.Proofs.YtcdehejgnnnimaaGreatDoor
