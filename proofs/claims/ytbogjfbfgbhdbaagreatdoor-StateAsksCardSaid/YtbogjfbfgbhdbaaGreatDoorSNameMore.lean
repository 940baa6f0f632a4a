/-
  A part of the proof: see the last text.
-/
import Derived.Test.YtbogjfbfgbhdbaaGreatDoorSNameRefC
import Derived.Laws.OwnMore
import Derived.Test.YtbogjfbfgbhdbaaGreatDoorSUidsB
import Derived.Test.YtbogjfbfgbhdbaaGreatDoorSAppK
import Derived.Test.YtbogjfbfgbhdbaaGreatDoorSBytesOwn
import Derived.Test.YtbogjfbfgbhdbaaGreatDoorSBoxF
import Derived.Deep.QuietTactic
import Derived.BigQuiet
import Derived.Test.YtbogjfbfgbhdbaaGreatDoorSBoxE2
import Derived.Lib.SliceRun
namespace Go.Proofs.YtbogjfbfgbhdbaaGreatDoor
set_option linter.unusedVariables false
set_option linter.unusedSimpArgs false
end Go.Proofs.YtbogjfbfgbhdbaaGreatDoor
namespace Go.Proofs.YtbogjfbfgbhdbaaGreatDoor
set_option linter.unusedVariables false
set_option linter.unusedSimpArgs false
open Go.RowKit
set_option linter.unusedVariables false
set_option linter.unusedSimpArgs false
theorem cut_inbox {s p : ByteArray} (h : CutIs s p) : inboxB (nats s) = sameB (nats p) inboxL := by
  rcases h with ⟨rfl, h⟩ | ⟨q, h1, h2⟩
  · exact inbox_none h
  · exact inbox_hit h1 h2
theorem cut_size {s p : ByteArray} (h : CutIs s p) : p.size ≤ s.size := by
  rcases h with ⟨rfl, h⟩ | ⟨q, h1, h2⟩
  · exact Nat.le_refl _
  · have := congrArg List.length h1
    rw [List.length_append, List.length_cons, nats_length, nats_length, nats_length] at this
    omega
theorem inboxB_len {l : List Nat} (h : inboxB l = true) : 5 ≤ l.length := by
  have := congrArg List.length (of_decide_eq_true h).1
  rw [List.length_map, List.length_take] at this
  have h5 : inboxL.length = 5 := rfl
  omega
set_option maxRecDepth 20000 in
set_option maxHeartbeats 4000000 in
theorem nmClean_any (s : ByteArray) (hs : s.size ≤ 140737488355328) (w : World) : Calls Tryz.prog 192 #[.string s] w fun e w' => e = .returned (.tuple #[.string (strOf (cleanV (nats s))), .int .i64 (cleanE (nats s))]) ∧ Below w.heap.size w w' := by
  have HN := Lib.hid (nats_length s)
  have CF : Hid (∀ W, Calls Tryz.prog 235 #[.string s] W fun e w' => e = .returned (.bool (formB (nats s))) ∧ Below W.heap.size W w') := Lib.hid fun W => nmisName_any s hs W
  cases hf : formB (nats s)
  · have HV : Hid (strOf (cleanV (nats s)) = ⟨#[]⟩) := Lib.hid (by unfold cleanV; rw [hf, if_neg Bool.false_ne_true]; rfl)
    have HE : Hid (cleanE (nats s) = 3) := Lib.hid (by unfold cleanE; rw [hf, if_neg Bool.false_ne_true])
    rw [hf] at CF
    clear hf
    go_enter Tryz.func192, Tryz.ntmps192
    go_wp2_with fail
    refine (CF.out _).mono ?_
    rintro e w1 ⟨rfl, hb⟩
    have HB := Lib.hid hb
    clear hb
    go_wp2_with fail
    go_ret2
    exact ⟨by rw [HV.out, HE.out] <;> rfl, HB.out⟩
  · have HE : Hid (cleanE (nats s) = 0) := Lib.hid (by unfold cleanE; rw [hf, if_pos rfl])
    have HF := Lib.hid hf
    rw [hf] at CF
    clear hf
    have CC : Hid (∀ W, Calls Tryz.prog 236 #[.string s, .string ⟨#[47]⟩] W fun e w' => ∃ p q b, e = .returned (.tuple #[.string p, .string q, .bool b]) ∧ CutIs s p ∧ ∃ n, w' = W.drewN n) := Lib.hid fun W => sCut_any s hs W
    go_enter Tryz.func192, Tryz.ntmps192
    go_wp2_with fail
    refine (CF.out _).mono ?_
    rintro e w1 ⟨rfl, hb⟩
    have HB := Lib.hid hb
    clear hb CF
    go_wp2_with fail
    refine (CC.out _).mono ?_
    rintro e w2 ⟨p, q, b, rfl, hcut, n2, hw2⟩
    have HB2 : Hid (Below w.heap.size w w2) := Lib.hid (by rw [hw2]; exact below_drewN HB.out n2)
    have HI := Lib.hid (cut_inbox hcut)
    have hps : p.size ≤ 140737488355328 := Nat.le_trans (cut_size hcut) hs
    have CS : Hid (∀ W, Calls Tryz.prog 237 #[.string p, .string ⟨#[73, 78, 66, 79, 88]⟩] W fun e w' => e = .returned (.bool (sameB (nats p) inboxL)) ∧ ∃ n, w' = W.drewN n) := Lib.hid fun W => same_letters p ⟨#[73, 78, 66, 79, 88]⟩ hps (by decide) W
    rw [← HI.out] at CS
    clear hcut hw2 CC
    cases hi : inboxB (nats s)
    · have HV : Hid (strOf (cleanV (nats s)) = s) := Lib.hid (cleanV_same HF.out hi)
      rw [hi] at CS
      clear hi
      go_wp2_with fail
      refine (CS.out _).mono ?_
      rintro e w3 ⟨rfl, n3, hw3⟩
      have HB3 : Hid (Below w.heap.size w w3) := Lib.hid (by rw [hw3]; exact below_drewN HB2.out n3)
      clear hw3
      go_wp2_with fail
      go_ret2
      exact ⟨by rw [HV.out, HE.out] <;> rfl, HB3.out⟩
    · have h5 : 5 ≤ s.size := by have := inboxB_len hi; rwa [HN.out] at this
      have h40 : s.size ≤ 40 := by have := (of_decide_eq_true HF.out).2.1; rw [HN.out] at this; exact this
      have HV : Hid (cleanV (nats s) = inboxL ++ (nats s).drop 5) := Lib.hid (by unfold cleanV cleanN; rw [if_pos HF.out, if_pos hi])
      have ka : ∀ W, (Op.stringOp .add ⟨#[73, 78, 66, 79, 88]⟩ (s.extract 5 s.size)).run Tryz.prog W = .ok (.string (strOf (inboxL ++ (nats s).drop 5))) W := fun W => add_str _ _ inboxL ((nats s).drop 5) inboxNm (by
          refine nats_inj ?_
          rw [nats_strOf _ (fun x hx => nats_lt s x (List.mem_of_mem_drop hx)), nats_extract]
          exact List.take_of_length_le (by rw [List.length_drop, HN.out]; omega)) (by rw [List.length_drop, HN.out]; show 5 + _ ≤ _; omega) W
      have h5' : (5 : Int) ≤ (s.size : Int) := by omega
      rw [hi] at CS
      clear hi
      go_wp2_with fail
      refine (CS.out _).mono ?_
      rintro e w3 ⟨rfl, n3, hw3⟩
      have HB3 : Hid (Below w.heap.size w w3) := Lib.hid (by rw [hw3]; exact below_drewN HB2.out n3)
      clear hw3
      go_wp2_with fail
      go_ret2
      exact ⟨by rw [HV.out, HE.out] <;> rfl, HB3.out⟩
set_option maxRecDepth 20000 in
set_option maxHeartbeats 2000000 in
theorem nmRight_any (s : ByteArray) (hs : s.size ≤ 140737488355328) (w : World) : Calls Tryz.prog 118 #[.string s] w fun e w' => e = .returned (.bool (rightN (nats s))) ∧ Below w.heap.size w w' := by
  have CC : Hid (∀ W, Calls Tryz.prog 192 #[.string s] W fun e w' => e = .returned (.tuple #[.string (strOf (cleanV (nats s))), .int .i64 (cleanE (nats s))]) ∧ Below W.heap.size W w') := Lib.hid fun W => nmClean_any s hs W
  cases hf : formB (nats s)
  · have HR : Hid (rightN (nats s) = false) := Lib.hid (right_form hf)
    have he : cleanE (nats s) = 3 := by unfold cleanE; rw [hf, if_neg Bool.false_ne_true]
    rw [he] at CC
    clear hf he
    go_enter Tryz.func118, Tryz.ntmps118
    go_wp2_with fail
    refine (CC.out _).mono ?_
    rintro e w1 ⟨rfl, hb⟩
    have HB := Lib.hid hb
    clear hb
    go_wp2_with fail
    go_ret
    exact ⟨by rw [HR.out] <;> rfl, HB.out⟩
  · have he : cleanE (nats s) = 0 := by unfold cleanE; rw [hf, if_pos rfl]
    rw [he] at CC
    by_cases hq : strOf (cleanV (nats s)) = s
    · have HR : Hid (rightN (nats s) = true) := Lib.hid ((right_eq hf).trans (decide_eq_true hq))
      rw [hq] at CC
      have hss : (s.toList == s.toList) = true := by simp
      clear hf he hq
      go_enter Tryz.func118, Tryz.ntmps118
      go_wp2_with fail
      refine (CC.out _).mono ?_
      rintro e w1 ⟨rfl, hb⟩
      have HB := Lib.hid hb
      clear hb
      go_wp2_with fail
      go_ret
      exact ⟨by rw [HR.out] <;> rfl, HB.out⟩
    · have HR : Hid (rightN (nats s) = false) := Lib.hid ((right_eq hf).trans (decide_eq_false hq))
      have hss : ((strOf (cleanV (nats s))).toList == s.toList) = false := by
        rw [beq_eq_false_iff_ne]
        intro e
        rw [ByteArray.toList_eq, ByteArray.toList_eq] at e
        exact hq (data_inj e)
      obtain ⟨t, ht⟩ : ∃ t, strOf (cleanV (nats s)) = t := ⟨_, rfl⟩
      rw [ht] at CC hss
      clear hf he hq ht
      go_enter Tryz.func118, Tryz.ntmps118
      go_wp2_with fail
      refine (CC.out _).mono ?_
      rintro e w1 ⟨rfl, hb⟩
      have HB := Lib.hid hb
      clear hb
      go_wp2_with fail
      go_ret
      exact ⟨by rw [HR.out] <;> rfl, HB.out⟩
end Go.Proofs.YtbogjfbfgbhdbaaGreatDoor
namespace Go.Proofs.YtbogjfbfgbhdbaaGreatDoor
set_option linter.unusedVariables false
set_option linter.unusedSimpArgs false
open Go.RowKit
set_option linter.unusedVariables false
set_option linter.unusedSimpArgs false
def nxB (n : Int) : Bool := decide (1 ≤ n ∧ n ≤ 4294967296)
def gvB (n k : Int) : Bool := decide (1 ≤ n ∧ n < k)
set_option maxHeartbeats 400000 in
theorem stisTime_any (n : Int) (w : World) : Calls Tryz.prog 44 #[.int .i64 n] w fun e w' => e = .returned (.bool (tmB n)) ∧ w = w' := by
  by_cases h1 : 0 ≤ n <;> by_cases h2 : n ≤ 1099511627776 <;>
  · have HR : Hid (tmB n = (decide (0 ≤ n) && decide (n ≤ 1099511627776))) := Lib.hid (by unfold tmB; simp)
    go_enter Tryz.func44, Tryz.ntmps44
    go_wp2_with fail
    go_ret
    exact ⟨ret_bool (by rw [HR.out]; simp [h1, h2]), rfl⟩
set_option maxHeartbeats 400000 in
theorem stisNext_any (n : Int) (w : World) : Calls Tryz.prog 45 #[.int .i64 n] w fun e w' => e = .returned (.bool (nxB n)) ∧ w = w' := by
  by_cases h1 : 1 ≤ n <;> by_cases h2 : n ≤ 4294967296 <;>
  · have HR : Hid (nxB n = (decide (1 ≤ n) && decide (n ≤ 4294967296))) := Lib.hid (by unfold nxB; simp)
    go_enter Tryz.func45, Tryz.ntmps45
    go_wp2_with fail
    go_ret
    exact ⟨ret_bool (by rw [HR.out]; simp [h1, h2]), rfl⟩
set_option maxHeartbeats 400000 in
theorem stisGiven_any (n k : Int) (w : World) : Calls Tryz.prog 129 #[.int .i64 n, .int .i64 k] w fun e w' => e = .returned (.bool (gvB n k)) ∧ w = w' := by
  by_cases h1 : 1 ≤ n <;> by_cases h2 : n < k <;>
  · have HR : Hid (gvB n k = (decide (1 ≤ n) && decide (n < k))) := Lib.hid (by unfold gvB; simp)
    go_enter Tryz.func129, Tryz.ntmps129
    go_wp2_with fail
    go_ret
    exact ⟨ret_bool (by rw [HR.out]; simp [h1, h2]), rfl⟩
set_option maxHeartbeats 400000 in
theorem stboxName_any : CallK Tryz.prog 121 (fun x => .agg (bhA x)) BhIn Bh.b (fun b => .string b.name) := by
  intro w x hx
  have hb : Below w.heap.size w (w.alloc (.cells (bhA x) 44)) := (Below.refl _ _).alloc (Nat.le_refl _) _
  have c0 : (bhA x)[0]? = some (.string x.b.name) := rfl
  go_enter Tryz.func121, Tryz.ntmps121
  go_wp2_with fail
  go_ret
  exact ⟨rfl, hb⟩
set_option maxHeartbeats 400000 in
theorem strule2_any : CallK Tryz.prog 127 (fun x => .agg (rulA' x)) TrueP (id : Rul → Rul) (fun b => .string b.1) := by
  intro w x hx
  have hb : Below w.heap.size w (w.alloc (.cells (rulA' x) 83)) := (Below.refl _ _).alloc (Nat.le_refl _) _
  have c0 : (rulA' x)[0]? = some (.string x.1) := rfl
  go_enter Tryz.func127, Tryz.ntmps127
  go_wp2_with fail
  go_ret
  exact ⟨rfl, hb⟩
set_option maxHeartbeats 400000 in
theorem sttombID_any : CallK Tryz.prog 132 (fun x => .agg (thA x)) ThIn Th.t (fun b => .int .i64 b.id) := by
  intro w x hx
  have hb : Below w.heap.size w (w.alloc (.cells (thA x) 51)) := (Below.refl _ _).alloc (Nat.le_refl _) _
  have c0 : (thA x)[0]? = some (.int .i64 x.t.id) := rfl
  go_enter Tryz.func132, Tryz.ntmps132
  go_wp2_with fail
  go_ret
  exact ⟨rfl, hb⟩
set_option maxHeartbeats 400000 in
theorem stholdID_any : CallK Tryz.prog 135 (fun x => .agg (hhA x)) HhIn Hh.hol (fun b => .int .i64 b.id) := by
  intro w x hx
  have hb : Below w.heap.size w (w.alloc (.cells (hhA x) 71)) := (Below.refl _ _).alloc (Nat.le_refl _) _
  have c0 : (hhA x)[0]? = some (.int .i64 x.id) := rfl
  go_enter Tryz.func135, Tryz.ntmps135
  go_wp2_with fail
  go_ret
  exact ⟨rfl, hb⟩
set_option maxHeartbeats 400000 in
theorem stitself_any : CallK Tryz.prog 124 (fun x => .string x) TrueP (id : ByteArray → ByteArray) (fun b => .string b) := by
  intro w x hx
  go_enter Tryz.func124, Tryz.ntmps124
  go_wp2_with fail
  go_ret
  exact ⟨rfl, Below.refl _ _⟩
theorem col_one' {α : Type} {k : Nat} {f : α → List Value} {w : World} {b : Nat} {t : TypeId} {a : α} (h : Bk w b t (f a).toArray) (B : Nat) (hB : b < B) : ColK k f w B (some ⟨b, 0, none⟩) 1 [a] := by
  refine ⟨rfl, fun _ => ⟨b, 0, rfl, hB, fun i x hx => ?_⟩⟩
  cases i with
  | zero =>
    have e : a = x := by simpa using hx
    subst e
    have := h.range
    simpa using this
  | succ i => simp at hx
def LoneIs (m : Mg) (w : World) (e : Ending) (w' : World) : Prop := ∃ g, e = .returned (.agg #[.string ⟨#[]⟩, .int .i64 1, .int .i64 4294967296, .slice (some ⟨g, 0, none⟩) 1 1]) ∧ MsgsIn w' w'.heap.size (some ⟨g, 0, none⟩) 1 [m] ∧ Below w.heap.size w w'
set_option maxRecDepth 20000 in
set_option maxHeartbeats 2000000 in
theorem stlone_any (u f d : Int) (A : Option Addr) (n c : Nat) (l : List Nat) (w : World) (hl : Bytes w w.heap.size A n l) (hn : n ≤ 140737488355328) :
    Calls Tryz.prog 130 #[.agg #[.int .i64 u, .int .i64 f, .int .i64 d, .slice A n c]] w (LoneIs ⟨u, f, d, l⟩ w) := by
  have hB : Below w.heap.size w ((w.alloc (.cells #[.int .i64 u, .int .i64 f, .int .i64 d, .slice A n c] 49)).alloc (.cells #[.string ⟨#[]⟩, .int .i64 0, .int .i64 0, .slice none 0 0] 44)) := ((Below.refl _ _).alloc (Nat.le_refl _) _).alloc (by simp) _
  have h1 : Bk ((w.alloc (.cells #[.int .i64 u, .int .i64 f, .int .i64 d, .slice A n c] 49)).alloc (.cells #[.string ⟨#[]⟩, .int .i64 0, .int .i64 0, .slice none 0 0] 44)) w.heap.size 49 #[.int .i64 u, .int .i64 f, .int .i64 d, .slice A n c] := (Bk.new _ _ _).alloc _
  have h2 : Bk ((w.alloc (.cells #[.int .i64 u, .int .i64 f, .int .i64 d, .slice A n c] 49)).alloc (.cells #[.string ⟨#[]⟩, .int .i64 0, .int .i64 0, .slice none 0 0] 44)) (w.heap.size + 1) 44 #[.string ⟨#[]⟩, .int .i64 0, .int .i64 0, .slice none 0 0] := Bk.new2 _ _ _ _
  obtain ⟨⟨c0, c1, c2, c3⟩, g0, g1, g2, g3⟩ := h1.four
  have HL := Lib.hid hl
  have HB := Lib.hid hB
  have H2 := Lib.hid h2
  have HZ : Hid (((w.alloc (.cells #[.int .i64 u, .int .i64 f, .int .i64 d, .slice A n c] 49)).alloc (.cells #[.string ⟨#[]⟩, .int .i64 0, .int .i64 0, .slice none 0 0] 44)).heap.size = w.heap.size + 2) := Lib.hid (by simp)
  clear hl hB h1 h2
  go_enter Tryz.func130, Tryz.ntmps130
  go_wp2_with fail
  have HK : Hid (Bk (((w.alloc (.cells #[.int .i64 u, .int .i64 f, .int .i64 d, .slice A n c] 49)).alloc (.cells #[.string ⟨#[]⟩, .int .i64 1, .int .i64 4294967296, .slice (some ⟨w.heap.size + 1 + 1, 0, none⟩) 1 1] 44)).alloc (.cells #[.int .i64 u, .int .i64 f, .int .i64 d, .slice A n c] 49)) (w.heap.size + 1 + 1) 49 #[.int .i64 u, .int .i64 f, .int .i64 d, .slice A n c]) := Lib.hid (Bk.new3 _ _ _ _ _)
  have HX : Hid (Bk (((w.alloc (.cells #[.int .i64 u, .int .i64 f, .int .i64 d, .slice A n c] 49)).alloc (.cells #[.string ⟨#[]⟩, .int .i64 1, .int .i64 4294967296, .slice (some ⟨w.heap.size + 1 + 1, 0, none⟩) 1 1] 44)).alloc (.cells #[.int .i64 u, .int .i64 f, .int .i64 d, .slice A n c] 49)) (w.heap.size + 1) 44 #[.string ⟨#[]⟩, .int .i64 1, .int .i64 4294967296, .slice (some ⟨w.heap.size + 1 + 1, 0, none⟩) 1 1]) := Lib.hid ((Bk.new2 _ _ _ _).alloc _)
  have HBB : Hid (Below w.heap.size w (((w.alloc (.cells #[.int .i64 u, .int .i64 f, .int .i64 d, .slice A n c] 49)).alloc (.cells #[.string ⟨#[]⟩, .int .i64 1, .int .i64 4294967296, .slice (some ⟨w.heap.size + 1 + 1, 0, none⟩) 1 1] 44)).alloc (.cells #[.int .i64 u, .int .i64 f, .int .i64 d, .slice A n c] 49))) := Lib.hid ((((Below.refl _ _).alloc (Nat.le_refl _) _).alloc (by simp) _).alloc (by simp; omega) _)
  generalize (((w.alloc (.cells #[.int .i64 u, .int .i64 f, .int .i64 d, .slice A n c] 49)).alloc (.cells #[.string ⟨#[]⟩, .int .i64 1, .int .i64 4294967296, .slice (some ⟨w.heap.size + 1 + 1, 0, none⟩) 1 1] 44)).alloc (.cells #[.int .i64 u, .int .i64 f, .int .i64 d, .slice A n c] 49)) = W at *
  refine bodyPost_ret (results_cell (a := ⟨w.heap.size + 1, 0, none⟩) rfl rfl (Bk.box_ HX.out)) rfl ⟨w.heap.size + 1 + 1, rfl, ?_, HBB.out⟩
  refine ⟨[⟨⟨u, f, d, l⟩, A, n, c⟩], col_one' (f := hdC) (a := (⟨⟨u, f, d, l⟩, A, n, c⟩ : Hd)) (t := 49) HK.out _ HK.out.lt, fun h hh => ?_, rfl⟩
  rw [List.mem_singleton.1 hh]
  exact ⟨HL.out.later HBB.out, hn⟩
end Go.Proofs.YtbogjfbfgbhdbaaGreatDoor
namespace Go.Proofs.YtbogjfbfgbhdbaaGreatDoor
set_option linter.unusedVariables false
set_option linter.unusedSimpArgs false
open Go.RowKit
set_option linter.unusedVariables false
set_option linter.unusedSimpArgs false
theorem ne_at13 {l r : List Rul} {k : Nat} {x y : Rul} (hx : l[k]? = some x) (hy : r[k]? = some y) (h : x ≠ y) : l ≠ r := fun e => by
  rw [e, hy] at hx; exact h (Option.some.inj hx).symm
set_option maxRecDepth 20000 in
set_option maxHeartbeats 4000000 in
theorem xdRules_any (A B : Option Addr) (n c m d : Nat) (l r : List Rul) (w : World) (hl : ColK 2 rulC w w.heap.size A n l) (hr : ColK 2 rulC w w.heap.size B m r) (hn : n ≤ 140737488355328) (hm : m ≤ 140737488355328) :
    Calls Tryz.prog 41 #[.slice A n c, .slice B m d] w fun e w' => e = .returned (.bool (decide (l = r))) ∧ ∃ q, w' = w.drewN q := by
  have HL := Lib.hid hl
  have HR := Lib.hid hr
  by_cases hnm : n = m
  · subst hnm
    have hne : ((n : Int) != (n : Int)) = false := by simp
    clear hl hr
    go_enter Tryz.func41, Tryz.ntmps41
    go_wp2_with fail
    go_loopw [5] (fun i wx => ∃ k q : Nat, k ≤ n ∧ i = .int .i64 (k : Int) ∧ l.take k = r.take k ∧ wx = w.drewN q) (fun i _ => n - (intOf i).toNat)
    case atStart => exact ⟨0, 0, Nat.zero_le _, rfl, rfl, rfl⟩
    case round =>
      obtain ⟨k, q, hk, rfl, hm, hw⟩ := hrel
      have HM := Lib.hid hm
      have HW := Lib.hid hw
      clear hm hw
      by_cases hlt : k < n
      · obtain ⟨b, o, x, rfl, hbb, hla, htk, hrow⟩ := HL.out.at_ hlt
        obtain ⟨b2, o2, y, rfl, hbb2, hla2, htk2, hrow2⟩ := HR.out.at_ hlt
        rw [show w.rangeAt b (o + k * 2) (rulC x) = wr.rangeAt b (o + k * 2) (rulC x) by rw [HW.out]; rfl] at hrow
        rw [show w.rangeAt b2 (o2 + k * 2) (rulC y) = wr.rangeAt b2 (o2 + k * 2) (rulC y) by rw [HW.out]; rfl] at hrow2
        obtain ⟨x1, x2⟩ := x
        obtain ⟨y1, y2⟩ := y
        have r0 := hrow 0 _ rfl
        have r1 := hrow 1 _ rfl
        have s0 := hrow2 0 _ rfl
        have s1 := hrow2 1 _ rfl
        rw [Nat.add_zero] at r0 s0
        have hk0 : (0 : Int) ≤ (k : Int) := by omega
        have hkn : (k : Int) < (n : Int) := by omega
        have HA1 := Lib.hid hla
        have HA2 := Lib.hid hla2
        have HT1 := Lib.hid htk
        have HT2 := Lib.hid htk2
        have q1 := str_eq13 x1 y1
        have q2 : (x2 == y2) = decide (x2 = y2) := by rw [Bool.eq_iff_iff]; simp
        clear hla hla2 htk htk2 hrow hrow2
        by_cases he1 : x1 = y1
        · rw [decide_eq_true he1] at q1
          by_cases he2 : x2 = y2
          · rw [decide_eq_true he2] at q2
            have HN : Hid (l.take (k + 1) = r.take (k + 1)) := Lib.hid (by rw [HT1.out, HT2.out, HM.out, he1, he2])
            clear he1 he2
            go_wp2_with fail
            go_quiet (fail)
            go_wp2_with fail
            go_roundw
            case rel => exact ⟨k + 1, _, by omega, by go_num, HN.out, by rw [HW.out]; exact drewN_twice _ _ _⟩
            case measure => simp [intOf]; omega
          · rw [decide_eq_false he2] at q2
            have HN : Hid (decide (l = r) = false) := Lib.hid (decide_eq_false (ne_at13 HA1.out HA2.out (fun e => he2 (Prod.mk.inj e).2)))
            clear he1 he2
            go_wp2_with fail
            go_quiet (fail)
            go_wp2_with fail
            go_ret
            exact ⟨by rw [HN.out] <;> rfl, _, by rw [HW.out]; exact drewN_twice _ _ _⟩
        · rw [decide_eq_false he1] at q1
          have HN : Hid (decide (l = r) = false) := Lib.hid (decide_eq_false (ne_at13 HA1.out HA2.out (fun e => he1 (Prod.mk.inj e).1)))
          clear he1 q2
          go_wp2_with fail
          go_quiet (fail)
          go_wp2_with fail
          go_ret
          exact ⟨by rw [HN.out] <;> rfl, _, by rw [HW.out]; exact drewN_twice _ _ _⟩
      · have hkn : ¬ (k : Int) < (n : Int) := by omega
        have HN : Hid (decide (l = r) = true) := Lib.hid (decide_eq_true (by
          have h := HM.out
          rwa [List.take_of_length_le (by rw [HL.out.1]; omega), List.take_of_length_le (by rw [HR.out.1]; omega)] at h))
        go_wp2_with fail
        go_ret
        exact ⟨by rw [HN.out] <;> rfl, _, HW.out⟩
  · have hne : ((n : Int) != (m : Int)) = true := by simp; omega
    have HN : Hid (decide (l = r) = false) := Lib.hid (decide_eq_false (fun e => hnm (by rw [← HL.out.1, ← HR.out.1, e])))
    clear hl hr
    go_enter Tryz.func41, Tryz.ntmps41
    go_wp2_with fail
    go_ret
    exact ⟨by rw [HN.out] <;> rfl, 0, rfl⟩
instance (l : List Rul) : Decidable (riseR l) := inferInstanceAs (Decidable (l.Pairwise _))
end Go.Proofs.YtbogjfbfgbhdbaaGreatDoor
namespace Go.Proofs.YtbogjfbfgbhdbaaGreatDoor
set_option linter.unusedVariables false
set_option linter.unusedSimpArgs false
open Go.RowKit
set_option linter.unusedVariables false
set_option linter.unusedSimpArgs false
theorem info_rul : (Tryz.prog.info? 83).map (fun i => (i.zero, i.size, i.bytes)) = some (some (.agg #[.string ByteArray.empty, .int .i64 0]), 2, 24) := by kernel_rfl
def GiveR (w : World) (l : List Rul) (e : Ending) (w' : World) : Prop := ∃ A n c, e = .returned (.slice A n c) ∧ OwnK 2 rulC w' w.heap.size 83 A n c l ∧ Below w.heap.size w w'
end Go.Proofs.YtbogjfbfgbhdbaaGreatDoor
namespace Go.Proofs.YtbogjfbfgbhdbaaGreatDoor
set_option linter.unusedVariables false
set_option linter.unusedSimpArgs false
open Go.RowKit
set_option linter.unusedVariables false
set_option linter.unusedSimpArgs false
theorem ruls_one (l : List Rul) : ∀ u ∈ l, ∀ v ∈ rulC u, v.oneCell' = true := fun u _ => rulC_one u
theorem rlClone_any (A : Option Addr) (n c : Nat) (l : List Rul) (w : World) (hl : ColK 2 rulC w w.heap.size A n l) (hn : n ≤ 1000000) :
    Calls Tryz.prog 72 #[.slice A n c] w fun e w' => ∃ A' c', e = .returned (.slice A' n c') ∧ OwnK 2 rulC w' w.heap.size 83 A' n c' l ∧ Below w.heap.size w w' := by
  cases A with
  | none =>
    have h0 : n = 0 := by
      rcases Nat.eq_zero_or_pos n with h | h
      · exact h
      · obtain ⟨b, o, h', _⟩ := hl.2 h; cases h'
    subst h0
    have hl' : l = [] := List.eq_nil_of_length_eq_zero hl.1
    subst hl'
    have heq := fun W => Lib.run_eql_slice_nil (P := Tryz.prog) W 24 83 none 0 c 0 0 Tryz.underlying24
    go_enter Tryz.func72, Tryz.ntmps72
    go_wp2
    go_ret
    exact ⟨_, _, rfl, OwnK.nil rulC_len, Below.refl _ _⟩
  | some a =>
    have heq := fun W => Lib.run_eql_slice_nil (P := Tryz.prog) W 24 83 (some a) n c 0 0 Tryz.underlying24
    obtain ⟨A3, c3, w3, hrun, ho3, hb3, hg3⟩ := run_append_ks (P := Tryz.prog) (f := rulC) (OwnK.empty rulC_len w 83) 24 24 Tryz.underlying24 info_rul rfl (by omega) (by omega) (A' := some a) (m := n) (c' := c) (hl.below ((Below.refl _ _).alloc (Nat.le_refl _) (.cells #[] 83)) (Nat.le_refl _)) (ruls_one l) (by omega) (by simp)
    rw [Nat.zero_add, List.nil_append] at ho3
    rw [Nat.zero_add] at hrun
    have hb3' : Below w.heap.size w w3 := ((Below.refl _ _).alloc (Nat.le_refl _) _).trans hb3
    have HRUN := Lib.hid hrun
    clear hrun hl hg3 hb3
    go_enter Tryz.func72, Tryz.ntmps72
    go_wp2_with ((with_reducible show wpList _ _ _ (⟨some 7, _, _, _, _, _⟩ :: _) _ _); refine hold ?_)
    refine held (wpList_plain rfl fun K hK => wp_append_ks (s := .tmp 5) (x := .tmp 6) rfl rfl rfl HRUN.out (hK _ _ ?_))
    go_wp2
    go_ret
    exact ⟨_, _, rfl, ho3, hb3'⟩
def rulA (r : Rul) : Array Value := (rulC r).toArray
set_option maxHeartbeats 1000000 in
theorem rlSet1_any (x : Rul) (bb : Nat) (box : ByteArray) (w : World) (hA : w.cell? ⟨bb, 0, none⟩ = some (.string box)) :
    Calls Tryz.prog 225 #[.agg (rulA x), .pointer (some ⟨bb, 0, none⟩)] w fun e w' => e = .returned (.bool (decide (x.1 = box))) ∧ Below w.heap.size w w' := by
  have hb : Below w.heap.size w (w.alloc (.cells (rulA x) 83)) := (Below.refl _ _).alloc (Nat.le_refl _) _
  have a1 := (hb.cell (p := ⟨bb, 0, none⟩) (World.block_lt_of_cell? _ _ hA)).trans hA
  have x0 : (rulA x)[0]? = some (.string x.1) := rfl
  have heq := str_eq13 x.1 box
  have HB := Lib.hid hb
  clear hb hA
  by_cases he : x.1 = box
  all_goals
    first | rw [decide_eq_true he] at heq ⊢ | rw [decide_eq_false he] at heq ⊢
    clear he
    go_enter Tryz.func225, Tryz.ntmps225
    go_wp2_with fail
    go_ret
    exact ⟨rfl, HB.out⟩
def FoundR (l : List Rul) (box : ByteArray) (n : Nat) (z : Int) : Prop := (z = -1 ∧ ∀ r ∈ l, r.1 ≠ box) ∨ ∃ j : Nat, z = (j : Int) ∧ j < n ∧ ∀ x ∈ l.take j, x.1 ≠ box
def AndAt (l : List Rul) (box : ByteArray) (z : Int) : Prop := ∀ j : Nat, z = (j : Int) → ∃ r, l[j]? = some r ∧ r.1 = box
set_option maxRecDepth 20000 in
set_option maxHeartbeats 2000000 in
theorem rlindexR_any (A : Option Addr) (m c bb : Nat) (box : ByteArray) (l : List Rul) (w : World) (hl : ColK 2 rulC w w.heap.size A m l) (hm : m ≤ 140737488355328) (hA : w.cell? ⟨bb, 0, none⟩ = some (.string box)) :
    Calls Tryz.prog 239 #[.slice A m c, .func (.func 225) #[] #[.pointer (some ⟨bb, 0, none⟩)]] w fun e w' => ∃ z : Int, e = .returned (.int .i64 z) ∧ FoundR l box m z ∧ AndAt l box z ∧ Below w.heap.size w w' := by
  have HL := Lib.hid hl
  have HA := Lib.hid hA
  have HLB := Lib.hid (World.block_lt_of_cell? _ _ hA)
  clear hl hA
  go_enter Tryz.func239, Tryz.ntmps239
  go_wp2_with fail
  go_loopw [8] (fun i wx => ∃ k : Nat, k ≤ m ∧ i = .int .i64 (k : Int) ∧ (∀ q ∈ l.take k, q.1 ≠ box) ∧ Below w.heap.size w wx) (fun i _ => m - (intOf i).toNat)
  case atStart => exact ⟨0, Nat.zero_le _, rfl, fun q hq => (by cases hq), Below.refl _ _⟩
  case round =>
    obtain ⟨k, hk, rfl, ha, hb⟩ := hrel
    have HB := Lib.hid hb
    have HU := Lib.hid ha
    clear ha hb
    by_cases hlt : k < m
    · obtain ⟨b, o, x, rfl, hbb, hla, htk, hrow⟩ := (HL.out.below HB.out (Nat.le_refl _)).at_ hlt
      have HLA := Lib.hid hla
      have HTK := Lib.hid htk
      have HROW := Lib.hid hrow
      have hk0 : (0 : Int) ≤ (k : Int) := by omega
      have hkn : (k : Int) < (m : Int) := by omega
      have CI := Lib.hid (rlSet1_any x bb box wr ((HB.out.cell (p := ⟨bb, 0, none⟩) HLB.out).trans HA.out))
      clear hla htk hrow
      go_wp2_with ((with_reducible show wpList _ _ _ (⟨some 15, _, _, _, _, _⟩ :: _) _ _); refine hold ?_)
      refine held (wpList_load_mid rfl 83 (.tmp 14) rfl b (o + k * 2) rfl (rulC x) _ HROW.out Tryz.underlying83 rfl (by kernel_rfl) ?_)
      rw [show (rulC x).toArray = rulA x from rfl]
      go_wp2_with fail
      refine CI.out.mono ?_
      rintro e w' ⟨rfl, hb2⟩
      have HB2 := Lib.hid (HB.out.trans (hb2.mono HB.out.size))
      clear hb2 CI
      by_cases hok : x.1 = box
      · rw [decide_eq_true hok]
        have HS : Hid (AndAt l box (k : Int)) := Lib.hid (fun j hj => by
          have : k = j := by omega
          subst this
          exact ⟨x, HLA.out, hok⟩)
        clear hok
        go_wp2_with fail
        go_ret
        exact ⟨(k : Int), rfl, .inr ⟨k, rfl, hlt, HU.out⟩, HS.out, HB2.out⟩
      · rw [decide_eq_false hok]
        have HU2 : Hid (∀ q ∈ l.take (k + 1), q.1 ≠ box) := Lib.hid (fun q hq => by
          rw [HTK.out] at hq
          rcases List.mem_append.1 hq with h1 | h1
          · exact HU.out q h1
          · rw [List.mem_singleton.1 h1]; exact hok)
        clear hok
        go_wp2_with fail
        go_roundw
        case rel => exact ⟨k + 1, by omega, by go_num, HU2.out, HB2.out⟩
        case measure => simp [intOf]; omega
    · have hkn : ¬ (k : Int) < (m : Int) := by omega
      have HS : Hid (∀ q ∈ l, q.1 ≠ box) := Lib.hid (by have := HU.out; rwa [List.take_of_length_le (by rw [HL.out.1]; omega)] at this)
      go_wp2_with fail
      go_ret
      exact ⟨-1, rfl, .inl ⟨rfl, HS.out⟩, fun j hj => absurd hj (by omega), HB.out⟩
end Go.Proofs.YtbogjfbfgbhdbaaGreatDoor
