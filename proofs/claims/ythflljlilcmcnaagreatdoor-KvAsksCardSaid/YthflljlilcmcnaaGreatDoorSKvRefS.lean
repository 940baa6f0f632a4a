/-
  A part of the proof: see the last text.
-/
import Derived.Test.YthflljlilcmcnaaGreatDoorSKvSnap
import Derived.Test.YthflljlilcmcnaaGreatDoorSKvRefB
import Derived.Test.YthflljlilcmcnaaGreatDoorSKvOpnM
import Derived.Test.YthflljlilcmcnaaGreatDoorSKvEnc
import Derived.Test.YthflljlilcmcnaaGreatDoorSAppK
import Derived.Deep.DeepCutAuto
import Derived.Deep.RegionHeld3
namespace Go.Proofs.YthflljlilcmcnaaGreatDoor
open List (setIfInBounds_toArray set_cons_zero set_cons_succ getElem_toArray getElem_cons_zero getElem_cons_succ)
set_option linter.unusedVariables false
set_option linter.unusedSimpArgs false
open Go.RowKit
set_option linter.unusedVariables false
set_option linter.unusedSimpArgs false
def fromC (A : Option Addr) (j c : Nat) : Option Addr := if c = j then A else A.map (·.add (j * 3))
theorem size_chgK (w : World) : (sizeOf (Tryz.prog.elem 23)).run Tryz.prog w = .ok 3 w := by
  have hel : Tryz.prog.elem 23 = 61 := by simp [Program.elem, Tryz.underlying23]
  obtain ⟨i, hi, _, hs, _⟩ := info_parts info_chgK
  rw [hel]
  simp [sizeOf, hs, go_sem, run_typeInfo _ hi]
theorem und_chgs : Tryz.prog.underlying 23 = some (.slice (Tryz.prog.elem 23)) := by
  have hel : Tryz.prog.elem 23 = 61 := by simp [Program.elem, Tryz.underlying23]
  rw [hel]; exact Tryz.underlying23
theorem exec_fromC {o : Oper} {ρ : Operand → Value} {x lo : Operand} {A : Option Addr} {n c j : Nat} {w : World} (ho : o.op = .slice 23 x (some lo) none none) (hx : ρ x = .slice A n c) (hl : ρ lo = .int .i64 (j : Int)) (hj : j ≤ n) (hc : n ≤ c) :
    (execOp ρ o).run Tryz.prog w = .ok (.value (.slice (fromC A j c) (n - j) (c - j))) w := by
  have hrun : (Instr.sliceAt 23 (.slice A n c) (some (.int .i64 (j : Int))) none none).run Tryz.prog w = .ok (.slice (fromC A j c) (n - j) (c - j)) w := by
    rw [run_sliceAt_slice w 23 _ _ _ _ und_chgs, run_slice_l w 23 _ n c und_chgs .i64 (j : Int) (by omega) (by omega), size_chgK]
    simp [Result.andThen_ok, sliced, fromC]
  unfold execOp
  simp [ho, hx, hl, hrun]
theorem wp_execK {o : Oper} {a : Act} {w : World} {K : Act → World → Prop} {Q : Exit → Act → World → Prop} {v : Value} {P : Program} (h : (execOp a.eval o).run P w = .ok (.value v) w) (hK : K (a.put o.dst v) w) : o.wp P a w K Q := by
  unfold Oper.wp
  rw [h]
  exact hK
theorem ColK.fromC {α : Type} {f : α → List Value} {w : World} {B n c j : Nat} {A : Option Addr} {l : List α} (h : ColK 3 f w B A n l) (hj : j ≤ n) (hnc : n ≤ c) : ColK 3 f w B (fromC A j c) (n - j) (l.drop j) := by
  rcases Nat.lt_or_ge j n with hlt | hge
  · unfold Go.Proofs.YthflljlilcmcnaaGreatDoor.fromC
    rw [if_neg (by omega)]
    obtain ⟨b, o, e, _, _⟩ := h.2 (by omega)
    subst e
    have := h.from_ hj
    simpa [Addr.add_mid] using this
  · have : n - j = 0 := by omega
    rw [this, List.drop_eq_nil_of_le (by rw [h.1]; omega)]
    exact ColK.nil
theorem app_ownC {V : World} {base : Nat} {A A' : Option Addr} {n c m c' B : Nat} {os us : List Chg} (ho : OwnK 3 chgC V base 61 A n c os) (hu : ColK 3 chgC V B A' m us) (hnm : n + m ≤ 1000000) (hbase : base ≤ V.heap.size) :
    ∃ A2 c2 w', (Builtin.append_ #[23, 23] 23 #[.slice A n c, .slice A' m c']).run Tryz.prog V = .ok (.slice A2 (n + m) c2) w' ∧ OwnK 3 chgC w' base 61 A2 (n + m) c2 (os ++ us) ∧ V.grownBy w' (Value.slice A n c).ownBlock ∧ Below base V w' := by
  obtain ⟨A2, c2, w', h1, h2, h3, h4⟩ := run_append_ks (P := Tryz.prog) ho 23 23 Tryz.underlying23 info_chgK rfl (by omega) (by omega) hu (fun u _ => chgC_one u) hnm hbase (c' := c')
  exact ⟨A2, c2, w', h1, h2, h4, h3⟩
theorem chg_fresh (w : World) (k v : ByteArray) : ColK 3 chgC (w.alloc (.cells #[.string k, .string v, .bool false] 61)) (w.alloc (.cells #[.string k, .string v, .bool false] 61)).heap.size (some ⟨w.heap.size, 0, none⟩) 1 [(k, v, false)] := by
  refine ⟨rfl, fun _ => ⟨w.heap.size, 0, rfl, by simp, fun i a hi => ?_⟩⟩
  cases i with
  | zero =>
    cases hi
    intro j u hu
    rw [show 0 + 0 * 3 + j = j by omega, cell_of_row _ w.heap.size j _ _ (0, 0) (heap_alloc_new w _)]
    unfold chgC at hu
    simpa using hu
  | succ i => simp at hi
def RefAt (base : Nat) (wx : World) (A : Option Addr) (n c : Nat) (us : List Value) (A5 : Option Addr) (n5 c5 : Nat) (s : List (List Nat) × List Chg) : Prop :=
  OwnK 1 one wx base 69 A n c us ∧ Recs wx base us s.1 ∧ ColK 3 chgC wx wx.heap.size A5 n5 s.2 ∧ n5 ≤ c5
theorem RefAt.below {base : Nat} {w w' : World} {A : Option Addr} {n c : Nat} {us : List Value} {A5 : Option Addr} {n5 c5 : Nat} {s : List (List Nat) × List Chg} (h : RefAt base w A n c us A5 n5 c5 s) (hb : Below w.heap.size w w') : RefAt base w' A n c us A5 n5 c5 s :=
  ⟨h.1.below hb, h.2.1.below hb, h.2.2.1.later hb, h.2.2.2⟩
theorem rec_app {base : Nat} {W : World} {A A8 : Option Addr} {n c m8 c8 : Nat} {us : List Value} {L : List (List Nat)} {b : List Nat} (ho : OwnK 1 one W base 69 A n c us) (hr : Recs W base us L) (h8 : OwnB W base 5 A8 m8 c8 b) (hn : n ≤ 900000) (hbase : base ≤ W.heap.size) {ops : Array Oper} {rest : List Oper} {o : Oper} {a : Act} {Q : Exit → Act → World → Prop} (hgd : o.guard = none) (s x : Operand)
    (hop : o.op = .call { callee := .builtin .append, args := #[s, x], argTypes := #[38, 38] }) (hs : a.eval s = .slice A n c) (hx : a.eval x = .slice (some ⟨W.heap.size, 0, none⟩) 1 1)
    (h : ∀ A2 c2 W2, OwnK 1 one W2 base 69 A2 (n + 1) c2 (us ++ [.slice A8 m8 c8]) → Recs W2 base (us ++ [.slice A8 m8 c8]) (L ++ [b]) → Below base W W2 → (W.alloc (.cells #[.slice A8 m8 c8] 69)).grownBy W2 (Value.slice A n c).ownBlock → wpList Tryz.prog ops Q rest (a.put o.dst (.slice A2 (n + 1) c2)) W2) :
    wpList Tryz.prog ops Q (o :: rest) a (W.alloc (.cells #[.slice A8 m8 c8] 69)) := by
  have hba : Below W.heap.size W (W.alloc (.cells #[.slice A8 m8 c8] 69)) := (Below.refl _ _).alloc (Nat.le_refl _) _
  have ho5 := ho.below hba
  have hr5 := hr.below hba
  have h85 := h8.below hba
  refine wpList_append_k (k := 1) (f := one) hgd s x 38 hop Tryz.underlying38 info_bytesK rfl (by omega) (by omega) base A n c us hs ho5 W.heap.size 0 (.slice A8 m8 c8) hx (by
    intro j v hv
    rw [Nat.zero_add, cell_of_row _ W.heap.size j _ _ (0, 0) (heap_alloc_new W _)]
    unfold one at hv
    simpa [List.getElem?_toArray] using hv) (fun u hu => by unfold one at hu; rw [List.mem_singleton.1 hu]; rfl) (by omega) (Nat.le_trans hbase hba.size) ?_
  intro A2 c2 W2 ho6 hb6 hg6
  have hne := row_type ho5.1 (show 69 ≠ 5 by decide)
  exact h A2 c2 W2 ho6 ((hr5.other hg6 hne).snoc (⟨owns_other h85.1 hg6 hne, h85.2⟩ : OwnB W2 base 5 A8 m8 c8 b)) ((hba.mono hbase).trans hb6) hg6
set_option maxRecDepth 20000 in
set_option maxHeartbeats 8000000 in
theorem x6snapshot_any (A : Option Addr) (n c : Nat) (l : List Pr) (w : World) (hl : ColK 2 pairC w w.heap.size A n l) (hs : ∀ x ∈ l, x.1.size ≤ 140737488355328 ∧ x.2.size ≤ 140737488355328) (hsm : ∀ x ∈ l, (chgN (putC x)).length ≤ 5992) (hn : n ≤ 9000) :
    Calls Tryz.prog 18 #[.slice A n c] w (SnapIs l w) := by
  have HL := Lib.hid hl
  have HS := Lib.hid hs
  have HSM := Lib.hid hsm
  have hm : Tryz.prog.follows .mixedOrders = true := by kernel_rfl
  clear hl hs hsm
  go_enter Tryz.func18, Tryz.ntmps18
  go_wp2_with fail
  go_loopw [3, 4, 5] (fun o4 o5 i wx => ∃ (k : Nat) (A4 : Option Addr) (n4 c4 : Nat) (us : List Value) (A5 : Option Addr) (n5 c5 : Nat), k ≤ n ∧ i = .int .i64 (k : Int) ∧ o4 = .slice A4 n4 c4 ∧ o5 = .slice A5 n5 c5 ∧ RefAt w.heap.size wx A4 n4 c4 us A5 n5 c5 (snapS (l.take k)) ∧ n4 ≤ k ∧ n5 ≤ k ∧ Below w.heap.size w wx) (fun _ _ i _ => n - (intOf i).toNat)
  case atStart => exact ⟨0, none, 0, 0, [], none, 0, 0, Nat.zero_le _, rfl, rfl, rfl, ⟨OwnK.nil one_len, ⟨rfl, fun i u hu => (by cases hu)⟩, ColK.nil, Nat.le_refl _⟩, Nat.le_refl _, Nat.le_refl _, Below.refl _ _⟩
  case round =>
    obtain ⟨k, A4, n4, c4, us, A5, n5, c5, hk, rfl, rfl, rfl, hat, hn4, hn5, hb⟩ := hrel
    have HB := Lib.hid hb
    have HAT := Lib.hid hat
    have h5l := hat.2.2.1.1
    have h5c := hat.2.2.2
    clear hb hat
    by_cases hlt : k < n
    · obtain ⟨b, o, a, rfl, hbb, hla, htk, hrow⟩ := (HL.out.below HB.out (Nat.le_refl _)).at_ hlt
      have hsm := HSM.out a (List.mem_of_getElem? hla)
      obtain ⟨hsz1, hsz2⟩ := HS.out a (List.mem_of_getElem? hla)
      have HSN := Lib.hid (snapS_snoc htk)
      have hk0 : (0 : Int) ≤ (k : Int) := by omega
      have hkn : (k : Int) < (n : Int) := by omega
      have hcsz : ∀ c ∈ (snapS (l.take k)).2, c.1.size ≤ 140737488355328 ∧ c.2.1.size ≤ 140737488355328 := snapS_size (p := fun c => c.1.size ≤ 140737488355328 ∧ c.2.1.size ≤ 140737488355328) (l.take k) ([], []) (fun x hx => HS.out x (List.mem_of_mem_take hx)) (fun c hc => (by cases hc))
      obtain ⟨L, cs, hLc⟩ : ∃ L cs, snapS (l.take k) = (L, cs) := ⟨_, _, rfl⟩
      rw [hLc] at HAT HSN h5l hcsz
      simp only at h5l hcsz
      have HCS := Lib.hid hcsz
      have hbr : b < wr.heap.size := Nat.lt_of_lt_of_le hbb HB.out.size
      obtain ⟨ck, cv⟩ := a
      have r0 := hrow 0 _ rfl
      have r1 := hrow 1 _ rfl
      rw [Nat.add_zero] at r0
      simp only at hsz1 hsz2
      clear hcsz hla htk hrow hLc
      have HSM1 : Hid ((chgN (ck, cv, false)).length ≤ 5992) := Lib.hid hsm
      have HPC : Hid (putC (ck, cv) = (ck, cv, false)) := Lib.hid rfl
      have HTS := Lib.hid (trans_snoc cs (ck, cv, false))
      have HCL := Lib.hid HAT.out.2.2.1
      have hwb : w.heap.size ≤ wr.heap.size := HB.out.size
      clear hsm
      go_wp2_with fail
      go_cut [6] (fun x6 wx => ∃ AX cX, x6 = .slice AX (n5 + 1) cX ∧ OwnK 3 chgC wx wr.heap.size 61 AX (n5 + 1) cX (cs ++ [(ck, cv, false)]) ∧ Below wr.heap.size wr wx)
      case first =>
        go_wp2_with fail
        refine wp_region_held_drew (S := fun W' => Below wr.heap.size wr W') hm ((Below.refl _ _).drew) (fun hHeld => ?_)
        obtain ⟨V0, hV0⟩ : ∃ V, V = wr.drew := ⟨_, rfl⟩
        rw [← hV0] at hHeld ⊢
        clear hV0
        simp only [List.size_toArray, List.length_cons, List.length_nil, Nat.reduceAdd]
        refine wpAnyH_take (i := 1) (v := .slice A5 n5 c5) rfl (by kernel_rfl) (by kernel_rfl) (by kernel_rfl) (fun _ _ _ h => h) (Or.inl ⟨by rfl, fun w0 hC => by simp [execOp, Act.eval, Act.put, go_sem]⟩) hHeld ?_
        try simp only [Act.put, setIfInBounds_toArray, set_cons_zero, set_cons_succ]
        refine wpAnyH_take (i := 3) (v := .slice (some ⟨b, o, none⟩) n c) rfl (by kernel_rfl) (by kernel_rfl) (by kernel_rfl) (fun _ _ _ h => h) (Or.inl ⟨by rfl, fun w0 hC => by simp [execOp, Act.eval, Act.put, go_sem]⟩) hHeld ?_
        try simp only [Act.put, setIfInBounds_toArray, set_cons_zero, set_cons_succ]
        refine wpAnyH_take (i := 4) (v := .int .i64 (k : Int)) rfl (by kernel_rfl) (by kernel_rfl) (by kernel_rfl) (fun _ _ _ h => h) (Or.inl ⟨by rfl, fun w0 hC => by simp [execOp, Act.eval, Act.put, go_sem]⟩) hHeld ?_
        try simp only [Act.put, setIfInBounds_toArray, set_cons_zero, set_cons_succ]
        refine wpAnyH_take (i := 5) (v := .pointer (some ⟨b, o + k * 2, none⟩)) rfl (by kernel_rfl) (by kernel_rfl) (by kernel_rfl) (fun _ _ _ h => h) (Or.inl ⟨by rfl, fun w0 hC => by simp [execOp, Act.eval, Act.put, go_sem, hk0, hkn, hlt]⟩) hHeld ?_
        try simp only [Act.put, setIfInBounds_toArray, set_cons_zero, set_cons_succ]
        refine wpAnyH_take (i := 6) (v := .pointer (some ⟨b, o + k * 2, none⟩)) rfl (by kernel_rfl) (by kernel_rfl) (by kernel_rfl) (fun _ _ _ h => h) (Or.inl ⟨by rfl, fun w0 hC => by simp [execOp, Act.eval, Act.put, go_sem]⟩) hHeld ?_
        try simp only [Act.put, setIfInBounds_toArray, set_cons_zero, set_cons_succ]
        refine wpAnyH_take (i := 7) (v := .string ck) rfl (by kernel_rfl) (by kernel_rfl) (by kernel_rfl) (fun _ _ _ h => h) (Or.inl ⟨by rfl, fun w0 hC => by simp [execOp, Act.eval, Act.put, go_sem, (hC.cell (p := ⟨b, o + k * 2, none⟩) hbr).trans r0]⟩) hHeld ?_
        try simp only [Act.put, setIfInBounds_toArray, set_cons_zero, set_cons_succ]
        refine wpAnyH_take (i := 8) (v := .slice (some ⟨b, o, none⟩) n c) rfl (by kernel_rfl) (by kernel_rfl) (by kernel_rfl) (fun _ _ _ h => h) (Or.inl ⟨by rfl, fun w0 hC => by simp [execOp, Act.eval, Act.put, go_sem]⟩) hHeld ?_
        try simp only [Act.put, setIfInBounds_toArray, set_cons_zero, set_cons_succ]
        refine wpAnyH_take (i := 9) (v := .int .i64 (k : Int)) rfl (by kernel_rfl) (by kernel_rfl) (by kernel_rfl) (fun _ _ _ h => h) (Or.inl ⟨by rfl, fun w0 hC => by simp [execOp, Act.eval, Act.put, go_sem]⟩) hHeld ?_
        try simp only [Act.put, setIfInBounds_toArray, set_cons_zero, set_cons_succ]
        refine wpAnyH_take (i := 10) (v := .pointer (some ⟨b, o + k * 2, none⟩)) rfl (by kernel_rfl) (by kernel_rfl) (by kernel_rfl) (fun _ _ _ h => h) (Or.inl ⟨by rfl, fun w0 hC => by simp [execOp, Act.eval, Act.put, go_sem, hk0, hkn, hlt]⟩) hHeld ?_
        try simp only [Act.put, setIfInBounds_toArray, set_cons_zero, set_cons_succ]
        refine wpAnyH_take (i := 11) (v := .pointer (some ⟨b, o + k * 2 + 1, none⟩)) rfl (by kernel_rfl) (by kernel_rfl) (by kernel_rfl) (fun _ _ _ h => h) (Or.inl ⟨by rfl, fun w0 hC => by simp [execOp, Act.eval, Act.put, go_sem]⟩) hHeld ?_
        try simp only [Act.put, setIfInBounds_toArray, set_cons_zero, set_cons_succ]
        refine wpAnyH_take (i := 12) (v := .string cv) rfl (by kernel_rfl) (by kernel_rfl) (by kernel_rfl) (fun _ _ _ h => h) (Or.inl ⟨by rfl, fun w0 hC => by simp [execOp, Act.eval, Act.put, go_sem, (hC.cell (p := ⟨b, o + k * 2 + 1, none⟩) hbr).trans r1]⟩) hHeld ?_
        try simp only [Act.put, setIfInBounds_toArray, set_cons_zero, set_cons_succ]
        refine wpAnyH_take (i := 13) (v := .agg #[.string ck, .string cv, .bool false]) rfl (by kernel_rfl) (by kernel_rfl) (by kernel_rfl) (fun _ _ _ h => h) (Or.inl ⟨by rfl, fun w0 hC => by simp [execOp, Act.eval, Act.put, go_sem]⟩) hHeld ?_
        try simp only [Act.put, setIfInBounds_toArray, set_cons_zero, set_cons_succ]
        refine wpAnyH_ready (rs := [0, 14]) (by kernel_rfl) (by simp) (AllReadyH.cons rfl (fun K hK => ?_) (AllReadyH.cons rfl (fun K hK => ?_) AllReadyH.nil))
        · rw [if_pos (by rfl)]
          go_wp2_with fail
          refine k_overK (fun W' => Below V0.heap.size V0 W' ∧ OwnK 3 chgC W' V0.heap.size 61 (some ⟨V0.heap.size, 0, none⟩) 0 0 [] ∧ V0.heap.size < W'.heap.size) ⟨(Below.refl _ _).alloc (Nat.le_refl _) _, OwnK.empty chgC_len V0 61, by simp⟩ ?_
          rintro V1 ⟨hba, ho, hlt0⟩
          obtain ⟨b0, hb0⟩ : ∃ b0, b0 = V0.heap.size := ⟨_, rfl⟩
          rw [← hb0] at ho hlt0 ⊢
          have ho := ho.from_ (show wr.heap.size ≤ b0 by rw [hb0]; exact hHeld.size)
          clear hb0
          have hSa := hHeld.trans (hba.mono hHeld.size)
          clear hba hHeld
          refine hK.out _ _ hSa (fun hHeld => ?_)
          clear hK K
          try simp only [Act.put, setIfInBounds_toArray, set_cons_zero, set_cons_succ]
          clear hSa
          refine wpAnyH_ready (rs := [2, 14]) (by kernel_rfl) (by simp) (AllReadyH.cons rfl (fun K hK => ?_) (AllReadyH.cons rfl (fun K hK => ?_) AllReadyH.nil))
          · rw [if_pos (by rfl)]
            obtain ⟨AV2, cV2, V2, hrun, ho2, hgr, hba⟩ := app_ownC (c' := c5) ho (HCL.out.below hHeld (Nat.le_refl _)) (by omega) hHeld.size
            rw [Nat.zero_add, List.nil_append] at ho2
            rw [Nat.zero_add] at hrun
            clear ho hgr
            have ho := ho2
            clear ho2
            refine wp_append_ks rfl rfl rfl hrun ?_
            clear hrun
            have hSa := hHeld.trans hba
            clear hba hHeld
            refine hK.out _ _ hSa (fun hHeld => ?_)
            clear hK K
            try simp only [Act.put, setIfInBounds_toArray, set_cons_zero, set_cons_succ]
            clear hSa
            refine wpAnyH_ready (rs := [14]) (by kernel_rfl) (by simp) (AllReadyH.cons rfl (fun K hK => ?_) AllReadyH.nil)
            rw [if_pos (by rfl)]
            go_wp2_with fail
            refine k_overK (fun W' => Below V2.heap.size V2 W' ∧ ColK 3 chgC W' W'.heap.size (some ⟨V2.heap.size, 0, none⟩) 1 [(ck, cv, false)] ∧ V2.heap.size < W'.heap.size) ⟨(Below.refl _ _).alloc (Nat.le_refl _) _, chg_fresh V2 ck cv, by simp⟩ ?_
            rintro V3 ⟨hba, hone, hlt1⟩
            obtain ⟨b1, hb1⟩ : ∃ b1, b1 = V2.heap.size := ⟨_, rfl⟩
            rw [← hb1] at hone hlt1 ⊢
            clear hb1
            replace ho := ho.below hba
            have hSa := hHeld.trans (hba.mono hHeld.size)
            clear hba hHeld
            refine hK.out _ _ hSa (fun hHeld => ?_)
            clear hK K
            try simp only [Act.put, setIfInBounds_toArray, set_cons_zero, set_cons_succ]
            clear hSa
            refine wpAnyH_ready (rs := [15]) (by kernel_rfl) (by simp) (AllReadyH.cons rfl (fun K hK => ?_) AllReadyH.nil)
            rw [if_pos (by rfl)]
            obtain ⟨AV4, cV4, V4, hrun, ho2, hgr, hba⟩ := app_ownC (c' := 1) ho (hone) (by omega) hHeld.size
            clear ho hgr
            have ho := ho2
            clear ho2
            refine wp_append_ks rfl rfl rfl hrun ?_
            clear hrun
            have hSa := hHeld.trans hba
            clear hba hHeld
            refine hK.out _ _ hSa (fun hHeld => ?_)
            clear hK K
            try simp only [Act.put, setIfInBounds_toArray, set_cons_zero, set_cons_succ]
            clear hSa
            refine wpAnyH_ready (rs := [16]) (by kernel_rfl) (by simp) (AllReadyH.cons rfl (fun K hK => ?_) AllReadyH.nil)
            rw [if_pos (by rfl)]
            go_wp2_with fail
            have hSa := hHeld
            refine hK.out _ _ hSa (fun hHeld => ?_)
            clear hK K
            try simp only [Act.put, setIfInBounds_toArray, set_cons_zero, set_cons_succ]
            clear hSa
            refine wpAnyH_done (by kernel_rfl) ?_ _
            go_wp2_with fail
            go_meet
            exact ⟨AV4, cV4, rfl, ho, hHeld⟩
          · rw [if_pos (by rfl)]
            go_wp2_with fail
            refine k_overK (fun W' => Below V1.heap.size V1 W' ∧ ColK 3 chgC W' W'.heap.size (some ⟨V1.heap.size, 0, none⟩) 1 [(ck, cv, false)] ∧ V1.heap.size < W'.heap.size) ⟨(Below.refl _ _).alloc (Nat.le_refl _) _, chg_fresh V1 ck cv, by simp⟩ ?_
            rintro V2 ⟨hba, hone, hlt1⟩
            obtain ⟨b1, hb1⟩ : ∃ b1, b1 = V1.heap.size := ⟨_, rfl⟩
            rw [← hb1] at hone hlt1 ⊢
            have hne : b1 ≠ b0 := by omega
            clear hb1
            replace ho := ho.below hba
            have hSa := hHeld.trans (hba.mono hHeld.size)
            clear hba hHeld
            refine hK.out _ _ hSa (fun hHeld => ?_)
            clear hK K
            try simp only [Act.put, setIfInBounds_toArray, set_cons_zero, set_cons_succ]
            clear hSa
            refine wpAnyH_ready (rs := [2]) (by kernel_rfl) (by simp) (AllReadyH.cons rfl (fun K hK => ?_) AllReadyH.nil)
            rw [if_pos (by rfl)]
            obtain ⟨AV3, cV3, V3, hrun, ho2, hgr, hba⟩ := app_ownC (c' := c5) ho (HCL.out.below hHeld (Nat.le_refl _)) (by omega) hHeld.size
            rw [Nat.zero_add, List.nil_append] at ho2
            rw [Nat.zero_add] at hrun
            have hone := (hone.grown (b := b0) hgr (Nat.le_refl _) (fun _ p hp => by cases hp; exact hne)).more hba.size
            clear ho hgr
            have ho := ho2
            clear ho2
            refine wp_append_ks rfl rfl rfl hrun ?_
            clear hrun
            have hSa := hHeld.trans hba
            clear hba hHeld
            refine hK.out _ _ hSa (fun hHeld => ?_)
            clear hK K
            try simp only [Act.put, setIfInBounds_toArray, set_cons_zero, set_cons_succ]
            clear hSa
            refine wpAnyH_ready (rs := [15]) (by kernel_rfl) (by simp) (AllReadyH.cons rfl (fun K hK => ?_) AllReadyH.nil)
            rw [if_pos (by rfl)]
            obtain ⟨AV4, cV4, V4, hrun, ho2, hgr, hba⟩ := app_ownC (c' := 1) ho (hone) (by omega) hHeld.size
            clear ho hgr
            have ho := ho2
            clear ho2
            refine wp_append_ks rfl rfl rfl hrun ?_
            clear hrun
            have hSa := hHeld.trans hba
            clear hba hHeld
            refine hK.out _ _ hSa (fun hHeld => ?_)
            clear hK K
            try simp only [Act.put, setIfInBounds_toArray, set_cons_zero, set_cons_succ]
            clear hSa
            refine wpAnyH_ready (rs := [16]) (by kernel_rfl) (by simp) (AllReadyH.cons rfl (fun K hK => ?_) AllReadyH.nil)
            rw [if_pos (by rfl)]
            go_wp2_with fail
            have hSa := hHeld
            refine hK.out _ _ hSa (fun hHeld => ?_)
            clear hK K
            try simp only [Act.put, setIfInBounds_toArray, set_cons_zero, set_cons_succ]
            clear hSa
            refine wpAnyH_done (by kernel_rfl) ?_ _
            go_wp2_with fail
            go_meet
            exact ⟨AV4, cV4, rfl, ho, hHeld⟩
        · rw [if_pos (by rfl)]
          go_wp2_with fail
          refine k_overK (fun W' => Below V0.heap.size V0 W' ∧ ColK 3 chgC W' W'.heap.size (some ⟨V0.heap.size, 0, none⟩) 1 [(ck, cv, false)] ∧ V0.heap.size < W'.heap.size) ⟨(Below.refl _ _).alloc (Nat.le_refl _) _, chg_fresh V0 ck cv, by simp⟩ ?_
          rintro V1 ⟨hba, hone, hlt1⟩
          obtain ⟨b1, hb1⟩ : ∃ b1, b1 = V0.heap.size := ⟨_, rfl⟩
          rw [← hb1] at hone hlt1 ⊢
          clear hb1
          have hSa := hHeld.trans (hba.mono hHeld.size)
          clear hba hHeld
          refine hK.out _ _ hSa (fun hHeld => ?_)
          clear hK K
          try simp only [Act.put, setIfInBounds_toArray, set_cons_zero, set_cons_succ]
          clear hSa
          refine wpAnyH_ready (rs := [0]) (by kernel_rfl) (by simp) (AllReadyH.cons rfl (fun K hK => ?_) AllReadyH.nil)
          rw [if_pos (by rfl)]
          go_wp2_with fail
          refine k_overK (fun W' => Below V1.heap.size V1 W' ∧ OwnK 3 chgC W' V1.heap.size 61 (some ⟨V1.heap.size, 0, none⟩) 0 0 [] ∧ V1.heap.size < W'.heap.size) ⟨(Below.refl _ _).alloc (Nat.le_refl _) _, OwnK.empty chgC_len V1 61, by simp⟩ ?_
          rintro V2 ⟨hba, ho, hlt0⟩
          obtain ⟨b0, hb0⟩ : ∃ b0, b0 = V1.heap.size := ⟨_, rfl⟩
          rw [← hb0] at ho hlt0 ⊢
          have ho := ho.from_ (show wr.heap.size ≤ b0 by rw [hb0]; exact hHeld.size)
          have hne : b1 ≠ b0 := by omega
          clear hb0
          replace hone := hone.later hba
          have hSa := hHeld.trans (hba.mono hHeld.size)
          clear hba hHeld
          refine hK.out _ _ hSa (fun hHeld => ?_)
          clear hK K
          try simp only [Act.put, setIfInBounds_toArray, set_cons_zero, set_cons_succ]
          clear hSa
          refine wpAnyH_ready (rs := [2]) (by kernel_rfl) (by simp) (AllReadyH.cons rfl (fun K hK => ?_) AllReadyH.nil)
          rw [if_pos (by rfl)]
          obtain ⟨AV3, cV3, V3, hrun, ho2, hgr, hba⟩ := app_ownC (c' := c5) ho (HCL.out.below hHeld (Nat.le_refl _)) (by omega) hHeld.size
          rw [Nat.zero_add, List.nil_append] at ho2
          rw [Nat.zero_add] at hrun
          have hone := (hone.grown (b := b0) hgr (Nat.le_refl _) (fun _ p hp => by cases hp; exact hne)).more hba.size
          clear ho hgr
          have ho := ho2
          clear ho2
          refine wp_append_ks rfl rfl rfl hrun ?_
          clear hrun
          have hSa := hHeld.trans hba
          clear hba hHeld
          refine hK.out _ _ hSa (fun hHeld => ?_)
          clear hK K
          try simp only [Act.put, setIfInBounds_toArray, set_cons_zero, set_cons_succ]
          clear hSa
          refine wpAnyH_ready (rs := [15]) (by kernel_rfl) (by simp) (AllReadyH.cons rfl (fun K hK => ?_) AllReadyH.nil)
          rw [if_pos (by rfl)]
          obtain ⟨AV4, cV4, V4, hrun, ho2, hgr, hba⟩ := app_ownC (c' := 1) ho (hone) (by omega) hHeld.size
          clear ho hgr
          have ho := ho2
          clear ho2
          refine wp_append_ks rfl rfl rfl hrun ?_
          clear hrun
          have hSa := hHeld.trans hba
          clear hba hHeld
          refine hK.out _ _ hSa (fun hHeld => ?_)
          clear hK K
          try simp only [Act.put, setIfInBounds_toArray, set_cons_zero, set_cons_succ]
          clear hSa
          refine wpAnyH_ready (rs := [16]) (by kernel_rfl) (by simp) (AllReadyH.cons rfl (fun K hK => ?_) AllReadyH.nil)
          rw [if_pos (by rfl)]
          go_wp2_with fail
          have hSa := hHeld
          refine hK.out _ _ hSa (fun hHeld => ?_)
          clear hK K
          try simp only [Act.put, setIfInBounds_toArray, set_cons_zero, set_cons_succ]
          clear hSa
          refine wpAnyH_done (by kernel_rfl) ?_ _
          go_wp2_with fail
          go_meet
          exact ⟨AV4, cV4, rfl, ho, hHeld⟩
      case rest =>
        obtain ⟨AX, cX, rfl, hox, hbx⟩ := hcut
        generalize wc = w2 at *
        have HB2 := Lib.hid (HB.out.trans (hbx.mono hwb))
        have HAT2 := Lib.hid (HAT.out.below hbx)
        have HOX := Lib.hid (hox.from_ hwb)
        have hxb := x6bytes_any AX (n5 + 1) cX (cs ++ [(ck, cv, false)]) w2 hox.col (fun x hx => by
          rcases List.mem_append.1 hx with h | h
          · exact HCS.out x h
          · rw [List.mem_singleton.1 h]; exact ⟨hsz1, hsz2⟩) (by omega)
        have HXB := Lib.hid hxb
        have hcX := hox.cap.1
        clear hox hbx hxb r0 r1 HAT HCL HB
        go_wp2_with fail
        refine HXB.out.mono ?_
        rintro e w3 ⟨mx, hmx, Aq, cq, rfl, hoq, hbq⟩
        have hq : (transN (cs ++ [(ck, cv, false)])).length = mx := hoq.len
        have HAT3 := Lib.hid (HAT2.out.below hbq)
        have HOX3 := Lib.hid (HOX.out.below hbq)
        have HB3 := Lib.hid (HB2.out.trans (hbq.mono HB2.out.size))
        have HQ := Lib.hid hq
        clear hoq hbq hq HAT2 HOX HB2 HXB
        by_cases hf : 6000 < mx
        · have hf' : (6000 : Int) < (mx : Int) := by omega
          have HNE : Hid (cs ≠ []) := Lib.hid (fun e => by
            have h1 := HTS.out; have h2 := HQ.out; have h3 := HSM1.out
            rw [h2, e, trans_nil] at h1
            omega)
          have HST : Hid (snapS (l.take (k + 1)) = (L ++ [transN cs], [(ck, cv, false)])) := Lib.hid (by
            rw [HSN.out, stepS_flush HNE.out (by rw [HPC.out, ← HTS.out, HQ.out]; exact hf), HPC.out])
          have hwq : IntKind.i64.wrap (((n5 + 1 : Nat) : Int) - 1) = ((n5 : Nat) : Int) := by rw [IntWalk.i64_in _ (by omega)]; omega
          have htr := x6bytes_any A5 n5 c5 cs w3 HAT3.out.2.2.1 HCS.out (by omega)
          have HTR := Lib.hid htr
          clear htr hf
          go_wp2_with fail
          refine HTR.out.mono ?_
          rintro e w4 ⟨m4, hm4, A8, c8, rfl, ho8, hb4⟩
          have HAT4 := Lib.hid (HAT3.out.below hb4)
          have HOX4 := Lib.hid (HOX3.out.below hb4)
          have HO8 := Lib.hid (ho8.base_le HB3.out.size)
          have HB4 := Lib.hid (HB3.out.trans (hb4.mono HB3.out.size))
          clear ho8 hb4 HTR HAT3 HOX3 hm4
          go_wp2_with ((with_reducible show wpList _ _ _ (⟨some 37, _, _, _, _, _⟩ :: _) _ _); refine holdK ?_)
          refine heldK (rec_app HAT4.out.1 HAT4.out.2.1 HO8.out (by omega) HB4.out.size rfl (.tmp 33) (.tmp 36) rfl rfl rfl ?_)
          intro A6 c6 w6 ho6 hr6 hb6 hg6
          have HO6 := Lib.hid ho6
          have HR6 := Lib.hid hr6
          have HB6 := Lib.hid (HB4.out.trans hb6)
          have HX6 : Hid (OwnK 3 chgC w6 w.heap.size 61 AX (n5 + 1) cX (cs ++ [(ck, cv, false)])) := Lib.hid
            ⟨owns_other (HOX4.out.below ((Below.refl _ _).alloc (Nat.le_refl _) _)).1 hg6 (row_type (HAT4.out.1.below ((Below.refl _ _).alloc (Nat.le_refl _) _)).1 (show 69 ≠ 61 by decide)), HOX4.out.2⟩
          clear ho6 hr6 hb6 hg6 HAT4 HOX4 HO8 HB4
          go_wp2_with ((with_reducible show wpList _ _ _ (⟨some 42, _, _, _, _, _⟩ :: _) _ _); refine holdK ?_)
          refine heldK (wpList_plain rfl fun _ hK => wp_execK (exec_fromC (j := n5) rfl rfl rfl (by omega) hcX) (hK _ _ ?_))
          have HC7 : Hid (ColK 3 chgC w6 w6.heap.size (fromC AX n5 cX) (n5 + 1 - n5) [(ck, cv, false)]) := Lib.hid (by
            have := HX6.out.col.fromC (j := n5) (c := cX) (by omega) hcX
            rwa [List.drop_left' h5l] at this)
          have HAT7 : Hid (RefAt w.heap.size w6 A6 (n4 + 1) c6 (us ++ [.slice A8 m4 c8]) (fromC AX n5 cX) (n5 + 1 - n5) (cX - n5) (snapS (l.take (k + 1)))) := Lib.hid (by
            rw [HST.out]
            exact ⟨HO6.out, HR6.out, HC7.out, by omega⟩)
          clear HO6 HR6 HC7 HX6
          rw [show n5 + 1 - n5 = 1 by omega] at HAT7
          go_wp2_with fail
          go_roundw
          case rel => exact ⟨k + 1, A6, n4 + 1, c6, _, _, _, _, by omega, by go_num, rfl, rfl, HAT7.out, by omega, by omega, HB6.out⟩
          case measure => simp [intOf]; omega
        · have hf' : ¬ (6000 : Int) < (mx : Int) := by omega
          have HST : Hid (snapS (l.take (k + 1)) = (L, cs ++ [(ck, cv, false)])) := Lib.hid (by
            rw [HSN.out, stepS_more (fun h => hf (by have h2 := h.2; rw [HPC.out, ← HTS.out, HQ.out] at h2; exact h2)), HPC.out])
          have HAT7 : Hid (RefAt w.heap.size w3 A4 n4 c4 us AX (n5 + 1) cX (snapS (l.take (k + 1)))) := Lib.hid (by
            rw [HST.out]
            exact ⟨HAT3.out.1, HAT3.out.2.1, HOX3.out.col, hcX⟩)
          clear HAT3 HOX3 hf
          go_wp2_with fail
          go_roundw
          case rel => exact ⟨k + 1, A4, n4, c4, _, _, _, _, by omega, by go_num, rfl, rfl, HAT7.out, by omega, by omega, HB3.out⟩
          case measure => simp [intOf]; omega
    · have hkn : ¬ (k : Int) < (n : Int) := by omega
      obtain rfl : k = n := by omega
      have hfull : l.take k = l := List.take_of_length_le (by rw [HL.out.1]; exact Nat.le_refl _)
      rw [hfull] at HAT h5l
      have hcsz : ∀ c ∈ (snapS l).2, c.1.size ≤ 140737488355328 ∧ c.2.1.size ≤ 140737488355328 := snapS_size (p := fun c => c.1.size ≤ 140737488355328 ∧ c.2.1.size ≤ 140737488355328) l ([], []) (fun x hx => HS.out x hx) (fun c hc => (by cases hc))
      have htr := x6bytes_any A5 n5 c5 (snapS l).2 wr HAT.out.2.2.1 hcsz (by omega)
      have HTR := Lib.hid htr
      have HSL : Hid (snapL l = (snapS l).1 ++ [transN (snapS l).2]) := Lib.hid rfl
      clear htr hcsz hfull
      go_wp2_with fail
      refine HTR.out.mono ?_
      rintro e w4 ⟨m4, hm4, A8, c8, rfl, ho8, hb4⟩
      have HAT4 := Lib.hid (HAT.out.below hb4)
      have HO8 := Lib.hid (ho8.base_le HB.out.size)
      have HB4 := Lib.hid (HB.out.trans (hb4.mono HB.out.size))
      clear ho8 hb4 HTR HAT hm4
      go_wp2_with ((with_reducible show wpList _ _ _ (⟨some 48, _, _, _, _, _⟩ :: _) _ _); refine holdK ?_)
      refine heldK (rec_app HAT4.out.1 HAT4.out.2.1 HO8.out (by omega) HB4.out.size rfl (.tmp 44) (.tmp 47) rfl rfl rfl ?_)
      intro A6 c6 w6 ho6 hr6 hb6 hg6
      rw [← HSL.out] at hr6
      have HO6 := Lib.hid ho6
      have HR6 := Lib.hid hr6
      have HB6 := Lib.hid (HB4.out.trans hb6)
      clear ho6 hr6 hb6 hg6 HAT4 HO8 HB4
      go_wp2_with fail
      go_ret
      exact ⟨A6, n4 + 1, c6, _, rfl, HO6.out, HR6.out, HB6.out⟩
end Go.Proofs.YthflljlilcmcnaaGreatDoor
