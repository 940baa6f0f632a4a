/-
  A walk over the document's own functions on disks: Start, of any disk and any mask. It leaves all older memory as it was.
-/
import Derived.Test.YtfejnfohbagnkaaRefDone
namespace Go.Proofs.Ytfejnfohbagnkaa
open Go.RowKit

theorem RowsOut.alloc {w : World} {base k n : Nat} {e : TypeId} {v : Value} {xs : List (List Value)} (h : RowsOut w base e k v n xs) (o : Obj) : RowsOut (w.alloc o) base e k v n xs := h.below ((Below.refl _ _).alloc (Nat.le_refl _) _)

set_option maxHeartbeats 2000000 in
theorem rstart_any (v : Value) (d : Dk) (m : Nat) (hm : m < 18446744073709551616) (w : World) (hd : DkAt w w.heap.size v d) :
    Calls Try.prog 25 #[v, .int .u64 (m : Int)] w (DkRes w (startM d m)) := by
  have hdW := fun W => hd.later (W := W)
  obtain ⟨A, n, c, A', n', c', rfl, hnc, hnc', hc, hc', hS, hL⟩ := hd
  have HS := Lib.hid hS; have HL := Lib.hid hL; clear hS hL
  have Hd := Lib.hid hdW; clear hdW
  by_cases hr : rightB d = true
  · have hM : startM d m = (⟨doneM (bitM m) 0 d.secs d.loose, [], -1, false⟩, 0) := by unfold startM; rw [if_pos hr]
    rw [hM]
    clear hM
    go_enter Try.func25, Try.ntmps25
    go_wp2_with fail
    refine (rright_any _ d _ ?hd).mono ?_
    case hd => exact Hd.out _ (by repeat (first | with_reducible exact Below.refl _ _ | (refine Below.alloc ?_ (by simp <;> omega) _)))
    rintro e w1 ⟨rfl, hb1⟩
    have B0 : Bk w1 w.heap.size 25 _ := Bk.below ((Bk.new w 25 _).alloc _) hb1 (by simp only [World.size_alloc]; omega)
    have B1 : Bk w1 (w.heap.size + 1) 25 _ := Bk.below (Bk.new2 _ _ 25 _) hb1 (by simp only [World.size_alloc]; omega)
    have hb : Below w.heap.size w w1 := (((Below.refl _ _).alloc (Nat.le_refl _) _).alloc (by simp) _).trans (hb1.mono (by simp only [World.size_alloc]; omega))
    obtain ⟨⟨p0, p1, p2, p3⟩, -⟩ := B0.four
    have HB1 := Lib.hid B1; have HW := Lib.hid hb
    have hlt : w.heap.size + 1 < w1.heap.size := B1.lt
    clear B0 B1 hb hb1
    go_wp2_with fail
    refine (rdone_any _ d m hm _ (Hd.out _ HW.out) hr).mono ?_
    rintro e w2 ⟨v2, rfl, ⟨A2, n2, c2, A2', n2', c2', rfl, hR2, hR2'⟩, hb2⟩
    have B1 := HB1.out.below hb2 hlt
    have hbw : Below w.heap.size w w2 := HW.out.trans (hb2.mono (by omega))
    obtain ⟨⟨s0, s1, s2, s3⟩, t0, t1, t2, t3⟩ := B1.four
    have hlt2 : w.heap.size + 1 < w2.heap.size := B1.lt
    have hn2' : n2' = 0 := by obtain ⟨_, _, e, _, _, hl, _⟩ := hR2'; injection e with _ e2; simpa using hl.symm
    subst hn2'
    have HR2 := Lib.hid hR2; have HR2' := Lib.hid hR2'; have HBW := Lib.hid hbw
    clear B1 hR2 hR2' hbw hb2 p0 p1 p2 p3 HB1 HW
    go_wp2
    refine bodyPost_ret (v := .tuple #[.agg #[.slice A2 n2 c2, .slice A2' 0 c2', .int .i64 (-1), .bool false], .int .i64 0]) (by simp [results, Try.results25, go_sem, *]) rfl ?_
    refine ⟨_, rfl, DkOut.at_ (base := w1.heap.size) ⟨A2, n2, c2, A2', 0, c2', rfl, ?_, ?_⟩, ?_⟩
    · repeat (first | with_reducible exact HR2.out | (with_reducible refine RowsOut.alloc ?_ _) | (with_reducible refine RowsOut.box ?_ ?hp _; (case hp => first | omega | (simp; done) | (simp; omega))))
    · repeat (first | with_reducible exact HR2'.out | (with_reducible refine RowsOut.alloc ?_ _) | (with_reducible refine RowsOut.box ?_ ?hp _; (case hp => first | omega | (simp; done) | (simp; omega))))
    · repeat (first | with_reducible exact HBW.out | (with_reducible refine Below.alloc ?_ ?hp _; (case hp => first | omega | (simp; done) | (simp; omega))) | (with_reducible refine Below.setCell ?_ ?hp _; (case hp => first | omega | (simp; done) | (simp; omega))))
  · have hr' : rightB d = false := by simpa using hr
    have hM : startM d m = (d, 1) := by unfold startM; rw [if_neg hr]
    rw [hM]
    clear hM hr
    go_enter Try.func25, Try.ntmps25
    go_wp2_with fail
    refine (rright_any _ d _ ?hd).mono ?_
    case hd => exact Hd.out _ (by repeat (first | with_reducible exact Below.refl _ _ | (refine Below.alloc ?_ (by simp <;> omega) _)))
    rintro e w1 ⟨rfl, hb1⟩
    have B0 : Bk w1 w.heap.size 25 _ := Bk.below ((Bk.new w 25 _).alloc _) hb1 (by simp only [World.size_alloc]; omega)
    have B1 : Bk w1 (w.heap.size + 1) 25 _ := Bk.below (Bk.new2 _ _ 25 _) hb1 (by simp only [World.size_alloc]; omega)
    have hb : Below w.heap.size w w1 := (((Below.refl _ _).alloc (Nat.le_refl _) _).alloc (by simp) _).trans (hb1.mono (by simp only [World.size_alloc]; omega))
    obtain ⟨⟨p0, p1, p2, p3⟩, -⟩ := B0.four
    obtain ⟨⟨s0, s1, s2, s3⟩, t0, t1, t2, t3⟩ := B1.four
    have HW := Lib.hid hb
    clear B0 B1 hb hb1
    go_wp2
    refine bodyPost_ret (v := .tuple #[.agg #[.slice A n c, .slice A' n' c', .int .i64 d.fuse, .bool d.down], .int .i64 1]) (by simp [results, Try.results25, go_sem, *]) rfl ?_
    refine DkRes.same rfl HS.out HL.out hnc hnc' hc hc' ?_
    repeat (first | with_reducible exact HW.out | (with_reducible refine Below.alloc ?_ ?hp _; (case hp => first | omega | (simp; done) | (simp; omega))) | (with_reducible refine Below.setCell ?_ ?hp _; (case hp => first | omega | (simp; done) | (simp; omega))))
end Go.Proofs.Ytfejnfohbagnkaa
