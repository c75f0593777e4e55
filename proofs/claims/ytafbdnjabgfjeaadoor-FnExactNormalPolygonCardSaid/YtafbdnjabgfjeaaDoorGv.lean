/- Quotients of the program, with wide bounds: the two ways that divide. -/
import Derived.Test.YtafbdnjabgfjeaaDoorGl
namespace Go.Proofs.YtafbdnjabgfjeaaDoor
open Go Go.RowKit OriM

theorem gfield_run (a b k : Int) (w : World) : Sem.run Tryd.prog (Instr.field 25 (.agg #[.int .i64 a, .int .i64 b, .int .i64 k]) 0) w = .ok (.int .i64 a) w := by
  simp [Instr.field, asAgg, go_sem]

set_option maxHeartbeats 1000000 in
set_option maxRecDepth 100000 in
theorem gover_up (a b k a' b' k' tA tB N nB od qA qB K0 : Int) (tw : Nat) (w : World) (hT : TzTab w)
    (HT1 : Hid (∀ w, Calls Tryd.prog 153 #[num a b 0, num a' (-b') 0] w (RetB (num tA tB 0) w)))
    (HT2 : Hid (∀ w, Calls Tryd.prog 153 #[num a' b' k', num a' (-b') 0] w (RetB (.agg #[.int .i64 N, .int .i64 nB, .int .i64 k']) w)))
    (HZ : Hid (∀ w, TzTab w → Calls Tryd.prog 174 #[.int .u64 (IntKind.u64.wrap N)] w (Ret (.int .i64 (tw : Int)) w)))
    (e1 : Hid (IntKind.i64.wrap (-b') = -b')) (e2 : Hid (N / 2 ^ tw = od)) (ho : Hid (od ≠ 0)) (ht : tw ≤ 40) (r1 : Hid (tA.tmod od = 0)) (r2 : Hid (tB.tmod od = 0))
    (q1 : Hid (IntKind.i64.wrap (tA.tdiv od) = qA)) (q2 : Hid (IntKind.i64.wrap (tB.tdiv od) = qB)) (u : Nat) (hu : u ≤ 10) (rA rB : Int)
    (s1 : Hid (IntKind.i64.wrap (qA * 2 ^ u) = rA)) (s2 : Hid (IntKind.i64.wrap (qB * 2 ^ u) = rB))
    (e3 : Hid (wrap64 (wrap64 (k + tw) - k') = K0)) (e4 : Hid (wrap64 (-K0) = u)) (e5 : Hid (IntKind.i64.wrap (K0 + u) = 0)) :
    Calls Tryd.prog 167 #[num a b k, num a' b' k'] w (RetB (numOk rA rB 0 true) w) := by
  have hT' := Lib.hid hT
  go_enter Tryd.func167, Tryd.ntmps167
  have e1' := e1.out
  have hfr := gfield_run N nB k'
  go_wp2_with fail
  refine (HT1.out _).mono ?_
  rintro e w1 ⟨rfl, hb1⟩; (try replace hb1 := Below.undrew hb1); obtain ⟨hc1, hf1⟩ := bcell hb1; have hz1 := hb1.size; (try simp at hz1); have hz1a : w.heap.size < w1.heap.size := (by omega); have hz1b : w.heap.size + 1 < w1.heap.size := (by omega); have hz1c : w.heap.size + 1 + 1 < w1.heap.size := (by omega)
  have hz1d : w.heap.size + 1 + 1 + 1 < w1.heap.size := (by omega)
  go_wp2_with fail
  refine (HT2.out _).mono ?_
  rintro e w2 ⟨rfl, hb2⟩; (try replace hb2 := Below.undrew hb2); obtain ⟨hc2, hf2⟩ := bcell hb2; have hz2 := hb2.size; (try simp at hz2)
  have hz2a : w.heap.size < w2.heap.size := (by omega)
  have hz2b : w.heap.size + 1 < w2.heap.size := (by omega)
  have hz2c : w.heap.size + 1 + 1 < w2.heap.size := (by omega)
  have hz2d : w.heap.size + 1 + 1 + 1 < w2.heap.size := (by omega)
  have hz2e : w1.heap.size < w2.heap.size := (by omega)
  go_wp2_with fail
  refine (HZ.out _ ?_).mono ?_
  · exact TzTab.below (w := w) hT'.out (by (repeat (first | with_reducible exact Below.refl _ _ | with_reducible refine Below.drew ?_ | with_reducible refine Below.alloc ?_ (by first | omega | (simp; done) | (simp; omega)) _ | with_reducible refine Below.setCell ?_ (by first | omega | (simp; done) | (simp; omega)) _ | with_reducible refine Below.trans ?_ (Below.mono (by assumption) (by first | omega | (simp; done) | (simp; omega)))))) (Nat.le_refl _)
  rintro e w3 ⟨rfl, rfl⟩
  have e2' := e2.out
  have ho' := ho.out
  have r1' := r1.out
  have r2' := r2.out
  have e3' := e3.out
  have e4' := e4.out
  have e5' := e5.out
  have q1' := q1.out
  have q2' := q2.out
  have s1' := s1.out
  have s2' := s2.out
  go_wp2_with fail
  go_region
  go_wp2_with fail
  exact bodyPost_ret (v := numOk rA rB 0 true) (by simp [results, Tryd.results167, go_sem, *]) rfl ⟨rfl, by (repeat (first | with_reducible exact Below.refl _ _ | with_reducible refine Below.drew ?_ | with_reducible refine Below.alloc ?_ (by first | omega | (simp; done) | (simp; omega)) _ | with_reducible refine Below.setCell ?_ (by first | omega | (simp; done) | (simp; omega)) _ | with_reducible refine Below.trans ?_ (Below.mono (by assumption) (by first | omega | (simp; done) | (simp; omega)))))⟩

set_option maxHeartbeats 1000000 in
set_option maxRecDepth 100000 in
theorem gover_down (a b k a' b' k' tA tB N nB od qA qB K0 : Int) (tw : Nat) (w : World) (hT : TzTab w)
    (HT1 : Hid (∀ w, Calls Tryd.prog 153 #[num a b 0, num a' (-b') 0] w (RetB (num tA tB 0) w)))
    (HT2 : Hid (∀ w, Calls Tryd.prog 153 #[num a' b' k', num a' (-b') 0] w (RetB (.agg #[.int .i64 N, .int .i64 nB, .int .i64 k']) w)))
    (HZ : Hid (∀ w, TzTab w → Calls Tryd.prog 174 #[.int .u64 (IntKind.u64.wrap N)] w (Ret (.int .i64 (tw : Int)) w)))
    (e1 : Hid (IntKind.i64.wrap (-b') = -b')) (e2 : Hid (N / 2 ^ tw = od)) (ho : Hid (od ≠ 0)) (ht : tw ≤ 40) (r1 : Hid (tA.tmod od = 0)) (r2 : Hid (tB.tmod od = 0))
    (q1 : Hid (IntKind.i64.wrap (tA.tdiv od) = qA)) (q2 : Hid (IntKind.i64.wrap (tB.tdiv od) = qB)) (nK : Int) (hn : nK < 0)
    (s1 : Hid (IntKind.i64.wrap qA = qA)) (s2 : Hid (IntKind.i64.wrap qB = qB))
    (e3 : Hid (wrap64 (wrap64 (k + tw) - k') = K0)) (e4 : Hid (wrap64 (-K0) = nK)) (e5 : Hid (IntKind.i64.wrap K0 = K0)) :
    Calls Tryd.prog 167 #[num a b k, num a' b' k'] w (RetB (numOk qA qB K0 true) w) := by
  have hT' := Lib.hid hT
  go_enter Tryd.func167, Tryd.ntmps167
  have e1' := e1.out
  have hfr := gfield_run N nB k'
  go_wp2_with fail
  refine (HT1.out _).mono ?_
  rintro e w1 ⟨rfl, hb1⟩; (try replace hb1 := Below.undrew hb1); obtain ⟨hc1, hf1⟩ := bcell hb1; have hz1 := hb1.size; (try simp at hz1); have hz1a : w.heap.size < w1.heap.size := (by omega); have hz1b : w.heap.size + 1 < w1.heap.size := (by omega); have hz1c : w.heap.size + 1 + 1 < w1.heap.size := (by omega)
  have hz1d : w.heap.size + 1 + 1 + 1 < w1.heap.size := (by omega)
  go_wp2_with fail
  refine (HT2.out _).mono ?_
  rintro e w2 ⟨rfl, hb2⟩; (try replace hb2 := Below.undrew hb2); obtain ⟨hc2, hf2⟩ := bcell hb2; have hz2 := hb2.size; (try simp at hz2)
  have hz2a : w.heap.size < w2.heap.size := (by omega)
  have hz2b : w.heap.size + 1 < w2.heap.size := (by omega)
  have hz2c : w.heap.size + 1 + 1 < w2.heap.size := (by omega)
  have hz2d : w.heap.size + 1 + 1 + 1 < w2.heap.size := (by omega)
  have hz2e : w1.heap.size < w2.heap.size := (by omega)
  go_wp2_with fail
  refine (HZ.out _ ?_).mono ?_
  · exact TzTab.below (w := w) hT'.out (by (repeat (first | with_reducible exact Below.refl _ _ | with_reducible refine Below.drew ?_ | with_reducible refine Below.alloc ?_ (by first | omega | (simp; done) | (simp; omega)) _ | with_reducible refine Below.setCell ?_ (by first | omega | (simp; done) | (simp; omega)) _ | with_reducible refine Below.trans ?_ (Below.mono (by assumption) (by first | omega | (simp; done) | (simp; omega)))))) (Nat.le_refl _)
  rintro e w3 ⟨rfl, rfl⟩
  have e2' := e2.out
  have ho' := ho.out
  have r1' := r1.out
  have r2' := r2.out
  have e3' := e3.out
  have e4' := e4.out
  have e5' := e5.out
  have q1' := q1.out
  have q2' := q2.out
  have s1' := s1.out
  have s2' := s2.out
  have hn' : ¬ 0 ≤ nK := by omega
  go_wp2_with fail
  go_region
  go_wp2_with fail
  exact bodyPost_ret (v := numOk qA qB K0 true) (by simp [results, Tryd.results167, go_sem, *]) rfl ⟨rfl, by (repeat (first | with_reducible exact Below.refl _ _ | with_reducible refine Below.drew ?_ | with_reducible refine Below.alloc ?_ (by first | omega | (simp; done) | (simp; omega)) _ | with_reducible refine Below.setCell ?_ (by first | omega | (simp; done) | (simp; omega)) _ | with_reducible refine Below.trans ?_ (Below.mono (by assumption) (by first | omega | (simp; done) | (simp; omega)))))⟩


end Go.Proofs.YtafbdnjabgfjeaaDoor
