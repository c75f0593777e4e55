/- The model's division. -/
import Derived.Test.YtffcdnokkdifdaaDoorWh
import Derived.Test.YtffcdnokkdifdaaDoorSb
namespace Go.Proofs.YtffcdnokkdifdaaDoor
open Go Go.RowKit OriM

/-- What lies where while the model divides: the divisor's power, the answer's cells, the quotient's. -/
def DivMem (w : World) (k' p s K : Int) (W : World) : Prop :=
  W.cell? ⟨w.heap.size + 1, 2, none⟩ = some (.int .i64 k') ∧
  W.cell? ⟨w.heap.size + 1 + 1, 0, none⟩ = some (.int .i64 0) ∧ W.cell? ⟨w.heap.size + 1 + 1, 1, none⟩ = some (.int .i64 0) ∧ W.cell? ⟨w.heap.size + 1 + 1, 2, none⟩ = some (.int .i64 0) ∧
  W.frozen? ⟨w.heap.size + 1 + 1, 0, none⟩ = false ∧ W.frozen? ⟨w.heap.size + 1 + 1, 1, none⟩ = false ∧ W.frozen? ⟨w.heap.size + 1 + 1, 2, none⟩ = false ∧
  W.cell? ⟨w.heap.size + 1 + 1 + 1, 0, none⟩ = some (.int .i64 p) ∧ W.cell? ⟨w.heap.size + 1 + 1 + 1, 1, none⟩ = some (.int .i64 s) ∧ W.cell? ⟨w.heap.size + 1 + 1 + 1, 2, none⟩ = some (.int .i64 K) ∧
  W.frozen? ⟨w.heap.size + 1 + 1 + 1, 0, none⟩ = false ∧ W.frozen? ⟨w.heap.size + 1 + 1 + 1, 1, none⟩ = false ∧ W.frozen? ⟨w.heap.size + 1 + 1 + 1, 2, none⟩ = false ∧
  w.heap.size + 1 + 1 + 1 < W.heap.size ∧ Below w.heap.size w W

def Rel1 (w : World) (tA tB od k k' : Int) (tw gk : Nat) (s6 : Value) (W : World) : Prop := ∃ n K : Int, s6 = .int .i64 n ∧ n = od * 2 ^ gk ∧ gk ≤ tw ∧ K = k + tw - gk ∧ -51539607552 ≤ n ∧ n ≤ 51539607552 ∧ DivMem w k' tA tB K W
def Rel2 (w : World) (qA qB k k' : Int) (tw gk : Nat) (s8 : Value) (W : World) : Prop := ∃ (u : Nat) (p s K : Int), s8 = .int .i64 (gk : Int) ∧ p = qA * 2 ^ u ∧ s = qB * 2 ^ u ∧ 0 ≤ K ∧ (u = 0 ∨ K = 0) ∧ K - u = k + tw - k' + gk ∧ (gk : Int) ≤ k' ∧ DivMem w k' p s K W

set_option maxHeartbeats 2000000 in
set_option maxRecDepth 100000 in
theorem lDiv_core (a b k a' b' k' tA tB N od qA qB lA lB lK : Int) (tw : Nat) (w : World) (hN : (N == 0) = false) (hN2 : Hid (N = od * 2 ^ tw)) (ho : Hid (od % 2 ≠ 0)) (ht : tw ≤ 40) (k0 : 0 ≤ k) (k1 : k ≤ 10) (k0' : 0 ≤ k') (k1' : k' ≤ 10)
    (N1 : Hid (-51539607552 ≤ N ∧ N ≤ 51539607552)) (qb : Hid (-51539607552 ≤ qA ∧ qA ≤ 51539607552 ∧ -51539607552 ≤ qB ∧ qB ≤ 51539607552))
    (m1 : Hid (IntKind.i64.wrap (a' * a') = a' * a')) (m2 : Hid (IntKind.i64.wrap (2 * b') = 2 * b')) (m3 : Hid (IntKind.i64.wrap (2 * b' * b') = 2 * b' * b')) (m4 : Hid (IntKind.i64.wrap (a' * a' - 2 * b' * b') = N))
    (p1 : Hid (IntKind.i64.wrap (a * a') = a * a')) (p2 : Hid (IntKind.i64.wrap (2 * b) = 2 * b)) (p3 : Hid (IntKind.i64.wrap (2 * b * b') = 2 * b * b')) (p4 : Hid (IntKind.i64.wrap (a * a' - 2 * b * b') = tA))
    (p5 : Hid (IntKind.i64.wrap (b * a') = b * a')) (p6 : Hid (IntKind.i64.wrap (a * b') = a * b')) (p7 : Hid (IntKind.i64.wrap (b * a' - a * b') = tB))
    (r1 : Hid (tA.tmod od = 0)) (r2 : Hid (tB.tmod od = 0)) (q1 : Hid (IntKind.i64.wrap (tA.tdiv od) = qA)) (q2 : Hid (IntKind.i64.wrap (tB.tdiv od) = qB))
    (HL : Hid (∀ (u : Nat) (K : Int) (w : World), 0 ≤ K → (u = 0 ∨ K = 0) → K - u = k + tw - k' → Calls Tryd.prog 93 #[num (qA * 2 ^ u) (qB * 2 ^ u) K] w (RetB (num lA lB lK) w))) :
    Calls Tryd.prog 63 #[num a b k, num a' b' k'] w (RetB (numOk lA lB lK true) w) := by
  have n1 := m1.out
  have n2 := m2.out
  have n3 := m3.out
  have n4 := m4.out
  have n5 := p1.out
  have n6 := p2.out
  have n7 := p3.out
  have n8 := p4.out
  have n9 := p5.out
  have n10 := p6.out
  have n11 := p7.out
  go_enter Tryd.func63, Tryd.ntmps63
  go_wp2_with fail
  go_loopg [6] tw (Rel1 w tA tB od k k' tw)
  case atStart => exact ⟨N, k, rfl, hN2.out, Nat.le_refl _, by omega, N1.out.1, N1.out.2, ⟨by simp [go_sem, *], by simp [go_sem, *], by simp [go_sem, *], by simp [go_sem, *], by simp [go_sem, *], by simp [go_sem, *], by simp [go_sem, *], by simp [go_sem, *], by simp [go_sem, *], by simp [go_sem, *], by simp [go_sem, *], by simp [go_sem, *], by simp [go_sem, *], by simp, by (repeat (first | with_reducible exact Below.refl _ _ | with_reducible refine Below.drew ?_ | with_reducible refine Below.alloc ?_ (by first | omega | (simp; done) | (simp; omega)) _ | with_reducible refine Below.setCell ?_ (by first | omega | (simp; done) | (simp; omega)) _ | with_reducible refine Below.trans ?_ (Below.mono (by assumption) (by first | omega | (simp; done) | (simp; omega)))))⟩⟩
  case round =>
    obtain ⟨n, K, rfl, hn, hle, hK, hl0, hl1, x0, y0, y1, y2, f0, f1, f2, z0, z1, z2, g0, g1, g2, hz, hB⟩ := hrel
    have HB := Lib.hid hB
    have HN := Lib.hid hn
    have HK := Lib.hid hK
    have hKb : 0 ≤ K ∧ K ≤ 100 := by omega
    obtain ⟨hK0, hK1⟩ := hKb
    clear hB hn hK n1 n2 n3 n4 n5 n6 n7 n8 n9 n10 n11
    by_cases hg : gk = 0
    · subst hg
      have en : n = od := by rw [HN.out]; simp
      subst en
      have mo := tmod_odd ho.out
      have r1' := r1.out
      have r2' := r2.out
      have q1' := q1.out
      have q2' := q2.out
      have hod : n ≠ 0 := by intro h; have := ho.out; rw [h] at this; simp at this
      go_wp2_with fail
      go_loopg [8] k'.toNat (Rel2 w qA qB k k' tw)
      case atStart =>
        have hK' := HK.out
        exact ⟨0, qA, qB, K, by rw [Int.toNat_of_nonneg k0'], by simp, by simp, hK0, .inl rfl, by omega, by omega, ⟨by simp [go_sem, *], by simp [go_sem, *], by simp [go_sem, *], by simp [go_sem, *], by simp [go_sem, *], by simp [go_sem, *], by simp [go_sem, *], by simp [go_sem, *], by simp [go_sem, *], by simp [go_sem, *], by simp [go_sem, *], by simp [go_sem, *], by simp [go_sem, *], by simp; omega, by have hB := HB.out; (repeat (first | with_reducible assumption | with_reducible refine Below.drew ?_ | with_reducible refine Below.alloc ?_ (by first | omega | (simp; done) | (simp; omega)) _ | with_reducible refine Below.setCell ?_ (by first | omega | (simp; done) | (simp; omega)) _ | with_reducible refine Below.trans ?_ (Below.mono (by assumption) (by first | omega | (simp; done) | (simp; omega)))))⟩⟩
      case round =>
        obtain ⟨u, p, s, K2, rfl, hp, hs, hK2, hor, hKu, hkk, x0, y0, y1, y2, f0, f1, f2, z0, z1, z2, g0, g1, g2, hz, hB⟩ := hrel
        have hK3 : K2 ≤ 100 := by omega
        have HB2 := Lib.hid hB
        have HP := Lib.hid hp
        have HS := Lib.hid hs
        have HO := Lib.hid hor
        have HU := Lib.hid hKu
        clear hB hor hKu q1' q2' r1' r2' mo hl0 hl1
        by_cases hg : gk = 0
        · subst hg
          have HL' := Lib.hid (show ∀ w, Calls Tryd.prog 93 #[num p s K2] w (RetB (num lA lB lK) w) from fun w => by
            have := HL.out u K2 w hK2 HO.out (by have := HU.out; omega)
            rw [hp, hs]
            exact this)
          clear hp hs
          go_wp2_with fail
          refine (HL'.out _).mono ?_
          rintro e w9 ⟨rfl, hb9⟩; (try replace hb9 := Below.undrew hb9); obtain ⟨hc9, hf9⟩ := bcell hb9; have hz9 := hb9.size; (try simp at hz9)
          have hz9a : w.heap.size < w9.heap.size := (by omega)
          have hz9b : w.heap.size + 1 < w9.heap.size := (by omega)
          have hz9c : w.heap.size + 1 + 1 < w9.heap.size := (by omega)
          have ha0 : w.heap.size + 1 + 1 < wr.heap.size := (by omega)
          go_wp2_with fail
          exact bodyPost_ret (v := numOk lA lB lK true) (by simp [results, Tryd.results63, go_sem, *]) rfl ⟨rfl, by have hB := HB2.out; (repeat (first | with_reducible assumption | with_reducible refine Below.drew ?_ | with_reducible refine Below.alloc ?_ (by first | omega | (simp; done) | (simp; omega)) _ | with_reducible refine Below.setCell ?_ (by first | omega | (simp; done) | (simp; omega)) _ | with_reducible refine Below.trans ?_ (Below.mono (by assumption) (by first | omega | (simp; done) | (simp; omega)))))⟩
        · obtain ⟨m, rfl⟩ : ∃ m, gk = m + 1 := ⟨gk - 1, by omega⟩
          clear hp hs hg
          by_cases hk : 0 < K2
          · go_wp2
            go_roundg m
            case measure => omega
            case rel =>
              have ho' := HO.out
              have hu' := HU.out
              exact ⟨u, p, s, K2 - 1, by go_num, HP.out, HS.out, by omega, .inl (by omega), by omega, by omega, ⟨by simp [go_sem, *], by simp [go_sem, *], by simp [go_sem, *], by simp [go_sem, *], by simp [go_sem, *], by simp [go_sem, *], by simp [go_sem, *], by simp [go_sem, *], by simp [go_sem, *], by simp [go_sem, *], by simp [go_sem, *], by simp [go_sem, *], by simp [go_sem, *], by simp; omega, by have hB := HB2.out; (repeat (first | with_reducible assumption | with_reducible refine Below.drew ?_ | with_reducible refine Below.alloc ?_ (by first | omega | (simp; done) | (simp; omega)) _ | with_reducible refine Below.setCell ?_ (by first | omega | (simp; done) | (simp; omega)) _ | with_reducible refine Below.trans ?_ (Below.mono (by assumption) (by first | omega | (simp; done) | (simp; omega)))))⟩⟩
          · have e0 : K2 = 0 := by omega
            subst e0
            clear hk
            have hu10 : u ≤ 10 := by have := HU.out; omega
            obtain ⟨qb1, qb2, qb3, qb4⟩ := qb.out
            have pb := shl_bound hu10 qb1 qb2
            have sb := shl_bound hu10 qb3 qb4
            rw [← HP.out] at pb
            rw [← HS.out] at sb
            obtain ⟨pb1, pb2⟩ := pb
            obtain ⟨sb1, sb2⟩ := sb
            clear qb1 qb2 qb3 qb4
            go_wp2
            go_roundg m
            case measure => omega
            case rel =>
              have hu' := HU.out
              exact ⟨u + 1, p * 2, s * 2, 0, by go_num, by rw [HP.out, Int.pow_succ]; ac_rfl, by rw [HS.out, Int.pow_succ]; ac_rfl, by omega, .inr rfl, by omega, by omega, ⟨by simp [go_sem, *], by simp [go_sem, *], by simp [go_sem, *], by simp [go_sem, *], by simp [go_sem, *], by simp [go_sem, *], by simp [go_sem, *], by simp [go_sem, *], by simp [go_sem, *], by simp [go_sem, *], by simp [go_sem, *], by simp [go_sem, *], by simp [go_sem, *], by simp; omega, by have hB := HB2.out; (repeat (first | with_reducible assumption | with_reducible refine Below.drew ?_ | with_reducible refine Below.alloc ?_ (by first | omega | (simp; done) | (simp; omega)) _ | with_reducible refine Below.setCell ?_ (by first | omega | (simp; done) | (simp; omega)) _ | with_reducible refine Below.trans ?_ (Below.mono (by assumption) (by first | omega | (simp; done) | (simp; omega)))))⟩⟩
    · obtain ⟨m, rfl⟩ : ∃ m, gk = m + 1 := ⟨gk - 1, by omega⟩
      obtain ⟨c, rfl⟩ : ∃ c, n = 2 * c := ⟨od * 2 ^ m, by rw [HN.out, Int.pow_succ]; ac_rfl⟩
      have hc0 : -25769803776 ≤ c := by omega
      have hc1 : c ≤ 25769803776 := by omega
      clear hl0 hl1
      have u1 := tmod_two c
      have t1 := tdiv_two c
      go_wp2
      go_roundg m
      case measure => omega
      case rel =>
        have hn' := HN.out
        have hK' := HK.out
        exact ⟨c, K + 1, rfl, by rw [Int.pow_succ] at hn'; have e : od * (2 ^ m * 2) = 2 * (od * 2 ^ m) := by ac_rfl
                                 rw [e] at hn'; omega, by omega, by omega, by omega, by omega, ⟨by simp [go_sem, *], by simp [go_sem, *], by simp [go_sem, *], by simp [go_sem, *], by simp [go_sem, *], by simp [go_sem, *], by simp [go_sem, *], by simp [go_sem, *], by simp [go_sem, *], by simp [go_sem, *], by simp [go_sem, *], by simp [go_sem, *], by simp [go_sem, *], by simp; omega, by have hB := HB.out; (repeat (first | with_reducible assumption | with_reducible refine Below.drew ?_ | with_reducible refine Below.alloc ?_ (by first | omega | (simp; done) | (simp; omega)) _ | with_reducible refine Below.setCell ?_ (by first | omega | (simp; done) | (simp; omega)) _ | with_reducible refine Below.trans ?_ (Below.mono (by assumption) (by first | omega | (simp; done) | (simp; omega)))))⟩⟩
set_option maxHeartbeats 2000000 in
set_option maxRecDepth 100000 in
theorem lDiv_no1 (a b k a' b' k' tA tB N od : Int) (tw : Nat) (w : World) (hN : (N == 0) = false) (hN2 : Hid (N = od * 2 ^ tw)) (ho : Hid (od % 2 ≠ 0)) (ht : tw ≤ 40) (k0 : 0 ≤ k) (k1 : k ≤ 10)
    (N1 : Hid (-51539607552 ≤ N ∧ N ≤ 51539607552))
    (m1 : Hid (IntKind.i64.wrap (a' * a') = a' * a')) (m2 : Hid (IntKind.i64.wrap (2 * b') = 2 * b')) (m3 : Hid (IntKind.i64.wrap (2 * b' * b') = 2 * b' * b')) (m4 : Hid (IntKind.i64.wrap (a' * a' - 2 * b' * b') = N))
    (p1 : Hid (IntKind.i64.wrap (a * a') = a * a')) (p2 : Hid (IntKind.i64.wrap (2 * b) = 2 * b)) (p3 : Hid (IntKind.i64.wrap (2 * b * b') = 2 * b * b')) (p4 : Hid (IntKind.i64.wrap (a * a' - 2 * b * b') = tA))
    (p5 : Hid (IntKind.i64.wrap (b * a') = b * a')) (p6 : Hid (IntKind.i64.wrap (a * b') = a * b')) (p7 : Hid (IntKind.i64.wrap (b * a' - a * b') = tB))
    (r1 : Hid (tA.tmod od ≠ 0)) :
    Calls Tryd.prog 63 #[num a b k, num a' b' k'] w (RetB (numOk 0 0 0 false) w) := by
  have n1 := m1.out
  have n2 := m2.out
  have n3 := m3.out
  have n4 := m4.out
  have n5 := p1.out
  have n6 := p2.out
  have n7 := p3.out
  have n8 := p4.out
  have n9 := p5.out
  have n10 := p6.out
  have n11 := p7.out
  go_enter Tryd.func63, Tryd.ntmps63
  go_wp2_with fail
  go_loopg [6] tw (Rel1 w tA tB od k k' tw)
  case atStart => exact ⟨N, k, rfl, hN2.out, Nat.le_refl _, by omega, N1.out.1, N1.out.2, ⟨by simp [go_sem, *], by simp [go_sem, *], by simp [go_sem, *], by simp [go_sem, *], by simp [go_sem, *], by simp [go_sem, *], by simp [go_sem, *], by simp [go_sem, *], by simp [go_sem, *], by simp [go_sem, *], by simp [go_sem, *], by simp [go_sem, *], by simp [go_sem, *], by simp, by (repeat (first | with_reducible exact Below.refl _ _ | with_reducible refine Below.drew ?_ | with_reducible refine Below.alloc ?_ (by first | omega | (simp; done) | (simp; omega)) _ | with_reducible refine Below.setCell ?_ (by first | omega | (simp; done) | (simp; omega)) _ | with_reducible refine Below.trans ?_ (Below.mono (by assumption) (by first | omega | (simp; done) | (simp; omega)))))⟩⟩
  case round =>
    obtain ⟨n, K, rfl, hn, hle, hK, hl0, hl1, x0, y0, y1, y2, f0, f1, f2, z0, z1, z2, g0, g1, g2, hz, hB⟩ := hrel
    have HB := Lib.hid hB
    have HN := Lib.hid hn
    have HK := Lib.hid hK
    have hKb : 0 ≤ K ∧ K ≤ 100 := by omega
    obtain ⟨hK0, hK1⟩ := hKb
    clear hB hn hK n1 n2 n3 n4 n5 n6 n7 n8 n9 n10 n11
    by_cases hg : gk = 0
    · subst hg
      have en : n = od := by rw [HN.out]; simp
      subst en
      have mo := tmod_odd ho.out
      have r1' := r1.out
      have hod : n ≠ 0 := by intro h; have := ho.out; rw [h] at this; simp at this
      go_wp2_with fail
      exact bodyPost_ret (v := numOk 0 0 0 false) (by simp [results, Tryd.results63, go_sem, *]) rfl ⟨rfl, by have hB := HB.out; (repeat (first | with_reducible assumption | with_reducible refine Below.drew ?_ | with_reducible refine Below.alloc ?_ (by first | omega | (simp; done) | (simp; omega)) _ | with_reducible refine Below.setCell ?_ (by first | omega | (simp; done) | (simp; omega)) _ | with_reducible refine Below.trans ?_ (Below.mono (by assumption) (by first | omega | (simp; done) | (simp; omega)))))⟩
    · obtain ⟨m, rfl⟩ : ∃ m, gk = m + 1 := ⟨gk - 1, by omega⟩
      obtain ⟨c, rfl⟩ : ∃ c, n = 2 * c := ⟨od * 2 ^ m, by rw [HN.out, Int.pow_succ]; ac_rfl⟩
      have hc0 : -25769803776 ≤ c := by omega
      have hc1 : c ≤ 25769803776 := by omega
      clear hl0 hl1
      have u1 := tmod_two c
      have t1 := tdiv_two c
      go_wp2
      go_roundg m
      case measure => omega
      case rel =>
        have hn' := HN.out
        have hK' := HK.out
        exact ⟨c, K + 1, rfl, by rw [Int.pow_succ] at hn'; have e : od * (2 ^ m * 2) = 2 * (od * 2 ^ m) := by ac_rfl
                                 rw [e] at hn'; omega, by omega, by omega, by omega, by omega, ⟨by simp [go_sem, *], by simp [go_sem, *], by simp [go_sem, *], by simp [go_sem, *], by simp [go_sem, *], by simp [go_sem, *], by simp [go_sem, *], by simp [go_sem, *], by simp [go_sem, *], by simp [go_sem, *], by simp [go_sem, *], by simp [go_sem, *], by simp [go_sem, *], by simp; omega, by have hB := HB.out; (repeat (first | with_reducible assumption | with_reducible refine Below.drew ?_ | with_reducible refine Below.alloc ?_ (by first | omega | (simp; done) | (simp; omega)) _ | with_reducible refine Below.setCell ?_ (by first | omega | (simp; done) | (simp; omega)) _ | with_reducible refine Below.trans ?_ (Below.mono (by assumption) (by first | omega | (simp; done) | (simp; omega)))))⟩⟩
set_option maxHeartbeats 2000000 in
set_option maxRecDepth 100000 in
theorem lDiv_no2 (a b k a' b' k' tA tB N od : Int) (tw : Nat) (w : World) (hN : (N == 0) = false) (hN2 : Hid (N = od * 2 ^ tw)) (ho : Hid (od % 2 ≠ 0)) (ht : tw ≤ 40) (k0 : 0 ≤ k) (k1 : k ≤ 10)
    (N1 : Hid (-51539607552 ≤ N ∧ N ≤ 51539607552))
    (m1 : Hid (IntKind.i64.wrap (a' * a') = a' * a')) (m2 : Hid (IntKind.i64.wrap (2 * b') = 2 * b')) (m3 : Hid (IntKind.i64.wrap (2 * b' * b') = 2 * b' * b')) (m4 : Hid (IntKind.i64.wrap (a' * a' - 2 * b' * b') = N))
    (p1 : Hid (IntKind.i64.wrap (a * a') = a * a')) (p2 : Hid (IntKind.i64.wrap (2 * b) = 2 * b)) (p3 : Hid (IntKind.i64.wrap (2 * b * b') = 2 * b * b')) (p4 : Hid (IntKind.i64.wrap (a * a' - 2 * b * b') = tA))
    (p5 : Hid (IntKind.i64.wrap (b * a') = b * a')) (p6 : Hid (IntKind.i64.wrap (a * b') = a * b')) (p7 : Hid (IntKind.i64.wrap (b * a' - a * b') = tB))
    (r1 : Hid (tA.tmod od = 0)) (r2 : Hid (tB.tmod od ≠ 0)) :
    Calls Tryd.prog 63 #[num a b k, num a' b' k'] w (RetB (numOk 0 0 0 false) w) := by
  have n1 := m1.out
  have n2 := m2.out
  have n3 := m3.out
  have n4 := m4.out
  have n5 := p1.out
  have n6 := p2.out
  have n7 := p3.out
  have n8 := p4.out
  have n9 := p5.out
  have n10 := p6.out
  have n11 := p7.out
  go_enter Tryd.func63, Tryd.ntmps63
  go_wp2_with fail
  go_loopg [6] tw (Rel1 w tA tB od k k' tw)
  case atStart => exact ⟨N, k, rfl, hN2.out, Nat.le_refl _, by omega, N1.out.1, N1.out.2, ⟨by simp [go_sem, *], by simp [go_sem, *], by simp [go_sem, *], by simp [go_sem, *], by simp [go_sem, *], by simp [go_sem, *], by simp [go_sem, *], by simp [go_sem, *], by simp [go_sem, *], by simp [go_sem, *], by simp [go_sem, *], by simp [go_sem, *], by simp [go_sem, *], by simp, by (repeat (first | with_reducible exact Below.refl _ _ | with_reducible refine Below.drew ?_ | with_reducible refine Below.alloc ?_ (by first | omega | (simp; done) | (simp; omega)) _ | with_reducible refine Below.setCell ?_ (by first | omega | (simp; done) | (simp; omega)) _ | with_reducible refine Below.trans ?_ (Below.mono (by assumption) (by first | omega | (simp; done) | (simp; omega)))))⟩⟩
  case round =>
    obtain ⟨n, K, rfl, hn, hle, hK, hl0, hl1, x0, y0, y1, y2, f0, f1, f2, z0, z1, z2, g0, g1, g2, hz, hB⟩ := hrel
    have HB := Lib.hid hB
    have HN := Lib.hid hn
    have HK := Lib.hid hK
    have hKb : 0 ≤ K ∧ K ≤ 100 := by omega
    obtain ⟨hK0, hK1⟩ := hKb
    clear hB hn hK n1 n2 n3 n4 n5 n6 n7 n8 n9 n10 n11
    by_cases hg : gk = 0
    · subst hg
      have en : n = od := by rw [HN.out]; simp
      subst en
      have mo := tmod_odd ho.out
      have r1' := r1.out
      have r2' := r2.out
      have hod : n ≠ 0 := by intro h; have := ho.out; rw [h] at this; simp at this
      go_wp2_with fail
      exact bodyPost_ret (v := numOk 0 0 0 false) (by simp [results, Tryd.results63, go_sem, *]) rfl ⟨rfl, by have hB := HB.out; (repeat (first | with_reducible assumption | with_reducible refine Below.drew ?_ | with_reducible refine Below.alloc ?_ (by first | omega | (simp; done) | (simp; omega)) _ | with_reducible refine Below.setCell ?_ (by first | omega | (simp; done) | (simp; omega)) _ | with_reducible refine Below.trans ?_ (Below.mono (by assumption) (by first | omega | (simp; done) | (simp; omega)))))⟩
    · obtain ⟨m, rfl⟩ : ∃ m, gk = m + 1 := ⟨gk - 1, by omega⟩
      obtain ⟨c, rfl⟩ : ∃ c, n = 2 * c := ⟨od * 2 ^ m, by rw [HN.out, Int.pow_succ]; ac_rfl⟩
      have hc0 : -25769803776 ≤ c := by omega
      have hc1 : c ≤ 25769803776 := by omega
      clear hl0 hl1
      have u1 := tmod_two c
      have t1 := tdiv_two c
      go_wp2
      go_roundg m
      case measure => omega
      case rel =>
        have hn' := HN.out
        have hK' := HK.out
        exact ⟨c, K + 1, rfl, by rw [Int.pow_succ] at hn'; have e : od * (2 ^ m * 2) = 2 * (od * 2 ^ m) := by ac_rfl
                                 rw [e] at hn'; omega, by omega, by omega, by omega, by omega, ⟨by simp [go_sem, *], by simp [go_sem, *], by simp [go_sem, *], by simp [go_sem, *], by simp [go_sem, *], by simp [go_sem, *], by simp [go_sem, *], by simp [go_sem, *], by simp [go_sem, *], by simp [go_sem, *], by simp [go_sem, *], by simp [go_sem, *], by simp [go_sem, *], by simp; omega, by have hB := HB.out; (repeat (first | with_reducible assumption | with_reducible refine Below.drew ?_ | with_reducible refine Below.alloc ?_ (by first | omega | (simp; done) | (simp; omega)) _ | with_reducible refine Below.setCell ?_ (by first | omega | (simp; done) | (simp; omega)) _ | with_reducible refine Below.trans ?_ (Below.mono (by assumption) (by first | omega | (simp; done) | (simp; omega)))))⟩⟩
theorem lDiv_zero (a b k a' b' k' : Int) (w : World)
    (m1 : Hid (IntKind.i64.wrap (a' * a') = a' * a')) (m2 : Hid (IntKind.i64.wrap (2 * b') = 2 * b')) (m3 : Hid (IntKind.i64.wrap (2 * b' * b') = 2 * b' * b')) (m4 : Hid (IntKind.i64.wrap (a' * a' - 2 * b' * b') = 0)) :
    Calls Tryd.prog 63 #[num a b k, num a' b' k'] w (RetB (numOk 0 0 0 false) w) := by
  have n1 := m1.out
  have n2 := m2.out
  have n3 := m3.out
  have n4 := m4.out
  go_enter Tryd.func63, Tryd.ntmps63
  go_wp2_with fail
  exact bodyPost_ret (v := numOk 0 0 0 false) (by simp [results, Tryd.results63, go_sem, *]) rfl ⟨rfl, by (repeat (first | with_reducible exact Below.refl _ _ | with_reducible refine Below.drew ?_ | with_reducible refine Below.alloc ?_ (by first | omega | (simp; done) | (simp; omega)) _ | with_reducible refine Below.setCell ?_ (by first | omega | (simp; done) | (simp; omega)) _ | with_reducible refine Below.trans ?_ (Below.mono (by assumption) (by first | omega | (simp; done) | (simp; omega)))))⟩

end Go.Proofs.YtffcdnokkdifdaaDoor
