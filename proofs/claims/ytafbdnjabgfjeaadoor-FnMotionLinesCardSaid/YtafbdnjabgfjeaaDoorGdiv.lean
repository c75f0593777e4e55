/- The model's division on the grid, by numbers whose norm is a power of 2. -/
import Derived.Test.YtafbdnjabgfjeaaDoorGs
import Derived.Deep.LoopGhost
namespace Go.Proofs.YtafbdnjabgfjeaaDoor
open Go Go.RowKit OriM

set_option maxRecDepth 100000 in
theorem gshl_bound {p : Int} {u : Nat} (hu : u ≤ 10) (p1 : -1125899906842624 ≤ p) (p2 : p ≤ 1125899906842624) : -1152921504606846976 ≤ p * 2 ^ u ∧ p * 2 ^ u ≤ 1152921504606846976 := by
  have h1 := two_pow_pos u
  have h2 : (2 : Int) ^ u ≤ 1024 := by
    have := Nat.pow_le_pow_right (n := 2) (by decide) hu
    exact_mod_cast this
  have := prod_le (c := 2 ^ u) (m := 1024) (A := p) (by omega) (by omega) h2 p1 p2
  omega

/-- What lies where while the model divides: the divisor's power, the answer's cells, the quotient's. -/
def GDivMem (w : World) (k' p s K : Int) (W : World) : Prop :=
  W.cell? ⟨w.heap.size + 1, 2, none⟩ = some (.int .i64 k') ∧
  W.cell? ⟨w.heap.size + 1 + 1, 0, none⟩ = some (.int .i64 0) ∧ W.cell? ⟨w.heap.size + 1 + 1, 1, none⟩ = some (.int .i64 0) ∧ W.cell? ⟨w.heap.size + 1 + 1, 2, none⟩ = some (.int .i64 0) ∧
  W.frozen? ⟨w.heap.size + 1 + 1, 0, none⟩ = false ∧ W.frozen? ⟨w.heap.size + 1 + 1, 1, none⟩ = false ∧ W.frozen? ⟨w.heap.size + 1 + 1, 2, none⟩ = false ∧
  W.cell? ⟨w.heap.size + 1 + 1 + 1, 0, none⟩ = some (.int .i64 p) ∧ W.cell? ⟨w.heap.size + 1 + 1 + 1, 1, none⟩ = some (.int .i64 s) ∧ W.cell? ⟨w.heap.size + 1 + 1 + 1, 2, none⟩ = some (.int .i64 K) ∧
  W.frozen? ⟨w.heap.size + 1 + 1 + 1, 0, none⟩ = false ∧ W.frozen? ⟨w.heap.size + 1 + 1 + 1, 1, none⟩ = false ∧ W.frozen? ⟨w.heap.size + 1 + 1 + 1, 2, none⟩ = false ∧
  w.heap.size + 1 + 1 + 1 < W.heap.size ∧ Below w.heap.size w W

def GDRel1 (w : World) (tA tB od k k' : Int) (tw gk : Nat) (s6 : Value) (W : World) : Prop := ∃ n K : Int, s6 = .int .i64 n ∧ n = od * 2 ^ gk ∧ gk ≤ tw ∧ K = k + tw - gk ∧ -1125899906842624 ≤ n ∧ n ≤ 1125899906842624 ∧ GDivMem w k' tA tB K W
def GDRel2 (w : World) (qA qB k k' : Int) (tw gk : Nat) (s8 : Value) (W : World) : Prop := ∃ (u : Nat) (p s K : Int), s8 = .int .i64 (gk : Int) ∧ p = qA * 2 ^ u ∧ s = qB * 2 ^ u ∧ 0 ≤ K ∧ (u = 0 ∨ K = 0) ∧ K - u = k + tw - k' + gk ∧ (gk : Int) ≤ k' ∧ GDivMem w k' p s K W

set_option maxHeartbeats 2000000 in
set_option maxRecDepth 100000 in
theorem gDiv_core (a b k a' b' k' tA tB N od qA qB lA lB lK : Int) (tw : Nat) (w : World) (hN : (N == 0) = false) (hN2 : Hid (N = od * 2 ^ tw)) (ho : Hid (od % 2 ≠ 0)) (ht : tw ≤ 40) (k0 : 0 ≤ k) (k1 : k ≤ 16) (k0' : 0 ≤ k') (k1' : k' ≤ 10)
    (N1 : Hid (-1125899906842624 ≤ N ∧ N ≤ 1125899906842624)) (qb : Hid (-1125899906842624 ≤ qA ∧ qA ≤ 1125899906842624 ∧ -1125899906842624 ≤ qB ∧ qB ≤ 1125899906842624))
    (m1 : Hid (IntKind.i64.wrap (a' * a') = a' * a')) (m2 : Hid (IntKind.i64.wrap (2 * b') = 2 * b')) (m3 : Hid (IntKind.i64.wrap (2 * b' * b') = 2 * b' * b')) (m4 : Hid (IntKind.i64.wrap (a' * a' - 2 * b' * b') = N))
    (p1 : Hid (IntKind.i64.wrap (a * a') = a * a')) (p2 : Hid (IntKind.i64.wrap (2 * b) = 2 * b)) (p3 : Hid (IntKind.i64.wrap (2 * b * b') = 2 * b * b')) (p4 : Hid (IntKind.i64.wrap (a * a' - 2 * b * b') = tA))
    (p5 : Hid (IntKind.i64.wrap (b * a') = b * a')) (p6 : Hid (IntKind.i64.wrap (a * b') = a * b')) (p7 : Hid (IntKind.i64.wrap (b * a' - a * b') = tB))
    (r1 : Hid (tA.tmod od = 0)) (r2 : Hid (tB.tmod od = 0)) (q1 : Hid (IntKind.i64.wrap (tA.tdiv od) = qA)) (q2 : Hid (IntKind.i64.wrap (tB.tdiv od) = qB))
    (HL : Hid (∀ (u : Nat) (K : Int) (w : World), 0 ≤ K → (u = 0 ∨ K = 0) → K - u = k + tw - k' → Calls Tryd.prog 124 #[num (qA * 2 ^ u) (qB * 2 ^ u) K] w (RetB (num lA lB lK) w))) :
    Calls Tryd.prog 138 #[num a b k, num a' b' k'] w (RetB (numOk lA lB lK true) w) := by
  have n1 := m1.out
  have n2 := m2.out
  have n3 := m3.out
  have n4 := m4.out
  have n5 := p1.out
  have n6 := p2.out
  have n7 := p3.out
  have n8 := p4.out
  have n9 := p5.out
  have n10 := p6.out
  have n11 := p7.out
  go_enter Tryd.func138, Tryd.ntmps138
  go_wp2_with fail
  go_loopg [6] tw (GDRel1 w tA tB od k k' tw)
  case atStart => exact ⟨N, k, rfl, hN2.out, Nat.le_refl _, by omega, N1.out.1, N1.out.2, ⟨by simp [go_sem, *], by simp [go_sem, *], by simp [go_sem, *], by simp [go_sem, *], by simp [go_sem, *], by simp [go_sem, *], by simp [go_sem, *], by simp [go_sem, *], by simp [go_sem, *], by simp [go_sem, *], by simp [go_sem, *], by simp [go_sem, *], by simp [go_sem, *], by simp, by (repeat (first | with_reducible exact Below.refl _ _ | with_reducible refine Below.drew ?_ | with_reducible refine Below.alloc ?_ (by first | omega | (simp; done) | (simp; omega)) _ | with_reducible refine Below.setCell ?_ (by first | omega | (simp; done) | (simp; omega)) _ | with_reducible refine Below.trans ?_ (Below.mono (by assumption) (by first | omega | (simp; done) | (simp; omega)))))⟩⟩
  case round =>
    obtain ⟨n, K, rfl, hn, hle, hK, hl0, hl1, x0, y0, y1, y2, f0, f1, f2, z0, z1, z2, g0, g1, g2, hz, hB⟩ := hrel
    have HB := Lib.hid hB
    have HN := Lib.hid hn
    have HK := Lib.hid hK
    have hKb : 0 ≤ K ∧ K ≤ 100 := by omega
    obtain ⟨hK0, hK1⟩ := hKb
    clear hB hn hK n1 n2 n3 n4 n5 n6 n7 n8 n9 n10 n11
    by_cases hg : gk = 0
    · subst hg
      have en : n = od := by rw [HN.out]; simp
      subst en
      have mo := tmod_odd ho.out
      have r1' := r1.out
      have r2' := r2.out
      have q1' := q1.out
      have q2' := q2.out
      have hod : n ≠ 0 := by intro h; have := ho.out; rw [h] at this; simp at this
      go_wp2_with fail
      go_loopg [8] k'.toNat (GDRel2 w qA qB k k' tw)
      case atStart =>
        have hK' := HK.out
        exact ⟨0, qA, qB, K, by rw [Int.toNat_of_nonneg k0'], by simp, by simp, hK0, .inl rfl, by omega, by omega, ⟨by simp [go_sem, *], by simp [go_sem, *], by simp [go_sem, *], by simp [go_sem, *], by simp [go_sem, *], by simp [go_sem, *], by simp [go_sem, *], by simp [go_sem, *], by simp [go_sem, *], by simp [go_sem, *], by simp [go_sem, *], by simp [go_sem, *], by simp [go_sem, *], by simp; omega, by have hB := HB.out; (repeat (first | with_reducible assumption | with_reducible refine Below.drew ?_ | with_reducible refine Below.alloc ?_ (by first | omega | (simp; done) | (simp; omega)) _ | with_reducible refine Below.setCell ?_ (by first | omega | (simp; done) | (simp; omega)) _ | with_reducible refine Below.trans ?_ (Below.mono (by assumption) (by first | omega | (simp; done) | (simp; omega)))))⟩⟩
      case round =>
        obtain ⟨u, p, s, K2, rfl, hp, hs, hK2, hor, hKu, hkk, x0, y0, y1, y2, f0, f1, f2, z0, z1, z2, g0, g1, g2, hz, hB⟩ := hrel
        have hK3 : K2 ≤ 100 := by omega
        have HB2 := Lib.hid hB
        have HP := Lib.hid hp
        have HS := Lib.hid hs
        have HO := Lib.hid hor
        have HU := Lib.hid hKu
        clear hB hor hKu q1' q2' r1' r2' mo hl0 hl1
        by_cases hg : gk = 0
        · subst hg
          have HL' := Lib.hid (show ∀ w, Calls Tryd.prog 124 #[num p s K2] w (RetB (num lA lB lK) w) from fun w => by
            have := HL.out u K2 w hK2 HO.out (by have := HU.out; omega)
            rw [hp, hs]
            exact this)
          clear hp hs
          go_wp2_with fail
          refine (HL'.out _).mono ?_
          rintro e w9 ⟨rfl, hb9⟩; (try replace hb9 := Below.undrew hb9); obtain ⟨hc9, hf9⟩ := bcell hb9; have hz9 := hb9.size; (try simp at hz9)
          have hz9a : w.heap.size < w9.heap.size := (by omega)
          have hz9b : w.heap.size + 1 < w9.heap.size := (by omega)
          have hz9c : w.heap.size + 1 + 1 < w9.heap.size := (by omega)
          have ha0 : w.heap.size + 1 + 1 < wr.heap.size := (by omega)
          go_wp2_with fail
          exact bodyPost_ret (v := numOk lA lB lK true) (by simp [results, Tryd.results138, go_sem, *]) rfl ⟨rfl, by have hB := HB2.out; (repeat (first | with_reducible assumption | with_reducible refine Below.drew ?_ | with_reducible refine Below.alloc ?_ (by first | omega | (simp; done) | (simp; omega)) _ | with_reducible refine Below.setCell ?_ (by first | omega | (simp; done) | (simp; omega)) _ | with_reducible refine Below.trans ?_ (Below.mono (by assumption) (by first | omega | (simp; done) | (simp; omega)))))⟩
        · obtain ⟨m, rfl⟩ : ∃ m, gk = m + 1 := ⟨gk - 1, by omega⟩
          clear hp hs hg
          by_cases hk : 0 < K2
          · go_wp2
            go_roundg m
            case measure => omega
            case rel =>
              have ho' := HO.out
              have hu' := HU.out
              exact ⟨u, p, s, K2 - 1, by go_num, HP.out, HS.out, by omega, .inl (by omega), by omega, by omega, ⟨by simp [go_sem, *], by simp [go_sem, *], by simp [go_sem, *], by simp [go_sem, *], by simp [go_sem, *], by simp [go_sem, *], by simp [go_sem, *], by simp [go_sem, *], by simp [go_sem, *], by simp [go_sem, *], by simp [go_sem, *], by simp [go_sem, *], by simp [go_sem, *], by simp; omega, by have hB := HB2.out; (repeat (first | with_reducible assumption | with_reducible refine Below.drew ?_ | with_reducible refine Below.alloc ?_ (by first | omega | (simp; done) | (simp; omega)) _ | with_reducible refine Below.setCell ?_ (by first | omega | (simp; done) | (simp; omega)) _ | with_reducible refine Below.trans ?_ (Below.mono (by assumption) (by first | omega | (simp; done) | (simp; omega)))))⟩⟩
          · have e0 : K2 = 0 := by omega
            subst e0
            clear hk
            have hu10 : u ≤ 10 := by have := HU.out; omega
            obtain ⟨qb1, qb2, qb3, qb4⟩ := qb.out
            have pb := gshl_bound hu10 qb1 qb2
            have sb := gshl_bound hu10 qb3 qb4
            rw [← HP.out] at pb
            rw [← HS.out] at sb
            obtain ⟨pb1, pb2⟩ := pb
            obtain ⟨sb1, sb2⟩ := sb
            clear qb1 qb2 qb3 qb4
            go_wp2
            go_roundg m
            case measure => omega
            case rel =>
              have hu' := HU.out
              exact ⟨u + 1, p * 2, s * 2, 0, by go_num, by rw [HP.out, Int.pow_succ]; ac_rfl, by rw [HS.out, Int.pow_succ]; ac_rfl, by omega, .inr rfl, by omega, by omega, ⟨by simp [go_sem, *], by simp [go_sem, *], by simp [go_sem, *], by simp [go_sem, *], by simp [go_sem, *], by simp [go_sem, *], by simp [go_sem, *], by simp [go_sem, *], by simp [go_sem, *], by simp [go_sem, *], by simp [go_sem, *], by simp [go_sem, *], by simp [go_sem, *], by simp; omega, by have hB := HB2.out; (repeat (first | with_reducible assumption | with_reducible refine Below.drew ?_ | with_reducible refine Below.alloc ?_ (by first | omega | (simp; done) | (simp; omega)) _ | with_reducible refine Below.setCell ?_ (by first | omega | (simp; done) | (simp; omega)) _ | with_reducible refine Below.trans ?_ (Below.mono (by assumption) (by first | omega | (simp; done) | (simp; omega)))))⟩⟩
    · obtain ⟨m, rfl⟩ : ∃ m, gk = m + 1 := ⟨gk - 1, by omega⟩
      obtain ⟨c, rfl⟩ : ∃ c, n = 2 * c := ⟨od * 2 ^ m, by rw [HN.out, Int.pow_succ]; ac_rfl⟩
      have hc0 : -562949953421312 ≤ c := by omega
      have hc1 : c ≤ 562949953421312 := by omega
      clear hl0 hl1
      have u1 := tmod_two c
      have t1 := tdiv_two c
      go_wp2
      go_roundg m
      case measure => omega
      case rel =>
        have hn' := HN.out
        have hK' := HK.out
        exact ⟨c, K + 1, rfl, by rw [Int.pow_succ] at hn'; have e : od * (2 ^ m * 2) = 2 * (od * 2 ^ m) := by ac_rfl
                                 rw [e] at hn'; omega, by omega, by omega, by omega, by omega, ⟨by simp [go_sem, *], by simp [go_sem, *], by simp [go_sem, *], by simp [go_sem, *], by simp [go_sem, *], by simp [go_sem, *], by simp [go_sem, *], by simp [go_sem, *], by simp [go_sem, *], by simp [go_sem, *], by simp [go_sem, *], by simp [go_sem, *], by simp [go_sem, *], by simp; omega, by have hB := HB.out; (repeat (first | with_reducible assumption | with_reducible refine Below.drew ?_ | with_reducible refine Below.alloc ?_ (by first | omega | (simp; done) | (simp; omega)) _ | with_reducible refine Below.setCell ?_ (by first | omega | (simp; done) | (simp; omega)) _ | with_reducible refine Below.trans ?_ (Below.mono (by assumption) (by first | omega | (simp; done) | (simp; omega)))))⟩⟩

theorem sDiv_g {A B A' B' c d s : Int} {t : Nat} (u : Unit2 c d s t) (h : Bd2 1099511627776 A B) (q : OriM.Quot c d s t A B A' B') (w : World) :
    Calls Tryd.prog 138 #[gv A B, num c d 0] w (RetB (.tuple #[gv A' B', .bool true]) w) := by
  have k := gK_le A B
  have g := gr_quot (gr_self A B) q
  have b := g_bound h
  unfold gv
  obtain ⟨e1, e2, e3⟩ := gr_low g
  rw [← e1, ← e2, ← e3]
  generalize gA A B = a at *
  generalize gB A B = e at *
  generalize gK A B = n at *
  obtain ⟨f1, f2, f3, f4, f5⟩ := unit_facts u
  obtain ⟨un, us, ut, c1, c2, d1, d2⟩ := u
  obtain ⟨m1, m2⟩ := tmod_unit us (a * c - 2 * e * d)
  obtain ⟨m3, m4⟩ := tmod_unit us (e * c - a * d)
  have p := prod_le (by omega) c1 c2 b.1 b.2.1
  have p2 := prod_le (by omega) d1 d2 b.1 b.2.1
  have r := prod_le (by omega) c1 c2 b.2.2.1 b.2.2.2
  have r2 := prod_le (by omega) d1 d2 b.2.2.1 b.2.2.2
  have cc := prod_le (by omega) c1 c2 c1 c2
  have dd := prod_le (by omega) d1 d2 d1 d2
  have ex : a * c - 2 * e * d = a * c - 2 * (e * d) := by grind
  have ed : 2 * e * d = 2 * (e * d) := by grind
  have ec : 2 * d * d = 2 * (d * d) := by grind
  have q1 : -1125899906842624 ≤ s * (a * c - 2 * e * d) ∧ s * (a * c - 2 * e * d) ≤ 1125899906842624 := by
    rw [ex]; rcases us with rfl | rfl <;> omega
  have q2 : -1125899906842624 ≤ s * (e * c - a * d) ∧ s * (e * c - a * d) ≤ 1125899906842624 := by
    rcases us with rfl | rfl <;> omega
  have s2 : s % 2 ≠ 0 := by rcases us with rfl | rfl <;> decide
  refine gDiv_core a e n c d 0 _ _ (s * 2 ^ t) s (s * (a * c - 2 * e * d)) (s * (e * c - a * d)) _ _ _ t w (by rw [beq_eq_false_iff_ne]; exact f3) (Lib.hid rfl) (Lib.hid s2) (by omega) (by omega) (by omega) (by omega) (by omega)
    (Lib.hid (by omega)) (Lib.hid ⟨q1.1, q1.2, q2.1, q2.2⟩)
    (Lib.hid (show IntKind.i64.wrap (c * c) = c * c from wrap_in (by omega) (by omega))) (Lib.hid (show IntKind.i64.wrap (2 * d) = 2 * d from wrap_in (by omega) (by omega))) (Lib.hid (show IntKind.i64.wrap (2 * d * d) = 2 * d * d from wrap_in (by omega) (by omega)))
    (Lib.hid (show IntKind.i64.wrap (c * c - 2 * d * d) = s * 2 ^ t by rw [show c * c - 2 * d * d = s * 2 ^ t by rw [← un]; omega]; exact wrap_in (by omega) (by omega)))
    (Lib.hid (show IntKind.i64.wrap (a * c) = a * c from wrap_in (by omega) (by omega))) (Lib.hid (show IntKind.i64.wrap (2 * e) = 2 * e from wrap_in (by omega) (by omega))) (Lib.hid (show IntKind.i64.wrap (2 * e * d) = 2 * e * d from wrap_in (by omega) (by omega)))
    (Lib.hid (show IntKind.i64.wrap (a * c - 2 * e * d) = a * c - 2 * e * d from wrap_in (by omega) (by omega))) (Lib.hid (show IntKind.i64.wrap (e * c) = e * c from wrap_in (by omega) (by omega))) (Lib.hid (show IntKind.i64.wrap (a * d) = a * d from wrap_in (by omega) (by omega)))
    (Lib.hid (show IntKind.i64.wrap (e * c - a * d) = e * c - a * d from wrap_in (by omega) (by omega)))
    (Lib.hid m1) (Lib.hid m3) (Lib.hid (by rw [m2]; exact wrap_in (by omega) (by omega))) (Lib.hid (by rw [m4]; exact wrap_in (by omega) (by omega))) (Lib.hid ?_)
  intro v K w hK hor hKu
  have hv : v = 0 := by omega
  subst hv
  have hKn : K = ((n + t : Nat) : Int) := by omega
  subst hKn
  have := low_any (s * (a * c - 2 * e * d)) (s * (e * c - a * d)) (n + t) w (by omega) (by omega) (by omega) (by omega) (by omega)
  rw [Int.pow_zero, Int.mul_one, Int.mul_one]
  rw [ex] at this ⊢
  exact this
end Go.Proofs.YtafbdnjabgfjeaaDoor
