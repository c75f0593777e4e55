/- FnExactMoveLine: for every argument the program answers as its model does, every field. Conditions: the library's table of trailing zeros is as its text lays it (the card ties it). -/
import Derived.Test.YtlmfbcffmalkkaaDoorOm
import Derived.Test.YtlmfbcffmalkkaaDoorGop
import Derived.Test.YtlmfbcffmalkkaaDoorOv
import Derived.Lib.SmallJoins
import Derived.Deep.LoopGhost
import Derived.Deep.RegionHeld3
import Derived.Deep.DeepCutAuto
import Derived.Deep.DrawnRows
import Derived.ChangeVars
namespace Go.Proofs.YtlmfbcffmalkkaaDoor
section
open Go Go.RowKit OriM

set_option maxRecDepth 100000 in
theorem gshl_bound {p : Int} {u : Nat} (hu : u ≤ 10) (p1 : -1125899906842624 ≤ p) (p2 : p ≤ 1125899906842624) : -1152921504606846976 ≤ p * 2 ^ u ∧ p * 2 ^ u ≤ 1152921504606846976 := by
  have h1 := two_pow_pos u
  have h2 : (2 : Int) ^ u ≤ 1024 := by
    have := Nat.pow_le_pow_right (n := 2) (by decide) hu
    exact_mod_cast this
  have := prod_le (c := 2 ^ u) (m := 1024) (A := p) (by omega) (by omega) h2 p1 p2
  omega

/-- What lies where while the model divides: the divisor's power, the answer's cells, the quotient's. -/
def GDivMem (w : World) (k' p s K : Int) (W : World) : Prop :=
  W.cell? ⟨w.heap.size + 1, 2, none⟩ = some (.int .i64 k') ∧
  W.cell? ⟨w.heap.size + 1 + 1, 0, none⟩ = some (.int .i64 0) ∧ W.cell? ⟨w.heap.size + 1 + 1, 1, none⟩ = some (.int .i64 0) ∧ W.cell? ⟨w.heap.size + 1 + 1, 2, none⟩ = some (.int .i64 0) ∧
  W.frozen? ⟨w.heap.size + 1 + 1, 0, none⟩ = false ∧ W.frozen? ⟨w.heap.size + 1 + 1, 1, none⟩ = false ∧ W.frozen? ⟨w.heap.size + 1 + 1, 2, none⟩ = false ∧
  W.cell? ⟨w.heap.size + 1 + 1 + 1, 0, none⟩ = some (.int .i64 p) ∧ W.cell? ⟨w.heap.size + 1 + 1 + 1, 1, none⟩ = some (.int .i64 s) ∧ W.cell? ⟨w.heap.size + 1 + 1 + 1, 2, none⟩ = some (.int .i64 K) ∧
  W.frozen? ⟨w.heap.size + 1 + 1 + 1, 0, none⟩ = false ∧ W.frozen? ⟨w.heap.size + 1 + 1 + 1, 1, none⟩ = false ∧ W.frozen? ⟨w.heap.size + 1 + 1 + 1, 2, none⟩ = false ∧
  w.heap.size + 1 + 1 + 1 < W.heap.size ∧ Below w.heap.size w W

def GDRel1 (w : World) (tA tB od k k' : Int) (tw gk : Nat) (s6 : Value) (W : World) : Prop := ∃ n K : Int, s6 = .int .i64 n ∧ n = od * 2 ^ gk ∧ gk ≤ tw ∧ K = k + tw - gk ∧ -1125899906842624 ≤ n ∧ n ≤ 1125899906842624 ∧ GDivMem w k' tA tB K W
def GDRel2 (w : World) (qA qB k k' : Int) (tw gk : Nat) (s8 : Value) (W : World) : Prop := ∃ (u : Nat) (p s K : Int), s8 = .int .i64 (gk : Int) ∧ p = qA * 2 ^ u ∧ s = qB * 2 ^ u ∧ 0 ≤ K ∧ (u = 0 ∨ K = 0) ∧ K - u = k + tw - k' + gk ∧ (gk : Int) ≤ k' ∧ GDivMem w k' p s K W

set_option maxHeartbeats 2000000 in
set_option maxRecDepth 100000 in
theorem gDiv_core (a b k a' b' k' tA tB N od qA qB lA lB lK : Int) (tw : Nat) (w : World) (hN : (N == 0) = false) (hN2 : Hid (N = od * 2 ^ tw)) (ho : Hid (od % 2 ≠ 0)) (ht : tw ≤ 40) (k0 : 0 ≤ k) (k1 : k ≤ 16) (k0' : 0 ≤ k') (k1' : k' ≤ 10)
    (N1 : Hid (-1125899906842624 ≤ N ∧ N ≤ 1125899906842624)) (qb : Hid (-1125899906842624 ≤ qA ∧ qA ≤ 1125899906842624 ∧ -1125899906842624 ≤ qB ∧ qB ≤ 1125899906842624))
    (m1 : Hid (IntKind.i64.wrap (a' * a') = a' * a')) (m2 : Hid (IntKind.i64.wrap (2 * b') = 2 * b')) (m3 : Hid (IntKind.i64.wrap (2 * b' * b') = 2 * b' * b')) (m4 : Hid (IntKind.i64.wrap (a' * a' - 2 * b' * b') = N))
    (p1 : Hid (IntKind.i64.wrap (a * a') = a * a')) (p2 : Hid (IntKind.i64.wrap (2 * b) = 2 * b)) (p3 : Hid (IntKind.i64.wrap (2 * b * b') = 2 * b * b')) (p4 : Hid (IntKind.i64.wrap (a * a' - 2 * b * b') = tA))
    (p5 : Hid (IntKind.i64.wrap (b * a') = b * a')) (p6 : Hid (IntKind.i64.wrap (a * b') = a * b')) (p7 : Hid (IntKind.i64.wrap (b * a' - a * b') = tB))
    (r1 : Hid (tA.tmod od = 0)) (r2 : Hid (tB.tmod od = 0)) (q1 : Hid (IntKind.i64.wrap (tA.tdiv od) = qA)) (q2 : Hid (IntKind.i64.wrap (tB.tdiv od) = qB))
    (HL : Hid (∀ (u : Nat) (K : Int) (w : World), 0 ≤ K → (u = 0 ∨ K = 0) → K - u = k + tw - k' → Calls Tryd.prog 58 #[num (qA * 2 ^ u) (qB * 2 ^ u) K] w (RetB (num lA lB lK) w))) :
    Calls Tryd.prog 74 #[num a b k, num a' b' k'] w (RetB (numOk lA lB lK true) w) := by
  have n1 := m1.out
  have n2 := m2.out
  have n3 := m3.out
  have n4 := m4.out
  have n5 := p1.out
  have n6 := p2.out
  have n7 := p3.out
  have n8 := p4.out
  have n9 := p5.out
  have n10 := p6.out
  have n11 := p7.out
  go_enter Tryd.func74, Tryd.ntmps74
  go_wp2_with fail
  go_loopg [6] tw (GDRel1 w tA tB od k k' tw)
  case atStart => exact ⟨N, k, rfl, hN2.out, Nat.le_refl _, by omega, N1.out.1, N1.out.2, ⟨by simp [go_sem, *], by simp [go_sem, *], by simp [go_sem, *], by simp [go_sem, *], by simp [go_sem, *], by simp [go_sem, *], by simp [go_sem, *], by simp [go_sem, *], by simp [go_sem, *], by simp [go_sem, *], by simp [go_sem, *], by simp [go_sem, *], by simp [go_sem, *], by simp, by (repeat (first | with_reducible exact Below.refl _ _ | with_reducible refine Below.drew ?_ | with_reducible refine Below.alloc ?_ (by first | omega | (simp; done) | (simp; omega)) _ | with_reducible refine Below.setCell ?_ (by first | omega | (simp; done) | (simp; omega)) _ | with_reducible refine Below.trans ?_ (Below.mono (by assumption) (by first | omega | (simp; done) | (simp; omega)))))⟩⟩
  case round =>
    obtain ⟨n, K, rfl, hn, hle, hK, hl0, hl1, x0, y0, y1, y2, f0, f1, f2, z0, z1, z2, g0, g1, g2, hz, hB⟩ := hrel
    have HB := Lib.hid hB
    have HN := Lib.hid hn
    have HK := Lib.hid hK
    have hKb : 0 ≤ K ∧ K ≤ 100 := by omega
    obtain ⟨hK0, hK1⟩ := hKb
    clear hB hn hK n1 n2 n3 n4 n5 n6 n7 n8 n9 n10 n11
    by_cases hg : gk = 0
    · subst hg
      have en : n = od := by rw [HN.out]; simp
      subst en
      have mo := tmod_odd ho.out
      have r1' := r1.out
      have r2' := r2.out
      have q1' := q1.out
      have q2' := q2.out
      have hod : n ≠ 0 := by intro h; have := ho.out; rw [h] at this; simp at this
      go_wp2_with fail
      go_loopg [8] k'.toNat (GDRel2 w qA qB k k' tw)
      case atStart =>
        have hK' := HK.out
        exact ⟨0, qA, qB, K, by rw [Int.toNat_of_nonneg k0'], by simp, by simp, hK0, .inl rfl, by omega, by omega, ⟨by simp [go_sem, *], by simp [go_sem, *], by simp [go_sem, *], by simp [go_sem, *], by simp [go_sem, *], by simp [go_sem, *], by simp [go_sem, *], by simp [go_sem, *], by simp [go_sem, *], by simp [go_sem, *], by simp [go_sem, *], by simp [go_sem, *], by simp [go_sem, *], by simp; omega, by have hB := HB.out; (repeat (first | with_reducible assumption | with_reducible refine Below.drew ?_ | with_reducible refine Below.alloc ?_ (by first | omega | (simp; done) | (simp; omega)) _ | with_reducible refine Below.setCell ?_ (by first | omega | (simp; done) | (simp; omega)) _ | with_reducible refine Below.trans ?_ (Below.mono (by assumption) (by first | omega | (simp; done) | (simp; omega)))))⟩⟩
      case round =>
        obtain ⟨u, p, s, K2, rfl, hp, hs, hK2, hor, hKu, hkk, x0, y0, y1, y2, f0, f1, f2, z0, z1, z2, g0, g1, g2, hz, hB⟩ := hrel
        have hK3 : K2 ≤ 100 := by omega
        have HB2 := Lib.hid hB
        have HP := Lib.hid hp
        have HS := Lib.hid hs
        have HO := Lib.hid hor
        have HU := Lib.hid hKu
        clear hB hor hKu q1' q2' r1' r2' mo hl0 hl1
        by_cases hg : gk = 0
        · subst hg
          have HL' := Lib.hid (show ∀ w, Calls Tryd.prog 58 #[num p s K2] w (RetB (num lA lB lK) w) from fun w => by
            have := HL.out u K2 w hK2 HO.out (by have := HU.out; omega)
            rw [hp, hs]
            exact this)
          clear hp hs
          go_wp2_with fail
          refine (HL'.out _).mono ?_
          rintro e w9 ⟨rfl, hb9⟩; (try replace hb9 := Below.undrew hb9); obtain ⟨hc9, hf9⟩ := bcell hb9; have hz9 := hb9.size; (try simp at hz9)
          have hz9a : w.heap.size < w9.heap.size := (by omega)
          have hz9b : w.heap.size + 1 < w9.heap.size := (by omega)
          have hz9c : w.heap.size + 1 + 1 < w9.heap.size := (by omega)
          have ha0 : w.heap.size + 1 + 1 < wr.heap.size := (by omega)
          go_wp2_with fail
          exact bodyPost_ret (v := numOk lA lB lK true) (by simp [results, Tryd.results74, go_sem, *]) rfl ⟨rfl, by have hB := HB2.out; (repeat (first | with_reducible assumption | with_reducible refine Below.drew ?_ | with_reducible refine Below.alloc ?_ (by first | omega | (simp; done) | (simp; omega)) _ | with_reducible refine Below.setCell ?_ (by first | omega | (simp; done) | (simp; omega)) _ | with_reducible refine Below.trans ?_ (Below.mono (by assumption) (by first | omega | (simp; done) | (simp; omega)))))⟩
        · obtain ⟨m, rfl⟩ : ∃ m, gk = m + 1 := ⟨gk - 1, by omega⟩
          clear hp hs hg
          by_cases hk : 0 < K2
          · go_wp2
            go_roundg m
            case measure => omega
            case rel =>
              have ho' := HO.out
              have hu' := HU.out
              exact ⟨u, p, s, K2 - 1, by go_num, HP.out, HS.out, by omega, .inl (by omega), by omega, by omega, ⟨by simp [go_sem, *], by simp [go_sem, *], by simp [go_sem, *], by simp [go_sem, *], by simp [go_sem, *], by simp [go_sem, *], by simp [go_sem, *], by simp [go_sem, *], by simp [go_sem, *], by simp [go_sem, *], by simp [go_sem, *], by simp [go_sem, *], by simp [go_sem, *], by simp; omega, by have hB := HB2.out; (repeat (first | with_reducible assumption | with_reducible refine Below.drew ?_ | with_reducible refine Below.alloc ?_ (by first | omega | (simp; done) | (simp; omega)) _ | with_reducible refine Below.setCell ?_ (by first | omega | (simp; done) | (simp; omega)) _ | with_reducible refine Below.trans ?_ (Below.mono (by assumption) (by first | omega | (simp; done) | (simp; omega)))))⟩⟩
          · have e0 : K2 = 0 := by omega
            subst e0
            clear hk
            have hu10 : u ≤ 10 := by have := HU.out; omega
            obtain ⟨qb1, qb2, qb3, qb4⟩ := qb.out
            have pb := gshl_bound hu10 qb1 qb2
            have sb := gshl_bound hu10 qb3 qb4
            rw [← HP.out] at pb
            rw [← HS.out] at sb
            obtain ⟨pb1, pb2⟩ := pb
            obtain ⟨sb1, sb2⟩ := sb
            clear qb1 qb2 qb3 qb4
            go_wp2
            go_roundg m
            case measure => omega
            case rel =>
              have hu' := HU.out
              exact ⟨u + 1, p * 2, s * 2, 0, by go_num, by rw [HP.out, Int.pow_succ]; ac_rfl, by rw [HS.out, Int.pow_succ]; ac_rfl, by omega, .inr rfl, by omega, by omega, ⟨by simp [go_sem, *], by simp [go_sem, *], by simp [go_sem, *], by simp [go_sem, *], by simp [go_sem, *], by simp [go_sem, *], by simp [go_sem, *], by simp [go_sem, *], by simp [go_sem, *], by simp [go_sem, *], by simp [go_sem, *], by simp [go_sem, *], by simp [go_sem, *], by simp; omega, by have hB := HB2.out; (repeat (first | with_reducible assumption | with_reducible refine Below.drew ?_ | with_reducible refine Below.alloc ?_ (by first | omega | (simp; done) | (simp; omega)) _ | with_reducible refine Below.setCell ?_ (by first | omega | (simp; done) | (simp; omega)) _ | with_reducible refine Below.trans ?_ (Below.mono (by assumption) (by first | omega | (simp; done) | (simp; omega)))))⟩⟩
    · obtain ⟨m, rfl⟩ : ∃ m, gk = m + 1 := ⟨gk - 1, by omega⟩
      obtain ⟨c, rfl⟩ : ∃ c, n = 2 * c := ⟨od * 2 ^ m, by rw [HN.out, Int.pow_succ]; ac_rfl⟩
      have hc0 : -562949953421312 ≤ c := by omega
      have hc1 : c ≤ 562949953421312 := by omega
      clear hl0 hl1
      have u1 := tmod_two c
      have t1 := tdiv_two c
      go_wp2
      go_roundg m
      case measure => omega
      case rel =>
        have hn' := HN.out
        have hK' := HK.out
        exact ⟨c, K + 1, rfl, by rw [Int.pow_succ] at hn'; have e : od * (2 ^ m * 2) = 2 * (od * 2 ^ m) := by ac_rfl
                                 rw [e] at hn'; omega, by omega, by omega, by omega, by omega, ⟨by simp [go_sem, *], by simp [go_sem, *], by simp [go_sem, *], by simp [go_sem, *], by simp [go_sem, *], by simp [go_sem, *], by simp [go_sem, *], by simp [go_sem, *], by simp [go_sem, *], by simp [go_sem, *], by simp [go_sem, *], by simp [go_sem, *], by simp [go_sem, *], by simp; omega, by have hB := HB.out; (repeat (first | with_reducible assumption | with_reducible refine Below.drew ?_ | with_reducible refine Below.alloc ?_ (by first | omega | (simp; done) | (simp; omega)) _ | with_reducible refine Below.setCell ?_ (by first | omega | (simp; done) | (simp; omega)) _ | with_reducible refine Below.trans ?_ (Below.mono (by assumption) (by first | omega | (simp; done) | (simp; omega)))))⟩⟩

theorem sDiv_g {A B A' B' c d s : Int} {t : Nat} (u : Unit2 c d s t) (h : Bd2 1099511627776 A B) (q : OriM.Quot c d s t A B A' B') (w : World) :
    Calls Tryd.prog 74 #[gv A B, num c d 0] w (RetB (.tuple #[gv A' B', .bool true]) w) := by
  have k := gK_le A B
  have g := gr_quot (gr_self A B) q
  have b := g_bound h
  unfold gv
  obtain ⟨e1, e2, e3⟩ := gr_low g
  rw [← e1, ← e2, ← e3]
  generalize gA A B = a at *
  generalize gB A B = e at *
  generalize gK A B = n at *
  obtain ⟨f1, f2, f3, f4, f5⟩ := unit_facts u
  obtain ⟨un, us, ut, c1, c2, d1, d2⟩ := u
  obtain ⟨m1, m2⟩ := tmod_unit us (a * c - 2 * e * d)
  obtain ⟨m3, m4⟩ := tmod_unit us (e * c - a * d)
  have p := prod_le (by omega) c1 c2 b.1 b.2.1
  have p2 := prod_le (by omega) d1 d2 b.1 b.2.1
  have r := prod_le (by omega) c1 c2 b.2.2.1 b.2.2.2
  have r2 := prod_le (by omega) d1 d2 b.2.2.1 b.2.2.2
  have cc := prod_le (by omega) c1 c2 c1 c2
  have dd := prod_le (by omega) d1 d2 d1 d2
  have ex : a * c - 2 * e * d = a * c - 2 * (e * d) := by grind
  have ed : 2 * e * d = 2 * (e * d) := by grind
  have ec : 2 * d * d = 2 * (d * d) := by grind
  have q1 : -1125899906842624 ≤ s * (a * c - 2 * e * d) ∧ s * (a * c - 2 * e * d) ≤ 1125899906842624 := by
    rw [ex]; rcases us with rfl | rfl <;> omega
  have q2 : -1125899906842624 ≤ s * (e * c - a * d) ∧ s * (e * c - a * d) ≤ 1125899906842624 := by
    rcases us with rfl | rfl <;> omega
  have s2 : s % 2 ≠ 0 := by rcases us with rfl | rfl <;> decide
  refine gDiv_core a e n c d 0 _ _ (s * 2 ^ t) s (s * (a * c - 2 * e * d)) (s * (e * c - a * d)) _ _ _ t w (by rw [beq_eq_false_iff_ne]; exact f3) (Lib.hid rfl) (Lib.hid s2) (by omega) (by omega) (by omega) (by omega) (by omega)
    (Lib.hid (by omega)) (Lib.hid ⟨q1.1, q1.2, q2.1, q2.2⟩)
    (Lib.hid (show IntKind.i64.wrap (c * c) = c * c from wrap_in (by omega) (by omega))) (Lib.hid (show IntKind.i64.wrap (2 * d) = 2 * d from wrap_in (by omega) (by omega))) (Lib.hid (show IntKind.i64.wrap (2 * d * d) = 2 * d * d from wrap_in (by omega) (by omega)))
    (Lib.hid (show IntKind.i64.wrap (c * c - 2 * d * d) = s * 2 ^ t by rw [show c * c - 2 * d * d = s * 2 ^ t by rw [← un]; omega]; exact wrap_in (by omega) (by omega)))
    (Lib.hid (show IntKind.i64.wrap (a * c) = a * c from wrap_in (by omega) (by omega))) (Lib.hid (show IntKind.i64.wrap (2 * e) = 2 * e from wrap_in (by omega) (by omega))) (Lib.hid (show IntKind.i64.wrap (2 * e * d) = 2 * e * d from wrap_in (by omega) (by omega)))
    (Lib.hid (show IntKind.i64.wrap (a * c - 2 * e * d) = a * c - 2 * e * d from wrap_in (by omega) (by omega))) (Lib.hid (show IntKind.i64.wrap (e * c) = e * c from wrap_in (by omega) (by omega))) (Lib.hid (show IntKind.i64.wrap (a * d) = a * d from wrap_in (by omega) (by omega)))
    (Lib.hid (show IntKind.i64.wrap (e * c - a * d) = e * c - a * d from wrap_in (by omega) (by omega)))
    (Lib.hid m1) (Lib.hid m3) (Lib.hid (by rw [m2]; exact wrap_in (by omega) (by omega))) (Lib.hid (by rw [m4]; exact wrap_in (by omega) (by omega))) (Lib.hid ?_)
  intro v K w hK hor hKu
  have hv : v = 0 := by omega
  subst hv
  have hKn : K = ((n + t : Nat) : Int) := by omega
  subst hKn
  have := low_any (s * (a * c - 2 * e * d)) (s * (e * c - a * d)) (n + t) w (by omega) (by omega) (by omega) (by omega) (by omega)
  rw [Int.pow_zero, Int.mul_one, Int.mul_one]
  rw [ex] at this ⊢
  exact this
end
section
open Go Go.RowKit OriM
variable {β : Bool}
attribute [local go_sem ↓] Go.wp_at_zero Go.wp_at_succ

def sFoot_core_c1 (w w2 : World) (d xa xb xk na nb nk nc nd nl ta tb tk : Int) (c : Bool) (s4 : Value) (s5 : Value) (wr : World) : Prop := ∃ g4 : Nat, s4 = .pointer (some ⟨g4, 0, none⟩) ∧ s5 = Value.bool c ∧ Below w.heap.size w wr ∧ w.heap.size < g4 ∧ w.heap.size + 1 < g4 ∧ w2.heap.size < g4 ∧ w.heap.size < wr.heap.size ∧ w.heap.size + 1 < wr.heap.size ∧ w2.heap.size < wr.heap.size ∧ g4 < wr.heap.size ∧ wr.cell? ⟨w.heap.size, 0, none⟩ = some (Value.int IntKind.i64 d) ∧ wr.cell? ⟨w.heap.size, 1, none⟩ = some (Value.int IntKind.i64 xa) ∧ wr.cell? ⟨w.heap.size, 2, none⟩ = some (Value.int IntKind.i64 xb) ∧ wr.cell? ⟨w.heap.size, 3, none⟩ = some (Value.int IntKind.i64 xk) ∧ wr.cell? ⟨w.heap.size + 1, 0, none⟩ = some (Value.int IntKind.i64 0) ∧ wr.cell? ⟨w.heap.size + 1, 1, none⟩ = some (Value.int IntKind.i64 0) ∧ wr.cell? ⟨w.heap.size + 1, 2, none⟩ = some (Value.int IntKind.i64 0) ∧ wr.cell? ⟨w.heap.size + 1, 3, none⟩ = some (Value.int IntKind.i64 0) ∧ wr.cell? ⟨w.heap.size + 1, 4, none⟩ = some (Value.int IntKind.i64 0) ∧ wr.cell? ⟨w.heap.size + 1, 5, none⟩ = some (Value.int IntKind.i64 0) ∧ wr.cell? ⟨w2.heap.size, 0, none⟩ = some (Value.int IntKind.i64 na) ∧ wr.cell? ⟨w2.heap.size, 1, none⟩ = some (Value.int IntKind.i64 nb) ∧ wr.cell? ⟨w2.heap.size, 2, none⟩ = some (Value.int IntKind.i64 nk) ∧ wr.cell? ⟨w2.heap.size, 3, none⟩ = some (Value.int IntKind.i64 nc) ∧ wr.cell? ⟨w2.heap.size, 4, none⟩ = some (Value.int IntKind.i64 nd) ∧ wr.cell? ⟨w2.heap.size, 5, none⟩ = some (Value.int IntKind.i64 nl) ∧ wr.cell? ⟨g4, 0, none⟩ = some (Value.int IntKind.i64 ta) ∧ wr.cell? ⟨g4, 1, none⟩ = some (Value.int IntKind.i64 tb) ∧ wr.cell? ⟨g4, 2, none⟩ = some (Value.int IntKind.i64 tk) ∧ wr.frozen? ⟨w.heap.size + 1, 0, none⟩ = false ∧ wr.frozen? ⟨w.heap.size + 1, 1, none⟩ = false ∧ wr.frozen? ⟨w.heap.size + 1, 2, none⟩ = false ∧ wr.frozen? ⟨w.heap.size + 1, 3, none⟩ = false ∧ wr.frozen? ⟨w.heap.size + 1, 4, none⟩ = false ∧ wr.frozen? ⟨w.heap.size + 1, 5, none⟩ = false ∧ wr.frozen? ⟨g4, 0, none⟩ = false ∧ wr.frozen? ⟨g4, 1, none⟩ = false ∧ wr.frozen? ⟨g4, 2, none⟩ = false

set_option maxHeartbeats 4000000 in
set_option maxRecDepth 100000 in
theorem sFoot_core (d xa xb xk va vb vk vc vd vl na nb nk nc nd nl sa sb sk ta tb tk pa pb pk qa qb qk : Int) (c : Bool) (w : World) (hT : LT β w) (d0 : 0 ≤ d) (d1 : d ≤ 100)
    (H1 : Hid (∀ w, LT β w → Calls Tryd.prog 73 #[Value.int IntKind.i64 (d + 4)] w (RetB (Value.agg #[Value.int IntKind.i64 va, Value.int IntKind.i64 vb, Value.int IntKind.i64 vk, Value.int IntKind.i64 vc, Value.int IntKind.i64 vd, Value.int IntKind.i64 vl]) w)))
    (H2 : Hid (∀ w, LT β w → Calls Tryd.prog 31 #[Value.agg #[Value.int IntKind.i64 va, Value.int IntKind.i64 vb, Value.int IntKind.i64 vk, Value.int IntKind.i64 vc, Value.int IntKind.i64 vd, Value.int IntKind.i64 vl]] w (RetB (Value.agg #[Value.int IntKind.i64 na, Value.int IntKind.i64 nb, Value.int IntKind.i64 nk, Value.int IntKind.i64 nc, Value.int IntKind.i64 nd, Value.int IntKind.i64 nl]) w)))
    (H3 : Hid (∀ w, LT β w → Calls Tryd.prog 75 #[Value.int IntKind.i64 (d + 4)] w (RetB (Value.agg #[Value.int IntKind.i64 sa, Value.int IntKind.i64 sb, Value.int IntKind.i64 sk]) w)))
    (H4 : Hid (∀ w, LT β w → Calls Tryd.prog 74 #[Value.agg #[Value.int IntKind.i64 xa, Value.int IntKind.i64 xb, Value.int IntKind.i64 xk], Value.agg #[Value.int IntKind.i64 sa, Value.int IntKind.i64 sb, Value.int IntKind.i64 sk]] w (RetB (Value.tuple #[Value.agg #[Value.int IntKind.i64 ta, Value.int IntKind.i64 tb, Value.int IntKind.i64 tk], Value.bool c]) w)))
    (H5 : Hid (∀ w, LT β w → Calls Tryd.prog 68 #[Value.agg #[Value.int IntKind.i64 ta, Value.int IntKind.i64 tb, Value.int IntKind.i64 tk], Value.agg #[Value.int IntKind.i64 na, Value.int IntKind.i64 nb, Value.int IntKind.i64 nk]] w (RetB (Value.agg #[Value.int IntKind.i64 pa, Value.int IntKind.i64 pb, Value.int IntKind.i64 pk]) w)))
    (H6 : Hid (∀ w, LT β w → Calls Tryd.prog 68 #[Value.agg #[Value.int IntKind.i64 ta, Value.int IntKind.i64 tb, Value.int IntKind.i64 tk], Value.agg #[Value.int IntKind.i64 nc, Value.int IntKind.i64 nd, Value.int IntKind.i64 nl]] w (RetB (Value.agg #[Value.int IntKind.i64 qa, Value.int IntKind.i64 qb, Value.int IntKind.i64 qk]) w)))
    : Calls Tryd.prog 57 #[Value.agg #[Value.int IntKind.i64 d, Value.int IntKind.i64 xa, Value.int IntKind.i64 xb, Value.int IntKind.i64 xk]] w (RetB (Value.agg #[Value.int IntKind.i64 pa, Value.int IntKind.i64 pb, Value.int IntKind.i64 pk, Value.int IntKind.i64 qa, Value.int IntKind.i64 qb, Value.int IntKind.i64 qk]) w) := by
  have e1 : IntKind.i64.wrap (d + 4) = d + 4 := wrap_in (by omega) (by omega)
  go_enter Tryd.func57, Tryd.ntmps57
  go_wp2_with fail
  refine (H1.out _ ?_).mono ?_
  · exact LT.below (w := w) hT (by (repeat (first | with_reducible exact Below.refl _ _ | with_reducible assumption | with_reducible refine below_drewN ?_ _ | with_reducible refine Below.drew ?_ | with_reducible refine Below.alloc ?_ (by first | omega | (simp; done) | (simp; omega)) _ | with_reducible refine Below.setCell ?_ (by first | omega | (simp; done) | (simp; omega)) _ | with_reducible refine Below.trans ?_ (Below.mono (by assumption) (by first | omega | (simp; done) | (simp; omega)))))) (Nat.le_refl _)
  rintro e w1 ⟨rfl, hb1⟩; (try replace hb1 := Below.undrew hb1); obtain ⟨hc1, hf1⟩ := bcell hb1; have hz1 := hb1.size; (try simp at hz1); (have zz_1_0 : w.heap.size < w.heap.size + 1 + 1 := (by omega)); (try have z1_0 : w.heap.size < w1.heap.size := (by omega)); (try have z1_1 : w.heap.size + 1 < w1.heap.size := (by omega))
  go_wp2_with fail
  refine (H2.out _ ?_).mono ?_
  · exact LT.below (w := w) hT (by (repeat (first | with_reducible exact Below.refl _ _ | with_reducible assumption | with_reducible refine below_drewN ?_ _ | with_reducible refine Below.drew ?_ | with_reducible refine Below.alloc ?_ (by first | omega | (simp; done) | (simp; omega)) _ | with_reducible refine Below.setCell ?_ (by first | omega | (simp; done) | (simp; omega)) _ | with_reducible refine Below.trans ?_ (Below.mono (by assumption) (by first | omega | (simp; done) | (simp; omega)))))) (Nat.le_refl _)
  rintro e w2 ⟨rfl, hb2⟩; (try replace hb2 := Below.undrew hb2); obtain ⟨hc2, hf2⟩ := bcell hb2; have hz2 := hb2.size; (try simp at hz2); (try have z2_0 : w.heap.size < w2.heap.size := (by omega)); (try have z2_1 : w.heap.size + 1 < w2.heap.size := (by omega))
  go_upto_region 2 with fail
  go_cut [4, 5] (sFoot_core_c1 w w2 d xa xb xk na nb nk nc nd nl ta tb tk c )
  case first =>
    have zv0 : w2.heap.size + 1 < w2.heap.size + 1 + 1 + 1 := (by omega)
    go_region_held3 (fun w' => w'.cell? ⟨w.heap.size, 0, none⟩ = some (Value.int IntKind.i64 d) ∧ w'.cell? ⟨w.heap.size, 1, none⟩ = some (Value.int IntKind.i64 xa) ∧ w'.cell? ⟨w.heap.size, 2, none⟩ = some (Value.int IntKind.i64 xb) ∧ w'.cell? ⟨w.heap.size, 3, none⟩ = some (Value.int IntKind.i64 xk)) ((first | (go_simp; done) | (simp [*]; done)))
      ((first
      | (go_at_call 75; refine (H3.out _ ?_).mono ?_; exact LT.below (w := w) hT (by (repeat (first | with_reducible exact Below.refl _ _ | with_reducible assumption | with_reducible refine below_drewN ?_ _ | with_reducible refine Below.drew ?_ | with_reducible refine Below.alloc ?_ (by first | omega | (simp; done) | (simp; omega)) _ | with_reducible refine Below.setCell ?_ (by first | omega | (simp; done) | (simp; omega)) _ | with_reducible refine Below.trans ?_ (Below.mono (by assumption) (by first | omega | (simp; done) | (simp; omega)))))) (Nat.le_refl _); rintro e w3 ⟨rfl, hb3⟩; (try replace hb3 := Below.undrew hb3); obtain ⟨hc3, hf3⟩ := bcell hb3; have hz3 := hb3.size; (try simp at hz3); (try have zy_3_0 : w.heap.size < w2.heap.size + 1 := (by omega)); (try have zx_3_0 : w.heap.size ≤ w2.heap.size := (by omega)); (try have zy_3_1 : w.heap.size + 1 < w2.heap.size + 1 := (by omega)); (try have zx_3_1 : w.heap.size + 1 ≤ w2.heap.size := (by omega)); (try have z3_0 : w.heap.size < w3.heap.size := (by omega)); (try have z3_1 : w.heap.size + 1 < w3.heap.size := (by omega)); (try have z3_2 : w2.heap.size < w3.heap.size := (by omega)); (try have zn3 : w2.heap.size + 1 < w3.heap.size := (by omega)); (try have zm3 : w2.heap.size + 1 + 1 < w3.heap.size := (by omega)); (try have zo3 : w2.heap.size + 1 < w3.heap.size + 1 := (by omega)); (have zv3 : w3.heap.size < w3.heap.size + 1 + 1 := (by omega)); (have cc3_0_0 : w3.cell? ⟨w.heap.size, 0, none⟩ = some (Value.int IntKind.i64 d) := (by rw [hc3 _ _ (by first | omega | (simp; done) | (simp; omega))]; (first | assumption | (simp [go_sem, *]; done)))); (have cc3_0_1 : w3.cell? ⟨w.heap.size, 1, none⟩ = some (Value.int IntKind.i64 xa) := (by rw [hc3 _ _ (by first | omega | (simp; done) | (simp; omega))]; (first | assumption | (simp [go_sem, *]; done)))); (have cc3_0_2 : w3.cell? ⟨w.heap.size, 2, none⟩ = some (Value.int IntKind.i64 xb) := (by rw [hc3 _ _ (by first | omega | (simp; done) | (simp; omega))]; (first | assumption | (simp [go_sem, *]; done)))); (have cc3_0_3 : w3.cell? ⟨w.heap.size, 3, none⟩ = some (Value.int IntKind.i64 xk) := (by rw [hc3 _ _ (by first | omega | (simp; done) | (simp; omega))]; (first | assumption | (simp [go_sem, *]; done)))); (have cc3_1_0 : w3.cell? ⟨w.heap.size + 1, 0, none⟩ = some (Value.int IntKind.i64 0) := (by rw [hc3 _ _ (by first | omega | (simp; done) | (simp; omega))]; (first | assumption | (simp [go_sem, *]; done)))); (have cc3_1_1 : w3.cell? ⟨w.heap.size + 1, 1, none⟩ = some (Value.int IntKind.i64 0) := (by rw [hc3 _ _ (by first | omega | (simp; done) | (simp; omega))]; (first | assumption | (simp [go_sem, *]; done)))); (have cc3_1_2 : w3.cell? ⟨w.heap.size + 1, 2, none⟩ = some (Value.int IntKind.i64 0) := (by rw [hc3 _ _ (by first | omega | (simp; done) | (simp; omega))]; (first | assumption | (simp [go_sem, *]; done)))); (have cc3_1_3 : w3.cell? ⟨w.heap.size + 1, 3, none⟩ = some (Value.int IntKind.i64 0) := (by rw [hc3 _ _ (by first | omega | (simp; done) | (simp; omega))]; (first | assumption | (simp [go_sem, *]; done)))); (have cc3_1_4 : w3.cell? ⟨w.heap.size + 1, 4, none⟩ = some (Value.int IntKind.i64 0) := (by rw [hc3 _ _ (by first | omega | (simp; done) | (simp; omega))]; (first | assumption | (simp [go_sem, *]; done)))); (have cc3_1_5 : w3.cell? ⟨w.heap.size + 1, 5, none⟩ = some (Value.int IntKind.i64 0) := (by rw [hc3 _ _ (by first | omega | (simp; done) | (simp; omega))]; (first | assumption | (simp [go_sem, *]; done)))); (have cr3_1_0 : w3.frozen? ⟨w.heap.size + 1, 0, none⟩ = false := (by rw [hf3 _ _ (by first | omega | (simp; done) | (simp; omega))]; (first | assumption | (simp [go_sem, *]; done)))); (have cr3_1_1 : w3.frozen? ⟨w.heap.size + 1, 1, none⟩ = false := (by rw [hf3 _ _ (by first | omega | (simp; done) | (simp; omega))]; (first | assumption | (simp [go_sem, *]; done)))); (have cr3_1_2 : w3.frozen? ⟨w.heap.size + 1, 2, none⟩ = false := (by rw [hf3 _ _ (by first | omega | (simp; done) | (simp; omega))]; (first | assumption | (simp [go_sem, *]; done)))); (have cr3_1_3 : w3.frozen? ⟨w.heap.size + 1, 3, none⟩ = false := (by rw [hf3 _ _ (by first | omega | (simp; done) | (simp; omega))]; (first | assumption | (simp [go_sem, *]; done)))); (have cr3_1_4 : w3.frozen? ⟨w.heap.size + 1, 4, none⟩ = false := (by rw [hf3 _ _ (by first | omega | (simp; done) | (simp; omega))]; (first | assumption | (simp [go_sem, *]; done)))); (have cr3_1_5 : w3.frozen? ⟨w.heap.size + 1, 5, none⟩ = false := (by rw [hf3 _ _ (by first | omega | (simp; done) | (simp; omega))]; (first | assumption | (simp [go_sem, *]; done)))); (have cc3_2_0 : w3.cell? ⟨w2.heap.size, 0, none⟩ = some (Value.int IntKind.i64 na) := (by rw [hc3 _ _ (by first | omega | (simp; done) | (simp; omega))]; (first | assumption | (simp [go_sem, *]; done)))); (have cc3_2_1 : w3.cell? ⟨w2.heap.size, 1, none⟩ = some (Value.int IntKind.i64 nb) := (by rw [hc3 _ _ (by first | omega | (simp; done) | (simp; omega))]; (first | assumption | (simp [go_sem, *]; done)))); (have cc3_2_2 : w3.cell? ⟨w2.heap.size, 2, none⟩ = some (Value.int IntKind.i64 nk) := (by rw [hc3 _ _ (by first | omega | (simp; done) | (simp; omega))]; (first | assumption | (simp [go_sem, *]; done)))); (have cc3_2_3 : w3.cell? ⟨w2.heap.size, 3, none⟩ = some (Value.int IntKind.i64 nc) := (by rw [hc3 _ _ (by first | omega | (simp; done) | (simp; omega))]; (first | assumption | (simp [go_sem, *]; done)))); (have cc3_2_4 : w3.cell? ⟨w2.heap.size, 4, none⟩ = some (Value.int IntKind.i64 nd) := (by rw [hc3 _ _ (by first | omega | (simp; done) | (simp; omega))]; (first | assumption | (simp [go_sem, *]; done)))); (have cc3_2_5 : w3.cell? ⟨w2.heap.size, 5, none⟩ = some (Value.int IntKind.i64 nl) := (by rw [hc3 _ _ (by first | omega | (simp; done) | (simp; omega))]; (first | assumption | (simp [go_sem, *]; done)))))
      | (go_at_call 74; refine (H4.out _ ?_).mono ?_; exact LT.below (w := w) hT (by (repeat (first | with_reducible exact Below.refl _ _ | with_reducible assumption | with_reducible refine below_drewN ?_ _ | with_reducible refine Below.drew ?_ | with_reducible refine Below.alloc ?_ (by first | omega | (simp; done) | (simp; omega)) _ | with_reducible refine Below.setCell ?_ (by first | omega | (simp; done) | (simp; omega)) _ | with_reducible refine Below.trans ?_ (Below.mono (by assumption) (by first | omega | (simp; done) | (simp; omega)))))) (Nat.le_refl _); rintro e w4 ⟨rfl, hb4⟩; (try replace hb4 := Below.undrew hb4); obtain ⟨hc4, hf4⟩ := bcell hb4; have hz4 := hb4.size; (try simp at hz4); (try have z4_0 : w.heap.size < w4.heap.size := (by omega)); (try have z4_1 : w.heap.size + 1 < w4.heap.size := (by omega)); (try have z4_2 : w2.heap.size < w4.heap.size := (by omega)); (try have zq4_3 : w3.heap.size < w4.heap.size := (by omega)); (try have zp4_3 : w3.heap.size + 1 < w4.heap.size := (by omega)); (try have zr4_3 : w3.heap.size < w4.heap.size + 1 := (by omega)); (try have zn4 : w2.heap.size + 1 < w4.heap.size := (by omega)); (try have zm4 : w2.heap.size + 1 + 1 < w4.heap.size := (by omega)); (try have zo4 : w2.heap.size + 1 < w4.heap.size + 1 := (by omega)); (have zv4 : w4.heap.size < w4.heap.size + 1 + 1 := (by omega)); (have cc4_0_0 : w4.cell? ⟨w.heap.size, 0, none⟩ = some (Value.int IntKind.i64 d) := (by rw [hc4 _ _ (by first | omega | (simp; done) | (simp; omega))]; (first | assumption | (simp [go_sem, *]; done)))); (have cc4_0_1 : w4.cell? ⟨w.heap.size, 1, none⟩ = some (Value.int IntKind.i64 xa) := (by rw [hc4 _ _ (by first | omega | (simp; done) | (simp; omega))]; (first | assumption | (simp [go_sem, *]; done)))); (have cc4_0_2 : w4.cell? ⟨w.heap.size, 2, none⟩ = some (Value.int IntKind.i64 xb) := (by rw [hc4 _ _ (by first | omega | (simp; done) | (simp; omega))]; (first | assumption | (simp [go_sem, *]; done)))); (have cc4_0_3 : w4.cell? ⟨w.heap.size, 3, none⟩ = some (Value.int IntKind.i64 xk) := (by rw [hc4 _ _ (by first | omega | (simp; done) | (simp; omega))]; (first | assumption | (simp [go_sem, *]; done)))); (have cc4_1_0 : w4.cell? ⟨w.heap.size + 1, 0, none⟩ = some (Value.int IntKind.i64 0) := (by rw [hc4 _ _ (by first | omega | (simp; done) | (simp; omega))]; (first | assumption | (simp [go_sem, *]; done)))); (have cc4_1_1 : w4.cell? ⟨w.heap.size + 1, 1, none⟩ = some (Value.int IntKind.i64 0) := (by rw [hc4 _ _ (by first | omega | (simp; done) | (simp; omega))]; (first | assumption | (simp [go_sem, *]; done)))); (have cc4_1_2 : w4.cell? ⟨w.heap.size + 1, 2, none⟩ = some (Value.int IntKind.i64 0) := (by rw [hc4 _ _ (by first | omega | (simp; done) | (simp; omega))]; (first | assumption | (simp [go_sem, *]; done)))); (have cc4_1_3 : w4.cell? ⟨w.heap.size + 1, 3, none⟩ = some (Value.int IntKind.i64 0) := (by rw [hc4 _ _ (by first | omega | (simp; done) | (simp; omega))]; (first | assumption | (simp [go_sem, *]; done)))); (have cc4_1_4 : w4.cell? ⟨w.heap.size + 1, 4, none⟩ = some (Value.int IntKind.i64 0) := (by rw [hc4 _ _ (by first | omega | (simp; done) | (simp; omega))]; (first | assumption | (simp [go_sem, *]; done)))); (have cc4_1_5 : w4.cell? ⟨w.heap.size + 1, 5, none⟩ = some (Value.int IntKind.i64 0) := (by rw [hc4 _ _ (by first | omega | (simp; done) | (simp; omega))]; (first | assumption | (simp [go_sem, *]; done)))); (have cr4_1_0 : w4.frozen? ⟨w.heap.size + 1, 0, none⟩ = false := (by rw [hf4 _ _ (by first | omega | (simp; done) | (simp; omega))]; (first | assumption | (simp [go_sem, *]; done)))); (have cr4_1_1 : w4.frozen? ⟨w.heap.size + 1, 1, none⟩ = false := (by rw [hf4 _ _ (by first | omega | (simp; done) | (simp; omega))]; (first | assumption | (simp [go_sem, *]; done)))); (have cr4_1_2 : w4.frozen? ⟨w.heap.size + 1, 2, none⟩ = false := (by rw [hf4 _ _ (by first | omega | (simp; done) | (simp; omega))]; (first | assumption | (simp [go_sem, *]; done)))); (have cr4_1_3 : w4.frozen? ⟨w.heap.size + 1, 3, none⟩ = false := (by rw [hf4 _ _ (by first | omega | (simp; done) | (simp; omega))]; (first | assumption | (simp [go_sem, *]; done)))); (have cr4_1_4 : w4.frozen? ⟨w.heap.size + 1, 4, none⟩ = false := (by rw [hf4 _ _ (by first | omega | (simp; done) | (simp; omega))]; (first | assumption | (simp [go_sem, *]; done)))); (have cr4_1_5 : w4.frozen? ⟨w.heap.size + 1, 5, none⟩ = false := (by rw [hf4 _ _ (by first | omega | (simp; done) | (simp; omega))]; (first | assumption | (simp [go_sem, *]; done)))); (have cc4_2_0 : w4.cell? ⟨w2.heap.size, 0, none⟩ = some (Value.int IntKind.i64 na) := (by rw [hc4 _ _ (by first | omega | (simp; done) | (simp; omega))]; (first | assumption | (simp [go_sem, *]; done)))); (have cc4_2_1 : w4.cell? ⟨w2.heap.size, 1, none⟩ = some (Value.int IntKind.i64 nb) := (by rw [hc4 _ _ (by first | omega | (simp; done) | (simp; omega))]; (first | assumption | (simp [go_sem, *]; done)))); (have cc4_2_2 : w4.cell? ⟨w2.heap.size, 2, none⟩ = some (Value.int IntKind.i64 nk) := (by rw [hc4 _ _ (by first | omega | (simp; done) | (simp; omega))]; (first | assumption | (simp [go_sem, *]; done)))); (have cc4_2_3 : w4.cell? ⟨w2.heap.size, 3, none⟩ = some (Value.int IntKind.i64 nc) := (by rw [hc4 _ _ (by first | omega | (simp; done) | (simp; omega))]; (first | assumption | (simp [go_sem, *]; done)))); (have cc4_2_4 : w4.cell? ⟨w2.heap.size, 4, none⟩ = some (Value.int IntKind.i64 nd) := (by rw [hc4 _ _ (by first | omega | (simp; done) | (simp; omega))]; (first | assumption | (simp [go_sem, *]; done)))); (have cc4_2_5 : w4.cell? ⟨w2.heap.size, 5, none⟩ = some (Value.int IntKind.i64 nl) := (by rw [hc4 _ _ (by first | omega | (simp; done) | (simp; omega))]; (first | assumption | (simp [go_sem, *]; done)))))))
    all_goals (go_wp2_with fail; go_meet; exact ⟨_, (by first | with_reducible rfl | omega | (simp [go_sem, *]; done) | (simp; omega) | ((repeat (first | with_reducible exact Below.refl _ _ | with_reducible assumption | with_reducible refine below_drewN ?_ _ | with_reducible refine Below.drew ?_ | with_reducible refine Below.alloc ?_ (by first | omega | (simp; done) | (simp; omega)) _ | with_reducible refine Below.setCell ?_ (by first | omega | (simp; done) | (simp; omega)) _ | with_reducible refine Below.trans ?_ (Below.mono (by assumption) (by first | omega | (simp; done) | (simp; omega))))); done)), (by first | with_reducible rfl | omega | (simp [go_sem, *]; done) | (simp; omega) | ((repeat (first | with_reducible exact Below.refl _ _ | with_reducible assumption | with_reducible refine below_drewN ?_ _ | with_reducible refine Below.drew ?_ | with_reducible refine Below.alloc ?_ (by first | omega | (simp; done) | (simp; omega)) _ | with_reducible refine Below.setCell ?_ (by first | omega | (simp; done) | (simp; omega)) _ | with_reducible refine Below.trans ?_ (Below.mono (by assumption) (by first | omega | (simp; done) | (simp; omega))))); done)), (by first | with_reducible rfl | omega | (simp [go_sem, *]; done) | (simp; omega) | ((repeat (first | with_reducible exact Below.refl _ _ | with_reducible assumption | with_reducible refine below_drewN ?_ _ | with_reducible refine Below.drew ?_ | with_reducible refine Below.alloc ?_ (by first | omega | (simp; done) | (simp; omega)) _ | with_reducible refine Below.setCell ?_ (by first | omega | (simp; done) | (simp; omega)) _ | with_reducible refine Below.trans ?_ (Below.mono (by assumption) (by first | omega | (simp; done) | (simp; omega))))); done)), (by first | with_reducible rfl | omega | (simp [go_sem, *]; done) | (simp; omega) | ((repeat (first | with_reducible exact Below.refl _ _ | with_reducible assumption | with_reducible refine below_drewN ?_ _ | with_reducible refine Below.drew ?_ | with_reducible refine Below.alloc ?_ (by first | omega | (simp; done) | (simp; omega)) _ | with_reducible refine Below.setCell ?_ (by first | omega | (simp; done) | (simp; omega)) _ | with_reducible refine Below.trans ?_ (Below.mono (by assumption) (by first | omega | (simp; done) | (simp; omega))))); done)), (by first | with_reducible rfl | omega | (simp [go_sem, *]; done) | (simp; omega) | ((repeat (first | with_reducible exact Below.refl _ _ | with_reducible assumption | with_reducible refine below_drewN ?_ _ | with_reducible refine Below.drew ?_ | with_reducible refine Below.alloc ?_ (by first | omega | (simp; done) | (simp; omega)) _ | with_reducible refine Below.setCell ?_ (by first | omega | (simp; done) | (simp; omega)) _ | with_reducible refine Below.trans ?_ (Below.mono (by assumption) (by first | omega | (simp; done) | (simp; omega))))); done)), (by first | with_reducible rfl | omega | (simp [go_sem, *]; done) | (simp; omega) | ((repeat (first | with_reducible exact Below.refl _ _ | with_reducible assumption | with_reducible refine below_drewN ?_ _ | with_reducible refine Below.drew ?_ | with_reducible refine Below.alloc ?_ (by first | omega | (simp; done) | (simp; omega)) _ | with_reducible refine Below.setCell ?_ (by first | omega | (simp; done) | (simp; omega)) _ | with_reducible refine Below.trans ?_ (Below.mono (by assumption) (by first | omega | (simp; done) | (simp; omega))))); done)), (by first | with_reducible rfl | omega | (simp [go_sem, *]; done) | (simp; omega) | ((repeat (first | with_reducible exact Below.refl _ _ | with_reducible assumption | with_reducible refine below_drewN ?_ _ | with_reducible refine Below.drew ?_ | with_reducible refine Below.alloc ?_ (by first | omega | (simp; done) | (simp; omega)) _ | with_reducible refine Below.setCell ?_ (by first | omega | (simp; done) | (simp; omega)) _ | with_reducible refine Below.trans ?_ (Below.mono (by assumption) (by first | omega | (simp; done) | (simp; omega))))); done)), (by first | with_reducible rfl | omega | (simp [go_sem, *]; done) | (simp; omega) | ((repeat (first | with_reducible exact Below.refl _ _ | with_reducible assumption | with_reducible refine below_drewN ?_ _ | with_reducible refine Below.drew ?_ | with_reducible refine Below.alloc ?_ (by first | omega | (simp; done) | (simp; omega)) _ | with_reducible refine Below.setCell ?_ (by first | omega | (simp; done) | (simp; omega)) _ | with_reducible refine Below.trans ?_ (Below.mono (by assumption) (by first | omega | (simp; done) | (simp; omega))))); done)), (by first | with_reducible rfl | omega | (simp [go_sem, *]; done) | (simp; omega) | ((repeat (first | with_reducible exact Below.refl _ _ | with_reducible assumption | with_reducible refine below_drewN ?_ _ | with_reducible refine Below.drew ?_ | with_reducible refine Below.alloc ?_ (by first | omega | (simp; done) | (simp; omega)) _ | with_reducible refine Below.setCell ?_ (by first | omega | (simp; done) | (simp; omega)) _ | with_reducible refine Below.trans ?_ (Below.mono (by assumption) (by first | omega | (simp; done) | (simp; omega))))); done)), (by first | with_reducible rfl | omega | (simp [go_sem, *]; done) | (simp; omega) | ((repeat (first | with_reducible exact Below.refl _ _ | with_reducible assumption | with_reducible refine below_drewN ?_ _ | with_reducible refine Below.drew ?_ | with_reducible refine Below.alloc ?_ (by first | omega | (simp; done) | (simp; omega)) _ | with_reducible refine Below.setCell ?_ (by first | omega | (simp; done) | (simp; omega)) _ | with_reducible refine Below.trans ?_ (Below.mono (by assumption) (by first | omega | (simp; done) | (simp; omega))))); done)), (by first | with_reducible rfl | omega | (simp [go_sem, *]; done) | (simp; omega) | ((repeat (first | with_reducible exact Below.refl _ _ | with_reducible assumption | with_reducible refine below_drewN ?_ _ | with_reducible refine Below.drew ?_ | with_reducible refine Below.alloc ?_ (by first | omega | (simp; done) | (simp; omega)) _ | with_reducible refine Below.setCell ?_ (by first | omega | (simp; done) | (simp; omega)) _ | with_reducible refine Below.trans ?_ (Below.mono (by assumption) (by first | omega | (simp; done) | (simp; omega))))); done)), (by first | with_reducible rfl | omega | (simp [go_sem, *]; done) | (simp; omega) | ((repeat (first | with_reducible exact Below.refl _ _ | with_reducible assumption | with_reducible refine below_drewN ?_ _ | with_reducible refine Below.drew ?_ | with_reducible refine Below.alloc ?_ (by first | omega | (simp; done) | (simp; omega)) _ | with_reducible refine Below.setCell ?_ (by first | omega | (simp; done) | (simp; omega)) _ | with_reducible refine Below.trans ?_ (Below.mono (by assumption) (by first | omega | (simp; done) | (simp; omega))))); done)), (by first | with_reducible rfl | omega | (simp [go_sem, *]; done) | (simp; omega) | ((repeat (first | with_reducible exact Below.refl _ _ | with_reducible assumption | with_reducible refine below_drewN ?_ _ | with_reducible refine Below.drew ?_ | with_reducible refine Below.alloc ?_ (by first | omega | (simp; done) | (simp; omega)) _ | with_reducible refine Below.setCell ?_ (by first | omega | (simp; done) | (simp; omega)) _ | with_reducible refine Below.trans ?_ (Below.mono (by assumption) (by first | omega | (simp; done) | (simp; omega))))); done)), (by first | with_reducible rfl | omega | (simp [go_sem, *]; done) | (simp; omega) | ((repeat (first | with_reducible exact Below.refl _ _ | with_reducible assumption | with_reducible refine below_drewN ?_ _ | with_reducible refine Below.drew ?_ | with_reducible refine Below.alloc ?_ (by first | omega | (simp; done) | (simp; omega)) _ | with_reducible refine Below.setCell ?_ (by first | omega | (simp; done) | (simp; omega)) _ | with_reducible refine Below.trans ?_ (Below.mono (by assumption) (by first | omega | (simp; done) | (simp; omega))))); done)), (by first | with_reducible rfl | omega | (simp [go_sem, *]; done) | (simp; omega) | ((repeat (first | with_reducible exact Below.refl _ _ | with_reducible assumption | with_reducible refine below_drewN ?_ _ | with_reducible refine Below.drew ?_ | with_reducible refine Below.alloc ?_ (by first | omega | (simp; done) | (simp; omega)) _ | with_reducible refine Below.setCell ?_ (by first | omega | (simp; done) | (simp; omega)) _ | with_reducible refine Below.trans ?_ (Below.mono (by assumption) (by first | omega | (simp; done) | (simp; omega))))); done)), (by first | with_reducible rfl | omega | (simp [go_sem, *]; done) | (simp; omega) | ((repeat (first | with_reducible exact Below.refl _ _ | with_reducible assumption | with_reducible refine below_drewN ?_ _ | with_reducible refine Below.drew ?_ | with_reducible refine Below.alloc ?_ (by first | omega | (simp; done) | (simp; omega)) _ | with_reducible refine Below.setCell ?_ (by first | omega | (simp; done) | (simp; omega)) _ | with_reducible refine Below.trans ?_ (Below.mono (by assumption) (by first | omega | (simp; done) | (simp; omega))))); done)), (by first | with_reducible rfl | omega | (simp [go_sem, *]; done) | (simp; omega) | ((repeat (first | with_reducible exact Below.refl _ _ | with_reducible assumption | with_reducible refine below_drewN ?_ _ | with_reducible refine Below.drew ?_ | with_reducible refine Below.alloc ?_ (by first | omega | (simp; done) | (simp; omega)) _ | with_reducible refine Below.setCell ?_ (by first | omega | (simp; done) | (simp; omega)) _ | with_reducible refine Below.trans ?_ (Below.mono (by assumption) (by first | omega | (simp; done) | (simp; omega))))); done)), (by first | with_reducible rfl | omega | (simp [go_sem, *]; done) | (simp; omega) | ((repeat (first | with_reducible exact Below.refl _ _ | with_reducible assumption | with_reducible refine below_drewN ?_ _ | with_reducible refine Below.drew ?_ | with_reducible refine Below.alloc ?_ (by first | omega | (simp; done) | (simp; omega)) _ | with_reducible refine Below.setCell ?_ (by first | omega | (simp; done) | (simp; omega)) _ | with_reducible refine Below.trans ?_ (Below.mono (by assumption) (by first | omega | (simp; done) | (simp; omega))))); done)), (by first | with_reducible rfl | omega | (simp [go_sem, *]; done) | (simp; omega) | ((repeat (first | with_reducible exact Below.refl _ _ | with_reducible assumption | with_reducible refine below_drewN ?_ _ | with_reducible refine Below.drew ?_ | with_reducible refine Below.alloc ?_ (by first | omega | (simp; done) | (simp; omega)) _ | with_reducible refine Below.setCell ?_ (by first | omega | (simp; done) | (simp; omega)) _ | with_reducible refine Below.trans ?_ (Below.mono (by assumption) (by first | omega | (simp; done) | (simp; omega))))); done)), (by first | with_reducible rfl | omega | (simp [go_sem, *]; done) | (simp; omega) | ((repeat (first | with_reducible exact Below.refl _ _ | with_reducible assumption | with_reducible refine below_drewN ?_ _ | with_reducible refine Below.drew ?_ | with_reducible refine Below.alloc ?_ (by first | omega | (simp; done) | (simp; omega)) _ | with_reducible refine Below.setCell ?_ (by first | omega | (simp; done) | (simp; omega)) _ | with_reducible refine Below.trans ?_ (Below.mono (by assumption) (by first | omega | (simp; done) | (simp; omega))))); done)), (by first | with_reducible rfl | omega | (simp [go_sem, *]; done) | (simp; omega) | ((repeat (first | with_reducible exact Below.refl _ _ | with_reducible assumption | with_reducible refine below_drewN ?_ _ | with_reducible refine Below.drew ?_ | with_reducible refine Below.alloc ?_ (by first | omega | (simp; done) | (simp; omega)) _ | with_reducible refine Below.setCell ?_ (by first | omega | (simp; done) | (simp; omega)) _ | with_reducible refine Below.trans ?_ (Below.mono (by assumption) (by first | omega | (simp; done) | (simp; omega))))); done)), (by first | with_reducible rfl | omega | (simp [go_sem, *]; done) | (simp; omega) | ((repeat (first | with_reducible exact Below.refl _ _ | with_reducible assumption | with_reducible refine below_drewN ?_ _ | with_reducible refine Below.drew ?_ | with_reducible refine Below.alloc ?_ (by first | omega | (simp; done) | (simp; omega)) _ | with_reducible refine Below.setCell ?_ (by first | omega | (simp; done) | (simp; omega)) _ | with_reducible refine Below.trans ?_ (Below.mono (by assumption) (by first | omega | (simp; done) | (simp; omega))))); done)), (by first | with_reducible rfl | omega | (simp [go_sem, *]; done) | (simp; omega) | ((repeat (first | with_reducible exact Below.refl _ _ | with_reducible assumption | with_reducible refine below_drewN ?_ _ | with_reducible refine Below.drew ?_ | with_reducible refine Below.alloc ?_ (by first | omega | (simp; done) | (simp; omega)) _ | with_reducible refine Below.setCell ?_ (by first | omega | (simp; done) | (simp; omega)) _ | with_reducible refine Below.trans ?_ (Below.mono (by assumption) (by first | omega | (simp; done) | (simp; omega))))); done)), (by first | with_reducible rfl | omega | (simp [go_sem, *]; done) | (simp; omega) | ((repeat (first | with_reducible exact Below.refl _ _ | with_reducible assumption | with_reducible refine below_drewN ?_ _ | with_reducible refine Below.drew ?_ | with_reducible refine Below.alloc ?_ (by first | omega | (simp; done) | (simp; omega)) _ | with_reducible refine Below.setCell ?_ (by first | omega | (simp; done) | (simp; omega)) _ | with_reducible refine Below.trans ?_ (Below.mono (by assumption) (by first | omega | (simp; done) | (simp; omega))))); done)), (by first | with_reducible rfl | omega | (simp [go_sem, *]; done) | (simp; omega) | ((repeat (first | with_reducible exact Below.refl _ _ | with_reducible assumption | with_reducible refine below_drewN ?_ _ | with_reducible refine Below.drew ?_ | with_reducible refine Below.alloc ?_ (by first | omega | (simp; done) | (simp; omega)) _ | with_reducible refine Below.setCell ?_ (by first | omega | (simp; done) | (simp; omega)) _ | with_reducible refine Below.trans ?_ (Below.mono (by assumption) (by first | omega | (simp; done) | (simp; omega))))); done)), (by first | with_reducible rfl | omega | (simp [go_sem, *]; done) | (simp; omega) | ((repeat (first | with_reducible exact Below.refl _ _ | with_reducible assumption | with_reducible refine below_drewN ?_ _ | with_reducible refine Below.drew ?_ | with_reducible refine Below.alloc ?_ (by first | omega | (simp; done) | (simp; omega)) _ | with_reducible refine Below.setCell ?_ (by first | omega | (simp; done) | (simp; omega)) _ | with_reducible refine Below.trans ?_ (Below.mono (by assumption) (by first | omega | (simp; done) | (simp; omega))))); done)), (by first | with_reducible rfl | omega | (simp [go_sem, *]; done) | (simp; omega) | ((repeat (first | with_reducible exact Below.refl _ _ | with_reducible assumption | with_reducible refine below_drewN ?_ _ | with_reducible refine Below.drew ?_ | with_reducible refine Below.alloc ?_ (by first | omega | (simp; done) | (simp; omega)) _ | with_reducible refine Below.setCell ?_ (by first | omega | (simp; done) | (simp; omega)) _ | with_reducible refine Below.trans ?_ (Below.mono (by assumption) (by first | omega | (simp; done) | (simp; omega))))); done)), (by first | with_reducible rfl | omega | (simp [go_sem, *]; done) | (simp; omega) | ((repeat (first | with_reducible exact Below.refl _ _ | with_reducible assumption | with_reducible refine below_drewN ?_ _ | with_reducible refine Below.drew ?_ | with_reducible refine Below.alloc ?_ (by first | omega | (simp; done) | (simp; omega)) _ | with_reducible refine Below.setCell ?_ (by first | omega | (simp; done) | (simp; omega)) _ | with_reducible refine Below.trans ?_ (Below.mono (by assumption) (by first | omega | (simp; done) | (simp; omega))))); done)), (by first | with_reducible rfl | omega | (simp [go_sem, *]; done) | (simp; omega) | ((repeat (first | with_reducible exact Below.refl _ _ | with_reducible assumption | with_reducible refine below_drewN ?_ _ | with_reducible refine Below.drew ?_ | with_reducible refine Below.alloc ?_ (by first | omega | (simp; done) | (simp; omega)) _ | with_reducible refine Below.setCell ?_ (by first | omega | (simp; done) | (simp; omega)) _ | with_reducible refine Below.trans ?_ (Below.mono (by assumption) (by first | omega | (simp; done) | (simp; omega))))); done)), (by first | with_reducible rfl | omega | (simp [go_sem, *]; done) | (simp; omega) | ((repeat (first | with_reducible exact Below.refl _ _ | with_reducible assumption | with_reducible refine below_drewN ?_ _ | with_reducible refine Below.drew ?_ | with_reducible refine Below.alloc ?_ (by first | omega | (simp; done) | (simp; omega)) _ | with_reducible refine Below.setCell ?_ (by first | omega | (simp; done) | (simp; omega)) _ | with_reducible refine Below.trans ?_ (Below.mono (by assumption) (by first | omega | (simp; done) | (simp; omega))))); done)), (by first | with_reducible rfl | omega | (simp [go_sem, *]; done) | (simp; omega) | ((repeat (first | with_reducible exact Below.refl _ _ | with_reducible assumption | with_reducible refine below_drewN ?_ _ | with_reducible refine Below.drew ?_ | with_reducible refine Below.alloc ?_ (by first | omega | (simp; done) | (simp; omega)) _ | with_reducible refine Below.setCell ?_ (by first | omega | (simp; done) | (simp; omega)) _ | with_reducible refine Below.trans ?_ (Below.mono (by assumption) (by first | omega | (simp; done) | (simp; omega))))); done)), (by first | with_reducible rfl | omega | (simp [go_sem, *]; done) | (simp; omega) | ((repeat (first | with_reducible exact Below.refl _ _ | with_reducible assumption | with_reducible refine below_drewN ?_ _ | with_reducible refine Below.drew ?_ | with_reducible refine Below.alloc ?_ (by first | omega | (simp; done) | (simp; omega)) _ | with_reducible refine Below.setCell ?_ (by first | omega | (simp; done) | (simp; omega)) _ | with_reducible refine Below.trans ?_ (Below.mono (by assumption) (by first | omega | (simp; done) | (simp; omega))))); done)), (by first | with_reducible rfl | omega | (simp [go_sem, *]; done) | (simp; omega) | ((repeat (first | with_reducible exact Below.refl _ _ | with_reducible assumption | with_reducible refine below_drewN ?_ _ | with_reducible refine Below.drew ?_ | with_reducible refine Below.alloc ?_ (by first | omega | (simp; done) | (simp; omega)) _ | with_reducible refine Below.setCell ?_ (by first | omega | (simp; done) | (simp; omega)) _ | with_reducible refine Below.trans ?_ (Below.mono (by assumption) (by first | omega | (simp; done) | (simp; omega))))); done)), (by first | with_reducible rfl | omega | (simp [go_sem, *]; done) | (simp; omega) | ((repeat (first | with_reducible exact Below.refl _ _ | with_reducible assumption | with_reducible refine below_drewN ?_ _ | with_reducible refine Below.drew ?_ | with_reducible refine Below.alloc ?_ (by first | omega | (simp; done) | (simp; omega)) _ | with_reducible refine Below.setCell ?_ (by first | omega | (simp; done) | (simp; omega)) _ | with_reducible refine Below.trans ?_ (Below.mono (by assumption) (by first | omega | (simp; done) | (simp; omega))))); done)), (by first | with_reducible rfl | omega | (simp [go_sem, *]; done) | (simp; omega) | ((repeat (first | with_reducible exact Below.refl _ _ | with_reducible assumption | with_reducible refine below_drewN ?_ _ | with_reducible refine Below.drew ?_ | with_reducible refine Below.alloc ?_ (by first | omega | (simp; done) | (simp; omega)) _ | with_reducible refine Below.setCell ?_ (by first | omega | (simp; done) | (simp; omega)) _ | with_reducible refine Below.trans ?_ (Below.mono (by assumption) (by first | omega | (simp; done) | (simp; omega))))); done)), (by first | with_reducible rfl | omega | (simp [go_sem, *]; done) | (simp; omega) | ((repeat (first | with_reducible exact Below.refl _ _ | with_reducible assumption | with_reducible refine below_drewN ?_ _ | with_reducible refine Below.drew ?_ | with_reducible refine Below.alloc ?_ (by first | omega | (simp; done) | (simp; omega)) _ | with_reducible refine Below.setCell ?_ (by first | omega | (simp; done) | (simp; omega)) _ | with_reducible refine Below.trans ?_ (Below.mono (by assumption) (by first | omega | (simp; done) | (simp; omega))))); done)), (by first | with_reducible rfl | omega | (simp [go_sem, *]; done) | (simp; omega) | ((repeat (first | with_reducible exact Below.refl _ _ | with_reducible assumption | with_reducible refine below_drewN ?_ _ | with_reducible refine Below.drew ?_ | with_reducible refine Below.alloc ?_ (by first | omega | (simp; done) | (simp; omega)) _ | with_reducible refine Below.setCell ?_ (by first | omega | (simp; done) | (simp; omega)) _ | with_reducible refine Below.trans ?_ (Below.mono (by assumption) (by first | omega | (simp; done) | (simp; omega))))); done)), (by first | with_reducible rfl | omega | (simp [go_sem, *]; done) | (simp; omega) | ((repeat (first | with_reducible exact Below.refl _ _ | with_reducible assumption | with_reducible refine below_drewN ?_ _ | with_reducible refine Below.drew ?_ | with_reducible refine Below.alloc ?_ (by first | omega | (simp; done) | (simp; omega)) _ | with_reducible refine Below.setCell ?_ (by first | omega | (simp; done) | (simp; omega)) _ | with_reducible refine Below.trans ?_ (Below.mono (by assumption) (by first | omega | (simp; done) | (simp; omega))))); done))⟩)
  case rest =>
  obtain ⟨wr1, hwr1⟩ : ∃ x, x = wc := ⟨_, rfl⟩
  subst hwr1
  obtain ⟨g4, rfl, rfl, q1_2, q1_3, q1_4, q1_5, q1_6, q1_7, q1_8, q1_9, q1_10, q1_11, q1_12, q1_13, q1_14, q1_15, q1_16, q1_17, q1_18, q1_19, q1_20, q1_21, q1_22, q1_23, q1_24, q1_25, q1_26, q1_27, q1_28, q1_29, q1_30, q1_31, q1_32, q1_33, q1_34, q1_35, q1_36, q1_37⟩ := hcut
  go_wp2_with fail
  have tok5 : True := trivial
  have tok6 : True := trivial
  go_region_held3 (fun w' => w'.cell? ⟨g4, 0, none⟩ = some (Value.int IntKind.i64 ta) ∧ w'.cell? ⟨g4, 1, none⟩ = some (Value.int IntKind.i64 tb) ∧ w'.cell? ⟨g4, 2, none⟩ = some (Value.int IntKind.i64 tk) ∧ w'.cell? ⟨w2.heap.size, 0, none⟩ = some (Value.int IntKind.i64 na) ∧ w'.cell? ⟨w2.heap.size, 1, none⟩ = some (Value.int IntKind.i64 nb) ∧ w'.cell? ⟨w2.heap.size, 2, none⟩ = some (Value.int IntKind.i64 nk) ∧ w'.cell? ⟨w2.heap.size, 3, none⟩ = some (Value.int IntKind.i64 nc) ∧ w'.cell? ⟨w2.heap.size, 4, none⟩ = some (Value.int IntKind.i64 nd) ∧ w'.cell? ⟨w2.heap.size, 5, none⟩ = some (Value.int IntKind.i64 nl)) ((first | (go_simp; done) | (simp [*]; done)))
    ((first
    | (go_at_call_of 68 (Value.agg #[Value.int IntKind.i64 ta, Value.int IntKind.i64 tb, Value.int IntKind.i64 tk]); have _t5 := tok5; clear tok5; refine (H5.out _ ?_).mono ?_; exact LT.below (w := w) hT (by (repeat (first | with_reducible exact Below.refl _ _ | with_reducible assumption | with_reducible refine below_drewN ?_ _ | with_reducible refine Below.drew ?_ | with_reducible refine Below.alloc ?_ (by first | omega | (simp; done) | (simp; omega)) _ | with_reducible refine Below.setCell ?_ (by first | omega | (simp; done) | (simp; omega)) _ | with_reducible refine Below.trans ?_ (Below.mono (by assumption) (by first | omega | (simp; done) | (simp; omega)))))) (Nat.le_refl _); rintro e w5 ⟨rfl, hb5⟩; (try replace hb5 := Below.undrew hb5); obtain ⟨hc5, hf5⟩ := bcell hb5; have hz5 := hb5.size; (try simp at hz5); (try have zy_5_0 : w.heap.size < g4 + 1 := (by omega)); (try have zx_5_0 : w.heap.size ≤ g4 := (by omega)); (try have zy_5_1 : w.heap.size + 1 < g4 + 1 := (by omega)); (try have zx_5_1 : w.heap.size + 1 ≤ g4 := (by omega)); (try have zy_5_2 : w2.heap.size < g4 + 1 := (by omega)); (try have zx_5_2 : w2.heap.size ≤ g4 := (by omega)); (try have z5_0 : w.heap.size < w5.heap.size := (by omega)); (try have z5_1 : w.heap.size + 1 < w5.heap.size := (by omega)); (try have z5_2 : w2.heap.size < w5.heap.size := (by omega)); (try have z5_3 : g4 < w5.heap.size := (by omega)))
    | (go_at_call_of 68 (Value.agg #[Value.int IntKind.i64 ta, Value.int IntKind.i64 tb, Value.int IntKind.i64 tk]); have _t6 := tok6; clear tok6; refine (H6.out _ ?_).mono ?_; exact LT.below (w := w) hT (by (repeat (first | with_reducible exact Below.refl _ _ | with_reducible assumption | with_reducible refine below_drewN ?_ _ | with_reducible refine Below.drew ?_ | with_reducible refine Below.alloc ?_ (by first | omega | (simp; done) | (simp; omega)) _ | with_reducible refine Below.setCell ?_ (by first | omega | (simp; done) | (simp; omega)) _ | with_reducible refine Below.trans ?_ (Below.mono (by assumption) (by first | omega | (simp; done) | (simp; omega)))))) (Nat.le_refl _); rintro e w6 ⟨rfl, hb6⟩; (try replace hb6 := Below.undrew hb6); obtain ⟨hc6, hf6⟩ := bcell hb6; have hz6 := hb6.size; (try simp at hz6); (try have z6_0 : w.heap.size < w6.heap.size := (by omega)); (try have z6_1 : w.heap.size + 1 < w6.heap.size := (by omega)); (try have z6_2 : w2.heap.size < w6.heap.size := (by omega)); (try have z6_3 : g4 < w6.heap.size := (by omega)))))
  go_wp2_with fail
  exact bodyPost_ret (v := Value.agg #[Value.int IntKind.i64 pa, Value.int IntKind.i64 pb, Value.int IntKind.i64 pk, Value.int IntKind.i64 qa, Value.int IntKind.i64 qb, Value.int IntKind.i64 qk]) (by simp [results, Tryd.results57, go_sem, *]) rfl ⟨rfl, by (repeat (first | with_reducible exact Below.refl _ _ | with_reducible assumption | with_reducible refine below_drewN ?_ _ | with_reducible refine Below.drew ?_ | with_reducible refine Below.alloc ?_ (by first | omega | (simp; done) | (simp; omega)) _ | with_reducible refine Below.setCell ?_ (by first | omega | (simp; done) | (simp; omega)) _ | with_reducible refine Below.trans ?_ (Below.mono (by assumption) (by first | omega | (simp; done) | (simp; omega)))))⟩
end
section
open Go Go.ChangeShapes Go.WideShapes Go.ChangeAt Go.RowKit Go.Joins OriM
variable {H : Type} {enc : TypeId × Value → H}

theorem array8 {α : Type} {cs : Array α} (h : cs.size = 8) : ∃ c0 c1 c2 c3 c4 c5 c6 c7, cs = #[c0, c1, c2, c3, c4, c5, c6, c7] := by
  obtain ⟨l⟩ := cs
  match l, h with
  | [c0, c1, c2, c3, c4, c5, c6, c7], _ => exact ⟨c0, c1, c2, c3, c4, c5, c6, c7, rfl⟩
theorem cellsLawsMotion : Tryd.prog.cellsOf 25 = 8 := by kernel_rfl
theorem cellsBool : Tryd.prog.cellsOf 4 = 1 := by kernel_rfl

set_option maxRecDepth 100000 in
/-- An argument that is a motion. -/
theorem open_mot {W : World} {base : Nat} {v : Value} {d : DataW H} {p : List MemPlace} (hv : Value.okWide Tryd.prog W .any base 25 v)
    (h : DataW.Trod enc Tryd.prog W 0 (fun _ => true) true 25 v d p) : ∃ (t : Int) (f : Bool) (a b k c d l : Int), v = mot t f a b k c d l ∧ I6 a b k c d l := by
  obtain ⟨cs, rfl, hsz⟩ := okWide_struct Tryd.underlying25 hv
  obtain ⟨z0, z1, z2, z3, z4, z5, z6, z7, rfl⟩ := array8 (hsz.trans cellsLawsMotion)
  obtain ⟨fuel, hf⟩ := h
  obtain ⟨y0, y1, y2, y3, n, hx, _, g0, g1, g2, g3⟩ := trod_struct4 Tryd.underlying25 hf
  simp only [cellsLawsNum, cellsI64, cellsBool, Value.cells] at g0 g1 g2 g3
  obtain ⟨t, e0, _, _⟩ := DataW.trod_int Tryd.underlying2 g0
  obtain ⟨f, e1, _⟩ := DataW.trod_bool Tryd.underlying4 g1
  obtain ⟨a, b, k, e2, _, i2⟩ := num_cells Tryd.underlying23 Tryd.underlying2 ⟨rfl, rfl⟩ ⟨rfl, rfl⟩ ⟨rfl, rfl⟩ cellsI64 cellsLawsNum g2
  obtain ⟨a', b', k', e3, _, i3⟩ := num_cells Tryd.underlying23 Tryd.underlying2 ⟨rfl, rfl⟩ ⟨rfl, rfl⟩ ⟨rfl, rfl⟩ cellsI64 cellsLawsNum g3
  simp at e0 e1 e2 e3
  subst e0 e1
  obtain ⟨rfl, rfl, rfl⟩ := e2
  obtain ⟨rfl, rfl, rfl⟩ := e3
  exact ⟨t, f, a, b, k, a', b', k', rfl, ⟨i2, i3⟩⟩
end
section
namespace MoveL
open Go Go.RowKit OriM
variable {β : Bool}

def sP' (d : Nat) : P4 := ⟨xA d * 65536, xB d * 65536, yA d * 65536, yB d * 65536⟩
theorem dv_gp' (d : Nat) : gp (sP' d) = dv d := by
  obtain ⟨h1, h2, h3⟩ := gA_int (xA d) (xB d)
  obtain ⟨g1, g2, g3⟩ := gA_int (yA d) (yB d)
  unfold gp sP'
  simp only [h1, h2, h3, g1, g2, g3]; rfl
theorem sP'_bd {d : Nat} (hd : d < 16) : Bd 65536 (sP' d) := by
  have := small_vec d hd
  unfold Bd sP'; simp only; omega

/-- The square of a normal, on both sides. -/
theorem sq_dot (d : Nat) : dotA d (sP' d) = sqA d * 65536 ∧ dotB d (sP' d) = sqB d * 65536 := by
  unfold dotA dotB sqA sqB mA mB sP'
  constructor <;> grind
theorem vsq_g {d : Nat} (hd : d < 16) (w : World) (hT : LT β w) : Calls Tryd.prog 62 #[dv d, dv d] w (RetB (num (sqA d) (sqB d) 0) w) := by
  have h := vdot_g hd (bd_mono (sP'_bd hd) (by decide)) w hT
  rw [dv_gp', (sq_dot d).1, (sq_dot d).2, gv_int] at h
  exact h
theorem sMul_small {a b c d : Int} (h1 : -1 ≤ a ∧ a ≤ 1 ∧ -1 ≤ b ∧ b ≤ 1) (s : Small c d) (w : World) : Calls Tryd.prog 68 #[num a b 0, num c d 0] w (RetB (gv (mA c d a b * 65536) (mB c d a b * 65536)) w) := by
  have h := sMul_g (A := a * 65536) (B := b * 65536) (c := c) (d := d) (by unfold Bd2; omega) s w
  rw [gv_int] at h
  rw [show mA c d (a * 65536) (b * 65536) = mA c d a b * 65536 by unfold mA; grind, show mB c d (a * 65536) (b * 65536) = mB c d a b * 65536 by unfold mB; grind] at h
  exact h
theorem sSquare_g {d : Nat} (hd : d < 16) (w : World) (hT : LT β w) : Calls Tryd.prog 75 #[.int .i64 d] w (RetB (num (sqA d) (sqB d) 0) w) := by
  obtain ⟨s1, s2, s3, s4, s5, s6, s7, s8⟩ := small_vec d hd
  obtain ⟨sx, sy⟩ := small_dv hd
  have V := fun w (_ : LT β w) => svec_any d (by omega) w
  rw [Nat.mod_eq_of_lt hd] at V
  have bx : Bd2 288230376151711744 (mA (xA d) (xB d) (xA d) (xB d) * 65536) (mB (xA d) (xB d) (xA d) (xB d) * 65536) := by
    have := mul_bd (A := xA d) (B := xB d) (M := 1) s1 s2 s3 s4 ⟨by omega, by omega, by omega, by omega⟩
    unfold Bd2 at *; omega
  have bY : Bd2 288230376151711744 (mA (yA d) (yB d) (yA d) (yB d) * 65536) (mB (yA d) (yB d) (yA d) (yB d) * 65536) := by
    have := mul_bd (A := yA d) (B := yB d) (M := 1) s5 s6 s7 s8 ⟨by omega, by omega, by omega, by omega⟩
    unfold Bd2 at *; omega
  have AD := fun w => gAdd_any bx bY w
  rw [show mA (xA d) (xB d) (xA d) (xB d) * 65536 + mA (yA d) (yB d) (yA d) (yB d) * 65536 = sqA d * 65536 by unfold sqA; grind, show mB (xA d) (xB d) (xA d) (xB d) * 65536 + mB (yA d) (yB d) (yA d) (yB d) * 65536 = sqB d * 65536 by unfold sqB; grind] at AD
  simp only [gv_int (sqA d) (sqB d)] at AD
  exact sSquare_core _ _ _ _ _ _ _ _ _ _ _ _ _ _ _ _ _ _ _ _ _ _ w hT (Lib.hid V) (Lib.hid fun w hT => sOf_any _ _ _ _ _ _ w hT)
    (Lib.hid fun w _ => sMul_small ⟨s1, s2, s3, s4⟩ sx w) (Lib.hid fun w _ => sMul_small ⟨s5, s6, s7, s8⟩ sy w) (Lib.hid fun w _ => AD w)

/-! ### Feet and reflections -/
theorem mulP_bd {d : Nat} (hd : d < 16) {A B M : Int} (h : Bd2 M A B) : Bd (3 * M) (mulP d A B) := by
  obtain ⟨s1, s2, s3, s4, s5, s6, s7, s8⟩ := small_vec d hd
  obtain ⟨p1, p2, p3, p4⟩ := mul_bd s1 s2 s3 s4 h
  obtain ⟨q1, q2, q3, q4⟩ := mul_bd s5 s6 s7 s8 h
  exact ⟨p1, p2, p3, p4, q1, q2, q3, q4⟩
theorem mulP_quot {d : Nat} {c e s : Int} {t : Nat} {A B A' B' : Int} (h : OriM.Quot c e s t A B A' B') : QuotP c e s t (mulP d A B) (mulP d A' B') := ⟨quot_mul _ _ h, quot_mul _ _ h⟩

/-- The program's and the model's foot of a line. -/
theorem ifoot_g {n : Nat} (hn : n < 8) {A B T1 T2 : Int} (hA : Bd2 8589934592 A B) (q : OriM.Quot (sqA (n + 4)) (sqB (n + 4)) 1 (sqT (n + 4)) A B T1 T2) (w : World) (hT : LT true w) :
    Calls Tryd.prog 43 #[gl n A B] w (RetB (gp (mulP (n + 4) T1 T2)) w) := by
  have NO := fun w (hT : LT true w) => normal_g (d := n) (by omega) A B w hT
  rw [Nat.mod_eq_of_lt (show n + 4 < 16 by omega)] at NO
  exact foot_core _ _ _ _ _ _ _ _ _ _ _ _ _ _ _ _ _ _ _ _ _ _ _ _ _ w hT (Lib.hid NO) (Lib.hid fun w hT => vtimes_g (by omega) (bd2_mono hA (by decide)) w hT) (Lib.hid fun w hT => vsq_g (by omega) w hT)
    (Lib.hid fun w hT => vover_g (sq_unit _ (by omega)) (bd_mono (mulP_bd (by omega) hA) (by decide)) (mulP_quot q) w hT)
theorem sfoot_g {n : Nat} (hn : n < 8) {A B T1 T2 : Int} (hA : Bd2 8589934592 A B) (q : OriM.Quot (sqA (n + 4)) (sqB (n + 4)) 1 (sqT (n + 4)) A B T1 T2) (w : World) (hT : LT β w) :
    Calls Tryd.prog 57 #[gl n A B] w (RetB (gp (mulP (n + 4) T1 T2)) w) := by
  have V := fun w (_ : LT β w) => svec_any (n + 4) (by omega) w
  rw [Nat.mod_eq_of_lt (show n + 4 < 16 by omega), show ((n + 4 : Nat) : Int) = (n : Int) + 4 by omega] at V
  have SQ := fun w (hT : LT β w) => sSquare_g (d := n + 4) (by omega) w hT
  rw [show ((n + 4 : Nat) : Int) = (n : Int) + 4 by omega] at SQ
  have bT := quot_bd (sq_unit (n + 4) (by omega)) hA q
  obtain ⟨sx, sy⟩ := small_dv (d := n + 4) (by omega)
  exact sFoot_core _ _ _ _ _ _ _ _ _ _ _ _ _ _ _ _ _ _ _ _ _ _ _ _ _ _ _ _ _ w hT (by omega) (by omega) (Lib.hid V) (Lib.hid fun w hT => sOf_any _ _ _ _ _ _ w hT) (Lib.hid SQ) (Lib.hid fun w _ => sDiv_g (sq_unit _ (by omega)) (bd2_mono hA (by decide)) q w)
    (Lib.hid fun w _ => sMul_g (bd2_mono bT (by decide)) sx w) (Lib.hid fun w _ => sMul_g (bd2_mono bT (by decide)) sy w)

theorem sq_cases : ∀ d, d < 16 → (sqA d = 1 ∧ sqB d = 0 ∧ sqT d = 0) ∨ (sqA d = 2 ∧ sqB d = 0 ∧ sqT d = 2) ∨ (sqA d = 4 ∧ sqB d = -2 ∧ sqT d = 3) := by decide
theorem sq_bd {d : Nat} (hd : d < 16) {A B A' B' M : Int} (h : Bd2 M A B) (q : OriM.Quot (sqA d) (sqB d) 1 (sqT d) A B A' B') : Bd2 M A' B' := by
  obtain ⟨q1, q2⟩ := q
  unfold Bd2 at *
  rcases sq_cases d hd with ⟨e1, e2, e3⟩ | ⟨e1, e2, e3⟩ | ⟨e1, e2, e3⟩ <;> rw [e1, e2, e3] at q1 q2 <;> simp at q1 q2 <;> omega
theorem vL_split' {d a b k : Int} (h : vL d a b k = true) : ∃ n : Nat, d = n ∧ n < 8 ∧ validB a b k = true := by
  unfold vL at h; rw [Bool.and_eq_true] at h
  have := h.1
  simp [inB] at this
  exact ⟨d.toNat, by omega, by omega, h.2⟩

theorem mulP_ev (d : Nat) {A B : Int} (hA : A % 2 = 0) : Ev (mulP d A B) := by
  obtain ⟨u, rfl⟩ : ∃ u, A = 2 * u := ⟨A / 2, by omega⟩
  unfold Ev mulP mA
  simp only
  constructor
  · rw [show 2 * u * xA d + 2 * B * xB d = 2 * (u * xA d + B * xB d) by grind]; exact Int.mul_emod_right 2 _
  · rw [show 2 * u * yA d + 2 * B * yB d = 2 * (u * yA d + B * yB d) by grind]; exact Int.mul_emod_right 2 _
theorem dirV_in (t : Int) (f : Bool) (e : Int) : 0 ≤ dirV t f e ∧ dirV t f e < 16 := by
  unfold dirV; split <;> omega
theorem sthrough_g {e : Int} (h0 : 0 ≤ e) (h1 : e < 16) {g : Nat} (hg : e % 8 = (g : Int)) {p : P4} (hp : Bd 70368744177664 p) (w : World) (hT : LT β w) :
    Calls Tryd.prog 56 #[gp p, .int .i64 e] w (RetB (gl (g : Int) (dotA (g + 4) p) (dotB (g + 4) p)) w) := by
  have M := fun w => (smod_int e w).mono fun _ _ h => h.toB
  rw [show e % 16 = e by omega] at M
  have D := fun w (hT : LT β w) => sDot_g (d := g + 4) (by omega) hp w hT
  rw [Nat.mod_eq_of_lt (show g + 4 < 16 by omega), show ((g + 4 : Nat) : Int) = e % 8 + 4 by omega] at D
  rw [← hg]
  exact sThrough_core _ _ _ _ _ _ _ _ _ _ _ w hT h0 (by omega) (Lib.hid fun w _ => M w) (Lib.hid D)

theorem mvl_both {t : Int} {f : Bool} {ma mb mk mc md ml e a b k : Int} (hm : I6 ma mb mk mc md ml) (hl : I3 a b k) : ∃ (zd za zb zk : Int) (ro : Bool),
    (∀ w, LT true w → Calls Tryd.prog 16 #[mot t f ma mb mk mc md ml, lnv e a b k] w (RetB (.tuple #[lnv zd za zb zk, .bool ro]) w)) ∧
    (∀ w, LT true w → Calls Tryd.prog 18 #[mot t f ma mb mk mc md ml, lnv e a b k] w (RetB (.tuple #[lnv zd za zb zk, .bool ro]) w)) := by
  by_cases hM : vM t ma mb mk mc md ml = true
  · by_cases hL : vL e a b k = true
    · have HL := hL
      have ht := vM_in hM
      have hvm : vP ma mb mk mc md ml = true := by unfold vM at hM; rw [Bool.and_eq_true] at hM; exact hM.2
      obtain ⟨i, rfl⟩ : ∃ i : Nat, t = i := ⟨t.toNat, by omega⟩
      have hi : i < 8 := by omega
      obtain ⟨n, rfl, hn, hx⟩ := vL_split' hL
      obtain ⟨hA, mA1, mA2⟩ := valid_bd hx
      obtain ⟨hs, _⟩ := valid_bp hvm
      obtain ⟨T1, T2, hq, q1, q2⟩ := quot_ex (A := up16 a k.toNat) (B := up16 b k.toNat) 8 (sq_unit (n + 4) (by omega)) (by omega) (by omega)
      have bT := sq_bd (d := n + 4) (by omega) hA hq
      have bF := mulP_bd (d := n + 4) (by omega) bT
      have he := mulP_ev (n + 4) (A := T1) (B := T2) (by omega)
      obtain ⟨bx, bY⟩ := bd_half bF
      have bR : Bd 70368744177664 (mP i (upI i f) (gP ma mb mk mc md ml) (mulP (n + 4) T1 T2)) := bd_mono (add_bd (add_bd (uP_bd hi bx) (uP_bd (upI_lt i f) bY)) hs) (by decide)
      have SF := fun w (hT : LT true w) => sfoot_g hn hA hq w hT
      have IF := fun w (hT : LT true w) => ifoot_g hn hA hq w hT
      have SM := fun w (hT : LT true w) => smove_g hi f hs (bd_mono bF (by decide)) he w hT
      have IM := fun w (hT : LT true w) => matrix_g hi f (gP ma mb mk mc md ml) w hT
      have PL := fun w (hT : LT true w) => place_g hi (upI_lt i f) hs (bd_mono bF (by decide)) he w hT
      have DL := fun w (hT : LT true w) => dlineOf_g n (up16 a k.toNat) (up16 b k.toNat) w hT
      have D1 := fun w (hT : LT true w) => dir_any (t := (i : Int)) f ma mb mk mc md ml (e := (n : Int)) (by omega) (by omega) (by omega) (by omega) w hT
      have D2 := fun w (hT : LT true w) => sdir_any (t := (i : Int)) f ma mb mk mc md ml (e := (n : Int)) (by omega) (by omega) (by omega) (by omega) w hT
      obtain ⟨v0, v1⟩ := dirV_in i f n
      generalize dirV i f n = v at *
      obtain ⟨g, hg⟩ : ∃ g : Nat, v % 8 = (g : Int) := ⟨(v % 8).toNat, by omega⟩
      have g8 : g < 8 := by omega
      have AT := fun w (hT : LT true w) => dlineAt_g (d := g) (by omega) bR w hT
      rw [Nat.mod_eq_of_lt (show g < 16 by omega), Nat.mod_eq_of_lt (show g + 4 < 16 by omega), ← hg] at AT
      have TH := fun w (hT : LT true w) => sthrough_g v0 v1 hg bR w hT
      rw [← hg] at TH
      have bD := dot_bd (d := g + 4) (by omega) bR
      have LI := fun w (hT : LT true w) => line_g (d := v % 8) (bd2_mono bD (by decide)) w hT
      have NU := fun w => sNum1_g (bd2_mono bD (show (4 * 70368744177664 : Int) ≤ 1152921504606846976 by decide)) w
      generalize mP i (upI i f) (gP ma mb mk mc md ml) (mulP (n + 4) T1 T2) = R at *
      generalize dotA (g + 4) R = U at *
      generalize dotB (g + 4) R = V at *
      rw [← valid_gl hx] at SF IF DL
      rw [← mot_g hvm] at SM IM
      have S4 := fun w (hT : LT true w) => s04Line_core _ _ _ _ _ _ _ _ _ _ _ _ _ _ _ _ _ _ _ _ _ _ _ _ _ _ _ _ _ w hT (Lib.hid SF) (Lib.hid SM) (Lib.hid D2) (Lib.hid TH)
      unfold lineV at LI
      unfold limV at NU
      have HM := Lib.hid fun w (hT : LT true w) => hM ▸ iVM_any i f hm w hT
      have HS := Lib.hid fun w (hT : LT true w) => hM ▸ sMK_any i f ma mb mk mc md ml w hT
      by_cases ho : gOk U V = true
      · rw [ho, if_pos rfl] at LI NU
        exact ⟨_, _, _, _, _, fun w hT => sMvL_ok _ _ _ _ _ _ _ _ _ _ _ _ _ _ _ _ _ _ _ w hT HS (Lib.hid fun w hT => HL ▸ sLL_any _ a b k w hT) (Lib.hid fun w hT => sMOf_any _ _ _ _ _ _ _ _ w hT) (Lib.hid fun w hT => sLineOf_any _ _ _ _ w hT) (Lib.hid S4) (Lib.hid fun w _ => NU w),
          fun w hT => iMvL_ok _ _ _ _ _ _ _ _ _ _ _ _ _ _ _ _ _ _ _ _ _ _ _ _ _ _ _ _ _ _ _ _ _ _ _ _ _ _ _ _ _ _ _ _ _ _ _ _ _ _ _ _ w hT v0 HM (Lib.hid fun w hT => HL ▸ iVL_any hl w hT) (Lib.hid IM) (Lib.hid DL) (Lib.hid IF) (Lib.hid PL) (Lib.hid D1) (Lib.hid AT) (Lib.hid LI)⟩
      · rw [Bool.eq_false_iff.2 ho, if_neg (by decide)] at LI NU
        exact ⟨_, _, _, _, _, fun w hT => sMvL_rg _ _ _ _ _ _ _ _ _ _ _ _ _ _ _ _ _ _ _ w hT HS (Lib.hid fun w hT => HL ▸ sLL_any _ a b k w hT) (Lib.hid fun w hT => sMOf_any _ _ _ _ _ _ _ _ w hT) (Lib.hid fun w hT => sLineOf_any _ _ _ _ w hT) (Lib.hid S4) (Lib.hid fun w _ => NU w),
          fun w hT => iMvL_ok _ _ _ _ _ _ _ _ _ _ _ _ _ _ _ _ _ _ _ _ _ _ _ _ _ _ _ _ _ _ _ _ _ _ _ _ _ _ _ _ _ _ _ _ _ _ _ _ _ _ _ _ w hT v0 HM (Lib.hid fun w hT => HL ▸ iVL_any hl w hT) (Lib.hid IM) (Lib.hid DL) (Lib.hid IF) (Lib.hid PL) (Lib.hid D1) (Lib.hid AT) (Lib.hid LI)⟩
    · have hf := Bool.eq_false_iff.2 hL
      exact ⟨0, 0, 0, 0, false, fun w hT => sMvL_no2 _ _ _ _ _ _ _ _ _ _ _ _ w hT (Lib.hid fun w hT => hM ▸ sMK_any t f ma mb mk mc md ml w hT) (Lib.hid fun w hT => hf ▸ sLL_any e a b k w hT),
        fun w hT => iMvL_no2 _ _ _ _ _ _ _ _ _ _ _ _ w hT (Lib.hid fun w hT => hM ▸ iVM_any t f hm w hT) (Lib.hid fun w hT => hf ▸ iVL_any hl w hT)⟩
  · have hf := Bool.eq_false_iff.2 hM
    exact ⟨0, 0, 0, 0, false, fun w hT => sMvL_no1 _ _ _ _ _ _ _ _ _ _ _ _ w hT (Lib.hid fun w hT => hf ▸ sMK_any t f ma mb mk mc md ml w hT), fun w hT => iMvL_no1 _ _ _ _ _ _ _ _ _ _ _ _ w hT (Lib.hid fun w hT => hf ▸ iVM_any t f hm w hT)⟩
end MoveL
open Go Go.RowKit OriM
theorem exactMoveLine.walk (t : Int) (f : Bool) {ma mb mk mc md ml e a b k : Int} (hm : I6 ma mb mk mc md ml) (hl : I3 a b k) (w : World) (hT : LT true w) : Calls Tryd.prog 6 #[mot t f ma mb mk mc md ml, lnv e a b k] w (RetB (.bool true) w) := by
  obtain ⟨zd, za, zb, zk, ro, S, I⟩ := MoveL.mvl_both (t := t) (f := f) (e := e) hm hl
  exact exactMoveLine.core _ _ _ _ _ _ _ _ _ _ _ _ _ _ _ _ _ w hT (Lib.hid fun w hT => toMot_any t f ma mb mk mc md ml w hT) (Lib.hid fun w hT => toLn_any e a b k w hT) (Lib.hid S) (Lib.hid fun w hT => toMot_any t f ma mb mk mc md ml w hT) (Lib.hid fun w hT => toLn_any e a b k w hT) (Lib.hid I) (Lib.hid fun w hT => eqLn_any _ _ _ _ w hT)
end
end Go.Proofs.YtlmfbcffmalkkaaDoor
namespace Go.Proofs.YtlmfbcffmalkkaaDoor.exactMoveLine
open Go Go.ChangeShapes Go.WideShapes Go.ChangeAt Go.RowKit


set_option maxRecDepth 100000 in
theorem contract (H : Type) (enc : TypeId × Value → H) (W : World) (base : Nat) (args : Array Value) (ds gs : List (DataW H)) (before : List MemPlace)
    (hval : ∀ (j : Nat) t v, Tryd.f6.params[j]? = some t → args[j]? = some v → Value.okWide Tryd.prog W .any base t v)
    (hW : DataW.Whole enc Tryd.prog Tryd.f6.params.toList Rows.fnExactMoveLineSpec.vars false W args.toList ds gs before) (hL : laidMetH Tryd.prog Rows.fnExactMoveLineRow.laid W) :
    Calls Tryd.prog 6 args W fun e W' => ∃ v, e = .returned v ∧ Rows.fnExactMoveLineSpec.post enc Tryd.prog Tryd.f6 false true false false W args v W' := by
  have hW' := hW
  obtain ⟨p, q, hA0, hV, rfl, hfz, hnd⟩ := hW
  have hA : DataW.TrodAll enc Tryd.prog W 0 (fun _ => true) true Tryd.f6.params.toList args.toList ds p := hA0
  rw [Tryd.params6] at hA hval
  obtain ⟨v0, vs0, d0, ds0, p0, q0, hargs, rfl, rfl, h0, r0⟩ := trodAll_cons hA
  obtain ⟨v1, vs1, d1, ds1, p1, q1, rfl, rfl, rfl, h1, r1⟩ := trodAll_cons r0
  obtain ⟨rfl, rfl, rfl⟩ := trodAll_nil r1
  obtain rfl : args = #[v0, v1] := by cases args; simp_all
  obtain ⟨gg0, tt0, cc0, ff0, dd0, pp0, rfl, _, _, _, _, rfl⟩ := trodVars_one hV
  obtain ⟨tt0, ff0, xa0, xb0, xk0, xc0, xd0, xl0, rfl, hI0⟩ := open_mot (hval 0 25 v0 rfl rfl) h0
  obtain ⟨xe1, xa1, xb1, xk1, rfl, hI1, hd1⟩ := open_ln (hval 1 44 v1 rfl rfl) h1
  refine (walk tt0 ff0 hI0 hI1 W (lt_of_laid hL)).mono fun e W' ⟨he, hb⟩ => ⟨_, he, ?_⟩
  exact law_post laidOut (by kernel_rfl) (by kernel_rfl) (by kernel_rfl) Tryd.underlying4 hW' rfl hb

noncomputable def wargs : Array Value := #[mot 0 false 0 0 0 0 0 0, lnv 0 0 0 0]
theorem laid_met (os : Os) : laidMet Tryd.prog Rows.fnExactMoveLineRow.laid ((laidWorld2 os).forCall (fun _ _ => 0) ⟨#[], wargs, []⟩).memory :=
  laidMet_of_run' 8 (by kernel_rfl) (by kernel_rfl)
theorem reads (os : Os) {H : Type} (enc : TypeId × Value → H) : ∃ places, DataW.whole enc Tryd.prog ((laidWorld2 os).forCall (fun _ _ => 0) ⟨#[], wargs, []⟩).memory Tryd.f6.params.toList Rows.fnExactMoveLineSpec.vars false wargs.toList 8 = some ([.agg [.lit (.int .i64 0), .lit (.bool false), .agg [.lit (.int .i64 0), .lit (.int .i64 0), .lit (.int .i64 0)], .agg [.lit (.int .i64 0), .lit (.int .i64 0), .lit (.int .i64 0)]], .agg [.lit (.int .i64 0), .agg [.lit (.int .i64 0), .lit (.int .i64 0), .lit (.int .i64 0)]]], [lvData], places) :=
  ⟨(MemPlace.row ⟨0, 0, none⟩ 48), by kernel_rfl⟩

set_option maxRecDepth 100000 in
theorem lifted (os : Os) (started : os.Started) (H : Type) (enc : TypeId × Value → H) (F : Stop.Interp) :
    ReturnsInHanded {} Tryd.checked os 6 .any ((OpenSpec.ofChange Rows.fnExactMoveLineSpec).preRow enc Tryd.prog Tryd.f6 Rows.fnExactMoveLineRow.domain false Rows.fnExactMoveLineRow.laid) (((OpenSpec.ofChange Rows.fnExactMoveLineSpec).at F).post enc Tryd.prog Tryd.f6 false true false false) := by
  obtain ⟨places, hx⟩ := reads os enc
  refine returnsInHanded_of_row (C := Tryd.checked) (s := OpenSpec.ofChange Rows.fnExactMoveLineSpec) own started (by kernel_rfl) Tryd.func6
    (witness_row_at (enc := enc) (C := Tryd.checked) false (laidWorld2 os) wargs rfl (by kernel_rfl) (by kernel_rfl) (by kernel_rfl)
      (OpenSpec.preRow_of_cond 8 hx (by kernel_rfl) (fun k hk => by cases hk) (by kernel_rfl) (laid_met os))) ?_
  intro W base args ds gs before hval hW _ _ _ hL _ _
  exact contract H enc W base args ds gs before hval hW hL

theorem said : Rows.FnExactMoveLineSaid :=
  OpenClaim.holds_of_cond 6 Tryd.f6 rfl rfl rfl rfl rfl rfl rfl ⟨rfl, rfl, rfl, rfl, rfl⟩ rfl rfl rfl rfl rfl (by kernel_rfl) Tryd.func6 (by kernel_rfl)
    (of_decide_eq_true (by kernel_rfl)) (by unfold Func.isWrapper; first | (rw [if_pos (by decide +kernel)]; kernel_rfl) | (rw [if_neg (by decide +kernel)]; exact ⟨rfl, rfl⟩))
    (fun os started H enc _ F => by rw [OpenClaim.pre_eq_preRow]; exact lifted os started H enc F)

theorem plain (f : FuncId) (fn : Func) (hf : Tryd.pinned.checked.prog.funcNamed "loop.example/g00857/laws.FnExactMoveLine" = some f) (hfn : Tryd.pinned.checked.prog.funcs[f]? = some fn) :
    false = Tryd.pinned.checked.prog.looks [] ∧ ∀ (j : Nat) t, fn.params[j]? = some t → Tryd.pinned.checked.prog.wantsStandIn t = false := by
  obtain rfl : f = 6 := Option.some.inj ((show Tryd.prog.funcNamed "loop.example/g00857/laws.FnExactMoveLine" = some 6 by kernel_rfl).symm.trans hf) |>.symm
  obtain rfl : fn = Tryd.f6 := (Option.some.inj (Tryd.func6.symm.trans hfn)).symm
  refine ⟨by kernel_rfl, fun j t ht => ?_⟩
  have hall : (Tryd.f6.params.all fun t => !(Tryd.prog.wantsStandIn t)) = true := by kernel_rfl
  have h := Array.all_eq_true'.1 hall t (Array.mem_of_getElem? ht)
  have h2 : Tryd.prog.wantsStandIn t = false := by simpa using h
  exact h2

theorem card : Rows.FnExactMoveLineCardSaid :=
  Claim7.holds_tied_plain_at .later [] _ _ _ _ said (fun _ h => by cases h) (by kernel_rfl) (fun _ h => by cases h) fnExactMoveLine_row_tie rfl ⟨rfl, rfl⟩ (by kernel_rfl) rfl plain (by kernel_rfl)
end Go.Proofs.YtlmfbcffmalkkaaDoor.exactMoveLine
