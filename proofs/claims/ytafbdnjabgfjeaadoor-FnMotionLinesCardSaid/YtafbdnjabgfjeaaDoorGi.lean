/- The program's wide numbers on the grid: sums, differences, products by small numbers, quotients by numbers whose norm is a power of 2. -/
import Derived.Test.YtafbdnjabgfjeaaDoorGw
import Derived.Test.YtafbdnjabgfjeaaDoorGv
namespace Go.Proofs.YtafbdnjabgfjeaaDoor
open Go Go.RowKit OriM
variable {β : Bool}

theorem wplus_g {A B A' B' : Int} (h : Bd2 1152921504606846976 A B) (h' : Bd2 1152921504606846976 A' B') (w : World) (hT : LT β w) :
    Calls Tryd.prog 140 #[gv A B, gv A' B'] w (RetB (gv (A + A') (B + B')) w) := by
  obtain ⟨P, R, M, M0, M1, g, hp⟩ := gplus_any h h'
  exact wplus_core _ _ _ _ _ _ _ _ _ _ _ _ w hT (Lib.hid fun w _ => hp w) (Lib.hid fun w hT => glow_any M0 (by omega) g w hT.tz)

theorem gv_neg (A B : Int) : gv (-A) (-B) = num (-gA A B) (-gB A B) (gK A B) := by
  obtain ⟨h1, h2, h3⟩ := g_neg A B
  unfold gv; rw [h1, h2, h3]
theorem bd2_neg {M A B : Int} (h : Bd2 M A B) : Bd2 M (-A) (-B) := by unfold Bd2 at *; omega

def Small (c d : Int) : Prop := -16 ≤ c ∧ c ≤ 16 ∧ -16 ≤ d ∧ d ≤ 16
theorem gtimes_val {a b k c d l : Int} (h : Bd2 1125899906842624 a b) (s : Small c d) (k0 : 0 ≤ k) (k1 : k ≤ 64) (l0 : 0 ≤ l) (l1 : l ≤ 64) (w : World) :
    Calls Tryd.prog 153 #[num a b k, num c d l] w (RetB (num (a * c + 2 * b * d) (a * d + b * c) (k + l)) w) := by
  obtain ⟨a1, a2, b1, b2⟩ := h
  obtain ⟨c1, c2, d1, d2⟩ := s
  have p := prod_le (by omega) c1 c2 a1 a2
  have q := prod_le (c := d) (A := 2 * b) (M := 2251799813685248) (by omega) d1 d2 (by omega) (by omega)
  have r := prod_le (by omega) d1 d2 a1 a2
  have t := prod_le (by omega) c1 c2 b1 b2
  exact gtimes_core a b k c d l _ _ _ _ _ w (wrap_in (by omega) (by omega)) (wrap_in (by omega) (by omega)) (wrap_in (by omega) (by omega)) (wrap_in (by omega) (by omega)) (wrap_in (by omega) (by omega))
    (by omega) (by omega) (by omega) (by omega) (by omega) (by omega) (by omega) (by omega) k0 k1 l0 l1
theorem gtimes_val' {a b k c d l : Int} (h : Bd2 1125899906842624 a b) (s : Small c d) (k0 : 0 ≤ k) (k1 : k ≤ 64) (l0 : 0 ≤ l) (l1 : l ≤ 64) (w : World) :
    Calls Tryd.prog 153 #[num c d l, num a b k] w (RetB (num (c * a + 2 * d * b) (c * b + d * a) (l + k)) w) := by
  obtain ⟨a1, a2, b1, b2⟩ := h
  obtain ⟨c1, c2, d1, d2⟩ := s
  have p := prod_le (by omega) c1 c2 a1 a2
  have q := prod_le (c := 2 * d) (m := 32) (A := b) (by omega) (by omega) (by omega) b1 b2
  have r := prod_le (by omega) c1 c2 b1 b2
  have t := prod_le (by omega) d1 d2 a1 a2
  rw [Int.mul_comm a c] at p
  rw [Int.mul_comm b (2 * d)] at q
  rw [Int.mul_comm b c] at r
  rw [Int.mul_comm a d] at t
  exact gtimes_core c d l a b k _ _ _ _ _ w (wrap_in (by omega) (by omega)) (wrap_in (by omega) (by omega)) (wrap_in (by omega) (by omega)) (wrap_in (by omega) (by omega)) (wrap_in (by omega) (by omega))
    (by omega) (by omega) (by omega) (by omega) (by omega) (by omega) (by omega) (by omega) l0 l1 k0 k1

theorem wtimes_g' {A B c d : Int} (h : Bd2 1125899906842624 A B) (s : Small c d) (w : World) (hT : LT β w) :
    Calls Tryd.prog 103 #[num c d 0, gv A B] w (RetB (gv (mA c d A B) (mB c d A B)) w) := by
  have k := gK_le A B
  have g := gr_times' c d (gr_self A B)
  exact wtimes_core _ _ _ _ _ _ _ _ _ _ _ _ w hT (Lib.hid fun w _ => gtimes_val' (g_bound h) s (by omega) (by omega) (by omega) (by omega) w)
    (Lib.hid fun w hT => glow_any (by omega) (by omega) (by rw [Int.zero_add, Int.toNat_natCast]; exact g) w hT.tz)

theorem wover_core (xa xb xk ya yb yk pa pb pk ra rb rk : Int) (w : World) (hT : LT β w)
    (H1 : Hid (∀ w, LT β w → Calls Tryd.prog 167 #[Value.agg #[Value.int IntKind.i64 xa, Value.int IntKind.i64 xb, Value.int IntKind.i64 xk], Value.agg #[Value.int IntKind.i64 ya, Value.int IntKind.i64 yb, Value.int IntKind.i64 yk]] w (RetB (Value.tuple #[Value.agg #[Value.int IntKind.i64 pa, Value.int IntKind.i64 pb, Value.int IntKind.i64 pk], Value.bool true]) w)))
    (H2 : Hid (∀ w, LT β w → Calls Tryd.prog 154 #[Value.agg #[Value.int IntKind.i64 pa, Value.int IntKind.i64 pb, Value.int IntKind.i64 pk]] w (RetB (Value.agg #[Value.int IntKind.i64 ra, Value.int IntKind.i64 rb, Value.int IntKind.i64 rk]) w)))
    : Calls Tryd.prog 141 #[Value.agg #[Value.int IntKind.i64 xa, Value.int IntKind.i64 xb, Value.int IntKind.i64 xk], Value.agg #[Value.int IntKind.i64 ya, Value.int IntKind.i64 yb, Value.int IntKind.i64 yk]] w (RetB (Value.agg #[Value.int IntKind.i64 ra, Value.int IntKind.i64 rb, Value.int IntKind.i64 rk]) w) := by
  go_enter Tryd.func141, Tryd.ntmps141
  go_wp2_with fail
  refine (H1.out _ ?_).mono ?_
  · exact LT.below (w := w) hT (by (repeat (first | with_reducible exact Below.refl _ _ | with_reducible assumption | with_reducible refine below_drewN ?_ _ | with_reducible refine Below.drew ?_ | with_reducible refine Below.alloc ?_ (by first | omega | (simp; done) | (simp; omega)) _ | with_reducible refine Below.setCell ?_ (by first | omega | (simp; done) | (simp; omega)) _ | with_reducible refine Below.trans ?_ (Below.mono (by assumption) (by first | omega | (simp; done) | (simp; omega)))))) (Nat.le_refl _)
  rintro e w1 ⟨rfl, hb1⟩; (try replace hb1 := Below.undrew hb1); obtain ⟨hc1, hf1⟩ := bcell hb1; have hz1 := hb1.size; (try simp at hz1); (try have z1_0 : w.heap.size < w1.heap.size := (by omega)); (try have z1_1 : w.heap.size + 1 < w1.heap.size := (by omega)); (try have z1_2 : w.heap.size + 1 + 1 < w1.heap.size := (by omega))
  go_wp2_with fail
  refine (H2.out _ ?_).mono ?_
  · exact LT.below (w := w) hT (by (repeat (first | with_reducible exact Below.refl _ _ | with_reducible assumption | with_reducible refine below_drewN ?_ _ | with_reducible refine Below.drew ?_ | with_reducible refine Below.alloc ?_ (by first | omega | (simp; done) | (simp; omega)) _ | with_reducible refine Below.setCell ?_ (by first | omega | (simp; done) | (simp; omega)) _ | with_reducible refine Below.trans ?_ (Below.mono (by assumption) (by first | omega | (simp; done) | (simp; omega)))))) (Nat.le_refl _)
  rintro e w2 ⟨rfl, hb2⟩; (try replace hb2 := Below.undrew hb2); obtain ⟨hc2, hf2⟩ := bcell hb2; have hz2 := hb2.size; (try simp at hz2); (try have z2_0 : w.heap.size < w2.heap.size := (by omega)); (try have z2_1 : w.heap.size + 1 < w2.heap.size := (by omega)); (try have z2_2 : w.heap.size + 1 + 1 < w2.heap.size := (by omega)); (try have z2_3 : w1.heap.size < w2.heap.size := (by omega))
  go_wp2_with fail
  exact bodyPost_ret (v := Value.agg #[Value.int IntKind.i64 ra, Value.int IntKind.i64 rb, Value.int IntKind.i64 rk]) (by simp [results, Tryd.results141, go_sem, *]) rfl ⟨rfl, by (repeat (first | with_reducible exact Below.refl _ _ | with_reducible assumption | with_reducible refine below_drewN ?_ _ | with_reducible refine Below.drew ?_ | with_reducible refine Below.alloc ?_ (by first | omega | (simp; done) | (simp; omega)) _ | with_reducible refine Below.setCell ?_ (by first | omega | (simp; done) | (simp; omega)) _ | with_reducible refine Below.trans ?_ (Below.mono (by assumption) (by first | omega | (simp; done) | (simp; omega)))))⟩

theorem gwrap64_in {n : Int} (h0 : -9223372036854775808 ≤ n) (h1 : n ≤ 9223372036854775807) : wrap64 n = n := by
  unfold wrap64; omega
theorem gtz_of (N : Int) (h0 : N ≠ 0) (h1 : -51539607552 ≤ N) (h2 : N ≤ 51539607552) (w : World) (hT : TzTab w) :
    Calls Tryd.prog 174 #[.int .u64 (IntKind.u64.wrap N)] w (Ret (.int .i64 (Q.twosOf 64 N : Nat)) w) := by
  have e : IntKind.u64.wrap N = ((bitsOf 64 N : Nat) : Int) := by rw [IntKind.wrap_u64]; unfold bitsOf; omega
  rw [e, ← ctz_single 64 N h0 (by omega), ← ctz_from]
  exact tz_any _ (bitsOf_lt N) w hT
theorem unit_facts {c d s : Int} {t : Nat} (u : Unit2 c d s t) : Q.twosOf 64 (s * 2 ^ t) = t ∧ s * 2 ^ t / 2 ^ t = s ∧ s * 2 ^ t ≠ 0 ∧ -8 ≤ s * 2 ^ t ∧ s * 2 ^ t ≤ 8 := by
  obtain ⟨_, hs, ht, _⟩ := u
  rcases hs with rfl | rfl <;> rcases t_cases ht with rfl | rfl | rfl | rfl <;> decide
theorem tmod_unit {s : Int} (h : s = 1 ∨ s = -1) (x : Int) : x.tmod s = 0 ∧ x.tdiv s = s * x := by
  rcases h with rfl | rfl
  · simp
  · constructor
    · rw [Int.tmod_neg]; simp
    · rw [Int.tdiv_neg]; simp

set_option maxRecDepth 100000 in
theorem gover_any {A B A' B' c d s : Int} {t : Nat} (u : Unit2 c d s t) (h : Bd2 1125899906842624 A B) (q : Quot c d s t A B A' B') :
    ∃ P R M : Int, 0 ≤ M ∧ M ≤ 19 ∧ Gr P R M.toNat A' B' ∧ ∀ w, TzTab w → Calls Tryd.prog 167 #[gv A B, num c d 0] w (RetB (.tuple #[num P R M, .bool true]) w) := by
  have k := gK_le A B
  have g := gr_quot (gr_self A B) q
  have b := g_bound h
  unfold gv
  generalize gA A B = a at *
  generalize gB A B = e at *
  generalize gK A B = n at *
  obtain ⟨f1, f2, f3, f4, f5⟩ := unit_facts u
  obtain ⟨un, us, ut, c1, c2, d1, d2⟩ := u
  have sm : Small c (-d) := by unfold Small; omega
  have bs : Bd2 1125899906842624 c d := by unfold Bd2; omega
  have T1 := fun w => gtimes_val (k := 0) (l := 0) b sm (by omega) (by omega) (by omega) (by omega) w
  have T2 := fun w => gtimes_val (k := 0) (l := 0) bs sm (by omega) (by omega) (by omega) (by omega) w
  rw [show c * c + 2 * d * -d = s * 2 ^ t by rw [← un]; grind, show (0 : Int) + 0 = 0 from rfl] at T2
  rw [show (0 : Int) + 0 = 0 from rfl] at T1
  have HZ := fun w hT => gtz_of _ f3 (by omega) (by omega) w hT
  rw [f1] at HZ
  obtain ⟨m1, m2⟩ := tmod_unit us (a * c + 2 * e * -d)
  obtain ⟨m3, m4⟩ := tmod_unit us (a * -d + e * c)
  have p := prod_le (by omega) c1 c2 b.1 b.2.1
  have p2 := prod_le (by omega) d1 d2 b.1 b.2.1
  have r := prod_le (by omega) c1 c2 b.2.2.1 b.2.2.2
  have r2 := prod_le (by omega) d1 d2 b.2.2.1 b.2.2.2
  have w1 : -9223372036854775808 ≤ s * (a * c + 2 * e * -d) ∧ s * (a * c + 2 * e * -d) ≤ 9223372036854775807 := by
    rw [show a * c + 2 * e * -d = a * c - 2 * (e * d) by grind]
    rcases us with rfl | rfl <;> omega
  have w2 : -9223372036854775808 ≤ s * (a * -d + e * c) ∧ s * (a * -d + e * c) ≤ 9223372036854775807 := by
    rw [show a * -d + e * c = e * c - a * d by grind]
    rcases us with rfl | rfl <;> omega
  have s0 : s ≠ 0 := by rcases us with rfl | rfl <;> decide
  have e1 := Lib.hid (show IntKind.i64.wrap (-d) = -d from wrap_in (by omega) (by omega))
  refine ⟨s * (a * c + 2 * e * -d), s * (a * -d + e * c), n + t, by omega, by omega, ?_, fun w hT => ?_⟩
  · rw [show ((n : Int) + t).toNat = n + t by omega, show a * c + 2 * e * -d = a * c - 2 * (e * d) by grind, show a * -d + e * c = e * c - a * d by grind]
    exact g
  · by_cases hz : (n : Int) + t = 0
    · have := gover_up a e n c d 0 _ _ _ _ s (s * (a * c + 2 * e * -d)) (s * (a * -d + e * c)) 0 t w hT (Lib.hid T1) (Lib.hid T2) (Lib.hid HZ) e1 (Lib.hid f2) (Lib.hid s0) (by omega) (Lib.hid m1) (Lib.hid m3)
        (Lib.hid (by rw [m2]; exact wrap_in w1.1 w1.2)) (Lib.hid (by rw [m4]; exact wrap_in w2.1 w2.2)) 0 (by omega) (s * (a * c + 2 * e * -d)) (s * (a * -d + e * c))
        (Lib.hid (by rw [Int.pow_zero, Int.mul_one]; exact wrap_in w1.1 w1.2)) (Lib.hid (by rw [Int.pow_zero, Int.mul_one]; exact wrap_in w2.1 w2.2))
        (Lib.hid (by rw [hz]; unfold wrap64; omega)) (Lib.hid (by unfold wrap64; omega)) (Lib.hid (by decide))
      rw [hz]
      exact this
    · exact gover_down a e n c d 0 _ _ _ _ s (s * (a * c + 2 * e * -d)) (s * (a * -d + e * c)) (n + t) t w hT (Lib.hid T1) (Lib.hid T2) (Lib.hid HZ) e1 (Lib.hid f2) (Lib.hid s0) (by omega) (Lib.hid m1) (Lib.hid m3)
        (Lib.hid (by rw [m2]; exact wrap_in w1.1 w1.2)) (Lib.hid (by rw [m4]; exact wrap_in w2.1 w2.2)) (-(n + t)) (by omega)
        (Lib.hid (wrap_in w1.1 w1.2)) (Lib.hid (wrap_in w2.1 w2.2))
        (Lib.hid (by rw [gwrap64_in (n := (n : Int) + t) (by omega) (by omega), Int.sub_zero, gwrap64_in (by omega) (by omega)])) (Lib.hid (gwrap64_in (by omega) (by omega))) (Lib.hid (wrap_in (by omega) (by omega)))

theorem wover_g {A B A' B' c d s : Int} {t : Nat} (u : Unit2 c d s t) (h : Bd2 1125899906842624 A B) (q : Quot c d s t A B A' B') (w : World) (hT : LT β w) :
    Calls Tryd.prog 141 #[gv A B, num c d 0] w (RetB (gv A' B') w) := by
  obtain ⟨P, R, M, M0, M1, g, hp⟩ := gover_any u h q
  exact wover_core _ _ _ _ _ _ _ _ _ _ _ _ w hT (Lib.hid fun w hT => hp w hT.tz) (Lib.hid fun w hT => glow_any M0 (by omega) g w hT.tz)
end Go.Proofs.YtafbdnjabgfjeaaDoor
