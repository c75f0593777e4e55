/- The model's functions on the grid: products, differences, scalar products, numbers and points with limits. -/
import Derived.Test.YtafbdnjabgfjeaaDoorGbx
import Derived.Test.YtafbdnjabgfjeaaDoorGya
import Derived.Test.YtafbdnjabgfjeaaDoorGyv
import Derived.Test.YtafbdnjabgfjeaaDoorGex
namespace Go.Proofs.YtafbdnjabgfjeaaDoor
open Go Go.RowKit OriM
variable {β : Bool}

theorem sSub_g {A B A' B' : Int} (h : Bd2 288230376151711744 A B) (h' : Bd2 288230376151711744 A' B') (w : World) (hT : LT β w) :
    Calls Tryd.prog 126 #[gv A B, gv A' B'] w (RetB (gv (A - A') (B - B')) w) := by
  have b := g_bound h'
  have HN := fun (w : World) => gNeg_any (gA A' B') (gB A' B') (gK A' B') w (by omega) (by omega) (by omega) (by omega)
  have HA := fun (w : World) => gAdd_any h (bd2_neg h') w
  rw [← Int.sub_eq_add_neg, ← Int.sub_eq_add_neg] at HA
  simp only [gv_neg] at HA
  exact sSub_core _ _ _ _ _ _ _ _ _ _ _ _ w hT (Lib.hid fun w _ => HN w) (Lib.hid fun w _ => HA w)

theorem gMul_core (a b k c d l pa pb qa qb q2 rA rB rK : Int) (w : World) (h1 : IntKind.i64.wrap (a * c) = pa) (h2 : IntKind.i64.wrap (2 * b) = q2) (h3 : IntKind.i64.wrap (q2 * d) = pb) (h4 : IntKind.i64.wrap (a * d) = qa) (h5 : IntKind.i64.wrap (b * c) = qb)
    (b1 : -2305843009213693952 ≤ pa) (b2 : pa ≤ 2305843009213693952) (b3 : -2305843009213693952 ≤ pb) (b4 : pb ≤ 2305843009213693952) (b5 : -2305843009213693952 ≤ qa) (b6 : qa ≤ 2305843009213693952) (b7 : -2305843009213693952 ≤ qb) (b8 : qb ≤ 2305843009213693952) (k0 : 0 ≤ k) (k1 : k ≤ 64) (l0 : 0 ≤ l) (l1 : l ≤ 64)
    (HL : Hid (∀ w, Calls Tryd.prog 124 #[num (pa + pb) (qa + qb) (k + l)] w (RetB (num rA rB rK) w))) :
    Calls Tryd.prog 132 #[num a b k, num c d l] w (RetB (num rA rB rK) w) := by
  go_enter Tryd.func132, Tryd.ntmps132
  go_wp2_with fail
  refine (HL.out _).mono ?_
  rintro e w1 ⟨rfl, hb1⟩; (try replace hb1 := Below.undrew hb1); obtain ⟨hc1, hf1⟩ := bcell hb1; have hz1 := hb1.size; (try simp at hz1); have z1_0 : w.heap.size < w1.heap.size := (by omega); have z1_1 : w.heap.size + 1 < w1.heap.size := (by omega); have z1_2 : w.heap.size + 1 + 1 < w1.heap.size := (by omega)
  go_wp2_with fail
  exact bodyPost_ret (v := num rA rB rK) (by simp [results, Tryd.results132, go_sem, *]) rfl ⟨rfl, by (repeat (first | with_reducible exact Below.refl _ _ | with_reducible assumption | with_reducible refine below_drewN ?_ _ | with_reducible refine Below.drew ?_ | with_reducible refine Below.alloc ?_ (by first | omega | (simp; done) | (simp; omega)) _ | with_reducible refine Below.setCell ?_ (by first | omega | (simp; done) | (simp; omega)) _ | with_reducible refine Below.trans ?_ (Below.mono (by assumption) (by first | omega | (simp; done) | (simp; omega)))))⟩

theorem gMul_val' {a b c d rA rB rK : Int} {k l : Nat} (h : Bd2 1125899906842624 a b) (s : Small c d) (k1 : k ≤ 32) (l1 : l ≤ 32)
    (e : rA = lowA (c * a + 2 * d * b) (c * b + d * a) (l + k) ∧ rB = lowB (c * a + 2 * d * b) (c * b + d * a) (l + k) ∧ rK = lowK (c * a + 2 * d * b) (c * b + d * a) (l + k)) (w : World) :
    Calls Tryd.prog 132 #[num c d l, num a b k] w (RetB (num rA rB rK) w) := by
  obtain ⟨a1, a2, b1, b2⟩ := h
  obtain ⟨c1, c2, d1, d2⟩ := s
  have p := prod_le (by omega) c1 c2 a1 a2
  have q := prod_le (c := 2 * d) (m := 32) (A := b) (by omega) (by omega) (by omega) b1 b2
  have r := prod_le (by omega) c1 c2 b1 b2
  have t := prod_le (by omega) d1 d2 a1 a2
  rw [Int.mul_comm a c] at p
  rw [Int.mul_comm b (2 * d)] at q
  rw [Int.mul_comm b c] at r
  rw [Int.mul_comm a d] at t
  have HL := fun w => low_any (c * a + 2 * d * b) (c * b + d * a) (l + k) w (by omega) (by omega) (by omega) (by omega) (by omega)
  rw [← e.1, ← e.2.1, ← e.2.2, show ((l + k : Nat) : Int) = (l : Int) + k by omega] at HL
  exact gMul_core c d l a b k _ _ _ _ _ _ _ _ w (wrap_in (by omega) (by omega)) (wrap_in (by omega) (by omega)) (wrap_in (by omega) (by omega)) (wrap_in (by omega) (by omega)) (wrap_in (by omega) (by omega))
    (by omega) (by omega) (by omega) (by omega) (by omega) (by omega) (by omega) (by omega) (by omega) (by omega) (by omega) (by omega) (Lib.hid HL)
theorem sMul_g' {A B c d : Int} (h : Bd2 1125899906842624 A B) (s : Small c d) (w : World) :
    Calls Tryd.prog 132 #[num c d 0, gv A B] w (RetB (gv (mA c d A B) (mB c d A B)) w) := by
  have k := gK_le A B
  obtain ⟨e1, e2, e3⟩ := gr_low (gr_times' c d (gr_self A B))
  exact gMul_val' (k := gK A B) (l := 0) (g_bound h) s (by omega) (by omega) ⟨by rw [Nat.zero_add]; exact e1.symm, by rw [Nat.zero_add]; exact e2.symm, by rw [Nat.zero_add, e3]; rfl⟩ w

theorem sOf_any (a b k c d l : Int) (w : World) (hT : LT β w) : Calls Tryd.prog 71 #[pt a b k c d l] w (RetB (pt a b k c d l) w) :=
  sOf_core _ _ _ _ _ _ _ _ _ _ _ _ w hT (Lib.hid fun w _ => lOf_any a b k w) (Lib.hid fun w _ => lOf_any c d l w)
theorem sMinus_g {p q : P4} (h : Bd 70368744177664 p) (h' : Bd 70368744177664 q) (w : World) (hT : LT β w) :
    Calls Tryd.prog 73 #[gp p, gp q] w (RetB (gp (p.sub q)) w) := by
  obtain ⟨hx, hy⟩ := bd_half h
  obtain ⟨hx', hy'⟩ := bd_half h'
  exact sMinus_core _ _ _ _ _ _ _ _ _ _ _ _ _ _ _ _ _ _ w hT (Lib.hid fun w hT => sSub_g (bd2_mono hx (by decide)) (bd2_mono hx' (by decide)) w hT) (Lib.hid fun w hT => sSub_g (bd2_mono hy (by decide)) (bd2_mono hy' (by decide)) w hT)
theorem sDot_g {d : Nat} (hd : d < 20) {p : P4} (h : Bd 70368744177664 p) (w : World) (hT : LT β w) :
    Calls Tryd.prog 127 #[.int .i64 d, gp p] w (RetB (gv (dotA (d % 16) p) (dotB (d % 16) p)) w) := by
  have hm : d % 16 < 16 := Nat.mod_lt _ (by decide)
  obtain ⟨hx, hy⟩ := bd_half h
  obtain ⟨sx, sy⟩ := small_dv hm
  obtain ⟨s1, s2, s3, s4, s5, s6, s7, s8⟩ := small_vec (d % 16) hm
  have px := mul_bd s1 s2 s3 s4 hx
  have py := mul_bd s5 s6 s7 s8 hy
  exact sDot_core _ _ _ _ _ _ _ _ _ _ _ _ _ _ _ _ _ _ _ _ _ _ _ _ _ _ _ _ w hT (Lib.hid fun w _ => svec_any d hd w) (Lib.hid fun w hT => sOf_any _ _ _ _ _ _ w hT)
    (Lib.hid fun w _ => sMul_g' (bd2_mono hx (by decide)) sx w) (Lib.hid fun w _ => sMul_g' (bd2_mono hy (by decide)) sy w)
    (Lib.hid fun w _ => gAdd_any (bd2_mono px (by decide)) (bd2_mono py (by decide)) w)

theorem g_small {A B M : Int} (ha : A % 64 = 0) (hb : B % 64 = 0) (h : Bd2 (64 * M) A B) : Bd2 M (gA A B) (gB A B) := by
  have g : Gr (A / 64) (B / 64) 10 A B := by
    constructor
    · rw [show (2 : Int) ^ 16 = 64 * 2 ^ 10 by decide, ← Int.mul_assoc]; congr 1; omega
    · rw [show (2 : Int) ^ 16 = 64 * 2 ^ 10 by decide, ← Int.mul_assoc]; congr 1; omega
  obtain ⟨e1, e2, _⟩ := gr_low g
  rw [← e1, ← e2]
  have d := twos_dvd 10 (A / 64) (B / 64)
  obtain ⟨h1, h2, h3, h4⟩ := h
  have b1 := le_mul_pow (a := lowA (A / 64) (B / 64) 10) (M := M) (twos 10 (A / 64) (B / 64)) (by rw [Int.mul_comm]; unfold lowA; rw [← d.1]; omega) (by rw [Int.mul_comm]; unfold lowA; rw [← d.1]; omega)
  have b2 := le_mul_pow (a := lowB (A / 64) (B / 64) 10) (M := M) (twos 10 (A / 64) (B / 64)) (by rw [Int.mul_comm]; unfold lowB; rw [← d.2]; omega) (by rw [Int.mul_comm]; unfold lowB; rw [← d.2]; omega)
  exact ⟨b1.1, b1.2, b2.1, b2.2⟩
theorem sign_g {A B : Int} (ha : A % 64 = 0) (hb : B % 64 = 0) (h : Bd2 68719476736 A B) (w : World) : Calls Tryd.prog 136 #[gv A B] w (RetB (.int .i64 (Q.sgn2 A B)) w) := by
  obtain ⟨h1, h2, h3, h4⟩ := g_small (M := 1073741824) ha hb h
  rw [← g_sgn]
  exact sign_any _ _ _ w h1 h2 h3 h4
theorem sSign_g {A B : Int} (ha : A % 64 = 0) (hb : B % 64 = 0) (h : Bd2 68719476736 A B) (w : World) : Calls Tryd.prog 125 #[gv A B] w (RetB (.int .i64 (Q.sgn2 A B)) w) := by
  obtain ⟨h1, h2, h3, h4⟩ := g_small (M := 1073741824) ha hb h
  rw [← g_sgn]
  exact lSign_any _ _ _ w h1 h2 h3 h4
end Go.Proofs.YtafbdnjabgfjeaaDoor
