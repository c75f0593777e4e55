/- Valid polygons: what the program and the model ask is one; the program's answer. -/
import Derived.Test.YtafbdnjabgfjeaaDoorPjx
import Derived.Test.YtafbdnjabgfjeaaDoorPolA
import Derived.Test.YtafbdnjabgfjeaaDoorSeqq
import Derived.Test.YtafbdnjabgfjeaaDoorGrid
section
namespace Go.Proofs.YtafbdnjabgfjeaaDoor
open Go Go.RowKit OriM
namespace Pol
variable {β : Bool}

/-- The comparison of points i and j. -/
noncomputable def cpAt (fs : List Int) (i j : Nat) : Int := cpV (nth fs (i * 6)) (nth fs (i * 6 + 1)) (nth fs (i * 6 + 2)) (nth fs (i * 6 + 3)) (nth fs (i * 6 + 4)) (nth fs (i * 6 + 5)) (nth fs (j * 6)) (nth fs (j * 6 + 1)) (nth fs (j * 6 + 2)) (nth fs (j * 6 + 3)) (nth fs (j * 6 + 4)) (nth fs (j * 6 + 5))
/-- The first least one among the first k points. -/
noncomputable def lfK (fs : List Int) : Nat → Nat
  | 0 => 0
  | k + 1 => if cpAt fs k (lfK fs k) < 0 then k else lfK fs k
theorem lfK_lt (fs : List Int) : ∀ k, lfK fs k = 0 ∨ lfK fs k < k
  | 0 => .inl rfl
  | k + 1 => by
    unfold lfK
    split
    · right; omega
    · rcases lfK_lt fs k with h | h
      · exact .inl h
      · right; omega
theorem own_rebase {w : World} {base base' : Nat} {e : TypeId} {size : Nat} {v : Value} {n : Nat} {xs : List Value} (h : w.ownsRow base e size v n xs) (hb : base' ≤ base) : w.ownsRow base' e size v n xs := by
  refine ⟨h.1, ?_⟩
  rcases h.2 with hn | ⟨g, cap, cur, rfl, hb', rest⟩
  · exact .inl hn
  · exact .inr ⟨g, cap, cur, rfl, by omega, rest⟩
/-- The points in the same order, beginning with point k. -/
def rot (fs : List Int) (k : Nat) : List Int := fs.drop (k * 6) ++ fs.take (k * 6)
theorem nth_drop {xs : List Int} {k m : Nat} (h : m + k < xs.length) : nth (xs.drop m) k = nth xs (m + k) := by
  rw [nth_of (by rw [List.length_drop]; omega), nth_of h, List.getElem_drop]
theorem rot_len {n : Nat} {fs : List Int} (h : fs.length = n * 6) {k : Nat} (hk : k ≤ n) : (rot fs k).length = n * 6 := by
  unfold rot; rw [List.length_append, List.length_drop, List.length_take]; omega
set_option maxHeartbeats 8000000 in
set_option maxRecDepth 10000 in
theorem leastF_any (v : Value) (n : Nat) (fs : List Int) (w : World) (h : SlF w w.heap.size v n fs) (h64 : C64 n fs) (hn : 0 < n) (hT : LT β w) (hl : n ≤ 1048576) :
    Calls Tryd.prog 90 #[v] w (RetOF n (rot fs (lfK fs n)) w) := by
  obtain ⟨h6, A, c, rfl, hc, hcell⟩ := h
  obtain ⟨b, o, rfl, hb, hcs⟩ := hcell hn
  have HC := Lib.hid hcs
  have H6 := Lib.hid h6
  have HI := Lib.hid h64
  clear hcs hcell h6 h64
  go_enter Tryd.func90, Tryd.ntmps90
  go_wp2_with fail
  go_loopw [3, 7] (fun q i wr => ∃ k : Nat, k ≤ n ∧ i = .int .i64 k ∧ q = .int .i64 (lfK fs k : Nat) ∧ Below w.heap.size w wr) (fun _ i _ => n - (intOf i).toNat)
  case atStart => exact ⟨0, Nat.zero_le _, rfl, rfl, Below.refl _ _⟩
  case round =>
    obtain ⟨k, hk, rfl, rfl, hbel⟩ := hrel
    have hsz := hbel.size
    have hbw : b < wr.heap.size := by omega
    by_cases hlt : k < n
    · have hm : lfK fs k < n := by have := lfK_lt fs k; omega
      have HS : Hid (lfK fs (k + 1) = if cpAt fs k (lfK fs k) < 0 then k else lfK fs k) := Lib.hid rfl
      obtain ⟨m, hmm⟩ : ∃ m, lfK fs k = m := ⟨_, rfl⟩
      rw [hmm] at hm HS ⊢
      have HF := Lib.hid (fun w (hT : LT β w) => iCP_any (i6_at HI.out hlt) (i6_at HI.out hm) w hT)
      have HD : Hid (cpV (nth fs (k * 6)) (nth fs (k * 6 + 1)) (nth fs (k * 6 + 2)) (nth fs (k * 6 + 3)) (nth fs (k * 6 + 4)) (nth fs (k * 6 + 5)) (nth fs (m * 6)) (nth fs (m * 6 + 1)) (nth fs (m * 6 + 2)) (nth fs (m * 6 + 3)) (nth fs (m * 6 + 4)) (nth fs (m * 6 + 5)) = cpAt fs k m) := Lib.hid rfl
      rw [HD.out] at HF
      obtain ⟨a0, a1, a2, a3, a4, a5⟩ := six (HC.out.below hbel hb) H6.out hlt
      obtain ⟨d0, d1, d2, d3, d4, d5⟩ := six (HC.out.below hbel hb) H6.out hm
      obtain ⟨D, hD⟩ : ∃ D, cpAt fs k m = D := ⟨_, rfl⟩
      rw [hD] at HF HS
      clear hD HD hmm
      have j0 : (0 : Int) ≤ (k : Int) := by omega
      have j1 : (k : Int) < (n : Int) := by omega
      have j2 : (0 : Int) ≤ (m : Int) := by omega
      have j3 : (m : Int) < (n : Int) := by omega
      go_wp2_with fail
      go_region_held3 (fun w' => w'.cell? ⟨b, o + k * 6, none⟩ = some (.int .i64 (nth fs (k * 6))) ∧ w'.cell? ⟨b, o + k * 6 + 1, none⟩ = some (.int .i64 (nth fs (k * 6 + 1))) ∧ w'.cell? ⟨b, o + k * 6 + 2, none⟩ = some (.int .i64 (nth fs (k * 6 + 2))) ∧ w'.cell? ⟨b, o + k * 6 + 3, none⟩ = some (.int .i64 (nth fs (k * 6 + 3))) ∧ w'.cell? ⟨b, o + k * 6 + 4, none⟩ = some (.int .i64 (nth fs (k * 6 + 4))) ∧ w'.cell? ⟨b, o + k * 6 + 5, none⟩ = some (.int .i64 (nth fs (k * 6 + 5))) ∧ w'.cell? ⟨b, o + m * 6, none⟩ = some (.int .i64 (nth fs (m * 6))) ∧ w'.cell? ⟨b, o + m * 6 + 1, none⟩ = some (.int .i64 (nth fs (m * 6 + 1))) ∧ w'.cell? ⟨b, o + m * 6 + 2, none⟩ = some (.int .i64 (nth fs (m * 6 + 2))) ∧ w'.cell? ⟨b, o + m * 6 + 3, none⟩ = some (.int .i64 (nth fs (m * 6 + 3))) ∧ w'.cell? ⟨b, o + m * 6 + 4, none⟩ = some (.int .i64 (nth fs (m * 6 + 4))) ∧ w'.cell? ⟨b, o + m * 6 + 5, none⟩ = some (.int .i64 (nth fs (m * 6 + 5)))) ((first | (go_simp; done) | (simp [*]; done)))
        ((go_at_call 150; refine (HF.out _ ?_).mono ?_; exact LT.below (w := w) hT (by (repeat (first | with_reducible exact Below.refl _ _ | with_reducible assumption | with_reducible refine below_drewN ?_ _ | with_reducible refine Below.drew ?_ | with_reducible refine Below.alloc ?_ (by first | omega | (simp; done) | (simp; omega)) _ | with_reducible refine Below.setCell ?_ (by first | omega | (simp; done) | (simp; omega)) _ | with_reducible refine Below.trans ?_ (Below.mono (by assumption) (by first | omega | (simp; done) | (simp; omega)))))) (Nat.le_refl _); rintro e w5 ⟨rfl, hb5⟩; (try replace hb5 := Below.undrew hb5); obtain ⟨hc5, hf5⟩ := bcell hb5; have hz5 := hb5.size; (try simp at hz5); have z5a : b < w5.heap.size := (by omega)))
      all_goals
        have hw : Below wr.heap.size wr w5 := by (repeat (first | with_reducible exact Below.refl _ _ | with_reducible assumption | with_reducible refine below_drewN ?_ _ | with_reducible refine Below.drew ?_ | with_reducible refine Below.alloc ?_ (by first | omega | (simp; done) | (simp; omega)) _ | with_reducible refine Below.setCell ?_ (by first | omega | (simp; done) | (simp; omega)) _ | with_reducible refine Below.trans ?_ (Below.mono (by assumption) (by first | omega | (simp; done) | (simp; omega)))))
        by_cases hneg : D < 0
        · have e : lfK fs (k + 1) = k := by rw [HS.out, if_pos hneg]
          have HE := Lib.hid e
          clear e
          go_wp2_with fail
          go_roundw
          case rel => exact ⟨k + 1, by omega, by go_num, by rw [HE.out], by first | exact hbel.trans (hw.mono hsz) | exact (hbel.trans (hw.mono hsz)).drew⟩
          case measure => simp [intOf]; omega
        · have e : lfK fs (k + 1) = m := by rw [HS.out, if_neg hneg]
          have HE := Lib.hid e
          clear e
          go_wp2_with fail
          go_roundw
          case rel => exact ⟨k + 1, by omega, by go_num, by rw [HE.out], by first | exact hbel.trans (hw.mono hsz) | exact (hbel.trans (hw.mono hsz)).drew⟩
          case measure => simp [intOf]; omega
    · obtain rfl : k = n := by omega
      have hm : lfK fs k < k := by have := lfK_lt fs k; omega
      obtain ⟨m, hmm⟩ : ∃ m, lfK fs k = m := ⟨_, rfl⟩
      have HM := Lib.hid hmm
      rw [hmm] at hm ⊢
      clear hmm
      have L1 : (fs.drop (m * 6)).length = (k - m) * 6 := by rw [List.length_drop, H6.out]; omega
      have L2 : (fs.take (m * 6)).length = m * 6 := by rw [List.length_take, H6.out]; omega
      have D1 : Cells wr b (o + m * 6) (fs.drop (m * 6)) := fun j hj => by
        rw [nth_drop (by rw [L1] at hj; rw [H6.out]; omega), Nat.add_assoc]
        exact (HC.out.below hbel hb) (m * 6 + j) (by rw [L1] at hj; rw [H6.out]; omega)
      have D2 : Cells wr b o (fs.take (m * 6)) := fun j hj => by
        rw [L2] at hj
        rw [nth_take hj (by rw [H6.out]; omega)]
        exact (HC.out.below hbel hb) j (by rw [H6.out]; omega)
      have HK := Lib.hid fun (B : Nat) (W : World) (hw : Below wr.heap.size wr W) (hB : B < W.heap.size) e0 e1 => concatP_any B b (o + m * 6) o (k - m) m (c - m) c (fs.drop (m * 6)) (fs.take (m * 6)) W hB e0 e1 (Nat.lt_of_lt_of_le hbw hw.size) (D1.below hw hbw) (D2.below hw hbw) L1 L2 (by omega) (by omega)
      have j0 : (0 : Int) ≤ (m : Int) := by omega
      have j1 : (m : Int) ≤ (k : Int) := by omega
      have j2 : (m : Int) ≤ (c : Int) := by omega
      have j3 : (k : Int) ≤ (c : Int) := by omega
      have j4 : m ≤ k := by omega
      have j5 : m ≤ c := by omega
      have j6 : ¬ c = m := by omega
      clear D1 D2 L1 L2
      go_wp2_with fail
      go_region_held3 (fun _ => True) (trivial)
        ((go_at_call 151; refine (HK.out _ _ ?_ ?_ ?_ ?_).mono ?_; exact (by (repeat (first | with_reducible exact Below.refl _ _ | with_reducible assumption | with_reducible refine below_drewN ?_ _ | with_reducible refine Below.drew ?_ | with_reducible refine Below.alloc ?_ (by first | omega | (simp; done) | (simp; omega)) _ | with_reducible refine Below.setCell ?_ (by first | omega | (simp; done) | (simp; omega)) _ | with_reducible refine Below.trans ?_ (Below.mono (by assumption) (by first | omega | (simp; done) | (simp; omega)))))); exact (by simp); exact (by simp [go_sem]); exact (by simp [go_sem]); rintro e w5 ⟨v, rfl, o5, b5⟩))
      all_goals
        go_wp2_with fail
        go_ret
        rw [HM.out]
        have hw : Below wr.heap.size wr w5 := by (repeat (first | with_reducible exact Below.refl _ _ | with_reducible assumption | with_reducible refine below_drewN ?_ _ | with_reducible refine Below.drew ?_ | with_reducible refine Below.alloc ?_ (by first | omega | (simp; done) | (simp; omega)) _ | with_reducible refine Below.setCell ?_ (by first | omega | (simp; done) | (simp; omega)) _ | with_reducible refine Below.trans ?_ (Below.mono (by assumption) (by first | omega | (simp; done) | (simp; omega)))))
        rw [show k - m + m = k by omega] at o5
        exact ⟨v, rfl, own_rebase o5 (by simp; omega), hbel.trans (hw.mono hsz)⟩
end Pol
end Go.Proofs.YtafbdnjabgfjeaaDoor
end
section
namespace Go.Proofs.YtafbdnjabgfjeaaDoor
open OriM

/-! ### Sums of positive numbers -/
theorem two_lt {a b c d : Int} (ha : 0 < a) (hc : 0 < c) (h : 2 * (b * b) < a * a) (g : 2 * (d * d) < c * c) : 2 * (b * d) < a * c := by
  rcases Int.lt_or_le (2 * (b * d)) (a * c) with hlt | hle
  · exact hlt
  · exfalso
    have h0 := Int.mul_pos ha hc
    have h1 : (a * c) * (a * c) ≤ (2 * (b * d)) * (2 * (b * d)) := Int.mul_le_mul hle hle (by omega) (by omega)
    have h2 : (2 * (b * b)) * (2 * (d * d)) ≤ (2 * (b * b)) * (c * c) := Int.mul_le_mul_of_nonneg_left (by omega) (by have := sq_nonneg b; omega)
    have h3 : (2 * (b * b)) * (c * c) < (a * a) * (c * c) := Int.mul_lt_mul_of_pos_right h (Int.mul_pos hc hc)
    have e1 : (a * c) * (a * c) = (a * a) * (c * c) := by grind
    have e2 : (2 * (b * d)) * (2 * (b * d)) = (2 * (b * b)) * (2 * (d * d)) := by grind
    omega
theorem two_lt' {a b c d : Int} (hb : 0 < b) (hd : 0 < d) (h : a * a < 2 * (b * b)) (g : c * c < 2 * (d * d)) : a * c < 2 * (b * d) := by
  rcases Int.lt_or_le (a * c) (2 * (b * d)) with hlt | hle
  · exact hlt
  · exfalso
    have h0 := Int.mul_pos hb hd
    have h1 : (2 * (b * d)) * (2 * (b * d)) ≤ (a * c) * (a * c) := Int.mul_le_mul hle hle (by omega) (by omega)
    have h2 : (a * a) * (c * c) ≤ (a * a) * (2 * (d * d)) := Int.mul_le_mul_of_nonneg_left (by omega) (sq_nonneg a)
    have hd2 := Int.mul_pos hd hd
    have h3 : (a * a) * (2 * (d * d)) < (2 * (b * b)) * (2 * (d * d)) := Int.mul_lt_mul_of_pos_right h (by omega)
    have e1 : (a * c) * (a * c) = (a * a) * (c * c) := by grind
    have e2 : (2 * (b * d)) * (2 * (b * d)) = (2 * (b * b)) * (2 * (d * d)) := by grind
    omega
theorem add_aa {a b c d : Int} (ha : 0 < a) (hc : 0 < c) (h : 2 * (b * b) < a * a) (g : 2 * (d * d) < c * c) : Q.sgn2 (a + c) (b + d) = 1 := by
  have k := two_lt ha hc h g
  have e1 : (a + c) * (a + c) = a * a + c * c + 2 * (a * c) := by grind
  have e2 : (b + d) * (b + d) = b * b + d * d + 2 * (b * d) := by grind
  rw [Q.sgn2_a (by omega)]
  exact Int.sign_eq_one_of_pos (by omega)
theorem add_bb {a b c d : Int} (hb : 0 < b) (hd : 0 < d) (h : a * a < 2 * (b * b)) (g : c * c < 2 * (d * d)) : Q.sgn2 (a + c) (b + d) = 1 := by
  have k := two_lt' hb hd h g
  have e1 : (a + c) * (a + c) = a * a + c * c + 2 * (a * c) := by grind
  have e2 : (b + d) * (b + d) = b * b + d * d + 2 * (b * d) := by grind
  rw [Q.sgn2_b (by omega)]
  exact Int.sign_eq_one_of_pos (by omega)
/-- A positive number is so by its first part or by its second one. -/
theorem pos_cases {a b : Int} (h : Q.sgn2 a b = 1) : (0 < a ∧ 2 * (b * b) < a * a) ∨ (0 < b ∧ a * a < 2 * (b * b)) := by
  rcases Q.cases2 a b with ⟨h1, h2⟩ | ⟨h1, h2⟩ | ⟨_, _, h2⟩
  · rw [h] at h2; exact .inl ⟨Int.sign_eq_one_iff_pos.1 h2.symm, h1⟩
  · rw [h] at h2; exact .inr ⟨Int.sign_eq_one_iff_pos.1 h2.symm, h1⟩
  · rw [h] at h2; omega
theorem sgn3 (a b : Int) : Q.sgn2 a b = 1 ∨ Q.sgn2 a b = 0 ∨ Q.sgn2 (-a) (-b) = 1 := by
  rw [Q.sgn2_neg]
  rcases sgn2_range a b with h | h | h <;> rw [h] <;> simp
theorem add_ab {a b c d : Int} (h : Q.sgn2 a b = 1) (g : Q.sgn2 c d = 1) (ha : 0 < a) (ha2 : 2 * (b * b) < a * a) (hd : 0 < d) (hd2 : c * c < 2 * (d * d)) : Q.sgn2 (a + c) (b + d) = 1 := by
  rcases sgn3 (a + c) (b + d) with k | k | k
  · exact k
  · exfalso
    obtain ⟨e1, e2⟩ := Q.sgn2_eq_zero k
    obtain rfl : c = -a := by omega
    obtain rfl : d = -b := by omega
    rw [Q.sgn2_neg, h] at g; omega
  · exfalso
    rcases pos_cases k with ⟨k1, k2⟩ | ⟨k1, k2⟩
    · have := add_aa ha k1 ha2 k2
      rw [show a + -(a + c) = -c by omega, show b + -(b + d) = -d by omega, Q.sgn2_neg, g] at this
      omega
    · have := add_bb hd k1 hd2 k2
      rw [show c + -(a + c) = -a by omega, show d + -(b + d) = -b by omega, Q.sgn2_neg, h] at this
      omega
theorem add_pos {a b c d : Int} (h : Q.sgn2 a b = 1) (g : Q.sgn2 c d = 1) : Q.sgn2 (a + c) (b + d) = 1 := by
  rcases pos_cases h with ⟨h1, h2⟩ | ⟨h1, h2⟩ <;> rcases pos_cases g with ⟨g1, g2⟩ | ⟨g1, g2⟩
  · exact add_aa h1 g1 h2 g2
  · exact add_ab h g h1 h2 g1 g2
  · rw [Int.add_comm a, Int.add_comm b]; exact add_ab g h g1 g2 h1 h2
  · exact add_bb h1 g1 h2 g2

/-! ### What a direction says -/
theorem from16_spec {p : P4} {d : Nat} : ∀ (n e : Nat), dirFrom16 p n e = (d : Int) → (dotA ((d + 4) % 16) p = 0 ∧ dotB ((d + 4) % 16) p = 0) ∧ 0 < sgD d p
  | 0, _, h => by unfold dirFrom16 at h; omega
  | n + 1, e, h => by
    unfold dirFrom16 at h
    split at h
    · rename_i hc
      obtain rfl : e = d := by omega
      exact hc
    · exact from16_spec n (e + 1) h
theorem dirOf_spec {p : P4} {d : Nat} (h : dirOf p = (d : Int)) : (dotA ((d + 4) % 16) p = 0 ∧ dotB ((d + 4) % 16) p = 0) ∧ sgD d p = 1 := by
  rw [← dir_agree] at h
  obtain ⟨h1, h2⟩ := from16_spec 16 0 h
  refine ⟨h1, ?_⟩
  unfold sgD at *
  rcases sgn2_range (dotA d p) (dotB d p) with k | k | k <;> rw [k] at h2 ⊢ <;> omega
theorem cross_of_dot {d : Nat} (hd : d < 16) {p : P4} (h : dotA ((d + 4) % 16) p = 0 ∧ dotB ((d + 4) % 16) p = 0) : crossA d p = 0 ∧ crossB d p = 0 := by
  obtain ⟨h1, h2⟩ := h
  rcases lt16 hd with rfl | rfl | rfl | rfl | rfl | rfl | rfl | rfl | rfl | rfl | rfl | rfl | rfl | rfl | rfl | rfl <;>
    simp [dotA, dotB, crossA, crossB, xA, xB, yA, yB] at * <;> omega
/-- The scalar product of two vectors of directions. -/
def ddA (e f : Nat) : Int := (xA e * xA f + 2 * (xB e * xB f)) + (yA e * yA f + 2 * (yB e * yB f))
def ddB (e f : Nat) : Int := (xA e * xB f + xB e * xA f) + (yA e * yB f + yB e * yA f)
theorem lag {e : Nat} (f : Nat) {p : P4} (h : crossA e p = 0 ∧ crossB e p = 0) :
    dotA f p * ddA e e + 2 * (dotB f p * ddB e e) = dotA e p * ddA e f + 2 * (dotB e p * ddB e f) ∧ dotA f p * ddB e e + dotB f p * ddA e e = dotA e p * ddB e f + dotB e p * ddA e f := by
  obtain ⟨h1, h2⟩ := h
  unfold dotA dotB ddA ddB
  unfold crossA at h1
  unfold crossB at h2
  generalize xA e = a at *
  generalize xB e = b at *
  generalize yA e = c at *
  generalize yB e = d at *
  generalize xA f = a' at *
  generalize xB f = b' at *
  generalize yA f = c' at *
  generalize yB f = d' at *
  obtain ⟨p1, p2, p3, p4⟩ := p
  simp only at h1 h2 ⊢
  constructor <;> grind

/-- A functional that is positive on the eight directions from a on. -/
def fA (a : Nat) (p : P4) : Int := dotA ((a + 3) % 16) p + dotA ((a + 4) % 16) p
def fB (a : Nat) (p : P4) : Int := dotB ((a + 3) % 16) p + dotB ((a + 4) % 16) p
theorem sq_pos : ∀ e, e < 16 → Q.sgn2 (ddA e e) (ddB e e) = 1 := by decide
set_option maxRecDepth 100000 in
theorem dd_pos : ∀ a, a < 16 → ∀ j, j < 8 → Q.sgn2 (ddA ((a + j) % 16) ((a + 3) % 16) + ddA ((a + j) % 16) ((a + 4) % 16)) (ddB ((a + j) % 16) ((a + 3) % 16) + ddB ((a + j) % 16) ((a + 4) % 16)) = 1 := by decide
theorem f_pos {a j : Nat} (ha : a < 16) (hj : j < 8) {p : P4} (h : dirOf p = (((a + j) % 16 : Nat) : Int)) : Q.sgn2 (fA a p) (fB a p) = 1 := by
  obtain ⟨h1, h2⟩ := dirOf_spec h
  have he : (a + j) % 16 < 16 := Nat.mod_lt _ (by decide)
  have hc := cross_of_dot he h1
  have hd := dd_pos a ha j hj
  have hs := sq_pos _ he
  generalize (a + j) % 16 = e at *
  obtain ⟨l1, l2⟩ := lag ((a + 3) % 16) hc
  obtain ⟨m1, m2⟩ := lag ((a + 4) % 16) hc
  have k := Q.sgn2_mul (fA a p) (fB a p) (ddA e e) (ddB e e)
  have k' := Q.sgn2_mul (dotA e p) (dotB e p) (ddA e ((a + 3) % 16) + ddA e ((a + 4) % 16)) (ddB e ((a + 3) % 16) + ddB e ((a + 4) % 16))
  unfold sgD at h2
  rw [hs, Int.mul_one] at k
  rw [h2, hd, Int.mul_one] at k'
  rw [← k, ← k']
  congr 1
  · unfold fA fB; grind
  · unfold fA fB; grind
theorem f_sub (a : Nat) (p q : P4) : fA a (p.sub q) = fA a p - fA a q ∧ fB a (p.sub q) = fB a p - fB a q := by
  unfold fA fB dotA dotB P4.sub
  simp only
  constructor <;> grind

/-! ### Arcs -/
/-- Sides whose directions lie in the half turn from a on lead away. -/
theorem arc_pos {P : Nat → P4} {a i : Nat} (ha : a < 16) : ∀ m, (∀ k, i ≤ k → k < i + (m + 1) → ∃ t, t < 8 ∧ dirOf ((P (k + 1)).sub (P k)) = (((a + t) % 16 : Nat) : Int)) →
    Q.sgn2 (fA a (P (i + (m + 1))) - fA a (P i)) (fB a (P (i + (m + 1))) - fB a (P i)) = 1
  | 0, h => by
    obtain ⟨t, ht, hd⟩ := h i (Nat.le_refl _) (by omega)
    have := f_pos ha ht hd
    rwa [(f_sub a _ _).1, (f_sub a _ _).2] at this
  | m + 1, h => by
    have h1 := arc_pos ha m fun k hk hk2 => h k hk (by omega)
    obtain ⟨t, ht, hd⟩ := h (i + (m + 1)) (by omega) (by omega)
    have h2 := f_pos ha ht hd
    rw [(f_sub a _ _).1, (f_sub a _ _).2] at h2
    have h3 := add_pos h1 h2
    have e : i + (m + 1) + 1 = i + (m + 1 + 1) := by omega
    rw [e] at h3
    rw [show fA a (P (i + (m + 1 + 1))) - fA a (P i) = (fA a (P (i + (m + 1))) - fA a (P i)) + (fA a (P (i + (m + 1 + 1))) - fA a (P (i + (m + 1)))) by omega,
      show fB a (P (i + (m + 1 + 1))) - fB a (P i) = (fB a (P (i + (m + 1))) - fB a (P i)) + (fB a (P (i + (m + 1 + 1))) - fB a (P (i + (m + 1)))) by omega]
    exact h3
theorem arc_ne {P : Nat → P4} {a i j : Nat} (ha : a < 16) (hij : i < j) (h : ∀ k, i ≤ k → k < j → ∃ t, t < 8 ∧ dirOf ((P (k + 1)).sub (P k)) = (((a + t) % 16 : Nat) : Int)) : P i ≠ P j := by
  intro e
  obtain ⟨m, rfl⟩ : ∃ m, j = i + (m + 1) := ⟨j - i - 1, by omega⟩
  have := arc_pos (P := P) (i := i) ha m h
  rw [← e, Int.sub_self, Int.sub_self, Q.sgn2_zero] at this
  omega

/-! ### One turn -/
/-- How far the directions have turned ahead of side k. -/
def turned (T : Nat → Nat) : Nat → Nat
  | 0 => 0
  | k + 1 => turned T k + T k
theorem turned_mono {T : Nat → Nat} {n : Nat} (hT : ∀ k, k < n → 1 ≤ T k) {i : Nat} : ∀ m, i + m ≤ n → turned T i + m ≤ turned T (i + m)
  | 0, _ => by simp
  | m + 1, h => by
    have h1 := turned_mono (T := T) hT (i := i) m (by omega)
    have h2 := hT (i + m) (by omega)
    show turned T i + (m + 1) ≤ turned T (i + m) + T (i + m)
    omega
theorem dir_turned {D T : Nat → Nat} {n : Nat} (h0 : D 0 < 16) (h : ∀ k, k + 1 < n → D (k + 1) = (D k + T k) % 16) : ∀ k, k < n → D k = (D 0 + turned T k) % 16
  | 0, _ => by simp [turned]; omega
  | k + 1, hk => by
    rw [h k hk, dir_turned h0 h k (by omega)]
    show ((D 0 + turned T k) % 16 + T k) % 16 = (D 0 + (turned T k + T k)) % 16
    omega
/-- A closed line of n sides that turns to the left at each corner, all in all once around: no corner is the first one again. -/
theorem turn_ne {P : Nat → P4} {D T : Nat → Nat} {n : Nat} (hP : P n = P 0) (hD0 : D 0 < 16) (hd : ∀ k, k < n → dirOf ((P (k + 1)).sub (P k)) = (D k : Int)) (hT : ∀ k, k < n → 1 ≤ T k)
    (hn : ∀ k, k + 1 < n → D (k + 1) = (D k + T k) % 16) (hs : turned T n = 16) {i : Nat} (hi : 0 < i) (hin : i < n) : P 0 ≠ P i := by
  have hdir := dir_turned hD0 hn
  by_cases h8 : turned T (i - 1) < 8
  · refine arc_ne hD0 hi fun k _ hk => ⟨turned T k, ?_, ?_⟩
    · have := turned_mono (T := T) hT (i := k) (i - 1 - k) (by omega)
      rw [show k + (i - 1 - k) = i - 1 by omega] at this
      omega
    · rw [hd k (by omega), hdir k (by omega)]
  · rw [← hP]
    intro e
    refine arc_ne (P := P) (a := D i) (i := i) (j := n) (by rw [hdir i hin]; exact Nat.mod_lt _ (by decide)) hin (fun k hk hk2 => ⟨turned T k - turned T i, ?_, ?_⟩) e.symm
    · have h1 := turned_mono (T := T) hT (i := k) (n - k) (by omega)
      rw [show k + (n - k) = n by omega] at h1
      have h2 := turned_mono (T := T) hT (i := i - 1) 1 (by omega)
      rw [show i - 1 + 1 = i by omega] at h2
      omega
    · have h3 := turned_mono (T := T) hT (i := i) (k - i) (by omega)
      rw [show i + (k - i) = k by omega] at h3
      rw [hd k hk2, hdir k hk2, hdir i hin]
      congr 1
      omega
end Go.Proofs.YtafbdnjabgfjeaaDoor
end
section
namespace Go.Proofs.YtafbdnjabgfjeaaDoor
open Go Go.RowKit OriM
namespace Pol
variable {β : Bool}

/-! ### The order of points -/
theorem plusA_swap (p q k l : Int) : plusA q l (-p) k = -plusA p k (-q) l := by
  unfold plusA
  rw [Int.max_comm l k, Int.neg_mul, Int.neg_mul]; omega
theorem cmpV_swap (a b k a' b' k' : Int) : cmpV a' b' k' a b k = -cmpV a b k a' b' k' := by
  unfold cmpV
  rw [Bool.and_comm]
  split
  · rw [plusA_swap a a' k k', plusA_swap b b' k k', Q.sgn2_neg]
  · rfl
theorem eqB_swap (a b k a' b' k' : Int) : eqB a' b' k' a b k = eqB a b k a' b' k' := by
  unfold eqB
  rw [Bool.eq_iff_iff]; simp; constructor <;> (rintro ⟨rfl, rfl, rfl⟩; simp)
theorem cpAt_swap (fs : List Int) (i j : Nat) : cpAt fs j i = -cpAt fs i j := by
  unfold cpAt cpV
  rw [Bool.and_comm, eqB_swap]
  split
  · split
    · exact cmpV_swap ..
    · exact cmpV_swap ..
  · rfl
theorem cpAt_zero {fs : List Int} {i j : Nat} (hi : vAt fs i = true) (hj : vAt fs j = true) (h : cpAt fs i j = 0) : gAt fs i = gAt fs j := by
  unfold cpAt cpV at h
  unfold vAt at hi hj
  rw [hi, hj, Bool.true_and, if_pos rfl] at h
  unfold vP at hi hj
  rw [Bool.and_eq_true] at hi hj
  by_cases he : eqB (nth fs (i * 6)) (nth fs (i * 6 + 1)) (nth fs (i * 6 + 2)) (nth fs (j * 6)) (nth fs (j * 6 + 1)) (nth fs (j * 6 + 2)) = true
  · rw [if_pos he] at h
    have h2 := (cmpV_zero hi.2 hj.2).1 h
    unfold eqB at he h2
    simp only [Bool.and_eq_true, beq_iff_eq] at he h2
    obtain ⟨e0, e1, e2⟩ := he
    obtain ⟨e3, e4, e5⟩ := h2
    unfold gAt
    rw [e0, e1, e2, e3, e4, e5]
  · rw [if_neg he] at h
    exact absurd ((cmpV_zero hi.1 hj.1).1 h) he

/-! ### One turn: the first point is none of the others -/
theorem turned_trS {n : Nat} {fs : List Int} : ∀ k, (turned (fun j => (trn n fs j).toNat) k : Int) = trS n fs k
  | 0 => rfl
  | k + 1 => by
    have h := turned_trS (n := n) (fs := fs) k
    have := trn_range n fs k
    show ((turned _ k + (trn n fs k).toNat : Nat) : Int) = trS n fs k + trn n fs k
    push_cast; omega
theorem first_ne {n : Nat} {fs : List Int} (h : TurnP n fs) {i : Nat} (hi : 0 < i) (hin : i < n) : gAt fs 0 ≠ gAt fs i := by
  obtain ⟨h1, h2, h3⟩ := h
  have key := turn_ne (P := fun k => gAt fs (k % n)) (D := fun k => (dAt n fs k).toNat) (T := fun k => (trn n fs k).toNat) (n := n) (by simp) (by have := dAt_range n fs 0; show (dAt n fs 0).toNat < 16; omega)
    (fun k hk => by
      have := h1 k hk
      show dirOf ((gAt fs ((k + 1) % n)).sub (gAt fs (k % n))) = ((dAt n fs k).toNat : Int)
      rw [Nat.mod_eq_of_lt hk, Int.toNat_of_nonneg this]; rfl)
    (fun k hk => by have := h2 k hk; show 1 ≤ (trn n fs k).toNat; omega)
    (fun k hk => by
      have a := h1 k (by omega)
      have b := h1 (k + 1) hk
      have c := dAt_range n fs k
      have d := dAt_range n fs (k + 1)
      show (dAt n fs (k + 1)).toNat = ((dAt n fs k).toNat + (trn n fs k).toNat) % 16
      unfold trn
      rw [Nat.mod_eq_of_lt hk]
      omega)
    (by have := turned_trS (n := n) (fs := fs) n; rw [h3] at this; omega) hi hin
  simpa [Nat.mod_eq_of_lt hin] using key

/-! ### The least point first -/
/-- A polygon in normal form. -/
def MP (n : Nat) (fs : List Int) : Prop := 3 ≤ n ∧ n ≤ 16 ∧ (∀ k, k < n → vAt fs k = true ∧ (0 < k → cpAt fs 0 k < 0)) ∧ TurnP n fs
end Pol
end Go.Proofs.YtafbdnjabgfjeaaDoor
end
