/- Valid polygons: what the program and the model ask is one; the program's answer. -/
import Derived.Test.YtafbdnjabgfjeaaDoorPj
import Derived.Test.YtafbdnjabgfjeaaDoorPolA
import Derived.Test.YtafbdnjabgfjeaaDoorSeqq
import Derived.Test.YtafbdnjabgfjeaaDoorPg
section
namespace Go.Proofs.YtafbdnjabgfjeaaDoor
open Go Go.RowKit OriM
namespace Pol
variable {β : Bool}

/-- The comparison of points i and j. -/
noncomputable def cpAt (fs : List Int) (i j : Nat) : Int := cpV (nth fs (i * 6)) (nth fs (i * 6 + 1)) (nth fs (i * 6 + 2)) (nth fs (i * 6 + 3)) (nth fs (i * 6 + 4)) (nth fs (i * 6 + 5)) (nth fs (j * 6)) (nth fs (j * 6 + 1)) (nth fs (j * 6 + 2)) (nth fs (j * 6 + 3)) (nth fs (j * 6 + 4)) (nth fs (j * 6 + 5))
/-- The first least one among the first k points. -/
noncomputable def lfK (fs : List Int) : Nat → Nat
  | 0 => 0
  | k + 1 => if cpAt fs k (lfK fs k) < 0 then k else lfK fs k
theorem lfK_lt (fs : List Int) : ∀ k, lfK fs k = 0 ∨ lfK fs k < k
  | 0 => .inl rfl
  | k + 1 => by
    unfold lfK
    split
    · right; omega
    · rcases lfK_lt fs k with h | h
      · exact .inl h
      · right; omega
theorem own_rebase {w : World} {base base' : Nat} {e : TypeId} {size : Nat} {v : Value} {n : Nat} {xs : List Value} (h : w.ownsRow base e size v n xs) (hb : base' ≤ base) : w.ownsRow base' e size v n xs := by
  refine ⟨h.1, ?_⟩
  rcases h.2 with hn | ⟨g, cap, cur, rfl, hb', rest⟩
  · exact .inl hn
  · exact .inr ⟨g, cap, cur, rfl, by omega, rest⟩
/-- The points in the same order, beginning with point k. -/
def rot (fs : List Int) (k : Nat) : List Int := fs.drop (k * 6) ++ fs.take (k * 6)
theorem nth_drop {xs : List Int} {k m : Nat} (h : m + k < xs.length) : nth (xs.drop m) k = nth xs (m + k) := by
  rw [nth_of (by rw [List.length_drop]; omega), nth_of h, List.getElem_drop]
theorem rot_len {n : Nat} {fs : List Int} (h : fs.length = n * 6) {k : Nat} (hk : k ≤ n) : (rot fs k).length = n * 6 := by
  unfold rot; rw [List.length_append, List.length_drop, List.length_take]; omega
theorem rot_zero (fs : List Int) : rot fs 0 = fs := by simp [rot]
theorem rot_nth {n : Nat} {fs : List Int} (h : fs.length = n * 6) {k : Nat} (hk : k < n) {i : Nat} (hi : i < 6) : nth (rot fs k) i = nth fs (k * 6 + i) := by
  unfold rot
  rw [nth_app (by rw [List.length_drop]; omega), nth_drop (by omega)]

set_option maxHeartbeats 8000000 in
set_option maxRecDepth 10000 in
theorem leastF_any (v : Value) (n : Nat) (fs : List Int) (w : World) (h : SlF w w.heap.size v n fs) (h64 : C64 n fs) (hn : 0 < n) (hT : LT β w) (hl : n ≤ 1048576) :
    Calls Tryd.prog 90 #[v] w (RetOF n (rot fs (lfK fs n)) w) := by
  obtain ⟨h6, A, c, rfl, hc, hcell⟩ := h
  obtain ⟨b, o, rfl, hb, hcs⟩ := hcell hn
  have HC := Lib.hid hcs
  have H6 := Lib.hid h6
  have HI := Lib.hid h64
  clear hcs hcell h6 h64
  go_enter Tryd.func90, Tryd.ntmps90
  go_wp2_with fail
  go_loopw [3, 7] (fun q i wr => ∃ k : Nat, k ≤ n ∧ i = .int .i64 k ∧ q = .int .i64 (lfK fs k : Nat) ∧ Below w.heap.size w wr) (fun _ i _ => n - (intOf i).toNat)
  case atStart => exact ⟨0, Nat.zero_le _, rfl, rfl, Below.refl _ _⟩
  case round =>
    obtain ⟨k, hk, rfl, rfl, hbel⟩ := hrel
    have hsz := hbel.size
    have hbw : b < wr.heap.size := by omega
    by_cases hlt : k < n
    · have hm : lfK fs k < n := by have := lfK_lt fs k; omega
      have HS : Hid (lfK fs (k + 1) = if cpAt fs k (lfK fs k) < 0 then k else lfK fs k) := Lib.hid rfl
      obtain ⟨m, hmm⟩ : ∃ m, lfK fs k = m := ⟨_, rfl⟩
      rw [hmm] at hm HS ⊢
      have HF := Lib.hid (fun w (hT : LT β w) => iCP_any (i6_at HI.out hlt) (i6_at HI.out hm) w hT)
      have HD : Hid (cpV (nth fs (k * 6)) (nth fs (k * 6 + 1)) (nth fs (k * 6 + 2)) (nth fs (k * 6 + 3)) (nth fs (k * 6 + 4)) (nth fs (k * 6 + 5)) (nth fs (m * 6)) (nth fs (m * 6 + 1)) (nth fs (m * 6 + 2)) (nth fs (m * 6 + 3)) (nth fs (m * 6 + 4)) (nth fs (m * 6 + 5)) = cpAt fs k m) := Lib.hid rfl
      rw [HD.out] at HF
      obtain ⟨a0, a1, a2, a3, a4, a5⟩ := six (HC.out.below hbel hb) H6.out hlt
      obtain ⟨d0, d1, d2, d3, d4, d5⟩ := six (HC.out.below hbel hb) H6.out hm
      obtain ⟨D, hD⟩ : ∃ D, cpAt fs k m = D := ⟨_, rfl⟩
      rw [hD] at HF HS
      clear hD HD hmm
      have j0 : (0 : Int) ≤ (k : Int) := by omega
      have j1 : (k : Int) < (n : Int) := by omega
      have j2 : (0 : Int) ≤ (m : Int) := by omega
      have j3 : (m : Int) < (n : Int) := by omega
      go_wp2_with fail
      go_region_held3 (fun w' => w'.cell? ⟨b, o + k * 6, none⟩ = some (.int .i64 (nth fs (k * 6))) ∧ w'.cell? ⟨b, o + k * 6 + 1, none⟩ = some (.int .i64 (nth fs (k * 6 + 1))) ∧ w'.cell? ⟨b, o + k * 6 + 2, none⟩ = some (.int .i64 (nth fs (k * 6 + 2))) ∧ w'.cell? ⟨b, o + k * 6 + 3, none⟩ = some (.int .i64 (nth fs (k * 6 + 3))) ∧ w'.cell? ⟨b, o + k * 6 + 4, none⟩ = some (.int .i64 (nth fs (k * 6 + 4))) ∧ w'.cell? ⟨b, o + k * 6 + 5, none⟩ = some (.int .i64 (nth fs (k * 6 + 5))) ∧ w'.cell? ⟨b, o + m * 6, none⟩ = some (.int .i64 (nth fs (m * 6))) ∧ w'.cell? ⟨b, o + m * 6 + 1, none⟩ = some (.int .i64 (nth fs (m * 6 + 1))) ∧ w'.cell? ⟨b, o + m * 6 + 2, none⟩ = some (.int .i64 (nth fs (m * 6 + 2))) ∧ w'.cell? ⟨b, o + m * 6 + 3, none⟩ = some (.int .i64 (nth fs (m * 6 + 3))) ∧ w'.cell? ⟨b, o + m * 6 + 4, none⟩ = some (.int .i64 (nth fs (m * 6 + 4))) ∧ w'.cell? ⟨b, o + m * 6 + 5, none⟩ = some (.int .i64 (nth fs (m * 6 + 5)))) ((first | (go_simp; done) | (simp [*]; done)))
        ((go_at_call 150; refine (HF.out _ ?_).mono ?_; exact LT.below (w := w) hT (by (repeat (first | with_reducible exact Below.refl _ _ | with_reducible assumption | with_reducible refine below_drewN ?_ _ | with_reducible refine Below.drew ?_ | with_reducible refine Below.alloc ?_ (by first | omega | (simp; done) | (simp; omega)) _ | with_reducible refine Below.setCell ?_ (by first | omega | (simp; done) | (simp; omega)) _ | with_reducible refine Below.trans ?_ (Below.mono (by assumption) (by first | omega | (simp; done) | (simp; omega)))))) (Nat.le_refl _); rintro e w5 ⟨rfl, hb5⟩; (try replace hb5 := Below.undrew hb5); obtain ⟨hc5, hf5⟩ := bcell hb5; have hz5 := hb5.size; (try simp at hz5); have z5a : b < w5.heap.size := (by omega)))
      all_goals
        have hw : Below wr.heap.size wr w5 := by (repeat (first | with_reducible exact Below.refl _ _ | with_reducible assumption | with_reducible refine below_drewN ?_ _ | with_reducible refine Below.drew ?_ | with_reducible refine Below.alloc ?_ (by first | omega | (simp; done) | (simp; omega)) _ | with_reducible refine Below.setCell ?_ (by first | omega | (simp; done) | (simp; omega)) _ | with_reducible refine Below.trans ?_ (Below.mono (by assumption) (by first | omega | (simp; done) | (simp; omega)))))
        by_cases hneg : D < 0
        · have e : lfK fs (k + 1) = k := by rw [HS.out, if_pos hneg]
          have HE := Lib.hid e
          clear e
          go_wp2_with fail
          go_roundw
          case rel => exact ⟨k + 1, by omega, by go_num, by rw [HE.out], by first | exact hbel.trans (hw.mono hsz) | exact (hbel.trans (hw.mono hsz)).drew⟩
          case measure => simp [intOf]; omega
        · have e : lfK fs (k + 1) = m := by rw [HS.out, if_neg hneg]
          have HE := Lib.hid e
          clear e
          go_wp2_with fail
          go_roundw
          case rel => exact ⟨k + 1, by omega, by go_num, by rw [HE.out], by first | exact hbel.trans (hw.mono hsz) | exact (hbel.trans (hw.mono hsz)).drew⟩
          case measure => simp [intOf]; omega
    · obtain rfl : k = n := by omega
      have hm : lfK fs k < k := by have := lfK_lt fs k; omega
      obtain ⟨m, hmm⟩ : ∃ m, lfK fs k = m := ⟨_, rfl⟩
      have HM := Lib.hid hmm
      rw [hmm] at hm ⊢
      clear hmm
      have L1 : (fs.drop (m * 6)).length = (k - m) * 6 := by rw [List.length_drop, H6.out]; omega
      have L2 : (fs.take (m * 6)).length = m * 6 := by rw [List.length_take, H6.out]; omega
      have D1 : Cells wr b (o + m * 6) (fs.drop (m * 6)) := fun j hj => by
        rw [nth_drop (by rw [L1] at hj; rw [H6.out]; omega), Nat.add_assoc]
        exact (HC.out.below hbel hb) (m * 6 + j) (by rw [L1] at hj; rw [H6.out]; omega)
      have D2 : Cells wr b o (fs.take (m * 6)) := fun j hj => by
        rw [L2] at hj
        rw [nth_take hj (by rw [H6.out]; omega)]
        exact (HC.out.below hbel hb) j (by rw [H6.out]; omega)
      have HK := Lib.hid fun (B : Nat) (W : World) (hw : Below wr.heap.size wr W) (hB : B < W.heap.size) e0 e1 => concatP_any B b (o + m * 6) o (k - m) m (c - m) c (fs.drop (m * 6)) (fs.take (m * 6)) W hB e0 e1 (Nat.lt_of_lt_of_le hbw hw.size) (D1.below hw hbw) (D2.below hw hbw) L1 L2 (by omega) (by omega)
      have j0 : (0 : Int) ≤ (m : Int) := by omega
      have j1 : (m : Int) ≤ (k : Int) := by omega
      have j2 : (m : Int) ≤ (c : Int) := by omega
      have j3 : (k : Int) ≤ (c : Int) := by omega
      have j4 : m ≤ k := by omega
      have j5 : m ≤ c := by omega
      have j6 : ¬ c = m := by omega
      clear D1 D2 L1 L2
      go_wp2_with fail
      go_region_held3 (fun _ => True) (trivial)
        ((go_at_call 151; refine (HK.out _ _ ?_ ?_ ?_ ?_).mono ?_; exact (by (repeat (first | with_reducible exact Below.refl _ _ | with_reducible assumption | with_reducible refine below_drewN ?_ _ | with_reducible refine Below.drew ?_ | with_reducible refine Below.alloc ?_ (by first | omega | (simp; done) | (simp; omega)) _ | with_reducible refine Below.setCell ?_ (by first | omega | (simp; done) | (simp; omega)) _ | with_reducible refine Below.trans ?_ (Below.mono (by assumption) (by first | omega | (simp; done) | (simp; omega)))))); exact (by simp); exact (by simp [go_sem]); exact (by simp [go_sem]); rintro e w5 ⟨v, rfl, o5, b5⟩))
      all_goals
        go_wp2_with fail
        go_ret
        rw [HM.out]
        have hw : Below wr.heap.size wr w5 := by (repeat (first | with_reducible exact Below.refl _ _ | with_reducible assumption | with_reducible refine below_drewN ?_ _ | with_reducible refine Below.drew ?_ | with_reducible refine Below.alloc ?_ (by first | omega | (simp; done) | (simp; omega)) _ | with_reducible refine Below.setCell ?_ (by first | omega | (simp; done) | (simp; omega)) _ | with_reducible refine Below.trans ?_ (Below.mono (by assumption) (by first | omega | (simp; done) | (simp; omega)))))
        rw [show k - m + m = k by omega] at o5
        exact ⟨v, rfl, own_rebase o5 (by simp; omega), hbel.trans (hw.mono hsz)⟩
end Pol
end Go.Proofs.YtafbdnjabgfjeaaDoor
end
section
namespace Go.Proofs.YtafbdnjabgfjeaaDoor
open Go Go.RowKit OriM
namespace Pol
variable {β : Bool}

/-! ### The order of points -/
theorem plusA_swap (p q k l : Int) : plusA q l (-p) k = -plusA p k (-q) l := by
  unfold plusA
  rw [Int.max_comm l k, Int.neg_mul, Int.neg_mul]; omega
theorem cmpV_swap (a b k a' b' k' : Int) : cmpV a' b' k' a b k = -cmpV a b k a' b' k' := by
  unfold cmpV
  rw [Bool.and_comm]
  split
  · rw [plusA_swap a a' k k', plusA_swap b b' k k', Q.sgn2_neg]
  · rfl
theorem eqB_swap (a b k a' b' k' : Int) : eqB a' b' k' a b k = eqB a b k a' b' k' := by
  unfold eqB
  rw [Bool.eq_iff_iff]; simp; constructor <;> (rintro ⟨rfl, rfl, rfl⟩; simp)
theorem cpAt_swap (fs : List Int) (i j : Nat) : cpAt fs j i = -cpAt fs i j := by
  unfold cpAt cpV
  rw [Bool.and_comm, eqB_swap]
  split
  · split
    · exact cmpV_swap ..
    · exact cmpV_swap ..
  · rfl
theorem cpAt_zero {fs : List Int} {i j : Nat} (hi : vAt fs i = true) (hj : vAt fs j = true) (h : cpAt fs i j = 0) : gAt fs i = gAt fs j := by
  unfold cpAt cpV at h
  unfold vAt at hi hj
  rw [hi, hj, Bool.true_and, if_pos rfl] at h
  unfold vP at hi hj
  rw [Bool.and_eq_true] at hi hj
  by_cases he : eqB (nth fs (i * 6)) (nth fs (i * 6 + 1)) (nth fs (i * 6 + 2)) (nth fs (j * 6)) (nth fs (j * 6 + 1)) (nth fs (j * 6 + 2)) = true
  · rw [if_pos he] at h
    have h2 := (cmpV_zero hi.2 hj.2).1 h
    unfold eqB at he h2
    simp only [Bool.and_eq_true, beq_iff_eq] at he h2
    obtain ⟨e0, e1, e2⟩ := he
    obtain ⟨e3, e4, e5⟩ := h2
    unfold gAt
    rw [e0, e1, e2, e3, e4, e5]
  · rw [if_neg he] at h
    exact absurd ((cmpV_zero hi.1 hj.1).1 h) he

/-! ### One turn: the first point is none of the others -/
theorem turned_trS {n : Nat} {fs : List Int} : ∀ k, (turned (fun j => (trn n fs j).toNat) k : Int) = trS n fs k
  | 0 => rfl
  | k + 1 => by
    have h := turned_trS (n := n) (fs := fs) k
    have := trn_range n fs k
    show ((turned _ k + (trn n fs k).toNat : Nat) : Int) = trS n fs k + trn n fs k
    push_cast; omega
theorem first_ne {n : Nat} {fs : List Int} (h : TurnP n fs) {i : Nat} (hi : 0 < i) (hin : i < n) : gAt fs 0 ≠ gAt fs i := by
  obtain ⟨h1, h2, h3⟩ := h
  have key := turn_ne (P := fun k => gAt fs (k % n)) (D := fun k => (dAt n fs k).toNat) (T := fun k => (trn n fs k).toNat) (n := n) (by simp) (by have := dAt_range n fs 0; show (dAt n fs 0).toNat < 16; omega)
    (fun k hk => by
      have := h1 k hk
      show dirOf ((gAt fs ((k + 1) % n)).sub (gAt fs (k % n))) = ((dAt n fs k).toNat : Int)
      rw [Nat.mod_eq_of_lt hk, Int.toNat_of_nonneg this]; rfl)
    (fun k hk => by have := h2 k hk; show 1 ≤ (trn n fs k).toNat; omega)
    (fun k hk => by
      have a := h1 k (by omega)
      have b := h1 (k + 1) hk
      have c := dAt_range n fs k
      have d := dAt_range n fs (k + 1)
      show (dAt n fs (k + 1)).toNat = ((dAt n fs k).toNat + (trn n fs k).toNat) % 16
      unfold trn
      rw [Nat.mod_eq_of_lt hk]
      omega)
    (by have := turned_trS (n := n) (fs := fs) n; rw [h3] at this; omega) hi hin
  simpa [Nat.mod_eq_of_lt hin] using key

/-! ### The least point first -/
theorem lfK_zero {fs : List Int} : ∀ k, lfK fs k = 0 → ∀ j, 0 < j → j < k → ¬ cpAt fs j 0 < 0
  | 0, _, j, _, h => by omega
  | k + 1, h, j, h0, hj => by
    unfold lfK at h
    split at h
    · rename_i hc; omega
    · rename_i hc
      rcases Nat.lt_or_ge j k with hjk | hjk
      · exact lfK_zero k h j h0 hjk
      · obtain rfl : j = k := by omega
        rw [h] at hc; exact hc
theorem lfK_first {fs : List Int} : ∀ k, (∀ j, 0 < j → j < k → ¬ cpAt fs j 0 < 0) → lfK fs k = 0
  | 0, _ => rfl
  | k + 1, h => by
    have ih := lfK_first (fs := fs) k fun j h0 hj => h j h0 (by omega)
    unfold lfK
    rw [ih]
    split
    · rename_i hc
      rcases Nat.eq_zero_or_pos k with rfl | hk
      · rfl
      · exact absurd hc (h k hk (by omega))
    · rfl

/-- A polygon in normal form. -/
def MP (n : Nat) (fs : List Int) : Prop := 3 ≤ n ∧ n ≤ 16 ∧ (∀ k, k < n → vAt fs k = true ∧ (0 < k → cpAt fs 0 k < 0)) ∧ TurnP n fs
theorem mp_iff {n : Nat} {fs : List Int} (h6 : fs.length = n * 6) : (HCo n fs ∧ TurnP n fs ∧ fs = rot fs (lfK fs n)) ↔ MP n fs := by
  constructor
  · rintro ⟨⟨h3, h16, hv⟩, ht, hr⟩
    have hz : lfK fs n = 0 := by
      rcases lfK_lt fs n with h | h
      · exact h
      · rcases Nat.eq_zero_or_pos (lfK fs n) with h0 | h0
        · exact h0
        · exfalso
          refine first_ne ht h0 h ?_
          have e : ∀ i, i < 6 → nth fs i = nth fs (lfK fs n * 6 + i) := fun i hi => by
            have := rot_nth h6 h hi
            rw [← hr] at this; exact this
          unfold gAt
          have e0 := e 0 (by omega)
          have e1 := e 1 (by omega)
          have e2 := e 2 (by omega)
          have e3 := e 3 (by omega)
          have e4 := e 4 (by omega)
          have e5 := e 5 (by omega)
          rw [Nat.add_zero] at e0
          simp only [Nat.zero_mul, Nat.zero_add]
          rw [← e0, ← e1, ← e2, ← e3, ← e4, ← e5]
    refine ⟨h3, h16, fun k hk => ⟨hv k hk, fun h0 => ?_⟩, ht⟩
    have h1 := lfK_zero n hz k h0 hk
    rw [cpAt_swap fs 0 k] at h1
    rcases Int.lt_trichotomy (cpAt fs 0 k) 0 with h | h | h
    · exact h
    · exact absurd (cpAt_zero (hv 0 (by omega)) (hv k hk) h) (first_ne ht h0 hk)
    · omega
  · rintro ⟨h3, h16, hv, ht⟩
    refine ⟨⟨h3, h16, fun k hk => (hv k hk).1⟩, ht, ?_⟩
    rw [lfK_first n fun j h0 hj => by
      have := (hv j hj).2 h0
      rw [cpAt_swap fs 0 j]; omega, rot_zero]

set_option maxHeartbeats 4000000 in
theorem iVPo_any (v : Value) (n : Nat) (fs : List Int) (w : World) (h : SlF w w.heap.size v n fs) (h64 : C64 n fs) (hT : LT true w) (hl : n ≤ 1048576) :
    Calls Tryd.prog 35 #[v] w (RetQb (MP n fs) w) := by
  have H1 := Lib.hid (hasC_any v n fs w h h64 hT hl)
  have H2 := Lib.hid fun (hv : HCo n fs) (w' : World) (hb : Below w.heap.size w w') => turnsO_any v n fs w' ((h.below hb (Nat.le_refl _)).mono hb.size) h64 hv (LT.below hT hb (Nat.le_refl _))
  have H3 := Lib.hid fun (hv : HCo n fs) (w' : World) (hb : Below w.heap.size w w') => leastF_any v n fs w' ((h.below hb (Nat.le_refl _)).mono hb.size) h64 (by have := hv.1; omega) (LT.below hT hb (Nat.le_refl _)) hl
  have HS := Lib.hid h
  have h6 := h.1
  have HM := Lib.hid (mp_iff h6)
  clear h
  obtain ⟨_, A, c, rfl, _, _⟩ := HS.out
  go_enter Tryd.func35, Tryd.ntmps35
  go_wp2_with fail
  refine (H1.out).mono ?_
  rintro e w1 ⟨b, rfl, hb, b1⟩
  cases b
  case false =>
    have HN := Lib.hid (show ¬ HCo n fs from fun h => by have := hb.2 h; cases this)
    clear hb
    go_wp2_with fail
    go_ret
    exact ⟨false, rfl, iff_of_false (by simp) (fun h => HN.out (HM.out.2 h).1), b1⟩
  have HV := Lib.hid (hb.1 rfl)
  clear hb
  go_wp2_with fail
  refine (H2.out HV.out _ b1).mono ?_
  rintro e w2 ⟨b, rfl, hb, b2⟩
  have B2 := b1.trans (b2.mono b1.size)
  cases b
  case false =>
    have HN := Lib.hid (show ¬ TurnP n fs from fun h => by have := hb.2 h; cases this)
    clear hb
    go_wp2_with fail
    go_ret
    exact ⟨false, rfl, iff_of_false (by simp) (fun h => HN.out (HM.out.2 h).2.1), B2⟩
  have HW := Lib.hid (hb.1 rfl)
  clear hb
  go_wp2_with fail
  refine (H3.out HV.out _ B2).mono ?_
  rintro e w3 ⟨v3, rfl, o3, b3⟩
  have B3 := B2.trans (b3.mono B2.size)
  have O3 := Lib.hid o3
  clear o3
  go_wp2_with fail
  refine (iSame_any _ _ n n fs _ _ ((HS.out.below B3 (Nat.le_refl _)).mono B3.size) (OwnF.sl O3.out) hl).mono ?_
  rintro e w4 ⟨r, rfl, hr, m4, rfl⟩
  have HR := Lib.hid hr
  clear hr
  go_wp2_with fail
  go_ret
  exact ⟨r, rfl, by rw [HR.out, ← HM.out]; exact ⟨fun h => ⟨HV.out, HW.out, h⟩, fun h => h.2.2⟩, below_drewN B3 m4⟩
end Pol
end Go.Proofs.YtafbdnjabgfjeaaDoor
end
