/- NormalPolygon: the walk of its law. -/
import Derived.Test.YtafbdnjabgfjeaaDoorPolB
import Derived.Test.YtafbdnjabgfjeaaDoorPsx
import Derived.Test.YtafbdnjabgfjeaaDoorSeqq
section
namespace Go.Proofs.YtafbdnjabgfjeaaDoor
open Go Go.RowKit OriM
namespace Pol
variable {β : Bool}

theorem plus_up {a k a' k' : Int} (h0 : 0 ≤ k) (h1 : k ≤ 10) (h0' : 0 ≤ k') (h1' : k' ≤ 10) : up16 a k.toNat - up16 a' k'.toNat = plusA a k (-a') k' * 2 ^ (16 - max k k').toNat := by
  unfold up16 plusA
  rw [Int.add_mul, Int.mul_assoc, Int.mul_assoc, ← Int.pow_add, ← Int.pow_add, show (max k k' - k).toNat + (16 - max k k').toNat = 16 - k.toNat by omega,
    show (max k k' - k').toNat + (16 - max k k').toNat = 16 - k'.toNat by omega, Int.neg_mul]
  omega
theorem cmpV_up {a b k a' b' k' : Int} (hx : validB a b k = true) (hy : validB a' b' k' = true) :
    cmpV a b k a' b' k' = Q.sgn2 (up16 a k.toNat - up16 a' k'.toNat) (up16 b k.toNat - up16 b' k'.toNat) := by
  obtain ⟨_, _, _, _, k0, k1⟩ := valid_bounds hx
  obtain ⟨_, _, _, _, k0', k1'⟩ := valid_bounds hy
  unfold cmpV
  rw [hx, hy, Bool.and_true, if_pos rfl, plus_up k0 k1 k0' k1', plus_up k0 k1 k0' k1', Q.sgn2_scale (Int.pow_pos (by decide))]
theorem sgn2_neg1 {a b : Int} (h : Q.sgn2 a b < 0) : Q.sgn2 (-a) (-b) = 1 := by
  rw [Q.sgn2_neg]
  rcases sgn2_range a b with e | e | e <;> omega
theorem cmpV_trans {a b k a' b' k' a'' b'' k'' : Int} (hx : validB a b k = true) (hy : validB a' b' k' = true) (hz : validB a'' b'' k'' = true)
    (h : cmpV a b k a' b' k' < 0) (g : cmpV a' b' k' a'' b'' k'' < 0) : cmpV a b k a'' b'' k'' < 0 := by
  rw [cmpV_up hx hy] at h
  rw [cmpV_up hy hz] at g
  rw [cmpV_up hx hz]
  have := add_pos (sgn2_neg1 h) (sgn2_neg1 g)
  rw [show -(up16 a k.toNat - up16 a' k'.toNat) + -(up16 a' k'.toNat - up16 a'' k''.toNat) = -(up16 a k.toNat - up16 a'' k''.toNat) by omega,
    show -(up16 b k.toNat - up16 b' k'.toNat) + -(up16 b' k'.toNat - up16 b'' k''.toNat) = -(up16 b k.toNat - up16 b'' k''.toNat) by omega, Q.sgn2_neg] at this
  omega
theorem cpAt_trans {fs : List Int} {i j k : Nat} (hi : vAt fs i = true) (hj : vAt fs j = true) (hk : vAt fs k = true) (h : cpAt fs i j < 0) (g : cpAt fs j k < 0) : cpAt fs i k < 0 := by
  unfold cpAt cpV at *
  unfold vAt at hi hj hk
  rw [hi, hj, Bool.true_and, if_pos rfl] at h
  rw [hj, hk, Bool.true_and, if_pos rfl] at g
  rw [hi, hk, Bool.true_and, if_pos rfl]
  unfold vP at hi hj hk
  rw [Bool.and_eq_true] at hi hj hk
  have z1 := cmpV_zero hi.1 hj.1
  have z2 := cmpV_zero hj.1 hk.1
  have z3 := cmpV_zero hi.1 hk.1
  have eq : ∀ {a b c a' b' c' : Int}, eqB a b c a' b' c' = true → a = a' ∧ b = b' ∧ c = c' := by
    intro a b c a' b' c' h
    unfold eqB at h
    simpa [and_assoc] using h
  by_cases e1 : eqB (nth fs (i * 6)) (nth fs (i * 6 + 1)) (nth fs (i * 6 + 2)) (nth fs (j * 6)) (nth fs (j * 6 + 1)) (nth fs (j * 6 + 2)) = true
  · obtain ⟨q1, q2, q3⟩ := eq e1
    rw [if_pos e1] at h
    rw [q1, q2, q3]
    by_cases e2 : eqB (nth fs (j * 6)) (nth fs (j * 6 + 1)) (nth fs (j * 6 + 2)) (nth fs (k * 6)) (nth fs (k * 6 + 1)) (nth fs (k * 6 + 2)) = true
    · rw [if_pos e2] at g ⊢
      exact cmpV_trans hi.2 hj.2 hk.2 h g
    · rw [if_neg e2] at g ⊢
      exact g
  · rw [if_neg e1] at h
    by_cases e2 : eqB (nth fs (j * 6)) (nth fs (j * 6 + 1)) (nth fs (j * 6 + 2)) (nth fs (k * 6)) (nth fs (k * 6 + 1)) (nth fs (k * 6 + 2)) = true
    · obtain ⟨q1, q2, q3⟩ := eq e2
      rw [← q1, ← q2, ← q3, if_neg e1]
      exact h
    · rw [if_neg e2] at g
      have t := cmpV_trans hi.1 hj.1 hk.1 h g
      rw [if_neg (fun e => by rw [z3.2 e] at t; omega)]
      exact t
theorem cpAt_self (fs : List Int) (i : Nat) : cpAt fs i i = 0 := by have := cpAt_swap fs i i; omega

theorem lfK_min {n : Nat} {fs : List Int} (hv : ∀ k, k < n → vAt fs k = true) : ∀ k, k ≤ n → ∀ j, j < k → ¬ cpAt fs j (lfK fs k) < 0
  | 0, _, j, h => by omega
  | k + 1, hk, j, hj => by
    have ih := lfK_min hv k (by omega)
    have hm : lfK fs k < n := by have := lfK_lt fs k; omega
    unfold lfK
    split
    · rename_i hc
      intro h
      rcases Nat.lt_or_ge j k with hjk | hjk
      · exact ih j hjk (cpAt_trans (hv j (by omega)) (hv k (by omega)) (hv _ hm) h hc)
      · obtain rfl : j = k := by omega
        rw [cpAt_self] at h; omega
    · rename_i hc
      rcases Nat.lt_or_ge j k with hjk | hjk
      · exact ih j hjk
      · obtain rfl : j = k := by omega
        exact hc

/-! ### In another order -/
/-- fs' has at k what fs has at σ k. -/
def Arr (n : Nat) (fs' fs : List Int) (σ : Nat → Nat) : Prop := ∀ k, k < n → ∀ i, i < 6 → nth fs' (k * 6 + i) = nth fs (σ k * 6 + i)
theorem Arr.six {n : Nat} {fs' fs : List Int} {σ : Nat → Nat} (h : Arr n fs' fs σ) {k : Nat} (hk : k < n) :
    nth fs' (k * 6) = nth fs (σ k * 6) ∧ nth fs' (k * 6 + 1) = nth fs (σ k * 6 + 1) ∧ nth fs' (k * 6 + 2) = nth fs (σ k * 6 + 2) ∧ nth fs' (k * 6 + 3) = nth fs (σ k * 6 + 3) ∧ nth fs' (k * 6 + 4) = nth fs (σ k * 6 + 4) ∧ nth fs' (k * 6 + 5) = nth fs (σ k * 6 + 5) :=
  ⟨h k hk 0 (by omega), h k hk 1 (by omega), h k hk 2 (by omega), h k hk 3 (by omega), h k hk 4 (by omega), h k hk 5 (by omega)⟩
theorem Arr.v {n : Nat} {fs' fs : List Int} {σ : Nat → Nat} (h : Arr n fs' fs σ) {k : Nat} (hk : k < n) : vAt fs' k = vAt fs (σ k) := by
  obtain ⟨e0, e1, e2, e3, e4, e5⟩ := h.six hk
  unfold vAt; rw [e0, e1, e2, e3, e4, e5]
theorem Arr.g {n : Nat} {fs' fs : List Int} {σ : Nat → Nat} (h : Arr n fs' fs σ) {k : Nat} (hk : k < n) : gAt fs' k = gAt fs (σ k) := by
  obtain ⟨e0, e1, e2, e3, e4, e5⟩ := h.six hk
  unfold gAt; rw [e0, e1, e2, e3, e4, e5]
theorem Arr.cp {n : Nat} {fs' fs : List Int} {σ : Nat → Nat} (h : Arr n fs' fs σ) {k j : Nat} (hk : k < n) (hj : j < n) : cpAt fs' k j = cpAt fs (σ k) (σ j) := by
  obtain ⟨e0, e1, e2, e3, e4, e5⟩ := h.six hk
  obtain ⟨d0, d1, d2, d3, d4, d5⟩ := h.six hj
  unfold cpAt; rw [e0, e1, e2, e3, e4, e5, d0, d1, d2, d3, d4, d5]
theorem Arr.eq {n : Nat} {fs' fs'' fs : List Int} {σ : Nat → Nat} (h : Arr n fs' fs σ) (g : Arr n fs'' fs σ) (l : fs'.length = n * 6) (l' : fs''.length = n * 6) : fs' = fs'' := by
  apply List.ext_getElem (by omega)
  intro m h1 h2
  have hm : m / 6 < n := by omega
  have e := (h (m / 6) hm (m % 6) (by omega)).trans (g (m / 6) hm (m % 6) (by omega)).symm
  rw [show m / 6 * 6 + m % 6 = m by omega, nth_of h1, nth_of h2] at e
  exact e
theorem rot_arr {n : Nat} {fs : List Int} (h6 : fs.length = n * 6) {m : Nat} (hm : m < n) : Arr n (rot fs m) fs (fun k => (m + k) % n) := by
  intro k hk i hi
  show nth (rot fs m) (k * 6 + i) = nth fs ((m + k) % n * 6 + i)
  by_cases h : m + k < n
  · rw [Nat.mod_eq_of_lt h]
    unfold rot
    rw [nth_app (by rw [List.length_drop]; omega), nth_drop (by omega), show m * 6 + (k * 6 + i) = (m + k) * 6 + i by omega]
  · have e : (m + k) % n = m + k - n := by rw [Nat.mod_eq_sub_mod (by omega), Nat.mod_eq_of_lt (by omega)]
    rw [e]
    unfold rot
    have := nth_app2 (xs := fs.drop (m * 6)) (ys := fs.take (m * 6)) (k := (m + k - n) * 6 + i) (by rw [List.length_take]; omega)
    rw [List.length_drop, show fs.length - m * 6 + ((m + k - n) * 6 + i) = k * 6 + i by omega] at this
    rw [this, nth_take (by omega) (by omega)]

/-- A least point ahead: a polygon in normal form if and only if it turns once. -/
theorem mp_rot {n : Nat} {fs : List Int} (h6 : fs.length = n * 6) (hv : HCo n fs) {m : Nat} (hm : m < n) (hmin : ∀ j, j < n → ¬ cpAt fs j m < 0) : MP n (rot fs m) ↔ TurnP n (rot fs m) := by
  have ha := rot_arr h6 hm
  have e0 : (m + 0) % n = m := by rw [Nat.add_zero, Nat.mod_eq_of_lt hm]
  constructor
  · exact fun h => h.2.2.2
  · intro ht
    refine ⟨hv.1, hv.2.1, fun k hk => ⟨?_, fun h0 => ?_⟩, ht⟩
    · rw [ha.v hk]; exact hv.2.2 _ (Nat.mod_lt _ (by omega))
    · have h1 : ¬ cpAt (rot fs m) k 0 < 0 := by
        rw [ha.cp hk (by omega)]
        show ¬ cpAt fs ((m + k) % n) ((m + 0) % n) < 0
        rw [e0]; exact hmin _ (Nat.mod_lt _ (by omega))
      rw [cpAt_swap (rot fs m) 0 k] at h1
      rcases Int.lt_trichotomy (cpAt (rot fs m) 0 k) 0 with h | h | h
      · exact h
      · exact absurd (cpAt_zero (by rw [ha.v (by omega)]; exact hv.2.2 _ (Nat.mod_lt _ (by omega))) (by rw [ha.v hk]; exact hv.2.2 _ (Nat.mod_lt _ (by omega))) h) (first_ne ht h0 hk)
      · omega
/-- Two least points: if the polygon that begins with one turns once, they are one. -/
theorem min_one {n : Nat} {fs : List Int} (h6 : fs.length = n * 6) (hv : HCo n fs) {m m' : Nat} (hm : m < n) (hm' : m' < n) (hmin : ∀ j, j < n → ¬ cpAt fs j m < 0) (hmin' : ∀ j, j < n → ¬ cpAt fs j m' < 0)
    (ht : TurnP n (rot fs m)) : m' = m := by
  have ha := rot_arr h6 hm
  have e : gAt fs m = gAt fs m' := cpAt_zero (hv.2.2 _ hm) (hv.2.2 _ hm') (by
    have a := hmin' m hm
    have b := hmin m' hm'
    rw [cpAt_swap fs m m'] at b; omega)
  rcases Nat.lt_trichotomy m' m with h | h | h
  · refine absurd ?_ (first_ne ht (i := m' + n - m) (by omega) (by omega))
    rw [ha.g (by omega), ha.g (by omega)]
    show gAt fs ((m + 0) % n) = gAt fs ((m + (m' + n - m)) % n)
    rw [Nat.add_zero, Nat.mod_eq_of_lt hm, show m + (m' + n - m) = m' + n by omega, Nat.add_mod_right, Nat.mod_eq_of_lt hm']
    exact e
  · exact h
  · refine absurd ?_ (first_ne ht (i := m' - m) (by omega) (by omega))
    rw [ha.g (by omega), ha.g (by omega)]
    show gAt fs ((m + 0) % n) = gAt fs ((m + (m' - m)) % n)
    rw [Nat.add_zero, Nat.mod_eq_of_lt hm, show m + (m' - m) = m' by omega, Nat.mod_eq_of_lt hm']
    exact e
end Pol
end Go.Proofs.YtafbdnjabgfjeaaDoor
end
section
namespace Go.Proofs.YtafbdnjabgfjeaaDoor
open Go Go.RowKit OriM
namespace Pol
variable {β : Bool}

/-- The points in reverse order. -/
def rvc (n : Nat) (fs : List Int) (m : Nat) : Int := nth fs ((n - 1 - m / 6) * 6 + m % 6)
def revL (n : Nat) (fs : List Int) : List Int := tab (rvc n fs) (n * 6)
theorem rvc_at (n : Nat) (fs : List Int) (k : Nat) {i : Nat} (hi : i < 6) : rvc n fs (k * 6 + i) = nth fs ((n - 1 - k) * 6 + i) := by
  unfold rvc
  rw [show (k * 6 + i) / 6 = k by omega, show (k * 6 + i) % 6 = i by omega]
theorem revL_len (n : Nat) (fs : List Int) : (revL n fs).length = n * 6 := tab_len _ _
theorem revL_arr (n : Nat) (fs : List Int) : Arr n (revL n fs) fs (fun k => n - 1 - k) := by
  intro k hk i hi
  show nth (revL n fs) (k * 6 + i) = nth fs ((n - 1 - k) * 6 + i)
  unfold revL
  rw [tab_nth (by omega), rvc_at n fs k hi]
theorem rev_six (n : Nat) (fs : List Int) (k : Nat) :
    tab (rvc n fs) (k * 6) ++ [nth fs ((n - 1 - k) * 6), nth fs ((n - 1 - k) * 6 + 1), nth fs ((n - 1 - k) * 6 + 2), nth fs ((n - 1 - k) * 6 + 3), nth fs ((n - 1 - k) * 6 + 4), nth fs ((n - 1 - k) * 6 + 5)] = tab (rvc n fs) ((k + 1) * 6) := by
  have e0 := rvc_at n fs k (i := 0) (by omega)
  have e1 := rvc_at n fs k (i := 1) (by omega)
  have e2 := rvc_at n fs k (i := 2) (by omega)
  have e3 := rvc_at n fs k (i := 3) (by omega)
  have e4 := rvc_at n fs k (i := 4) (by omega)
  have e5 := rvc_at n fs k (i := 5) (by omega)
  rw [Nat.add_zero, Nat.add_zero] at e0
  rw [show (k + 1) * 6 = k * 6 + 1 + 1 + 1 + 1 + 1 + 1 by omega, tab_succ, tab_succ, tab_succ, tab_succ, tab_succ, tab_succ, e0, e1, show k * 6 + 1 + 1 = k * 6 + 2 by omega, e2,
    show k * 6 + 2 + 1 = k * 6 + 3 by omega, e3, show k * 6 + 3 + 1 = k * 6 + 4 by omega, e4, show k * 6 + 4 + 1 = k * 6 + 5 by omega, e5]
  simp

set_option maxHeartbeats 8000000 in
set_option maxRecDepth 100000 in
theorem reversed_any (v : Value) (n : Nat) (fs : List Int) (w : World) (h : SlF w w.heap.size v n fs) (hl : n ≤ 1048576) :
    Calls Tryd.prog 93 #[v] w (RetOF n (revL n fs) w) := by
  obtain ⟨h6, A, c, rfl, hc, hcell⟩ := h
  have HC := Lib.hid hcell
  have H6 := Lib.hid h6
  have HW := Lib.hid (World.ownsRow_lit (base := w.heap.size) (e := 33) (size := 6) w #[] 0 (Nat.le_refl _) (by decide) rfl)
  have HB := Lib.hid ((Below.refl w.heap.size w).alloc (Nat.le_refl _) (.cells #[] 33))
  clear hcell h6
  obtain ⟨i0, hi, hz0, hz1, hz2⟩ := info_parts infoP
  have e0 : IntKind.i64.wrap ((n : Int) - 1) = (n : Int) - 1 := wrap_in (by omega) (by omega)
  go_enter Tryd.func93, Tryd.ntmps93
  go_wp2_with fail
  go_loopw [3, 4] (fun q i wr => ∃ k : Nat, k ≤ n ∧ i = .int .i64 ((n : Int) - 1 - k) ∧ wr.ownsRow w.heap.size 33 6 q k ((tab (rvc n fs) (k * 6)).map (Value.int .i64)) ∧ Below w.heap.size w wr) (fun _ i _ => (intOf i + 1).toNat)
  case atStart => exact ⟨0, Nat.zero_le _, by simp, HW.out, HB.out⟩
  case round =>
    obtain ⟨k, hk, rfl, hown, hbel⟩ := hrel
    by_cases hlt : k < n
    · obtain ⟨j, hj⟩ : ∃ j, n - 1 - k = j := ⟨_, rfl⟩
      have hjn : j < n := by omega
      have hji : (n : Int) - 1 - k = (j : Int) := by omega
      obtain ⟨b, o, rfl, hb, hcs⟩ := HC.out (by omega)
      obtain ⟨a0, a1, a2, a3, a4, a5⟩ := six (hcs.below hbel hb) H6.out hjn
      have hsz := hbel.size
      have hbw : b < wr.heap.size := by omega
      have HS := Lib.hid (rev_six n fs k)
      rw [hj] at HS
      rw [hji]
      have HJ := Lib.hid hji
      have j0 : (0 : Int) ≤ (j : Int) := by omega
      have j1 : (j : Int) < (n : Int) := by omega
      have e1 : IntKind.i64.wrap ((j : Int) - 1) = (j : Int) - 1 := wrap_in (by omega) (by omega)
      have j2 : (j : Int) - 1 = (n : Int) - 1 - ((k + 1 : Nat) : Int) := by omega
      clear hcs hji hj
      go_wp2_with (at_builtin; refine wpList_append_own _ rfl _ _ 60 rfl w.heap.size 33 i0 (p6v 0 0 0 0 0 0) 6 48 Tryd.underlying60 hi hz0 hz1 hz2 rfl (by decide) _ _ _ rfl (hown.alloc _) ⟨wr.heap.size, 0, none⟩ 1 1 ([nth fs (j * 6), nth fs (j * 6 + 1), nth fs (j * 6 + 2), nth fs (j * 6 + 3), nth fs (j * 6 + 4), nth fs (j * 6 + 5)].map (Value.int .i64)) rfl rfl (World.news_of_block (cs := #[.int .i64 (nth fs (j * 6)), .int .i64 (nth fs (j * 6 + 1)), .int .i64 (nth fs (j * 6 + 2)), .int .i64 (nth fs (j * 6 + 3)), .int .i64 (nth fs (j * 6 + 4)), .int .i64 (nth fs (j * 6 + 5))]) (t := 33) (fr := (0, 0)) (heap_alloc_new wr _)) (ints_one _) (by unfold maxLen; omega) (by omega) (by simp; omega) ?_; intro v' w2 hown1 hgrow1 _)
      have HB1 := (hbel.alloc hsz (.cells #[.int .i64 (nth fs (j * 6)), .int .i64 (nth fs (j * 6 + 1)), .int .i64 (nth fs (j * 6 + 2)), .int .i64 (nth fs (j * 6 + 3)), .int .i64 (nth fs (j * 6 + 4)), .int .i64 (nth fs (j * 6 + 5))] 33)).grown hgrow1 (by simp; omega) (fun k hk => (own_row hown k hk).1)
      clear hgrow1
      go_wp2_with fail
      go_roundw
      case rel =>
        refine ⟨k + 1, by omega, by push_cast; rfl, ?_, HB1⟩
        rw [← HS.out, List.map_append]
        exact hown1
      case measure => have := HJ.out; simp [intOf]; omega
    · obtain rfl : k = n := by omega
      rw [show (k : Int) - 1 - k = -1 by omega]
      go_wp2_with fail
      go_ret
      exact ⟨_, rfl, hown, hbel⟩

set_option maxHeartbeats 8000000 in
set_option maxRecDepth 100000 in
theorem turned_any (v : Value) (n : Nat) (fs : List Int) (w : World) (h : SlF w w.heap.size v n fs) (hv : ∀ k, k < n → vAt fs k = true) (hn : 0 < n) (hT : LT β w) (hl : n ≤ 1048576) :
    Calls Tryd.prog 92 #[v] w (RetOF n (rot fs (lfK fs n)) w) := by
  obtain ⟨h6, A, c, rfl, hc, hcell⟩ := h
  obtain ⟨b, o, rfl, hb, hcs⟩ := hcell hn
  have HC := Lib.hid hcs
  have H6 := Lib.hid h6
  have HV := Lib.hid hv
  clear hcs hcell h6 hv
  obtain ⟨i0, hi, hz0, hz1, hz2⟩ := info_parts infoP
  go_enter Tryd.func92, Tryd.ntmps92
  go_wp2_with fail
  go_loopw [3, 4] (fun q i wr => ∃ k : Nat, 0 < k ∧ k ≤ n ∧ i = .int .i64 k ∧ q = .int .i64 (lfK fs k : Nat) ∧ Below w.heap.size w wr) (fun _ i _ => n - (intOf i).toNat)
  case atStart =>
    refine ⟨1, by omega, by omega, rfl, ?_, Below.refl _ _⟩
    have : lfK fs 1 = 0 := by unfold lfK; split <;> rfl
    rw [this]; rfl
  case round =>
    obtain ⟨k, hk0, hk, rfl, rfl, hbel⟩ := hrel
    have hsz := hbel.size
    have hbw : b < wr.heap.size := by omega
    by_cases hlt : k < n
    · have hm : lfK fs k < n := by have := lfK_lt fs k; omega
      have HS : Hid (lfK fs (k + 1) = if cpAt fs k (lfK fs k) < 0 then k else lfK fs k) := Lib.hid rfl
      obtain ⟨m, hmm⟩ : ∃ m, lfK fs k = m := ⟨_, rfl⟩
      rw [hmm] at hm HS ⊢
      have HF := Lib.hid (fun w (hT : LT β w) => sBf_at (HV.out k hlt) (HV.out m hm) w hT)
      obtain ⟨a0, a1, a2, a3, a4, a5⟩ := six (HC.out.below hbel hb) H6.out hlt
      obtain ⟨d0, d1, d2, d3, d4, d5⟩ := six (HC.out.below hbel hb) H6.out hm
      obtain ⟨D, hD⟩ : ∃ D, cpAt fs k m = D := ⟨_, rfl⟩
      rw [hD] at HF HS
      clear hD hmm
      have j0 : (0 : Int) ≤ (k : Int) := by omega
      have j1 : (k : Int) < (n : Int) := by omega
      have j2 : (0 : Int) ≤ (m : Int) := by omega
      have j3 : (m : Int) < (n : Int) := by omega
      have e1 : IntKind.i64.wrap ((k : Int) + 1) = (k : Int) + 1 := wrap_in (by omega) (by omega)
      go_wp2_with fail
      go_region_held3 (fun w' => w'.cell? ⟨b, o + k * 6, none⟩ = some (.int .i64 (nth fs (k * 6))) ∧ w'.cell? ⟨b, o + k * 6 + 1, none⟩ = some (.int .i64 (nth fs (k * 6 + 1))) ∧ w'.cell? ⟨b, o + k * 6 + 2, none⟩ = some (.int .i64 (nth fs (k * 6 + 2))) ∧ w'.cell? ⟨b, o + k * 6 + 3, none⟩ = some (.int .i64 (nth fs (k * 6 + 3))) ∧ w'.cell? ⟨b, o + k * 6 + 4, none⟩ = some (.int .i64 (nth fs (k * 6 + 4))) ∧ w'.cell? ⟨b, o + k * 6 + 5, none⟩ = some (.int .i64 (nth fs (k * 6 + 5))) ∧ w'.cell? ⟨b, o + m * 6, none⟩ = some (.int .i64 (nth fs (m * 6))) ∧ w'.cell? ⟨b, o + m * 6 + 1, none⟩ = some (.int .i64 (nth fs (m * 6 + 1))) ∧ w'.cell? ⟨b, o + m * 6 + 2, none⟩ = some (.int .i64 (nth fs (m * 6 + 2))) ∧ w'.cell? ⟨b, o + m * 6 + 3, none⟩ = some (.int .i64 (nth fs (m * 6 + 3))) ∧ w'.cell? ⟨b, o + m * 6 + 4, none⟩ = some (.int .i64 (nth fs (m * 6 + 4))) ∧ w'.cell? ⟨b, o + m * 6 + 5, none⟩ = some (.int .i64 (nth fs (m * 6 + 5)))) ((first | (go_simp; done) | (simp [*]; done)))
        ((go_at_call 142; refine (HF.out _ ?_).mono ?_; exact LT.below (w := w) hT (by (repeat (first | with_reducible exact Below.refl _ _ | with_reducible assumption | with_reducible refine below_drewN ?_ _ | with_reducible refine Below.drew ?_ | with_reducible refine Below.alloc ?_ (by first | omega | (simp; done) | (simp; omega)) _ | with_reducible refine Below.setCell ?_ (by first | omega | (simp; done) | (simp; omega)) _ | with_reducible refine Below.trans ?_ (Below.mono (by assumption) (by first | omega | (simp; done) | (simp; omega)))))) (Nat.le_refl _); rintro e w5 ⟨rfl, hb5⟩; (try replace hb5 := Below.undrew hb5); obtain ⟨hc5, hf5⟩ := bcell hb5; have hz5 := hb5.size; (try simp at hz5); have z5a : b < w5.heap.size := (by omega)))
      all_goals
        have hw : Below wr.heap.size wr w5 := by (repeat (first | with_reducible exact Below.refl _ _ | with_reducible assumption | with_reducible refine below_drewN ?_ _ | with_reducible refine Below.drew ?_ | with_reducible refine Below.alloc ?_ (by first | omega | (simp; done) | (simp; omega)) _ | with_reducible refine Below.setCell ?_ (by first | omega | (simp; done) | (simp; omega)) _ | with_reducible refine Below.trans ?_ (Below.mono (by assumption) (by first | omega | (simp; done) | (simp; omega)))))
        by_cases hneg : D < 0
        · have e : lfK fs (k + 1) = k := by rw [HS.out, if_pos hneg]
          have HE := Lib.hid e
          clear e
          go_wp2_with fail
          go_roundw
          case rel => exact ⟨k + 1, by omega, by omega, by go_num, by rw [HE.out], by first | exact hbel.trans (hw.mono hsz) | exact (hbel.trans (hw.mono hsz)).drew⟩
          case measure => simp [intOf]; omega
        · have e : lfK fs (k + 1) = m := by rw [HS.out, if_neg hneg]
          have HE := Lib.hid e
          clear e
          go_wp2_with fail
          go_roundw
          case rel => exact ⟨k + 1, by omega, by omega, by go_num, by rw [HE.out], by first | exact hbel.trans (hw.mono hsz) | exact (hbel.trans (hw.mono hsz)).drew⟩
          case measure => simp [intOf]; omega
    · obtain rfl : k = n := by omega
      have hm : lfK fs k < k := by have := lfK_lt fs k; omega
      obtain ⟨m, hmm⟩ : ∃ m, lfK fs k = m := ⟨_, rfl⟩
      have HM := Lib.hid hmm
      rw [hmm] at hm ⊢
      clear hmm
      have L1 : (fs.drop (m * 6)).length = (k - m) * 6 := by rw [List.length_drop, H6.out]; omega
      have L2 : (fs.take (m * 6)).length = m * 6 := by rw [List.length_take, H6.out]; omega
      have D1 : Cells wr b (o + m * 6) (fs.drop (m * 6)) := fun j hj => by
        rw [nth_drop (by rw [L1] at hj; rw [H6.out]; omega), Nat.add_assoc]
        exact (HC.out.below hbel hb) (m * 6 + j) (by rw [L1] at hj; rw [H6.out]; omega)
      have D2 : Cells wr b o (fs.take (m * 6)) := fun j hj => by
        rw [L2] at hj
        rw [nth_take hj (by rw [H6.out]; omega)]
        exact (HC.out.below hbel hb) j (by rw [H6.out]; omega)
      have HW := World.ownsRow_lit (base := wr.heap.size) (e := 33) (size := 6) wr #[] 0 (Nat.le_refl _) (by decide) rfl
      have HB := (Below.refl wr.heap.size wr).alloc (Nat.le_refl _) (.cells #[] 33)
      have HD1 := Lib.hid D1
      have HD2 := Lib.hid D2
      have HL1 := Lib.hid L1
      have HL2 := Lib.hid L2
      have j0 : (0 : Int) ≤ (m : Int) := by omega
      have j1 : (m : Int) ≤ (k : Int) := by omega
      have j2 : (m : Int) ≤ (c : Int) := by omega
      have j3 : (k : Int) ≤ (c : Int) := by omega
      have j4 : m ≤ k := by omega
      have j5 : m ≤ c := by omega
      have j6 : ¬ c = m := by omega
      clear D1 D2 L1 L2
      go_wp2_with (at_builtin; first
        | (refine wpList_append_own _ rfl _ _ 60 rfl wr.heap.size 33 i0 (p6v 0 0 0 0 0 0) 6 48 Tryd.underlying60 hi hz0 hz1 hz2 rfl (by decide) _ _ _ rfl HW ⟨b, o + m * 6, none⟩ (k - m) (c - m) ((fs.drop (m * 6)).map (Value.int .i64)) rfl (by rw [List.length_map]; exact HL1.out) (sl_news (HD1.out.below HB hbw)) (ints_one _) (by unfold maxLen; omega) (by omega) (by rw [World.size_alloc]; omega) ?_; intro v1 w1 hown1 hgrow1 _; have B1 := HB.grown hgrow1 (by rw [World.size_alloc]; omega) (fun k hk => (own_row HW k hk).1))
        | (refine wpList_append_own _ rfl _ _ 60 rfl wr.heap.size 33 i0 (p6v 0 0 0 0 0 0) 6 48 Tryd.underlying60 hi hz0 hz1 hz2 rfl (by decide) _ _ _ rfl hown1 ⟨b, o, none⟩ m c ((fs.take (m * 6)).map (Value.int .i64)) rfl (by rw [List.length_map]; exact HL2.out) (sl_news (HD2.out.below B1 hbw)) (ints_one _) (by unfold maxLen; omega) (by omega) (by have := (own_row HW); have := B1.size; omega) ?_; intro v2 w2 hown2 hgrow2 _; have B2 := B1.grown hgrow2 B1.size (fun k hk => (own_row hown1 k hk).1)))
      go_ret
      refine ⟨_, rfl, ?_, hbel.trans (B2.mono hsz)⟩
      rw [HM.out]
      rw [List.nil_append, ← List.map_append, show 0 + (k - m) + m = k by omega] at hown2
      exact own_rebase hown2 hsz
end Pol
end Go.Proofs.YtafbdnjabgfjeaaDoor
end
section
namespace Go.Proofs.YtafbdnjabgfjeaaDoor
open Go Go.RowKit OriM
namespace Pol
variable {β : Bool}

/-- xs with the six numbers a at point p. -/
def set6 (xs : List Int) (p : Nat) (a0 a1 a2 a3 a4 a5 : Int) : List Int := (((((xs.set (p * 6) a0).set (p * 6 + 1) a1).set (p * 6 + 2) a2).set (p * 6 + 3) a3).set (p * 6 + 4) a4).set (p * 6 + 5) a5
theorem set6_len (xs : List Int) (p : Nat) (a0 a1 a2 a3 a4 a5 : Int) : (set6 xs p a0 a1 a2 a3 a4 a5).length = xs.length := by simp [set6]
theorem own_set6 {w : World} {base g n c : Nat} {xs : List Int} (h : OwnF w base (.slice (some ⟨g, 0, none⟩) n c) n xs) (p : Nat) (a0 a1 a2 a3 a4 a5 : Int) :
    OwnF ((((((w.setCell ⟨g, p * 6, none⟩ (.int .i64 a0)).setCell ⟨g, p * 6 + 1, none⟩ (.int .i64 a1)).setCell ⟨g, p * 6 + 2, none⟩ (.int .i64 a2)).setCell ⟨g, p * 6 + 3, none⟩ (.int .i64 a3)).setCell ⟨g, p * 6 + 4, none⟩ (.int .i64 a4)).setCell ⟨g, p * 6 + 5, none⟩ (.int .i64 a5)) base (.slice (some ⟨g, 0, none⟩) n c) n (set6 xs p a0 a1 a2 a3 a4 a5) := by
  unfold OwnF set6 at *
  have h0 := (h.stored (p * 6) (.int .i64 a0)).1
  have h1 := (h0.stored (p * 6 + 1) (.int .i64 a1)).1
  have h2 := (h1.stored (p * 6 + 2) (.int .i64 a2)).1
  have h3 := (h2.stored (p * 6 + 3) (.int .i64 a3)).1
  have h4 := (h3.stored (p * 6 + 4) (.int .i64 a4)).1
  have h5 := (h4.stored (p * 6 + 5) (.int .i64 a5)).1
  rw [← List.map_set, ← List.map_set, ← List.map_set, ← List.map_set, ← List.map_set, ← List.map_set] at h5
  exact h5
theorem own_drew {w : World} {base n : Nat} {v : Value} {xs : List Int} (h : OwnF w base v n xs) : OwnF w.drew base v n xs := own_below h ((Below.refl _ _).drew) (Nat.le_refl _)
theorem below_six {w w1 : World} {base g : Nat} (h : Below base w w1) (hg : base ≤ g) (o : Nat) (a0 a1 a2 a3 a4 a5 : Value) :
    Below base w ((((((w1.setCell ⟨g, o, none⟩ a0).setCell ⟨g, o + 1, none⟩ a1).setCell ⟨g, o + 2, none⟩ a2).setCell ⟨g, o + 3, none⟩ a3).setCell ⟨g, o + 4, none⟩ a4).setCell ⟨g, o + 5, none⟩ a5) :=
  (((((h.setCell (p := ⟨g, o, none⟩) hg a0).setCell (p := ⟨g, o + 1, none⟩) hg a1).setCell (p := ⟨g, o + 2, none⟩) hg a2).setCell (p := ⟨g, o + 3, none⟩) hg a3).setCell (p := ⟨g, o + 4, none⟩) hg a4).setCell (p := ⟨g, o + 5, none⟩) hg a5
/-- Point p is now what fs has at q. -/
theorem arr_set6 {n : Nat} {xs fs : List Int} {σ : Nat → Nat} (h : Arr n xs fs σ) (hl : xs.length = n * 6) {p : Nat} (hp : p < n) (q : Nat) :
    Arr n (set6 xs p (nth fs (q * 6)) (nth fs (q * 6 + 1)) (nth fs (q * 6 + 2)) (nth fs (q * 6 + 3)) (nth fs (q * 6 + 4)) (nth fs (q * 6 + 5))) fs (fun k => if k = p then q else σ k) := by
  intro k hk i hi
  show nth _ (k * 6 + i) = nth fs ((if k = p then q else σ k) * 6 + i)
  unfold set6
  rw [nth_set (by simp; omega), nth_set (by simp; omega), nth_set (by simp; omega), nth_set (by simp; omega), nth_set (by simp; omega), nth_set (by omega)]
  by_cases hkp : k = p
  · subst hkp
    rw [if_pos rfl]
    rcases (show i = 0 ∨ i = 1 ∨ i = 2 ∨ i = 3 ∨ i = 4 ∨ i = 5 by omega) with rfl | rfl | rfl | rfl | rfl | rfl <;> simp
  · rw [if_neg hkp, if_neg (by omega), if_neg (by omega), if_neg (by omega), if_neg (by omega), if_neg (by omega), if_neg (by omega)]
    exact h k hk i hi
theorem Arr.cong {n : Nat} {xs fs : List Int} {σ τ : Nat → Nat} (h : Arr n xs fs σ) (e : ∀ k, k < n → σ k = τ k) : Arr n xs fs τ := by
  intro k hk i hi
  rw [h k hk i hi, e k hk]
/-- The order after k swaps behind the first point. -/
def swp (n k p : Nat) : Nat := if (1 ≤ p ∧ p < 1 + k) ∨ (n - 1 - k < p ∧ p ≤ n - 1) then n - p else p

/-- The row is turned round behind its first point: nothing else has turned. -/
def RetRt (g c base n : Nat) (fs : List Int) (w : World) (e : Ending) (w' : World) : Prop := e = .returned (.tuple #[]) ∧ (∃ xs, OwnF w' base (.slice (some ⟨g, 0, none⟩) n c) n xs ∧ Arr n xs fs (fun p => if p = 0 then 0 else n - p)) ∧ Below base w w'

set_option maxHeartbeats 8000000 in
set_option maxRecDepth 10000 in
theorem reverseP_any (g c base n : Nat) (fs : List Int) (w : World) (h : OwnF w base (.slice (some ⟨g, 0, none⟩) n c) n fs) (hn : 3 ≤ n) (hl : n ≤ 1048576) (hg : base ≤ g) :
    Calls Tryd.prog 94 #[.slice (some ⟨g, 6, none⟩) (n - 1) (c - 1)] w (RetRt g c base n fs w) := by
  have H6 := Lib.hid (OwnF.len h)
  have e0 : IntKind.i64.wrap (((n - 1 : Nat) : Int) - 1) = ((n - 2 : Nat) : Int) := by rw [show ((n - 1 : Nat) : Int) - 1 = ((n - 2 : Nat) : Int) by omega]; exact wrap_in (by omega) (by omega)
  go_enter Tryd.func94, Tryd.ntmps94
  go_wp2_with fail
  go_loopw [2, 3] (fun i j wr => ∃ k m : Nat, k + m + 2 = n ∧ k ≤ m + 1 ∧ i = .int .i64 k ∧ j = .int .i64 m ∧ (∃ xs, OwnF wr base (.slice (some ⟨g, 0, none⟩) n c) n xs ∧ Arr n xs fs (swp n k)) ∧ Below base w wr) (fun _ j _ => (intOf j).toNat)
  case atStart => exact ⟨0, n - 2, by omega, by omega, rfl, by first | rfl | go_num, ⟨fs, h, fun k hk i hi => by show nth fs (k * 6 + i) = nth fs (swp n 0 k * 6 + i); rw [swp, if_neg (by omega)]⟩, Below.refl _ _⟩
  case round =>
    obtain ⟨k, j, hkj, hkm, rfl, rfl, ⟨xs, hown, harr⟩, hbel⟩ := hrel
    have hx := OwnF.len hown
    by_cases hlt : k < j
    · have ha := harr.six (k := 1 + k) (by omega)
      have hb := harr.six (k := 1 + j) (by omega)
      rw [show swp n k (1 + k) = 1 + k by rw [swp, if_neg (by omega)]] at ha
      rw [show swp n k (1 + j) = 1 + j by rw [swp, if_neg (by omega)]] at hb
      obtain ⟨a0, a1, a2, a3, a4, a5⟩ := ha
      obtain ⟨b0, b1, b2, b3, b4, b5⟩ := hb
      have e1 : (1 + k) * 6 = 6 + k * 6 := by omega
      have e2 : (1 + j) * 6 = 6 + j * 6 := by omega
      rw [e1] at a0 a1 a2 a3 a4 a5
      rw [e2] at b0 b1 b2 b3 b4 b5
      have p0 := ownF_cell hown (k := 6 + k * 6) (by omega)
      have p1 := ownF_cell hown (k := 6 + k * 6 + 1) (by omega)
      have p2 := ownF_cell hown (k := 6 + k * 6 + 2) (by omega)
      have p3 := ownF_cell hown (k := 6 + k * 6 + 3) (by omega)
      have p4 := ownF_cell hown (k := 6 + k * 6 + 4) (by omega)
      have p5 := ownF_cell hown (k := 6 + k * 6 + 5) (by omega)
      have q0 := ownF_cell hown (k := 6 + j * 6) (by omega)
      have q1 := ownF_cell hown (k := 6 + j * 6 + 1) (by omega)
      have q2 := ownF_cell hown (k := 6 + j * 6 + 2) (by omega)
      have q3 := ownF_cell hown (k := 6 + j * 6 + 3) (by omega)
      have q4 := ownF_cell hown (k := 6 + j * 6 + 4) (by omega)
      have q5 := ownF_cell hown (k := 6 + j * 6 + 5) (by omega)
      rw [a0] at p0; rw [a1] at p1; rw [a2] at p2; rw [a3] at p3; rw [a4] at p4; rw [a5] at p5
      rw [b0] at q0; rw [b1] at q1; rw [b2] at q2; rw [b3] at q3; rw [b4] at q4; rw [b5] at q5
      have f0 := hown.frozenAt (6 + k * 6)
      have f1 := hown.frozenAt (6 + k * 6 + 1)
      have f2 := hown.frozenAt (6 + k * 6 + 2)
      have f3 := hown.frozenAt (6 + k * 6 + 3)
      have f4 := hown.frozenAt (6 + k * 6 + 4)
      have f5 := hown.frozenAt (6 + k * 6 + 5)
      have g0 := hown.frozenAt (6 + j * 6)
      have g1 := hown.frozenAt (6 + j * 6 + 1)
      have g2 := hown.frozenAt (6 + j * 6 + 2)
      have g3 := hown.frozenAt (6 + j * 6 + 3)
      have g4 := hown.frozenAt (6 + j * 6 + 4)
      have g5 := hown.frozenAt (6 + j * 6 + 5)
      have HS := own_set6 (own_set6 hown (1 + k) (nth fs ((1 + j) * 6)) (nth fs ((1 + j) * 6 + 1)) (nth fs ((1 + j) * 6 + 2)) (nth fs ((1 + j) * 6 + 3)) (nth fs ((1 + j) * 6 + 4)) (nth fs ((1 + j) * 6 + 5))) (1 + j) (nth fs ((1 + k) * 6)) (nth fs ((1 + k) * 6 + 1)) (nth fs ((1 + k) * 6 + 2)) (nth fs ((1 + k) * 6 + 3)) (nth fs ((1 + k) * 6 + 4)) (nth fs ((1 + k) * 6 + 5))
      have HA := arr_set6 (arr_set6 harr hx (p := 1 + k) (by omega) (1 + j)) (by rw [set6_len]; exact hx) (p := 1 + j) (by omega) (1 + k)
      rw [e1, e2] at HA
      have HA' := Lib.hid (HA.cong (τ := swp n (k + 1)) (fun p hp => by
        show (if p = 1 + j then 1 + k else if p = 1 + k then 1 + j else swp n k p) = swp n (k + 1) p
        unfold swp
        by_cases h1 : p = 1 + j
        · rw [if_pos h1, if_pos (by omega)]; omega
        · rw [if_neg h1]
          by_cases h2 : p = 1 + k
          · rw [if_pos h2, if_pos (by omega)]; omega
          · rw [if_neg h2]
            by_cases h3 : (1 ≤ p ∧ p < 1 + k) ∨ (n - 1 - k < p ∧ p ≤ n - 1)
            · rw [if_pos h3, if_pos (by omega)]
            · rw [if_neg h3, if_neg (by omega)]))
      rw [e1, e2] at HS
      have HK := Lib.hid hkj
      have k1 : k < n - 1 := by omega
      have k2 : j < n - 1 := by omega
      have k3 : (k : Int) < ((n - 1 : Nat) : Int) := by omega
      have k4 : (j : Int) < ((n - 1 : Nat) : Int) := by omega
      have k5 : (0 : Int) ≤ (k : Int) := by omega
      have k6 : (0 : Int) ≤ (j : Int) := by omega
      have w1 : IntKind.i64.wrap ((k : Int) + 1) = (k : Int) + 1 := wrap_in (by omega) (by omega)
      have w2 : IntKind.i64.wrap ((j : Int) - 1) = ((j - 1 : Nat) : Int) := by rw [show (j : Int) - 1 = ((j - 1 : Nat) : Int) by omega]; exact wrap_in (by omega) (by omega)
      clear HA a0 a1 a2 a3 a4 a5 b0 b1 b2 b3 b4 b5 hown harr hx hkj
      have n00 : ¬ (6 + k * 6 = 6 + j * 6) := by omega
      have m00 : ¬ (6 + j * 6 = 6 + k * 6) := by omega
      have n01 : ¬ (6 + k * 6 = 6 + j * 6 + 1) := by omega
      have m01 : ¬ (6 + j * 6 + 1 = 6 + k * 6) := by omega
      have n02 : ¬ (6 + k * 6 = 6 + j * 6 + 2) := by omega
      have m02 : ¬ (6 + j * 6 + 2 = 6 + k * 6) := by omega
      have n03 : ¬ (6 + k * 6 = 6 + j * 6 + 3) := by omega
      have m03 : ¬ (6 + j * 6 + 3 = 6 + k * 6) := by omega
      have n04 : ¬ (6 + k * 6 = 6 + j * 6 + 4) := by omega
      have m04 : ¬ (6 + j * 6 + 4 = 6 + k * 6) := by omega
      have n05 : ¬ (6 + k * 6 = 6 + j * 6 + 5) := by omega
      have m05 : ¬ (6 + j * 6 + 5 = 6 + k * 6) := by omega
      have n10 : ¬ (6 + k * 6 + 1 = 6 + j * 6) := by omega
      have m10 : ¬ (6 + j * 6 = 6 + k * 6 + 1) := by omega
      have n20 : ¬ (6 + k * 6 + 2 = 6 + j * 6) := by omega
      have m20 : ¬ (6 + j * 6 = 6 + k * 6 + 2) := by omega
      have n30 : ¬ (6 + k * 6 + 3 = 6 + j * 6) := by omega
      have m30 : ¬ (6 + j * 6 = 6 + k * 6 + 3) := by omega
      have n40 : ¬ (6 + k * 6 + 4 = 6 + j * 6) := by omega
      have m40 : ¬ (6 + j * 6 = 6 + k * 6 + 4) := by omega
      have n50 : ¬ (6 + k * 6 + 5 = 6 + j * 6) := by omega
      have m50 : ¬ (6 + j * 6 = 6 + k * 6 + 5) := by omega
      simp at n00 m00
      go_wp2_with fail
      go_region
      all_goals
        go_wp2_with fail
        go_roundw
        case rel =>
          have hk := HK.out
          exact ⟨k + 1, j - 1, by omega, by omega, by go_num, by first | rfl | go_num, ⟨_, own_drew HS, HA'.out⟩, (below_six (below_six hbel hg _ _ _ _ _ _ _) hg _ _ _ _ _ _ _).drew⟩
        case measure => simp [intOf]; omega
    · have HA := harr.cong (τ := fun p => if p = 0 then 0 else n - p) (fun p hp => by
        show swp n k p = if p = 0 then 0 else n - p
        unfold swp
        by_cases h0 : p = 0
        · rw [if_neg (by omega), if_pos h0]; exact h0
        · rw [if_neg h0]
          split
          · rfl
          · omega)
      have HK := Lib.hid hkj
      go_wp2_with fail
      refine bodyPost_ret (v := .tuple #[]) (by simp [results, Tryd.results94, go_sem]) rfl ⟨rfl, ⟨xs, hown, HA⟩, hbel⟩
end Pol
end Go.Proofs.YtafbdnjabgfjeaaDoor
end
section
namespace Go.Proofs.YtafbdnjabgfjeaaDoor
open Go Go.RowKit OriM
namespace Pol
variable {β : Bool}

theorem Arr.c64 {n : Nat} {fs' fs : List Int} {σ : Nat → Nat} (h : Arr n fs' fs σ) (hσ : ∀ k, k < n → σ k < n) (h64 : C64 n fs) : C64 n fs' := by
  intro j hj
  have e := h (j / 6) (by omega) (j % 6) (by omega)
  rw [show j / 6 * 6 + j % 6 = j by omega] at e
  rw [e]
  have := hσ (j / 6) (by omega)
  exact h64 _ (by omega)
theorem Arr.hco {n : Nat} {fs' fs : List Int} {σ : Nat → Nat} (h : Arr n fs' fs σ) (hσ : ∀ k, k < n → σ k < n) (hv : HCo n fs) : HCo n fs' :=
  ⟨hv.1, hv.2.1, fun k hk => by rw [h.v hk]; exact hv.2.2 _ (hσ k hk)⟩
/-- The least corner first, in the order given and in the other one. -/
noncomputable def npL (n : Nat) (fs : List Int) : List Int := rot fs (lfK fs n)
noncomputable def npR (n : Nat) (fs : List Int) : List Int := rot (revL n fs) (n - 1 - lfK fs n)
theorem npL_arr {n : Nat} {fs : List Int} (h6 : fs.length = n * 6) (hn : 0 < n) : Arr n (npL n fs) fs (fun k => (lfK fs n + k) % n) :=
  rot_arr h6 (by have := lfK_lt fs n; omega)
theorem npR_arr {n : Nat} {fs : List Int} (hn : 0 < n) : Arr n (npR n fs) (revL n fs) (fun k => (n - 1 - lfK fs n + k) % n) :=
  rot_arr (revL_len n fs) (by omega)
/-- The row turned round behind its first point. -/
theorem npR_eq {n : Nat} {fs xs : List Int} (h6 : fs.length = n * 6) (hn : 0 < n) (hx : xs.length = n * 6) (h : Arr n xs (npL n fs) (fun p => if p = 0 then 0 else n - p)) : xs = npR n fs := by
  have hm : lfK fs n < n := by have := lfK_lt fs n; omega
  have hL := npL_arr h6 hn
  have hR := npR_arr (fs := fs) hn
  have hV := revL_arr n fs
  refine Arr.eq (n := n) (fs := fs) (σ := fun p => (lfK fs n + (if p = 0 then 0 else n - p)) % n) ?_ ?_ hx (by unfold npR; rw [rot_len (revL_len n fs) (by omega)])
  · intro p hp i hi
    have hq : (if p = 0 then 0 else n - p) < n := by split <;> omega
    rw [h p hp i hi]
    exact hL _ hq i hi
  · intro p hp i hi
    have hq : (n - 1 - lfK fs n + p) % n < n := Nat.mod_lt _ hn
    rw [hR p hp i hi]
    have e := hV _ hq i hi
    rw [e]
    show nth fs ((n - 1 - (n - 1 - lfK fs n + p) % n) * 6 + i) = nth fs ((lfK fs n + (if p = 0 then 0 else n - p)) % n * 6 + i)
    generalize lfK fs n = m at *
    congr 2
    by_cases h0 : p = 0
    · rw [if_pos h0, h0, Nat.add_zero, Nat.add_zero, Nat.mod_eq_of_lt (show n - 1 - m < n by omega), Nat.mod_eq_of_lt hm]
      omega
    · rw [if_neg h0]
      by_cases h1 : p ≤ m
      · rw [Nat.mod_eq_of_lt (show n - 1 - m + p < n by omega), Nat.mod_eq_sub_mod (show n ≤ m + (n - p) by omega), Nat.mod_eq_of_lt (show m + (n - p) - n < n by omega)]
        omega
      · rw [Nat.mod_eq_sub_mod (show n ≤ n - 1 - m + p by omega), Nat.mod_eq_of_lt (show n - 1 - m + p - n < n by omega), Nat.mod_eq_of_lt (show m + (n - p) < n by omega)]
        omega
open Classical in
/-- The normal form, if there is one. -/
noncomputable def nP (n : Nat) (fs : List Int) : Option (List Int) :=
  if HCo n fs then if TurnP n (npL n fs) then some (npL n fs) else if TurnP n (npR n fs) then some (npR n fs) else none else none
/-- The model's two questions are the program's. -/
theorem np_first {n : Nat} {fs : List Int} (h6 : fs.length = n * 6) (hv : HCo n fs) : MP n (npL n fs) ↔ TurnP n (npL n fs) :=
  mp_rot h6 hv (by have := lfK_lt fs n; have := hv.1; omega) (lfK_min hv.2.2 n (Nat.le_refl _))
theorem np_second {n : Nat} {fs : List Int} (hv : HCo n fs) :
    (MP n (rot (revL n fs) (lfK (revL n fs) n)) ↔ TurnP n (npR n fs)) ∧ (TurnP n (npR n fs) → rot (revL n fs) (lfK (revL n fs) n) = npR n fs) := by
  have hn := hv.1
  have hV := revL_arr n fs
  have hvR : HCo n (revL n fs) := hV.hco (fun k hk => by show n - 1 - k < n; omega) hv
  have hm : lfK fs n < n := by have := lfK_lt fs n; omega
  have hm' : lfK (revL n fs) n < n := by have := lfK_lt (revL n fs) n; omega
  have a : ∀ j, j < n → ¬ cpAt (revL n fs) j (lfK (revL n fs) n) < 0 := lfK_min hvR.2.2 n (Nat.le_refl _)
  have b : ∀ j, j < n → ¬ cpAt (revL n fs) j (n - 1 - lfK fs n) < 0 := by
    intro j hj
    rw [hV.cp hj (show n - 1 - lfK fs n < n by omega)]
    show ¬ cpAt fs (n - 1 - j) (n - 1 - (n - 1 - lfK fs n)) < 0
    rw [show n - 1 - (n - 1 - lfK fs n) = lfK fs n by omega]
    exact lfK_min hv.2.2 n (Nat.le_refl _) _ (by omega)
  have one : TurnP n (npR n fs) → lfK (revL n fs) n = n - 1 - lfK fs n := fun h => min_one (revL_len n fs) hvR (by omega) hm' b a h
  refine ⟨⟨fun h => ?_, fun h => ?_⟩, fun h => by unfold npR; rw [one h]⟩
  · have ht := (mp_rot (revL_len n fs) hvR hm' a).1 h
    have e := min_one (revL_len n fs) hvR hm' (by omega) a b ht
    unfold npR
    rw [e]; exact ht
  · rw [one h]
    exact (mp_rot (revL_len n fs) hvR (by omega) b).2 h

/-- A normal form of the call's own, or nothing; nothing old has turned. -/
def RetNP (n : Nat) (o : Option (List Int)) (w : World) (e : Ending) (w' : World) : Prop :=
  (match o with
    | some ys => ∃ v, e = .returned (.tuple #[v, .bool true]) ∧ OwnF w' w.heap.size v n ys
    | none => e = .returned (.tuple #[.slice none 0 0, .bool false])) ∧ Below w.heap.size w w'

set_option maxHeartbeats 8000000 in
set_option maxRecDepth 10000 in
theorem iNP_any (v : Value) (n : Nat) (fs : List Int) (w : World) (h : SlF w w.heap.size v n fs) (h64 : C64 n fs) (hT : LT true w) (hl : n ≤ 1048576) :
    Calls Tryd.prog 38 #[v] w (RetNP n (nP n fs) w) := by
  have H1 := Lib.hid (hasC_any v n fs w h h64 hT hl)
  have H3 := Lib.hid fun (hn : 0 < n) (w' : World) (hb : Below w.heap.size w w') => leastF_any v n fs w' ((h.below hb (Nat.le_refl _)).mono hb.size) h64 hn (LT.below hT hb (Nat.le_refl _)) hl
  have H6 := Lib.hid h.1
  have HI := Lib.hid h64
  obtain ⟨_, A, cp, rfl, _, _⟩ := h
  clear h64
  go_enter Tryd.func38, Tryd.ntmps38
  go_wp2_with fail
  refine (H1.out).mono ?_
  rintro e1 w1 ⟨b, rfl, hb, b1⟩
  cases b
  case false =>
    have HN := Lib.hid (show nP n fs = none by rw [nP, if_neg (fun h => by have := hb.2 h; cases this)])
    clear hb
    go_wp2_with fail
    go_ret2
    rw [HN.out]
    exact ⟨rfl, b1⟩
  have HV := Lib.hid (hb.1 rfl)
  have hn := HV.out.1
  clear hb
  go_wp2_with fail
  refine (H3.out (by omega) _ b1).mono ?_
  rintro e2 w2 ⟨v2, rfl, o2, b2⟩
  have B2 := b1.trans (b2.mono b1.size)
  have AL := Lib.hid (npL_arr H6.out (n := n) (by omega))
  have CL := Lib.hid (AL.out.c64 (fun k hk => Nat.mod_lt _ (by omega)) HI.out)
  have VL := Lib.hid (AL.out.hco (fun k hk => Nat.mod_lt _ (by omega)) HV.out)
  have O2 : Hid (OwnF w2 w.heap.size v2 n (npL n fs)) := Lib.hid (own_rebase o2 b1.size)
  clear o2
  go_wp2_with fail
  refine (turnsO_any v2 n (npL n fs) _ (OwnF.sl O2.out) CL.out VL.out (LT.below hT B2 (Nat.le_refl _))).mono ?_
  rintro e3 w3 ⟨b, rfl, hb, b3⟩
  have B3 := B2.trans (b3.mono B2.size)
  have O3 := Lib.hid (own_below O2.out b3 (Nat.le_refl _))
  clear O2
  cases b
  case true =>
    have HN := Lib.hid (show nP n fs = some (npL n fs) by rw [nP, if_pos HV.out, if_pos (hb.1 rfl)])
    clear hb
    go_wp2_with fail
    go_ret2
    rw [HN.out]
    exact ⟨⟨v2, rfl, O3.out⟩, B3⟩
  have HB := Lib.hid (show ¬ TurnP n (npL n fs) from fun h => by have := hb.2 h; cases this)
  clear hb
  rcases O3.out.2 with ⟨_, h0⟩ | ⟨g, c3, cur, rfl, hbg, hgg, hnc, _⟩
  · omega
  have i1 : (1 : Int) ≤ (n : Int) := by omega
  have i2 : (1 : Int) ≤ (c3 : Int) := by omega
  have i3 : (n : Int) ≤ (c3 : Int) := by omega
  have i4 : 1 ≤ n := by omega
  have i5 : 1 ≤ c3 := by omega
  have i6 : ¬ c3 = 1 := by omega
  clear hgg
  go_wp2_with fail
  refine (reverseP_any g c3 w.heap.size n (npL n fs) _ O3.out hn hl hbg).mono ?_
  rintro e4 w4 ⟨rfl, ⟨xs, o4, ha⟩, b4⟩
  have E4 := Lib.hid (npR_eq H6.out (by omega) (OwnF.len o4) ha)
  rw [E4.out] at o4
  have B4 := B3.trans b4
  have AR := Lib.hid ((npR_arr (fs := fs) (n := n) (by omega)))
  have AV := Lib.hid (revL_arr n fs)
  have CR := Lib.hid (AR.out.c64 (fun k hk => Nat.mod_lt _ (by omega)) (AV.out.c64 (fun k hk => by show n - 1 - k < n; omega) HI.out))
  have VR := Lib.hid (AR.out.hco (fun k hk => Nat.mod_lt _ (by omega)) (AV.out.hco (fun k hk => by show n - 1 - k < n; omega) HV.out))
  have O4 := Lib.hid o4
  clear o4 ha E4 O3
  go_wp2_with fail
  refine (turnsO_any _ n (npR n fs) _ (OwnF.sl O4.out) CR.out VR.out (LT.below hT B4 (Nat.le_refl _))).mono ?_
  rintro e5 w5 ⟨b, rfl, hb, b5⟩
  have B5 := B4.trans (b5.mono B4.size)
  have O5 := Lib.hid (own_below O4.out b5 (Nat.le_refl _))
  cases b
  case true =>
    have HN := Lib.hid (show nP n fs = some (npR n fs) by rw [nP, if_pos HV.out, if_neg HB.out, if_pos (hb.1 rfl)])
    clear hb
    go_wp2_with fail
    go_ret2
    rw [HN.out]
    exact ⟨⟨_, rfl, O5.out⟩, B5⟩
  have HN := Lib.hid (show nP n fs = none by rw [nP, if_pos HV.out, if_neg HB.out, if_neg (fun h => by have := hb.2 h; cases this)])
  clear hb
  go_wp2_with fail
  go_ret2
  rw [HN.out]
  exact ⟨rfl, B5⟩
end Pol
end Go.Proofs.YtafbdnjabgfjeaaDoor
end
section
namespace Go.Proofs.YtafbdnjabgfjeaaDoor
open Go Go.RowKit OriM
namespace Pol
variable {β : Bool}

set_option maxHeartbeats 4000000 in
theorem turned0_any (v : Value) (fs : List Int) (base : Nat) (w : World) (h : OwnF w base v 0 fs) : Calls Tryd.prog 92 #[v] w (RetOF 0 (rot fs (lfK fs 0)) w) := by
  have h0 : fs = [] := List.length_eq_zero_iff.1 (by have := OwnF.len h; omega)
  subst h0
  have e0 : rot [] (lfK [] 0) = [] := rfl
  rw [e0]
  have HW := World.ownsRow_lit (base := w.heap.size) (e := 33) (size := 6) w #[] 0 (Nat.le_refl _) (by decide) rfl
  have HB := (Below.refl w.heap.size w).alloc (Nat.le_refl _) (.cells #[] 33)
  obtain ⟨i0, hi, hz0, hz1, hz2⟩ := info_parts infoP
  rcases h.2 with ⟨rfl, _⟩ | ⟨g, cap, cur, rfl, hb, hg, hn, hm, hs, ht⟩
  · go_enter Tryd.func92, Tryd.ntmps92
    go_wp2_with fail
    go_loopw [3, 4] (fun q i wr => q = .int .i64 0 ∧ i = .int .i64 1 ∧ w = wr) (fun _ _ _ => 0)
    case atStart => exact ⟨rfl, rfl, rfl⟩
    case round =>
      obtain ⟨rfl, rfl, rfl⟩ := hrel
      go_wp2_with fail
      go_ret
      exact ⟨_, rfl, HW, HB⟩
  · go_enter Tryd.func92, Tryd.ntmps92
    go_wp2_with fail
    go_loopw [3, 4] (fun q i wr => q = .int .i64 0 ∧ i = .int .i64 1 ∧ w = wr) (fun _ _ _ => 0)
    case atStart => exact ⟨rfl, rfl, rfl⟩
    case round =>
      obtain ⟨rfl, rfl, rfl⟩ := hrel
      go_wp2_with fail
      go_ret
      exact ⟨_, rfl, HW, HB⟩

theorem turnedO_any (v : Value) (n : Nat) (fs : List Int) (base : Nat) (w : World) (h : OwnF w base v n fs) (hv : ∀ k, k < n → vAt fs k = true) (hT : LT β w) (hl : n ≤ 1048576) : Calls Tryd.prog 92 #[v] w (RetOF n (rot fs (lfK fs n)) w) := by
  rcases Nat.eq_zero_or_pos n with rfl | hn
  · exact turned0_any v fs base w h
  · exact turned_any v n fs w (OwnF.sl h) hv hn hT hl

set_option maxHeartbeats 8000000 in
set_option maxRecDepth 10000 in
theorem sNP_any (v : Value) (n : Nat) (fs : List Int) (base : Nat) (w : World) (h : OwnF w base v n fs) (hT : LT β w) (hl : n ≤ 1048576) :
    Calls Tryd.prog 37 #[v] w (RetNP n (nP n fs) w) := by
  have HT := Lib.hid fun (hv : ∀ k, k < n → vAt fs k = true) (w' : World) (hb : Below w.heap.size w w') => turnedO_any v n fs base w' (own_below h hb (Nat.le_refl _)) hv (LT.below hT hb (Nat.le_refl _)) hl
  have HR := Lib.hid fun (w' : World) (hb : Below w.heap.size w w') => reversed_any v n fs w' (((OwnF.sl h).below hb (Nat.le_refl _)).mono hb.size) hl
  have H6 := Lib.hid (OwnF.len h)
  have HS := Lib.hid (OwnF.sl h)
  obtain ⟨_, A, cp, rfl, hc, hcell⟩ := OwnF.sl h
  have HC := Lib.hid hcell
  clear h hcell
  by_cases h16 : 16 < n
  · have HN := Lib.hid (show nP n fs = none by rw [nP, if_neg (fun h => by have := h.2.1; omega)])
    have i1 : (16 : Int) < (n : Int) := by omega
    go_enter Tryd.func37, Tryd.ntmps37
    go_wp2_with fail
    go_ret2
    rw [HN.out]
    exact ⟨rfl, Below.refl _ _⟩
  have i1 : ¬ (16 : Int) < (n : Int) := by omega
  go_enter Tryd.func37, Tryd.ntmps37
  go_wp2_with fail
  go_loopw [4] (fun i wr => ∃ k : Nat, k ≤ n ∧ i = .int .i64 k ∧ Hid (∀ j, j < k → vAt fs j = true) ∧ Below w.heap.size w wr) (fun i _ => n - (intOf i).toNat)
  case atStart => exact ⟨0, Nat.zero_le _, rfl, Lib.hid (fun j hj => absurd hj (by omega)), Below.refl _ _⟩
  case round =>
    obtain ⟨k, hk, rfl, hall, hbel⟩ := hrel
    have hsz := hbel.size
    by_cases hlt : k < n
    · obtain ⟨b, o, rfl, hb, hcs⟩ := HC.out (by omega)
      obtain ⟨a0, a1, a2, a3, a4, a5⟩ := six (hcs.below hbel hb) H6.out hlt
      have HF := Lib.hid (fun w (hT : LT β w) => sLP_any (nth fs (k * 6)) (nth fs (k * 6 + 1)) (nth fs (k * 6 + 2)) (nth fs (k * 6 + 3)) (nth fs (k * 6 + 4)) (nth fs (k * 6 + 5)) w hT)
      have HE : Hid (vP (nth fs (k * 6)) (nth fs (k * 6 + 1)) (nth fs (k * 6 + 2)) (nth fs (k * 6 + 3)) (nth fs (k * 6 + 4)) (nth fs (k * 6 + 5)) = vAt fs k) := Lib.hid rfl
      rw [HE.out] at HF
      have e1 : IntKind.i64.wrap ((k : Int) + 1) = (k : Int) + 1 := wrap_in (by omega) (by omega)
      have j0 : (0 : Int) ≤ (k : Int) := by omega
      have j1 : (k : Int) < (n : Int) := by omega
      have j5 : b < wr.heap.size := by omega
      clear hcs HE
      go_wp2_with fail
      refine (HF.out _ ?_).mono ?_
      · exact LT.below (w := w) hT hbel (Nat.le_refl _)
      rintro e w1 ⟨he, b1⟩
      have B1 := hbel.trans (b1.mono hsz)
      by_cases hv : vAt fs k = true
      · rw [hv] at he
        subst he
        have HV := Lib.hid hv
        go_wp2_with fail
        go_roundw
        case rel =>
          exact ⟨k + 1, by omega, by go_num, Lib.hid (fun j hj => by
            rcases Nat.lt_or_ge j k with h | h
            · exact hall.out j h
            · obtain rfl : j = k := by omega
              exact HV.out), B1⟩
        case measure => simp [intOf]; omega
      · rw [Bool.eq_false_iff.2 hv] at he
        subst he
        have HN := Lib.hid (show nP n fs = none by rw [nP, if_neg (fun h => hv (h.2.2 k hlt))])
        clear hv
        go_wp2_with fail
        go_ret2
        rw [HN.out]
        exact ⟨rfl, B1⟩
    · obtain rfl : k = n := by omega
      have HCo3 := Lib.hid (show 3 ≤ k → HCo k fs from fun h3 => ⟨h3, by omega, hall.out⟩)
      have VR := Lib.hid (show ∀ j, j < k → vAt (revL k fs) j = true from fun j hj => by rw [(revL_arr k fs).v hj]; exact hall.out _ (by omega))
      go_wp2_with fail
      refine (HT.out hall.out _ hbel).mono ?_
      rintro e1 w1 ⟨v1, rfl, o1, b1⟩
      have B1 := hbel.trans (b1.mono hsz)
      have O1 := Lib.hid o1
      clear o1
      go_wp2_with fail
      refine (sPo_any (β := β) v1 k (npL k fs) _ (OwnF.sl O1.out) (LT.below hT B1 (Nat.le_refl _)) hl).mono ?_
      rintro e2 w2 ⟨b, rfl, hb, b2⟩
      have B2 := B1.trans (b2.mono B1.size)
      have O2 : Hid (OwnF w2 w.heap.size v1 k (npL k fs)) := Lib.hid (own_rebase (own_below O1.out b2 (Nat.le_refl _)) hsz)
      clear O1
      cases b
      case true =>
        have HN := Lib.hid (show nP k fs = some (npL k fs) by
          have hm := hb.1 rfl
          have hc := HCo3.out hm.1
          rw [nP, if_pos hc, if_pos ((np_first H6.out hc).1 hm)])
        clear hb
        go_wp2_with fail
        go_ret2
        rw [HN.out]
        exact ⟨⟨v1, rfl, O2.out⟩, B2⟩
      have HB := Lib.hid (show ¬ MP k (npL k fs) from fun h => by have := hb.2 h; cases this)
      clear hb O2
      go_wp2_with fail
      refine (HR.out _ B2).mono ?_
      rintro e3 w3 ⟨v3, rfl, o3, b3⟩
      have B3 := B2.trans (b3.mono B2.size)
      have O3 := Lib.hid o3
      clear o3
      go_wp2_with fail
      refine (turnedO_any (β := β) v3 k (revL k fs) _ _ O3.out VR.out (LT.below hT B3 (Nat.le_refl _)) hl).mono ?_
      rintro e4 w4 ⟨v4, rfl, o4, b4⟩
      have B4 := B3.trans (b4.mono B3.size)
      have O4 := Lib.hid o4
      clear o4 O3
      go_wp2_with fail
      refine (sPo_any (β := β) v4 k (rot (revL k fs) (lfK (revL k fs) k)) _ (OwnF.sl O4.out) (LT.below hT B4 (Nat.le_refl _)) hl).mono ?_
      rintro e5 w5 ⟨b, rfl, hb, b5⟩
      have B5 := B4.trans (b5.mono B4.size)
      have O5 : Hid (OwnF w5 w.heap.size v4 k (rot (revL k fs) (lfK (revL k fs) k))) := Lib.hid (own_rebase (own_below O4.out b5 (Nat.le_refl _)) B3.size)
      clear O4
      cases b
      case true =>
        have HN := Lib.hid (show nP k fs = some (rot (revL k fs) (lfK (revL k fs) k)) by
          have hm := hb.1 rfl
          have hc := HCo3.out hm.1
          have ht := (np_second hc).1.1 hm
          rw [nP, if_pos hc, if_neg (fun h => HB.out ((np_first H6.out hc).2 h)), if_pos ht, (np_second hc).2 ht])
        clear hb
        go_wp2_with fail
        go_ret2
        rw [HN.out]
        exact ⟨⟨v4, rfl, O5.out⟩, B5⟩
      have HN := Lib.hid (show nP k fs = none by
        rw [nP]
        split
        · rename_i hc
          rw [if_neg (fun h => HB.out ((np_first H6.out hc).2 h)), if_neg (fun h => by have := hb.2 ((np_second hc).1.2 h); cases this)]
        · rfl)
      clear hb
      go_wp2_with fail
      go_ret2
      rw [HN.out]
      exact ⟨rfl, B5⟩
end Pol
end Go.Proofs.YtafbdnjabgfjeaaDoor
end
section
namespace Go.Proofs.YtafbdnjabgfjeaaDoor
open Go Go.RowKit OriM
namespace Pol
variable {β : Bool}

/-- The state of a law on one slice of points that answers with another: the argument a, the model's answer r, the copy x, the program's answer g. -/
structure StF (W : World) (s2 s3 : Nat) (a r x g : Value) (n m : Nat) (xs ys zs us : List Int) (w : World) : Prop where
  bel : Below W.heap.size W w
  A : SlF w W.heap.size a n xs
  R : SlF w s2 r m ys
  X : OwnF w s2 x n zs
  xb : ∀ k, x.ownBlock = some k → k < s3
  G : OwnF w s3 g m us
  l1 : W.heap.size ≤ s2
  l2 : s2 ≤ s3
  l3 : s3 ≤ w.heap.size

section
variable {W w w' : World} {s2 s3 : Nat} {a r x g : Value} {n m : Nat} {xs ys zs us : List Int}

/-- Once both have answered. -/
theorem StF.start {w1 w2 w3 w4 : World} (hA : SlF W W.heap.size a n xs) (b1 : Below W.heap.size W w1) (hR : OwnF w2 w1.heap.size r m ys) (b2 : Below w1.heap.size w1 w2)
    (hX : OwnF w3 w2.heap.size x n zs) (b3 : Below w2.heap.size w2 w3) (hG : OwnF w4 w3.heap.size g m us) (b4 : Below w3.heap.size w3 w4) :
    StF W w2.heap.size w3.heap.size a r x g n m xs ys zs us w4 := by
  have s1 := b1.size; have s2 := b2.size; have s3 := b3.size; have s4 := b4.size
  have bel : Below W.heap.size W w4 := ((b1.trans (b2.mono (by omega))).trans (b3.mono (by omega))).trans (b4.mono (by omega))
  exact ⟨bel, hA.below bel (Nat.le_refl _), ((OwnF.sl hR).below b3 (Nat.le_refl _)).below b4 (by omega), own_below hX b4 (Nat.le_refl _), fun k hk => (own_row hX k hk).2, hG, by omega, s3, s4⟩
theorem StF.below (h : StF W s2 s3 a r x g n m xs ys zs us w) (hb : Below w.heap.size w w') : StF W s2 s3 a r x g n m xs ys zs us w' := by
  have l1 := h.l1; have l2 := h.l2; have l3 := h.l3
  exact ⟨h.bel.trans (hb.mono (by omega)), h.A.below hb (by omega), h.R.below hb (by omega), own_below h.X hb (Nat.le_refl _), h.xb, own_below h.G hb (Nat.le_refl _), l1, l2, Nat.le_trans l3 hb.size⟩
theorem StF.drewN (h : StF W s2 s3 a r x g n m xs ys zs us w) (j : Nat) : StF W s2 s3 a r x g n m xs ys zs us (w.drewN j) :=
  ⟨below_drewN h.bel j, h.A, h.R, h.X, h.xb, h.G, h.l1, h.l2, h.l3⟩
theorem StF.markX {zs' : List Int} (h : StF W s2 s3 a r x g n m xs ys zs us w) (hX : OwnF w' s2 x n zs') (hg : w.grownBy w' x.ownBlock) : StF W s2 s3 a r x g n m xs ys zs' us w' := by
  have l1 := h.l1; have l2 := h.l2; have l3 := h.l3; have sz := hg.size
  have hx : ∀ k, x.ownBlock = some k → s2 ≤ k := fun k hk => (own_row h.X k hk).1
  refine ⟨h.bel.grown hg (by omega) (fun k hk => by have := hx k hk; omega), h.A.kept hg (by omega) (fun k hk => by have := hx k hk; omega), h.R.kept hg (by omega) hx, hX, h.xb, h.G.kept hg ?_, l1, l2, by omega⟩
  rcases hgo : g.ownBlock with _ | k
  · exact .inl rfl
  · right
    intro e
    have h1 := (own_row h.G k hgo).1
    have h2 := h.xb k e.symm
    omega
theorem StF.markG {us' : List Int} (h : StF W s2 s3 a r x g n m xs ys zs us w) (hG : OwnF w' s3 g m us') (hg : w.grownBy w' g.ownBlock) : StF W s2 s3 a r x g n m xs ys zs us' w' := by
  have l1 := h.l1; have l2 := h.l2; have l3 := h.l3; have sz := hg.size
  have hx : ∀ k, g.ownBlock = some k → s3 ≤ k := fun k hk => (own_row h.G k hk).1
  refine ⟨h.bel.grown hg (by omega) (fun k hk => by have := hx k hk; omega), h.A.kept hg (by omega) (fun k hk => by have := hx k hk; omega), h.R.kept hg (by omega) (fun k hk => by have := hx k hk; omega), h.X.kept hg ?_, h.xb, hG, l1, l2, by omega⟩
  rcases hxo : x.ownBlock with _ | k
  · exact .inl rfl
  · right
    intro e
    have h1 := hx k e.symm
    have h2 := h.xb k hxo
    omega
theorem StF.a_ (h : StF W s2 s3 a r x g n m xs ys zs us w) : SlF w w.heap.size a n xs := h.A.mono (by have := h.l1; have := h.l2; have := h.l3; omega)
theorem StF.r_ (h : StF W s2 s3 a r x g n m xs ys zs us w) : SlF w w.heap.size r m ys := h.R.mono (by have := h.l2; have := h.l3; omega)
theorem StF.x_ (h : StF W s2 s3 a r x g n m xs ys zs us w) : SlF w w.heap.size x n zs := OwnF.sl h.X
theorem StF.g_ (h : StF W s2 s3 a r x g n m xs ys zs us w) : SlF w w.heap.size g m us := OwnF.sl h.G
end
/-- What comes back, as a row in either case. -/
def npM (n : Nat) (o : Option (List Int)) : Nat := match o with | some _ => n | none => 0
def npF (o : Option (List Int)) : List Int := match o with | some ys => ys | none => []
theorem np_ret {n : Nat} {o : Option (List Int)} {w : World} {e : Ending} {w' : World} (h : RetNP n o w e w') : ∃ v, e = .returned (.tuple #[v, .bool o.isSome]) ∧ OwnF w' w.heap.size v (npM n o) (npF o) ∧ Below w.heap.size w w' := by
  obtain ⟨h, hb⟩ := h
  cases o with
  | some ys => obtain ⟨v, rfl, ho⟩ := h; exact ⟨v, rfl, ho, hb⟩
  | none => cases h; exact ⟨_, rfl, World.ownsRow_nil _ _ _ _, hb⟩
theorem npM_le (n : Nat) (o : Option (List Int)) : npM n o ≤ n := by cases o <;> simp [npM]
end Pol

set_option maxHeartbeats 8000000 in
theorem exactNormalPolygon.walk (a : Value) (n : Nat) (fs : List Int) (w : World) (hT : LT true w) (hn : (n : Int) ≤ 9223372036854775807) (h64 : Pol.C64 n fs) (h : SlF w w.heap.size a n fs) : Calls Tryd.prog 7 #[a] w (RetB (.bool true) w) := by
  have HA := Lib.hid h
  obtain ⟨_, A, c, rfl, _, _⟩ := h
  by_cases h1 : 1048576 < n
  · have HZ := Lib.hid (fun w => sz_no A n c 1048576 w (by omega) (by omega) hn (by omega))
    clear h1
    go_enter Tryd.func7, Tryd.ntmps7
    go_wp2_with fail
    refine (HZ.out _).mono ?_
    rintro e w1 ⟨rfl, rfl⟩
    go_wp2_with fail
    go_ret
    exact ⟨rfl, Below.refl _ _⟩
  have HZ := Lib.hid (fun w => sz_ok A n c 1048576 w (by omega) (by omega) (by omega))
  have hl : n ≤ 1048576 := by omega
  have h1' : (n : Int) ≤ 1048576 := by omega
  have HS := Lib.hid fun (v : Value) (base : Nat) (w : World) (h : OwnF w base v n fs) (hT : LT true w) => (Pol.sNP_any v n fs base w h hT hl).mono fun _ _ => Pol.np_ret
  have HI := Lib.hid fun (v : Value) (w : World) (h : SlF w w.heap.size v n fs) (hT : LT true w) => (Pol.iNP_any v n fs w h h64 hT hl).mono fun _ _ => Pol.np_ret
  have hm : Pol.npM n (Pol.nP n fs) ≤ 1048576 := Nat.le_trans (Pol.npM_le _ _) hl
  generalize (Pol.nP n fs).isSome = b at *
  generalize Pol.npM n (Pol.nP n fs) = m at *
  generalize Pol.npF (Pol.nP n fs) = ys at *
  have hbb : (b != b) = false := by simp
  clear h1 h64
  go_enter Tryd.func7, Tryd.ntmps7
  go_wp2_with fail
  refine (HZ.out _).mono ?_
  rintro e w0 ⟨rfl, rfl⟩
  go_wp2_with fail
  refine (toP_any _ n fs _ HA.out hl).mono ?_
  rintro e w1 ⟨v1, rfl, h1, b1⟩
  go_wp2_with fail
  refine (HS.out _ _ _ h1 (LT.below hT b1 (Nat.le_refl _))).mono ?_
  rintro e w2 ⟨r, rfl, h2, b2⟩
  have B2 := b1.trans (b2.mono b1.size)
  go_wp2_with fail
  refine (toP_any _ n fs _ ((HA.out.below B2 (Nat.le_refl _)).mono B2.size) hl).mono ?_
  rintro e w3 ⟨x, rfl, h3, b3⟩
  have B3 := B2.trans (b3.mono B2.size)
  go_wp2_with fail
  refine (HI.out _ _ (OwnF.sl h3) (LT.below hT B3 (Nat.le_refl _))).mono ?_
  rintro e w4 ⟨g, rfl, h4, b4⟩
  have S := Pol.StF.start HA.out b1 h2 b2 h3 b3 h4 b4
  clear h1 b1 h2 b2 h3 b3 h4 b4 B2 B3
  go_wp2_with fail
  refine (eqP_same _ _ m ys _ S.g_ S.r_ hm).mono ?_
  rintro e w5 ⟨rfl, b5⟩
  replace S := S.below b5
  clear b5
  go_wp2_with fail
  refine (toP_any _ n fs _ S.a_ hl).mono ?_
  rintro e w6 ⟨t6, rfl, h6, b6⟩
  replace S := S.below b6
  go_wp2_with fail
  refine (eqP_same _ _ n fs _ S.x_ (OwnF.sl h6) hl).mono ?_
  rintro e w7 ⟨rfl, b7⟩
  replace S := S.below b7
  clear h6 b6 b7
  go_wp2_with fail
  refine (markP_any _ _ n fs _ S.X hl).mono ?_
  rintro e w8 ⟨rfl, h8, g8⟩
  replace S := S.markX h8 g8
  clear h8 g8
  have k8 : ¬ (1 + ((n * 6 : Nat) : Int)) < 0 := by omega
  go_wp2_with fail
  refine (eqP_same _ _ m ys _ S.g_ S.r_ hm).mono ?_
  rintro e w9 ⟨rfl, b9⟩
  replace S := S.below b9
  clear b9
  go_wp2_with fail
  refine (markP_any _ _ m ys _ S.G hm).mono ?_
  rintro e w10 ⟨rfl, h10, g10⟩
  replace S := S.markG h10 g10
  clear h10 g10
  go_wp2_with fail
  refine (heldP_any _ m _ S.g_ hm).mono ?_
  rintro e w11 ⟨rfl, m11, rfl⟩
  replace S := S.drewN m11
  go_wp2_with fail
  refine (toP_any _ n fs _ S.a_ hl).mono ?_
  rintro e w12 ⟨t12, rfl, h12, b12⟩
  replace S := S.below b12
  go_wp2_with fail
  refine (HI.out _ _ (OwnF.sl h12) (LT.below hT S.bel (Nat.le_refl _))).mono ?_
  rintro e w13 ⟨t13, rfl, h13, b13⟩
  replace S := S.below b13
  go_wp2_with fail
  refine (eqP_same _ _ m ys _ (OwnF.sl h13) S.r_ hm).mono ?_
  rintro e w14 ⟨rfl, b14⟩
  replace S := S.below b14
  clear h12 h13 b12 b13 b14
  go_wp2_with fail
  refine (heldP_any _ m _ S.g_ hm).mono ?_
  rintro e w15 ⟨rfl, m15, rfl⟩
  replace S := S.drewN m15
  go_wp2_with fail
  go_ret
  exact ⟨rfl, by have B := S.bel; first | exact B | (simp only [World.drewN_drewN] at B; exact B)⟩
end Go.Proofs.YtafbdnjabgfjeaaDoor
end
