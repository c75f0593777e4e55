/- Lists compared: by the model, by the program (slices.Equal). -/
import Derived.Test.YtnhobilmgefhnaaVg
namespace Go.Proofs.Ytnhobilmgefhnaa
open Go Go.RowKit

theorem vs_no {xs : List Int} {b : Bool} (hb : b = true ↔ Vs xs) (h : ¬ Vs xs) : b = false := by
  rcases b with _ | _
  · rfl
  · exact absurd (hb.1 rfl) h

/-- The first difference of two lists of n elements is one upwards. -/
def lx (xs ys : List Int) (n : Nat) : Prop := ∃ k, k < n ∧ nth xs k < nth ys k ∧ ∀ j, j < k → nth xs j = nth ys j
theorem lx_irrefl {xs : List Int} {n : Nat} : ¬ lx xs xs n := fun ⟨_, _, h, _⟩ => by omega
theorem lx_same {xs ys : List Int} {n : Nat} (hx : xs.length = n) (hy : ys.length = n) : (¬ lx xs ys n ∧ ¬ lx ys xs n) ↔ xs = ys := by
  constructor
  · rintro ⟨h1, h2⟩
    have : ∀ k, k ≤ n → ∀ j, j < k → nth xs j = nth ys j := by
      intro k
      induction k with
      | zero => intro _ j hj; omega
      | succ k ih =>
        intro hk j hj
        have e := ih (by omega)
        rcases Nat.lt_or_ge j k with h | h
        · exact e j h
        · obtain rfl : j = k := by omega
          rcases Int.lt_trichotomy (nth xs j) (nth ys j) with h3 | h3 | h3
          · exact absurd ⟨j, by omega, h3, e⟩ h1
          · exact h3
          · exact absurd ⟨j, by omega, h3, fun i hi => (e i hi).symm⟩ h2
    exact nth_ext (by omega) fun k hk => this n (Nat.le_refl _) k (by omega)
  · rintro rfl
    exact ⟨lx_irrefl, lx_irrefl⟩

theorem sl_at {w : World} {hi : Nat} {v : Value} {xs : List Int} (h : Sl w hi v xs) {n : Nat} (hn : xs.length = n) (hp : 0 < n) : ∃ b o c, v = .slice (some ⟨b, o, none⟩) n c ∧ n ≤ c ∧ b < hi ∧ Cells w b o xs := by
  obtain ⟨A, c, rfl, hc, hcell⟩ := h
  obtain ⟨b, o, rfl, hb, hcs⟩ := hcell (by omega)
  exact ⟨b, o, c, by rw [hn], by omega, hb, hcs⟩

set_option maxHeartbeats 2000000 in
theorem iEq_any (va vb : Value) (xs ys : List Int) (n : Nat) (hx : xs.length = n) (hy : ys.length = n) (hp : 0 < n) (hl : n ≤ 1048576) (w : World) (ha : Sl w w.heap.size va xs) (hb : Sl w w.heap.size vb ys) :
    Calls Try.prog 62 #[va, vb] w (RetPQ (xs = ys) w) := by
  obtain ⟨b1, o1, c1, rfl, hc1, hb1, C1⟩ := sl_at ha hx hp
  obtain ⟨b2, o2, c2, rfl, hc2, hb2, C2⟩ := sl_at hb hy hp
  have HC1 := Lib.hid C1
  have HC2 := Lib.hid C2
  have HX := Lib.hid hx
  have HY := Lib.hid hy
  have hnn : ((n : Int) != (n : Int)) = false := by simp
  clear C1 C2 hx hy ha hb
  go_enter Try.func62, Try.ntmps62
  go_wp2_with fail
  go_loopw [13] (fun i wr => ∃ k : Nat, k ≤ n ∧ i = .int .i64 k ∧ Hid (∀ j, j < k → nth xs j = nth ys j) ∧ Hid (∃ m, wr = w.drewN m)) (fun i _ => n - (intOf i).toNat)
  case atStart => exact ⟨0, Nat.zero_le _, rfl, Lib.hid (fun j hj => absurd hj (by omega)), Lib.hid ⟨0, rfl⟩⟩
  case round =>
    obtain ⟨k, hk, rfl, hall, hm⟩ := hrel
    have hcw : ∀ b o, wr.cell? ⟨b, o, none⟩ = w.cell? ⟨b, o, none⟩ := fun b o => by obtain ⟨m, e⟩ := hm.out; rw [e]; rfl
    by_cases hlt : k < n
    · have x1 := (hcw _ _).trans (HC1.out k (by rw [HX.out]; exact hlt))
      have x2 := (hcw _ _).trans (HC2.out k (by rw [HY.out]; exact hlt))
      clear hcw
      by_cases he : nth xs k = nth ys k
      · have HE := Lib.hid (show ∀ j, j < k + 1 → nth xs j = nth ys j from fun j hj => by
          rcases Nat.lt_or_ge j k with h | h
          · exact hall.out j h
          · obtain rfl : j = k := by omega
            exact he)
        have e1 : (nth xs k != nth ys k) = false := by simp [he]
        have e2 : (nth xs k == nth ys k) = true := by simp [he]
        clear he
        go_wp2_with fail
        go_quiet (fail)
        go_wp2_with fail
        go_roundw
        case rel => exact ⟨k + 1, by omega, by go_num, HE, Lib.hid (drew_more hm.out _)⟩
        case measure => simp [intOf]; omega
      · have HE := Lib.hid he
        have e1 : (nth xs k != nth ys k) = true := by simp [he]
        have e2 : (nth xs k == nth ys k) = false := by simp [he]
        clear he
        go_wp2_with fail
        go_quiet (fail)
        go_wp2_with fail
        go_ret
        exact ⟨false, rfl, iff_of_false (by simp) (fun h => HE.out (by rw [h])), drew_more hm.out _⟩
    · obtain rfl : k = n := by omega
      clear hcw
      go_wp2_with fail
      go_ret
      exact ⟨true, rfl, iff_of_true rfl (nth_ext (by rw [HX.out, HY.out]) (fun j hj => hall.out j (by rw [← HX.out]; exact hj))), hm.out⟩
end Go.Proofs.Ytnhobilmgefhnaa
