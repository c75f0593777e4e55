/- FnAngles' mathematics: directions and back; canonical forms and Kawasaki's condition of rotations and mirror images. -/
import Derived.Test.YtnhobilmgefhnaaVw
import Derived.Test.YtnhobilmgefhnaaQx
import Derived.Test.YtnhobilmgefhnaaQj
import Derived.Test.YtnhobilmgefhnaaQe
import Derived.Test.YtnhobilmgefhnaaVo
namespace Go.Proofs.Ytnhobilmgefhnaa
open Go Go.RowKit

theorem vs_rot {xs : List Int} (h : Vs xs) (k : Nat) : Vs (rot xs k) := rot_vs h.1 h.2 k
theorem vs_rev {xs : List Int} (h : Vs xs) : Vs xs.reverse := ⟨fun x hx => h.1 x (List.mem_reverse.1 hx), by rw [List.sum_reverse]; exact h.2⟩
theorem dr_bd {xs : List Int} (h : Vs xs) {j : Nat} (hj : j < xs.length) : 0 ≤ dr 0 xs j ∧ dr 0 xs j ≤ 15 := by
  have h1 := vs_take h j
  have h2 := vs_take h (j + 1)
  have h3 := vs_nth h hj
  rw [sumT_succ hj] at h2
  unfold dr
  omega
theorem dirP_zero {xs : List Int} (h : Vs xs) : DirP 0 xs := ⟨h, by omega, fun j hj => (dr_bd h hj).2⟩
theorem dirs_nth {xs : List Int} {j : Nat} (hj : j < xs.length) : nth (dirs true 0 xs) j = dr 0 xs j := by
  unfold dirs
  rw [if_pos rfl, tab_nth hj]
theorem dirs_size (xs : List Int) : (dirs true 0 xs).length = xs.length := by
  unfold dirs
  rw [if_pos rfl, tab_len]
theorem dirsP_dirs {xs : List Int} (h : Vs xs) : DirsP (dirs true 0 xs) := by
  refine ⟨by rw [dirs_size]; exact vs_pos h, ?_, ?_⟩
  · intro j hj
    rw [dirs_size] at hj
    rw [dirs_nth hj]
    exact dr_bd h hj
  · intro j hj
    rw [dirs_size] at hj
    rw [dirs_nth (by omega), dirs_nth hj, dr_succ (by omega)]
    have := vs_nth h (k := j) (by omega)
    omega
theorem ints_dirs {xs : List Int} (h : Vs xs) : Ints (dirs true 0 xs) := by
  intro x hx
  obtain ⟨j, hj, rfl⟩ := List.getElem_of_mem hx
  have h1 : j < xs.length := by rw [dirs_size] at hj; exact hj
  have h2 := dr_bd h h1
  rw [← dirs_nth h1, nth_of hj] at h2
  unfold I64; omega
theorem back_again {xs : List Int} (h : Vs xs) : secs true (dirs true 0 xs) = xs := by
  have hs := dirs_size xs
  have hp := vs_pos h
  refine ext_nth (n := xs.length) (by unfold secs; rw [if_pos rfl, tab_len, hs]) rfl (fun p hp => ?_)
  unfold secs
  rw [if_pos rfl, hs, tab_nth hp]
  unfold sec
  rw [hs]
  by_cases hl : p + 1 < xs.length
  · rw [if_pos hl, dirs_nth hl, dirs_nth hp, dr_succ hp]
    omega
  · rw [if_neg hl, dirs_nth (by omega), dirs_nth hp, dr_zero]
    have h1 := sumT_all xs
    rw [show xs.length = p + 1 by omega, sumT_succ hp, h.2] at h1
    unfold dr
    omega

/-- y is a rotation of x or of its mirror image. -/
def Orb (n : Nat) (x y : List Int) : Prop := ∃ j, j < n ∧ (y = rot x j ∨ y = rot x.reverse j)
theorem orb_len {n : Nat} {x y : List Int} (hx : x.length = n) (h : Orb n x y) : y.length = n := by
  obtain ⟨j, hj, rfl | rfl⟩ := h
  · rw [rot_len _ (by omega), hx]
  · rw [rot_len _ (by rw [List.length_reverse]; omega), List.length_reverse, hx]
theorem orb_self {n : Nat} {x : List Int} (hn : 0 < n) : Orb n x x := ⟨0, hn, .inl (rot_nil x).symm⟩
theorem orb_trans {n : Nat} {x y z : List Int} (hx : x.length = n) (h : Orb n x y) (k : Orb n y z) : Orb n x z := by
  have hr : x.reverse.length = n := by rw [List.length_reverse, hx]
  obtain ⟨j, hj, rfl | rfl⟩ := h <;> obtain ⟨i, hi, rfl | rfl⟩ := k
  · exact ⟨(j + i) % n, Nat.mod_lt _ (by omega), .inl (rot_rot hx hj hi)⟩
  · exact ⟨((n - j) % n + i) % n, Nat.mod_lt _ (by omega), .inr (by rw [rot_mirror hx hj, rot_rot hr (Nat.mod_lt _ (by omega)) hi])⟩
  · exact ⟨(j + i) % n, Nat.mod_lt _ (by omega), .inr (rot_rot hr hj hi)⟩
  · exact ⟨((n - j) % n + i) % n, Nat.mod_lt _ (by omega), .inl (by rw [rot_mirror hr hj, List.reverse_reverse, rot_rot hx (Nat.mod_lt _ (by omega)) hi])⟩
theorem orb_symm {n : Nat} {x y : List Int} (hx : x.length = n) (h : Orb n x y) : Orb n y x := by
  have hr : x.reverse.length = n := by rw [List.length_reverse, hx]
  have hy := orb_len hx h
  obtain ⟨j, hj, e | e⟩ := h
  · exact ⟨(n - j) % n, Nat.mod_lt _ (by omega), .inl (by rw [e, rot_back hx hj])⟩
  · have hm : (n - j) % n < n := Nat.mod_lt _ (by omega)
    have h1 : rot y ((n - j) % n) = x.reverse := by rw [e]; exact rot_back hr hj
    refine ⟨(n - (n - j) % n) % n, Nat.mod_lt _ (by omega), .inr ?_⟩
    rw [← rot_mirror hy hm, h1, List.reverse_reverse]
theorem mem_allR {xs y : List Int} : y ∈ allR xs ↔ Orb xs.length xs y := by
  unfold allR Orb
  rw [List.mem_append, rotsK_mem, rotsK_mem]
  constructor
  · rintro (⟨j, hj, h⟩ | ⟨j, hj, h⟩)
    · exact ⟨j, hj, .inl h.symm⟩
    · exact ⟨j, hj, .inr h.symm⟩
  · rintro ⟨j, hj, h | h⟩
    · exact .inl ⟨j, hj, h.symm⟩
    · exact .inr ⟨j, hj, h.symm⟩
theorem min_ex {n : Nat} : ∀ (ls : List (List Int)), ls ≠ [] → (∀ x ∈ ls, x.length = n) → ∃ m, IsMin n ls m
  | [], h, _ => absurd rfl h
  | [x], _, _ => ⟨x, by simp, fun y hy => by simp only [List.mem_singleton] at hy; subst hy; exact lx_irrefl⟩
  | x :: z :: l, _, hl => by
    obtain ⟨m, hm, hall⟩ := min_ex (z :: l) (by simp) (fun y hy => hl y (List.mem_cons_of_mem _ hy))
    by_cases h : lx x m n
    · refine ⟨x, List.mem_cons_self .., fun y hy hlt => ?_⟩
      rcases List.mem_cons.1 hy with rfl | hy
      · exact lx_irrefl hlt
      · exact hall y hy (lx_trans hlt h)
    · refine ⟨m, List.mem_cons_of_mem _ hm, fun y hy => ?_⟩
      rcases List.mem_cons.1 hy with rfl | hy
      · exact h
      · exact hall y hy
theorem can_min {xs : List Int} (hp : 0 < xs.length) : IsMin xs.length (allR xs) (can true xs) := by
  obtain ⟨m, hm⟩ := min_ex (n := xs.length) (allR xs) (fun e => by have := mem_allR.2 (orb_self (x := xs) hp); rw [e] at this; cases this) (fun x hx => allR_len hx)
  rw [can_of hm]
  exact hm
theorem can_orb {xs y : List Int} {n : Nat} (hx : xs.length = n) (hn : 0 < n) (h : Orb n xs y) : can true y = can true xs := by
  have hy := orb_len hx h
  have hm := can_min (xs := xs) (by omega)
  refine can_of ?_
  rw [hy]
  rw [hx] at hm
  refine ⟨mem_allR.2 ?_, fun z hz => hm.2 z (mem_allR.2 ?_)⟩
  · rw [hy]
    have := mem_allR.1 hm.1
    rw [hx] at this
    exact orb_trans hy (orb_symm hx h) this
  · rw [hx]
    have := mem_allR.1 hz
    rw [hy] at this
    exact orb_trans hx h this
theorem uni_orb {xs y : List Int} {n : Nat} : y ∈ uni xs n ↔ Orb n xs y := uni_mem
theorem vs_orb {xs y : List Int} {n : Nat} (hv : Vs xs) (h : Orb n xs y) : Vs y := by
  obtain ⟨j, _, rfl | rfl⟩ := h
  · exact vs_rot hv j
  · exact vs_rot (vs_rev hv) j

def sgnN (k : Nat) : Int := if k % 2 = 0 then 1 else -1
theorem sgnN_add (a b : Nat) : sgnN (a + b) = sgnN a * sgnN b := by
  unfold sgnN
  rcases Nat.mod_two_eq_zero_or_one a with h | h <;> rcases Nat.mod_two_eq_zero_or_one b with k | k
  · rw [if_pos (by omega), if_pos h, if_pos k]; rfl
  · rw [if_neg (by omega), if_pos h, if_neg (by omega)]; rfl
  · rw [if_neg (by omega), if_neg (by omega), if_pos k]; rfl
  · rw [if_pos (by omega), if_neg (by omega), if_neg (by omega)]; rfl
theorem sgnN_sq (a : Nat) : sgnN a * sgnN a = 1 := by
  unfold sgnN; split <;> rfl
theorem sgnN_or (a : Nat) : sgnN a = 1 ∨ sgnN a = -1 := by
  unfold sgnN; split
  · exact .inl rfl
  · exact .inr rfl
theorem sgnN_mod {a n : Nat} (h : n % 2 = 0) : sgnN (a % n) = sgnN a := by
  unfold sgnN
  rw [Nat.mod_mod_of_dvd _ (Nat.dvd_of_mod_eq_zero h)]
theorem sumN_mul (c : Int) (g : Nat → Int) (n : Nat) : sumN (fun k => c * g k) n = c * sumN g n := by
  induction n with
  | zero => simp [sumN]
  | succ n ih => simp only [sumN]; rw [ih, Int.mul_add]
theorem altK_sum (xs : List Int) (h : Nat) : altK xs h = sumN (fun k => sgnN k * nth xs k) (2 * h) := by
  induction h with
  | zero => rfl
  | succ h ih =>
    rw [show 2 * (h + 1) = 2 * h + 1 + 1 by omega]
    simp only [sumN, altK]
    rw [ih, show sgnN (2 * h) = 1 by unfold sgnN; rw [if_pos (by omega)], show sgnN (2 * h + 1) = -1 by unfold sgnN; rw [if_neg (by omega)]]
    omega
theorem alt_rot {xs : List Int} {n j : Nat} (hx : xs.length = n) (h2 : n % 2 = 0) (hj : j < n) : altK (rot xs j) (n / 2) = sgnN j * altK xs (n / 2) := by
  rw [altK_sum, altK_sum, show 2 * (n / 2) = n by omega, ← sumN_shift (fun k => sgnN k * nth xs k) hj, ← sumN_mul]
  refine sumN_congr (fun k hk => ?_)
  show sgnN k * nth (rot xs j) k = sgnN j * (sgnN ((k + j) % n) * nth xs ((k + j) % n))
  rw [rot_nth hx hj hk, sgnN_mod h2, sgnN_add, Nat.add_comm j k, ← Int.mul_assoc, Int.mul_comm (sgnN k) (sgnN j), ← Int.mul_assoc, sgnN_sq, Int.one_mul]
theorem alt_rev {xs : List Int} {n : Nat} (hx : xs.length = n) (h2 : n % 2 = 0) : altK xs.reverse (n / 2) = -1 * altK xs (n / 2) := by
  rw [altK_sum, altK_sum, show 2 * (n / 2) = n by omega, ← sumN_rev (fun k => sgnN k * nth xs k), ← sumN_mul]
  refine sumN_congr (fun k hk => ?_)
  show sgnN k * nth xs.reverse k = -1 * (sgnN (n - 1 - k) * nth xs (n - 1 - k))
  rw [nth_reverse (by omega), hx, ← Int.mul_assoc]
  congr 1
  unfold sgnN
  rcases Nat.mod_two_eq_zero_or_one k with h | h
  · rw [if_pos h, if_neg (by omega)]; rfl
  · rw [if_neg (by omega), if_pos (by omega)]; rfl
theorem altP_orb {xs y : List Int} {n : Nat} (hx : xs.length = n) (hv : Vs xs) (h : Orb n xs y) : AltP y ↔ AltP xs := by
  have hy := orb_len hx h
  unfold AltP
  rw [hx, hy]
  exact ⟨fun h1 => ⟨hv, h1.2⟩, fun h1 => ⟨vs_orb hv h, h1.2⟩⟩
theorem kaw_orb {xs y : List Int} {n : Nat} {b : Bool} (hx : xs.length = n) (hb : b = true ↔ AltP xs) (h : Orb n xs y) : kaw b y = kaw b xs := by
  have hy := orb_len hx h
  cases b with
  | false => rfl
  | true =>
    have h2 := (hb.1 rfl).2
    rw [hx] at h2
    have hr : xs.reverse.length = n := by rw [List.length_reverse, hx]
    have key : ∃ c : Int, (c = 1 ∨ c = -1) ∧ altK y (n / 2) = c * altK xs (n / 2) := by
      obtain ⟨j, hj, rfl | rfl⟩ := h
      · exact ⟨sgnN j, sgnN_or j, alt_rot hx h2 hj⟩
      · refine ⟨sgnN j * -1, ?_, by rw [alt_rot hr h2 hj, alt_rev hx h2, Int.mul_assoc]⟩
        rcases sgnN_or j with e | e <;> rw [e]
        · exact .inr rfl
        · exact .inl rfl
    unfold kaw alt
    rw [if_pos rfl, if_pos rfl, hx, hy]
    obtain ⟨c, hc, e⟩ := key
    rw [e]
    congr 1
    rcases hc with rfl | rfl
    · rw [Int.one_mul]
    · rw [Bool.eq_iff_iff]
      simp only [beq_iff_eq]
      omega
end Go.Proofs.Ytnhobilmgefhnaa
