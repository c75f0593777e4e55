/- FnAngles' mathematics: the rotations of a list and of its mirror image, counted. -/
import Derived.Test.YtnhobilmgefhnaaVm
import Derived.Test.YtnhobilmgefhnaaVj
import Derived.Test.YtnhobilmgefhnaaVu
namespace Go.Proofs.Ytnhobilmgefhnaa
open Go Go.RowKit

theorem ext_nth {a b : List Int} {n : Nat} (ha : a.length = n) (hb : b.length = n) (h : ∀ p, p < n → nth a p = nth b p) : a = b := by
  refine List.ext_getElem (by rw [ha, hb]) (fun p h1 h2 => ?_)
  have := h p (by omega)
  rw [nth_of h1, nth_of h2] at this
  exact this
theorem rot_rot {a : List Int} {n i j : Nat} (ha : a.length = n) (hi : i < n) (hj : j < n) : rot (rot a i) j = rot a ((i + j) % n) := by
  have l1 : (rot a i).length = n := by rw [rot_len _ (by omega), ha]
  have hm : (i + j) % n < n := Nat.mod_lt _ (by omega)
  refine ext_nth (n := n) (by rw [rot_len _ (by omega), l1]) (by rw [rot_len _ (by omega), ha]) (fun p hp => ?_)
  rw [rot_nth l1 hj hp, rot_nth ha hi (Nat.mod_lt _ (by omega)), rot_nth ha hm hp]
  congr 1
  rw [Nat.add_mod_mod, Nat.mod_add_mod, Nat.add_assoc]
theorem rot_nil (a : List Int) : rot a 0 = a := by simp [rot]
theorem rot_back {a : List Int} {n j : Nat} (ha : a.length = n) (hj : j < n) : rot (rot a j) ((n - j) % n) = a := by
  rw [rot_rot ha hj (Nat.mod_lt _ (by omega)), Nat.add_mod_mod, show j + (n - j) = n by omega, Nat.mod_self, rot_nil]
theorem rot_mirror {a : List Int} {n k : Nat} (ha : a.length = n) (hk : k < n) : (rot a k).reverse = rot a.reverse ((n - k) % n) := by
  have hr : a.reverse.length = n := by rw [List.length_reverse, ha]
  have l1 : (rot a k).length = n := by rw [rot_len _ (by omega), ha]
  have hm : (n - k) % n < n := Nat.mod_lt _ (by omega)
  refine ext_nth (n := n) (by rw [List.length_reverse, l1]) (by rw [rot_len _ (by omega), hr]) (fun p hp => ?_)
  have h2 : ((n - k) % n + p) % n < n := Nat.mod_lt _ (by omega)
  rw [nth_reverse (by omega), l1, rot_nth ha hk (by omega), rot_nth hr hm hp, nth_reverse (by omega), ha]
  congr 1
  rw [Nat.mod_add_mod]
  rcases Nat.lt_or_ge p k with h | h
  · rw [show k + (n - 1 - p) = (k - 1 - p) + n by omega, Nat.add_mod_right, Nat.mod_eq_of_lt (by omega), Nat.mod_eq_of_lt (a := n - k + p) (by omega)]
    omega
  · rw [Nat.mod_eq_of_lt (a := k + (n - 1 - p)) (by omega), show n - k + p = (p - k) + n by omega, Nat.add_mod_right, Nat.mod_eq_of_lt (a := p - k) (by omega)]
    omega

/-- The sum of the first n. -/
def sumN (g : Nat → Int) : Nat → Int
  | 0 => 0
  | n + 1 => sumN g n + g n
theorem sumN_congr {g h : Nat → Int} {n : Nat} (e : ∀ k, k < n → g k = h k) : sumN g n = sumN h n := by
  induction n with
  | zero => rfl
  | succ n ih => simp only [sumN]; rw [ih (fun k hk => e k (by omega)), e n (by omega)]
theorem sumN_add (g : Nat → Int) (a b : Nat) : sumN g (a + b) = sumN g a + sumN (fun k => g (a + k)) b := by
  induction b with
  | zero => simp [sumN]
  | succ b ih => rw [Nat.add_succ]; simp only [sumN]; rw [ih]; omega
theorem sumN_shift (g : Nat → Int) {n s : Nat} (hs : s < n) : sumN (fun k => g ((k + s) % n)) n = sumN g n := by
  have e1 := sumN_add (fun k => g ((k + s) % n)) (n - s) s
  have e2 := sumN_add g s (n - s)
  rw [show n - s + s = n by omega] at e1
  rw [show s + (n - s) = n by omega] at e2
  rw [e1, e2, Int.add_comm]
  congr 1
  · refine sumN_congr (fun k hk => ?_)
    show g ((n - s + k + s) % n) = g k
    rw [show n - s + k + s = k + n by omega, Nat.add_mod_right, Nat.mod_eq_of_lt (by omega)]
  · refine sumN_congr (fun k hk => ?_)
    show g ((k + s) % n) = g (s + k)
    rw [Nat.mod_eq_of_lt (by omega), Nat.add_comm]
theorem sumN_first (g : Nat → Int) (n : Nat) : sumN g (n + 1) = g 0 + sumN (fun k => g (k + 1)) n := by
  rw [Nat.add_comm, sumN_add]
  simp only [sumN]
  rw [Int.zero_add]
  congr 1
  exact sumN_congr (fun k _ => by show g (1 + k) = _; rw [Nat.add_comm])
theorem sumN_rev (g : Nat → Int) (n : Nat) : sumN (fun k => g (n - 1 - k)) n = sumN g n := by
  induction n generalizing g with
  | zero => rfl
  | succ n ih =>
    rw [sumN_first g n, ← ih (fun k => g (k + 1))]
    simp only [sumN]
    rw [Int.add_comm]
    congr 1
    · congr 1; omega
    · exact sumN_congr (fun k hk => by show g _ = g _; congr 1; omega)
theorem sumN_flip (g : Nat → Int) {n : Nat} (hn : 0 < n) : sumN (fun k => g ((n - k) % n)) n = sumN g n := by
  rw [← sumN_rev g n, ← sumN_shift (fun k => g (n - 1 - k)) (s := n - 1) (by omega)]
  refine sumN_congr (fun k hk => ?_)
  show g _ = g _
  congr 1
  rcases Nat.eq_zero_or_pos k with h | h
  · subst h
    rw [Nat.zero_add, Nat.mod_eq_of_lt (a := n - 1) (by omega)]
    simp
  · rw [show k + (n - 1) = (k - 1) + n by omega, Nat.add_mod_right, Nat.mod_eq_of_lt (a := k - 1) (by omega), Nat.mod_eq_of_lt (a := n - k) (by omega)]
    omega
/-- One if the rotation is it. -/
def hit (a b : List Int) (k : Nat) : Int := if rot a k = b then 1 else 0
theorem cn_sum (a b : List Int) (n : Nat) : cn a b n = sumN (hit a b) n := by
  induction n with
  | zero => rfl
  | succ n ih => simp only [cn, sumN, hit, ih]
theorem hit_iff {a b c d : List Int} {i j : Nat} (h : rot a i = b ↔ rot c j = d) : hit a b i = hit c d j := by
  unfold hit
  by_cases e : rot a i = b
  · rw [if_pos e, if_pos (h.1 e)]
  · rw [if_neg e, if_neg (fun x => e (h.2 x))]
/-- As many rotations give a rotation of b as give b. -/
theorem cn_shift {a b : List Int} {n j : Nat} (ha : a.length = n) (hb : b.length = n) (hj : j < n) : cn a (rot b j) n = cn a b n := by
  rw [cn_sum, cn_sum, ← sumN_shift (hit a b) (s := (n - j) % n) (Nat.mod_lt _ (by omega))]
  refine sumN_congr (fun k hk => hit_iff ?_)
  have hm : (n - j) % n < n := Nat.mod_lt _ (by omega)
  rw [← rot_rot ha hk hm]
  constructor
  · intro h; rw [h]; exact rot_back hb hj
  · intro h
    have h2 := rot_back (j := (n - j) % n) (n := n) (a := rot a k) (by rw [rot_len _ (by omega), ha]) hm
    rw [h] at h2
    rw [← h2]
    congr 1
    rcases Nat.eq_zero_or_pos j with e | e
    · subst e; simp
    · rw [Nat.mod_eq_of_lt (a := n - j) (by omega), show n - (n - j) = j by omega, Nat.mod_eq_of_lt hj]
/-- As many rotations of the mirror image give the mirror image of b. -/
theorem cn_mirror {a b : List Int} {n : Nat} (ha : a.length = n) (hn : 0 < n) : cn a.reverse b.reverse n = cn a b n := by
  rw [cn_sum, cn_sum, ← sumN_flip (hit a.reverse b.reverse) hn]
  refine sumN_congr (fun k hk => (hit_iff ?_))
  rw [← rot_mirror ha hk]
  constructor
  · intro h; exact List.reverse_inj.1 h
  · intro h; rw [h]
/-- How often each comes. -/
theorem cn_all {xs y : List Int} {n : Nat} (hx : xs.length = n) (hn : 0 < n) (h : ∃ j, j < n ∧ (y = rot xs j ∨ y = rot xs.reverse j)) :
    cn xs y n + cn xs.reverse y n = cn xs xs n + cn xs.reverse xs n := by
  have hr : xs.reverse.length = n := by rw [List.length_reverse, hx]
  obtain ⟨j, hj, rfl | rfl⟩ := h
  · rw [cn_shift hx hx hj, cn_shift hr hx hj]
  · rw [cn_shift hx hr hj, cn_shift hr hr hj, cn_mirror hx hn]
    have := cn_mirror (a := xs) (b := xs.reverse) hx hn
    rw [List.reverse_reverse] at this
    rw [this]
    omega

/-- A list goes in if it is new. -/
noncomputable def ins (all : List (List Int)) (x : List Int) : List (List Int) := @ite _ (x ∈ all) (Classical.propDecidable _) all (all ++ [x])
theorem ins_old {all : List (List Int)} {x : List Int} (h : x ∈ all) : ins all x = all := by unfold ins; rw [if_pos h]
theorem ins_new {all : List (List Int)} {x : List Int} (h : ¬ x ∈ all) : ins all x = all ++ [x] := by unfold ins; rw [if_neg h]
theorem ins_mem {all : List (List Int)} {x y : List Int} : y ∈ ins all x ↔ y ∈ all ∨ y = x := by
  by_cases h : x ∈ all
  · rw [ins_old h]
    constructor
    · exact .inl
    · rintro (h | rfl)
      · exact h
      · exact h
  · rw [ins_new h]; simp
theorem ins_nodup {all : List (List Int)} {x : List Int} (h : all.Nodup) : (ins all x).Nodup := by
  by_cases hx : x ∈ all
  · rw [ins_old hx]; exact h
  · rw [ins_new hx]
    rw [List.nodup_append]
    refine ⟨h, by simp, fun a ha b hb => ?_⟩
    simp only [List.mem_singleton] at hb
    subst hb
    rintro rfl
    exact hx ha
/-- All after k rounds. -/
noncomputable def uni (xs : List Int) : Nat → List (List Int)
  | 0 => []
  | k + 1 => ins (ins (uni xs k) (rot xs k)) (rot xs.reverse k)
theorem uni_nodup (xs : List Int) (k : Nat) : (uni xs k).Nodup := by
  induction k with
  | zero => simp [uni]
  | succ k ih => exact ins_nodup (ins_nodup ih)
theorem uni_mem {xs y : List Int} {k : Nat} : y ∈ uni xs k ↔ ∃ j, j < k ∧ (y = rot xs j ∨ y = rot xs.reverse j) := by
  induction k with
  | zero => simp [uni]
  | succ k ih =>
    simp only [uni]
    rw [ins_mem, ins_mem, ih]
    constructor
    · rintro ((⟨j, hj, h⟩ | h) | h)
      · exact ⟨j, by omega, h⟩
      · exact ⟨k, by omega, .inl h⟩
      · exact ⟨k, by omega, .inr h⟩
    · rintro ⟨j, hj, h⟩
      rcases Nat.lt_or_ge j k with h1 | h1
      · exact .inl (.inl ⟨j, h1, h⟩)
      · obtain rfl : j = k := by omega
        rcases h with h | h
        · exact .inl (.inr h)
        · exact .inr h
def sumL (f : List Int → Int) : List (List Int) → Int
  | [] => 0
  | y :: l => f y + sumL f l
theorem sumL_add (f g : List Int → Int) (l : List (List Int)) : sumL (fun y => f y + g y) l = sumL f l + sumL g l := by
  induction l with
  | nil => rfl
  | cons y l ih => simp only [sumL]; rw [ih]; omega
theorem sumL_congr {f g : List Int → Int} {l : List (List Int)} (h : ∀ y ∈ l, f y = g y) : sumL f l = sumL g l := by
  induction l with
  | nil => rfl
  | cons y l ih => simp only [sumL]; rw [ih (fun y hy => h y (List.mem_cons_of_mem _ hy)), h y (List.mem_cons_self ..)]
theorem sumL_const (c : Int) (l : List (List Int)) : sumL (fun _ => c) l = c * (l.length : Int) := by
  induction l with
  | nil => simp [sumL]
  | cons y l ih => simp only [sumL, List.length_cons]; rw [ih]; push_cast; rw [Int.mul_add]; omega
theorem sumL_none {x : List Int} {l : List (List Int)} (h : ¬ x ∈ l) : sumL (fun y => if x = y then 1 else 0) l = 0 := by
  induction l with
  | nil => rfl
  | cons y l ih =>
    simp only [sumL]
    rw [ih (fun m => h (List.mem_cons_of_mem _ m)), if_neg (fun e => h (by rw [e]; exact List.mem_cons_self ..))]
    rfl
theorem sumL_one {x : List Int} {l : List (List Int)} (h : l.Nodup) (hx : x ∈ l) : sumL (fun y => if x = y then 1 else 0) l = 1 := by
  induction l with
  | nil => cases hx
  | cons y l ih =>
    simp only [sumL]
    rw [List.nodup_cons] at h
    by_cases e : x = y
    · subst e
      rw [if_pos rfl, sumL_none h.1]
      rfl
    · rw [if_neg e, ih h.2 (by rcases List.mem_cons.1 hx with h | h; exact absurd h e; exact h)]
      rfl
theorem sumL_cn {a : List Int} {l : List (List Int)} (h : l.Nodup) (k : Nat) (hm : ∀ j, j < k → rot a j ∈ l) : sumL (fun y => cn a y k) l = k := by
  induction k with
  | zero => rw [show (fun y => cn a y 0) = fun _ => (0 : Int) from rfl, sumL_const]; simp
  | succ k ih =>
    rw [show (fun y => cn a y (k + 1)) = fun y => cn a y k + (if rot a k = y then 1 else 0) from rfl, sumL_add, ih (fun j hj => hm j (by omega)), sumL_one h (hm k (by omega))]
    push_cast; rfl
/-- The number of different ones, multiplied by the number of symmetries, is twice the number of sectors. -/
theorem orbit {xs : List Int} {n : Nat} (hx : xs.length = n) (hn : 0 < n) : (cn xs xs n + cn xs.reverse xs n) * ((uni xs n).length : Int) = 2 * (n : Int) := by
  have h1 := sumL_cn (a := xs) (uni_nodup xs n) n (fun j hj => uni_mem.2 ⟨j, hj, .inl rfl⟩)
  have h2 := sumL_cn (a := xs.reverse) (uni_nodup xs n) n (fun j hj => uni_mem.2 ⟨j, hj, .inr rfl⟩)
  rw [← sumL_const, ← sumL_congr (f := fun y => cn xs y n + cn xs.reverse y n) (fun y hy => cn_all hx hn (uni_mem.1 hy)), sumL_add, h1, h2]
  omega
end Go.Proofs.Ytnhobilmgefhnaa
