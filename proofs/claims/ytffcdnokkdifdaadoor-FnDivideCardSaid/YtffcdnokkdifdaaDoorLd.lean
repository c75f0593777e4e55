/- Integer roots and floors: the program's and the model's contracts, and the walk of FnExactFloorNum. -/
import Derived.Test.YtffcdnokkdifdaaDoorLc
import Derived.Deep.LoopGhost
namespace Go.Proofs.YtffcdnokkdifdaaDoor
open Go Go.RowKit OriM

/-- The integer part of the root. -/
noncomputable def isq (s : Int) : Int := open Classical in if h : ∃ n : Int, 0 ≤ n ∧ n * n ≤ s ∧ s < (n + 1) * (n + 1) then Classical.choose h else 0
theorem isq_eq {s n : Int} (h0 : 0 ≤ n) (h1 : n * n ≤ s) (h2 : s < (n + 1) * (n + 1)) : isq s = n := by
  have h : ∃ n : Int, 0 ≤ n ∧ n * n ≤ s ∧ s < (n + 1) * (n + 1) := ⟨n, h0, h1, h2⟩
  unfold isq
  rw [dif_pos h]
  obtain ⟨a, b, c⟩ := Classical.choose_spec h
  exact Q.root_unique a h0 b c h1 h2

def bitv (n : Nat) : Int := match n with | 0 => 0 | m + 1 => 2 ^ m
theorem bitv_half (m : Nat) : bitv (m + 1) / 2 = bitv m := by
  cases m with
  | zero => rfl
  | succ k => simp only [bitv]; rw [Int.pow_succ]; omega

/-- What holds at the head of each round. -/
def SqRel (N : Int) (w : World) (n : Nat) (root bit : Value) (wr : World) : Prop := ∃ ρ : Int, root = .int .u64 ρ ∧ bit = .int .u64 (bitv n) ∧ w = wr ∧ n ≤ 32 ∧
  (∃ q : Nat, ρ = 2 ^ n * q) ∧ ρ * ρ ≤ N ∧ N < (ρ + 2 ^ n) * (ρ + 2 ^ n) ∧ ρ + 2 ^ n ≤ 4294967296

theorem or_bit (m q : Nat) (h : 2 ^ (m + 1) * q + 2 ^ m < 4294967296) : bits BinOp.or IntKind.u64 ((2 ^ (m + 1) * q : Nat) : Int) ((2 ^ m : Nat) : Int) = ((2 ^ (m + 1) * q + 2 ^ m : Nat) : Int) := by
  have e : 2 ^ (m + 1) * q + 2 ^ m = 2 ^ (m + 1) * q ||| 2 ^ m := Nat.two_pow_add_eq_or_of_lt (by rw [Nat.pow_succ]; have := Nat.two_pow_pos m; omega) q
  rw [e] at h ⊢
  have hA : 2 ^ (m + 1) * q < 4294967296 := Nat.lt_of_le_of_lt Nat.left_le_or h
  have hB : 2 ^ m < 4294967296 := Nat.lt_of_le_of_lt Nat.right_le_or h
  generalize 2 ^ (m + 1) * q = A at *
  generalize 2 ^ m = B at *
  show IntKind.u64.wrap ((BitVec.ofInt 64 (A : Int) ||| BitVec.ofInt 64 (B : Int)).toNat : Int) = _
  rw [BitVec.toNat_or, BitVec.ofInt_natCast, BitVec.ofInt_natCast, BitVec.toNat_ofNat, BitVec.toNat_ofNat, Nat.mod_eq_of_lt (by omega), Nat.mod_eq_of_lt (by omega), IntKind.wrap_u64]
  omega

/-- The facts of one round. -/
theorem sq_round {N ρ : Int} {m : Nat} (hq : ∃ q : Nat, ρ = 2 ^ (m + 1) * q) (h1 : ρ * ρ ≤ N) (h2 : N < (ρ + 2 ^ (m + 1)) * (ρ + 2 ^ (m + 1))) (h3 : ρ + 2 ^ (m + 1) ≤ 4294967296) :
    ∃ t nx s : Int, bitv (m + 1) = t ∧ 0 < t ∧ t / 2 = bitv m ∧ bits BinOp.or IntKind.u64 ρ t = nx ∧ nx * nx = s ∧ 0 ≤ s ∧ s < 18446744073709551616 ∧ 0 ≤ ρ ∧ ρ ≤ 4294967296 ∧ 0 ≤ nx ∧ nx ≤ 4294967296 ∧
      (s ≤ N → (∃ q : Nat, nx = 2 ^ m * q) ∧ nx * nx ≤ N ∧ N < (nx + 2 ^ m) * (nx + 2 ^ m) ∧ nx + 2 ^ m ≤ 4294967296) ∧
      (¬ s ≤ N → (∃ q : Nat, ρ = 2 ^ m * q) ∧ ρ * ρ ≤ N ∧ N < (ρ + 2 ^ m) * (ρ + 2 ^ m) ∧ ρ + 2 ^ m ≤ 4294967296) := by
  obtain ⟨q, hρ⟩ := hq
  have tp := two_pow_pos m
  have e2 : (2 : Int) ^ (m + 1) = 2 * 2 ^ m := by rw [Int.pow_succ]; omega
  have ρ0 : 0 ≤ ρ := by rw [hρ]; exact Int.mul_nonneg (by omega) (by omega)
  have c1 : ((2 ^ m : Nat) : Int) = 2 ^ m := by simp
  have c2 : ((2 ^ (m + 1) * q : Nat) : Int) = ρ := by rw [hρ]; simp
  have hb : 2 ^ (m + 1) * q + 2 ^ m < 4294967296 := by
    have : (((2 ^ (m + 1) * q + 2 ^ m : Nat) : Nat) : Int) < 4294967296 := by
      rw [Int.natCast_add, c2, c1]; omega
    omega
  have ho := or_bit m q hb
  rw [Int.natCast_add, c2, c1] at ho
  have nb : 0 ≤ ρ + 2 ^ m ∧ ρ + 2 ^ m ≤ 4294967295 := by omega
  have sb := sq_le nb.1 nb.2
  refine ⟨2 ^ m, ρ + 2 ^ m, (ρ + 2 ^ m) * (ρ + 2 ^ m), rfl, tp, bitv_half m, ho, rfl, sq_nonneg _, by omega, ρ0, by omega, nb.1, by omega, ?_, ?_⟩
  · intro h
    refine ⟨⟨2 * q + 1, ?_⟩, h, ?_, by omega⟩
    · rw [hρ, e2]; simp only [Int.natCast_add, Int.natCast_mul, Int.mul_add]; simp; ac_rfl
    · rw [show ρ + 2 ^ m + 2 ^ m = ρ + 2 ^ (m + 1) by omega]; exact h2
  · intro h
    refine ⟨⟨2 * q, ?_⟩, h1, by omega, by omega⟩
    rw [hρ, e2]; simp only [Int.natCast_mul]; simp; ac_rfl

theorem squareRoot_any (N : Int) (w : World) (n0 : 0 ≤ N) (n1 : N < 18446744073709551616) :
    Calls Tryd.prog 92 #[.int .u64 N] w (Ret (.int .u64 (isq N)) w) := by
  have st : SqRel N w 32 (.int .u64 0) (.int .u64 2147483648) w := ⟨0, rfl, rfl, rfl, by omega, ⟨0, by simp⟩, by omega, by omega, by omega⟩
  have ST := Lib.hid st
  clear st n1
  go_enter Tryd.func92, Tryd.ntmps92
  go_wp2
  go_loopg [3, 4] 32 (SqRel N w)
  case atStart => exact ST.out
  case round =>
    obtain ⟨ρ, rfl, rfl, hw, hn, hq, h1, h2, h3⟩ := hrel
    subst hw
    by_cases hg : gk = 0
    · subst hg
      have E := Lib.hid (isq_eq (s := N) (n := ρ) (by obtain ⟨q, e⟩ := hq; rw [e]; simp) h1 (by simpa using h2))
      clear hq h1 h2 h3
      have hb : bitv 0 = 0 := rfl
      go_wp2
      go_ret
      exact ⟨by rw [E.out]; rfl, rfl⟩
    · obtain ⟨m, rfl⟩ : ∃ m, gk = m + 1 := ⟨gk - 1, by omega⟩
      obtain ⟨t, nx, s, et, t0, ht, ho, hs, s0, s1, r0, r1, x0, x1, yes, no⟩ := sq_round hq h1 h2 h3
      have YES := Lib.hid yes
      have NO := Lib.hid no
      clear yes no hq h1 h2 h3 hg
      by_cases hc : s ≤ N
      · go_wp2
        go_roundg m
        case measure => omega
        case rel =>
          obtain ⟨y1, y2, y3, y4⟩ := YES.out hc
          exact ⟨nx, rfl, rfl, rfl, by omega, y1, y2, y3, y4⟩
      · go_wp2
        go_roundg m
        case measure => omega
        case rel =>
          obtain ⟨y1, y2, y3, y4⟩ := NO.out (by omega)
          exact ⟨ρ, rfl, rfl, rfl, by omega, y1, y2, y3, y4⟩

/-- The binary search of the model. -/
def BinRel (N : Int) (w : World) (n : Nat) (low high : Value) (wr : World) : Prop := ∃ l h : Int, low = .int .i64 l ∧ high = .int .i64 h ∧ w = wr ∧ 0 ≤ l ∧ l < h ∧ h ≤ 1048576 ∧ l * l ≤ N ∧ N < h * h ∧ h - l ≤ n

theorem lRoot_any (N : Int) (w : World) (n0 : 0 ≤ N) (n1 : N < 1099511627776) :
    Calls Tryd.prog 70 #[.int .i64 N] w (Ret (.int .i64 (isq N)) w) := by
  have st : BinRel N w 1048576 (.int .i64 0) (.int .i64 1048576) w := ⟨0, 1048576, rfl, rfl, rfl, by omega, by omega, by omega, by omega, by omega, by omega⟩
  have ST := Lib.hid st
  clear st
  go_enter Tryd.func70, Tryd.ntmps70
  go_wp2
  go_loopg [3, 4] 1048576 (BinRel N w)
  case atStart => exact ST.out
  case round =>
    obtain ⟨l, h, rfl, rfl, hw, l0, lh, h1, hl, hh, hn⟩ := hrel
    subst hw
    by_cases hg : l + 1 < h
    · obtain ⟨d, hd⟩ : ∃ d, d = (l + h) / 2 := ⟨_, rfl⟩
      have d0 : 0 ≤ d := by omega
      have d1 : d ≤ 1048576 := by omega
      have d2 : l < d := by omega
      have d3 : d < h := by omega
      have sb := sq_le d0 d1
      have sn := sq_nonneg d
      obtain ⟨s, hs⟩ : ∃ s, s = d * d := ⟨_, rfl⟩
      rw [← hs] at sb sn
      have S := Lib.hid hs
      have hs' : d * d = s := hs.symm
      have hd' : (l + h) / 2 = d := hd.symm
      have HL := Lib.hid hl
      have HH := Lib.hid hh
      clear hs hd hl hh
      by_cases hc : s ≤ N
      · go_wp2
        go_roundg (gk - 1)
        case measure => omega
        case rel => exact ⟨d, h, (by first | rfl | rw [hd']), rfl, rfl, d0, d3, h1, by rw [hs']; exact hc, HH.out, by omega⟩
      · go_wp2
        go_roundg (gk - 1)
        case measure => omega
        case rel => exact ⟨l, d, rfl, (by first | rfl | rw [hd']), rfl, l0, d2, d1, HL.out, by rw [hs']; omega, by omega⟩
    · have e : h = l + 1 := by omega
      subst e
      have E := Lib.hid (isq_eq (s := N) (n := l) l0 hl hh)
      clear hl hh
      go_wp2
      go_ret
      exact ⟨by rw [E.out]; rfl, rfl⟩

/-- The floor of a valid number. -/
noncomputable def floorV (a b k : Int) : Int := Q.floorOf a b k.toNat (isq (2 * (b * b)))

theorem isq_ex (s : Int) : ∀ n m : Nat, (m : Int) * m ≤ s → s < ((m + n : Nat) : Int) * (m + n : Nat) → ∃ n : Int, 0 ≤ n ∧ n * n ≤ s ∧ s < (n + 1) * (n + 1)
  | 0, m, h, h2 => by simp at h2; omega
  | n + 1, m, h, h2 => by
    by_cases hc : s < ((m + 1 : Nat) : Int) * (m + 1 : Nat)
    · exact ⟨m, by omega, h, by simpa using hc⟩
    · exact isq_ex s n (m + 1) (by omega) (by rw [show m + 1 + n = m + (n + 1) by omega]; exact h2)
theorem isq_spec {s : Int} (h0 : 0 ≤ s) (h1 : s < 1099511627776) : 0 ≤ isq s ∧ isq s * isq s ≤ s ∧ s < (isq s + 1) * (isq s + 1) := by
  obtain ⟨n, a, b, c⟩ := isq_ex s 1048576 0 (by simpa using h0) (by simpa using h1)
  rw [isq_eq a b c]
  exact ⟨a, b, c⟩

theorem root_facts {b : Int} (b1 : -131072 ≤ b) (b2 : b ≤ 131072) : 0 ≤ 2 * (b * b) ∧ 2 * (b * b) ≤ 34359738368 := by
  have := sq_nonneg b
  rcases (show b < 0 ∨ 0 ≤ b by omega) with h | h
  · have := sq_le (p := -b) (q := 131072) (by omega) (by omega); rw [Int.neg_mul_neg] at this; omega
  · have := sq_le h b2; omega
theorem isq_small {s : Int} (h0 : 0 ≤ s) (h1 : s ≤ 34359738368) : 0 ≤ isq s ∧ isq s ≤ 185364 := by
  obtain ⟨a, b, _⟩ := isq_spec h0 (by omega)
  refine ⟨a, ?_⟩
  apply Int.le_of_not_gt; intro hc
  have := sq_le (p := 185365) (q := isq s) (by omega) (by omega)
  omega

theorem floor_any (a b k : Int) (w : World) (a1 : -131072 ≤ a) (a2 : a ≤ 131072) (b1 : -131072 ≤ b) (b2 : b ≤ 131072) (k0 : 0 ≤ k) (k1 : k ≤ 10) :
    Calls Tryd.prog 59 #[num a b k] w (RetB (.int .i64 (floorV a b k)) w) := by
  obtain ⟨f0, f1⟩ := root_facts b1 b2
  obtain ⟨r0, r1⟩ := isq_small f0 f1
  have HR := Lib.hid (fun w => squareRoot_any (2 * (b * b)) w f0 (by omega))
  have e : floorV a b k = (a + (if b < 0 then -isq (2 * (b * b)) - 1 else isq (2 * (b * b)))) / 2 ^ k.toNat := rfl
  rw [e]
  clear e
  have hs : 0 ≤ b * b ∧ b * b ≤ 17179869184 := by omega
  generalize isq (2 * (b * b)) = r at *
  generalize hbb : b * b = s at *
  obtain ⟨hs0, hs1⟩ := hs
  clear f0 f1
  by_cases hb : b < 0
  · rw [if_pos hb]
    clear b1
    go_enter Tryd.func59, Tryd.ntmps59
    go_wp2_with fail
    refine (HR.out _).mono ?_
    rintro e w1 ⟨rfl, rfl⟩
    go_wp2_with fail
    go_ret
    exact ⟨rfl, by (repeat (first | with_reducible exact Below.refl _ _ | with_reducible refine Below.drew ?_ | with_reducible refine Below.alloc ?_ (by first | omega | (simp; done) | (simp; omega)) _ | with_reducible refine Below.setCell ?_ (by first | omega | (simp; done) | (simp; omega)) _ | with_reducible refine Below.trans ?_ (Below.mono (by assumption) (by first | omega | (simp; done) | (simp; omega)))))⟩
  · rw [if_neg hb]
    have hb' : 0 ≤ b := by omega
    clear b1
    go_enter Tryd.func59, Tryd.ntmps59
    go_wp2_with fail
    refine (HR.out _).mono ?_
    rintro e w1 ⟨rfl, rfl⟩
    go_wp2_with fail
    go_ret
    exact ⟨rfl, by (repeat (first | with_reducible exact Below.refl _ _ | with_reducible refine Below.drew ?_ | with_reducible refine Below.alloc ?_ (by first | omega | (simp; done) | (simp; omega)) _ | with_reducible refine Below.setCell ?_ (by first | omega | (simp; done) | (simp; omega)) _ | with_reducible refine Below.trans ?_ (Below.mono (by assumption) (by first | omega | (simp; done) | (simp; omega)))))⟩

theorem FloorNum_any (a b k : Int) (h : I3 a b k) (w : World) (hT : TzTab w) :
    Calls Tryd.prog 27 #[num a b k] w (RetB (.int .i64 (if validB a b k then floorV a b k else 0)) w) := by
  have HX := Lib.hid (fun w hT => valid_i3 a b k h w hT)
  by_cases hv : validB a b k = true
  · obtain ⟨a1, a2, b1, b2, k0, k1⟩ := valid_bounds hv
    have HS := Lib.hid (fun w => floor_any a b k w a1 a2 b1 b2 k0 k1)
    rw [hv] at HX
    rw [if_pos hv]
    clear hv h a1 a2 b1 b2 k0 k1
    generalize floorV a b k = r at *
    go_enter Tryd.func27, Tryd.ntmps27
    go_wp2_with fail
    refine (HX.out _ ?_).mono ?_; (repeat (first | with_reducible assumption | with_reducible apply TzTab.drew | with_reducible apply TzTab.alloc))
    rintro e w1 ⟨rfl, hb1⟩; (try replace hb1 := Below.undrew hb1); obtain ⟨hc1, hf1⟩ := bcell hb1; have hz1 := hb1.size; (try simp at hz1); have hz1a : w.heap.size < w1.heap.size := (by omega)
    go_wp2_with fail
    refine (HS.out _).mono ?_
    rintro e w2 ⟨rfl, hb2⟩; (try replace hb2 := Below.undrew hb2); obtain ⟨hc2, hf2⟩ := bcell hb2; have hz2 := hb2.size; (try simp at hz2); have hz2a : w.heap.size < w2.heap.size := (by omega)
    go_wp2_with fail
    go_ret
    exact ⟨rfl, by (repeat (first | with_reducible exact Below.refl _ _ | with_reducible refine Below.drew ?_ | with_reducible refine Below.alloc ?_ (by first | omega | (simp; done) | (simp; omega)) _ | with_reducible refine Below.setCell ?_ (by first | omega | (simp; done) | (simp; omega)) _ | with_reducible refine Below.trans ?_ (Below.mono (by assumption) (by first | omega | (simp; done) | (simp; omega)))))⟩
  · rw [Bool.eq_false_iff.2 hv] at HX
    rw [if_neg hv]
    clear hv h
    go_enter Tryd.func27, Tryd.ntmps27
    go_wp2_with fail
    refine (HX.out _ ?_).mono ?_; (repeat (first | with_reducible assumption | with_reducible apply TzTab.drew | with_reducible apply TzTab.alloc))
    rintro e w1 ⟨rfl, hb1⟩; (try replace hb1 := Below.undrew hb1); obtain ⟨hc1, hf1⟩ := bcell hb1; have hz1 := hb1.size; (try simp at hz1); have hz1a : w.heap.size < w1.heap.size := (by omega)
    go_wp2_with fail
    go_ret
    exact ⟨rfl, by (repeat (first | with_reducible exact Below.refl _ _ | with_reducible refine Below.drew ?_ | with_reducible refine Below.alloc ?_ (by first | omega | (simp; done) | (simp; omega)) _ | with_reducible refine Below.setCell ?_ (by first | omega | (simp; done) | (simp; omega)) _ | with_reducible refine Below.trans ?_ (Below.mono (by assumption) (by first | omega | (simp; done) | (simp; omega)))))⟩

theorem sFloor_core (a b k r S : Int) (w : World) (a1 : -131072 ≤ a) (a2 : a ≤ 131072) (b1 : -131072 ≤ b) (b2 : b ≤ 131072) (k0 : 0 ≤ k) (k1 : k ≤ 10) (hS : 2 * b * b = S) (S0 : 0 ≤ S) (S1 : S ≤ 34359738368) (r0 : 0 ≤ r) (r1 : r ≤ 185364)
    (HX : Hid (∀ w, Calls Tryd.prog 51 #[num a b k] w (RetB (.bool true) w))) (HR : Hid (∀ w, Calls Tryd.prog 70 #[.int .i64 S] w (Ret (.int .i64 r) w))) :
    Calls Tryd.prog 42 #[num a b k] w (RetB (.int .i64 ((a + (if b < 0 then -r - 1 else r)) / 2 ^ k.toNat)) w) := by
  by_cases hb : b < 0
  · rw [if_pos hb]
    go_enter Tryd.func42, Tryd.ntmps42
    go_wp2_with fail
    refine (HX.out _).mono ?_
    rintro e w1 ⟨rfl, hb1⟩; (try replace hb1 := Below.undrew hb1); obtain ⟨hc1, hf1⟩ := bcell hb1; have hz1 := hb1.size; (try simp at hz1); have hz1a : w.heap.size < w1.heap.size := (by omega)
    go_wp2_with fail
    refine (HR.out _).mono ?_
    rintro e w2 ⟨rfl, rfl⟩
    go_wp2_with fail
    go_ret
    exact ⟨rfl, by (repeat (first | with_reducible exact Below.refl _ _ | with_reducible refine Below.drew ?_ | with_reducible refine Below.alloc ?_ (by first | omega | (simp; done) | (simp; omega)) _ | with_reducible refine Below.setCell ?_ (by first | omega | (simp; done) | (simp; omega)) _ | with_reducible refine Below.trans ?_ (Below.mono (by assumption) (by first | omega | (simp; done) | (simp; omega)))))⟩
  · rw [if_neg hb]
    have hb' : 0 ≤ b := by omega
    go_enter Tryd.func42, Tryd.ntmps42
    go_wp2_with fail
    refine (HX.out _).mono ?_
    rintro e w1 ⟨rfl, hb1⟩; (try replace hb1 := Below.undrew hb1); obtain ⟨hc1, hf1⟩ := bcell hb1; have hz1 := hb1.size; (try simp at hz1); have hz1a : w.heap.size < w1.heap.size := (by omega)
    go_wp2_with fail
    refine (HR.out _).mono ?_
    rintro e w2 ⟨rfl, rfl⟩
    go_wp2_with fail
    go_ret
    exact ⟨rfl, by (repeat (first | with_reducible exact Below.refl _ _ | with_reducible refine Below.drew ?_ | with_reducible refine Below.alloc ?_ (by first | omega | (simp; done) | (simp; omega)) _ | with_reducible refine Below.setCell ?_ (by first | omega | (simp; done) | (simp; omega)) _ | with_reducible refine Below.trans ?_ (Below.mono (by assumption) (by first | omega | (simp; done) | (simp; omega)))))⟩

theorem sFloorNum_any (a b k : Int) (w : World) :
    Calls Tryd.prog 42 #[num a b k] w (RetB (.int .i64 (if validB a b k then floorV a b k else 0)) w) := by
  have HX := Lib.hid (fun w => l01Ok_any a b k w)
  by_cases hv : validB a b k = true
  · obtain ⟨a1, a2, b1, b2, k0, k1⟩ := valid_bounds hv
    rw [hv] at HX
    rw [if_pos hv]
    obtain ⟨f0, f1⟩ := root_facts b1 b2
    obtain ⟨r0, r1⟩ := isq_small f0 f1
    exact sFloor_core a b k (isq (2 * (b * b))) (2 * (b * b)) w a1 a2 b1 b2 k0 k1 (Int.mul_assoc ..) f0 f1 r0 r1 HX (Lib.hid fun w => lRoot_any (2 * (b * b)) w f0 (by omega))
  · rw [Bool.eq_false_iff.2 hv] at HX
    rw [if_neg hv]
    clear hv
    go_enter Tryd.func42, Tryd.ntmps42
    go_wp2_with fail
    refine (HX.out _).mono ?_
    rintro e w1 ⟨rfl, hb1⟩; (try replace hb1 := Below.undrew hb1); obtain ⟨hc1, hf1⟩ := bcell hb1; have hz1 := hb1.size; (try simp at hz1); have hz1a : w.heap.size < w1.heap.size := (by omega)
    go_wp2_with fail
    go_ret
    exact ⟨rfl, by (repeat (first | with_reducible exact Below.refl _ _ | with_reducible refine Below.drew ?_ | with_reducible refine Below.alloc ?_ (by first | omega | (simp; done) | (simp; omega)) _ | with_reducible refine Below.setCell ?_ (by first | omega | (simp; done) | (simp; omega)) _ | with_reducible refine Below.trans ?_ (Below.mono (by assumption) (by first | omega | (simp; done) | (simp; omega)))))⟩

theorem exactFloorNum.walk (a b k : Int) (h : I3 a b k) (w : World) (hT : TzTab w) :
    Calls Tryd.prog 15 #[num a b k] w (RetB (.bool true) w) := by
  have HI := Lib.hid (FloorNum_any a b k h)
  have HS := Lib.hid (sFloorNum_any a b k)
  have HN := Lib.hid (toNum_any a b k)
  clear h
  generalize (if validB a b k then floorV a b k else 0) = r at *
  go_enter Tryd.func15, Tryd.ntmps15
  go_wp2_with fail
  refine (HN.out _).mono ?_
  rintro e w1 ⟨rfl, hb1⟩; (try replace hb1 := Below.undrew hb1); obtain ⟨hc1, hf1⟩ := bcell hb1; have hT1 := TzTab.below (by (repeat (first | with_reducible assumption | with_reducible apply TzTab.drew | with_reducible apply TzTab.alloc))) hb1 (Nat.le_refl _); have hz1 := hb1.size; (try simp at hz1); have hz1a : w.heap.size < w1.heap.size := (by omega)
  go_wp2_with fail
  refine (HS.out _).mono ?_
  rintro e w2 ⟨rfl, hb2⟩; (try replace hb2 := Below.undrew hb2); obtain ⟨hc2, hf2⟩ := bcell hb2; have hT2 := TzTab.below (by (repeat (first | with_reducible assumption | with_reducible apply TzTab.drew | with_reducible apply TzTab.alloc))) hb2 (Nat.le_refl _); have hz2 := hb2.size; (try simp at hz2); have hz2a : w.heap.size < w2.heap.size := (by omega)
  go_wp2_with fail
  refine (HN.out _).mono ?_
  rintro e w3 ⟨rfl, hb3⟩; (try replace hb3 := Below.undrew hb3); obtain ⟨hc3, hf3⟩ := bcell hb3; have hT3 := TzTab.below (by (repeat (first | with_reducible assumption | with_reducible apply TzTab.drew | with_reducible apply TzTab.alloc))) hb3 (Nat.le_refl _); have hz3 := hb3.size; (try simp at hz3); have hz3a : w.heap.size < w3.heap.size := (by omega)
  go_wp2_with fail
  refine (HI.out _ ?_).mono ?_; (repeat (first | with_reducible assumption | with_reducible apply TzTab.drew | with_reducible apply TzTab.alloc))
  rintro e w4 ⟨rfl, hb4⟩; (try replace hb4 := Below.undrew hb4); obtain ⟨hc4, hf4⟩ := bcell hb4; have hT4 := TzTab.below (by (repeat (first | with_reducible assumption | with_reducible apply TzTab.drew | with_reducible apply TzTab.alloc))) hb4 (Nat.le_refl _); have hz4 := hb4.size; (try simp at hz4); have hz4a : w.heap.size < w4.heap.size := (by omega)
  go_wp2_with fail
  go_ret
  exact ⟨rfl, by (repeat (first | with_reducible exact Below.refl _ _ | with_reducible refine Below.drew ?_ | with_reducible refine Below.alloc ?_ (by first | omega | (simp; done) | (simp; omega)) _ | with_reducible refine Below.setCell ?_ (by first | omega | (simp; done) | (simp; omega)) _ | with_reducible refine Below.trans ?_ (Below.mono (by assumption) (by first | omega | (simp; done) | (simp; omega)))))⟩
end Go.Proofs.YtffcdnokkdifdaaDoor
