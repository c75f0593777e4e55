/- Contracts of the program's exported functions on numbers. -/
import Derived.Test.YtgfplfbfjkkalaaDoorWc
namespace Go.Proofs.YtgfplfbfjkkalaaDoor
open Go Go.RowKit OriM

theorem valid_bounds {a b k : Int} (h : validB a b k = true) : -131072 ≤ a ∧ a ≤ 131072 ∧ -131072 ≤ b ∧ b ≤ 131072 ∧ 0 ≤ k ∧ k ≤ 10 := by
  simp [validB, withinB, inB] at h; omega

/-- Any three int64. -/
structure I3 (a b k : Int) : Prop where
  a1 : -9223372036854775808 ≤ a
  a2 : a ≤ 9223372036854775807
  b1 : -9223372036854775808 ≤ b
  b2 : b ≤ 9223372036854775807

theorem valid_i3 (a b k : Int) (h : I3 a b k) (w : World) (hT : TzTab w) : Calls Tryd.prog 70 #[num a b k] w (RetB (.bool (validB a b k)) w) :=
  valid_any a b k w h.a1 h.a2 h.b1 h.b2 hT

theorem plusA_bound (a k a' k' : Int) (a1 : -131072 ≤ a) (a2 : a ≤ 131072) (a1' : -131072 ≤ a') (a2' : a' ≤ 131072) (k0 : 0 ≤ k) (k1 : k ≤ 10) (k0' : 0 ≤ k') (k1' : k' ≤ 10) :
    -268435456 ≤ plusA a k a' k' ∧ plusA a k a' k' ≤ 268435456 := by
  obtain ⟨s, _, e, s1, s2⟩ := shl_fits (a := a) (max k k' - k) a1 a2 (by omega) (by omega)
  obtain ⟨t, _, f, t1, t2⟩ := shl_fits (a := a') (max k k' - k') a1' a2' (by omega) (by omega)
  unfold plusA
  omega

/-- What a sum is: the fields, and whether there is one. -/
def addA (a b k a' b' k' : Int) : Int := limA (plusA a k a' k') (plusA b k b' k') (max k k')
def addB (a b k a' b' k' : Int) : Int := limB (plusA a k a' k') (plusA b k b' k') (max k k')
def addK (a b k a' b' k' : Int) : Int := limK (plusA a k a' k') (plusA b k b' k') (max k k')
def addO (a b k a' b' k' : Int) : Bool := limO (plusA a k a' k') (plusA b k b' k') (max k k')
def sumV (a b k a' b' k' : Int) : Value := numOk (addA a b k a' b' k') (addB a b k a' b' k') (addK a b k a' b' k') (addO a b k a' b' k')

/-- A sum that is limited: two calls in one contract. -/
theorem plus_val (a b k a' b' k' : Int) (hx : validB a b k = true) (hy : validB a' b' k' = true) :
    (∀ w, Calls Tryd.prog 109 #[num a b k, num a' b' k'] w (RetB (num (plusA a k a' k') (plusA b k b' k') (max k k')) w)) ∧
    (∀ w, TzTab w → Calls Tryd.prog 71 #[num (plusA a k a' k') (plusA b k b' k') (max k k')] w (RetB (numOk (addA a b k a' b' k') (addB a b k a' b' k') (addK a b k a' b' k') (addO a b k a' b' k')) w)) := by
  obtain ⟨a1, a2, b1, b2, k0, k1⟩ := valid_bounds hx
  obtain ⟨a1', a2', b1', b2', k0', k1'⟩ := valid_bounds hy
  obtain ⟨p1, p2⟩ := plusA_bound a k a' k' a1 a2 a1' a2' k0 k1 k0' k1'
  obtain ⟨q1, q2⟩ := plusA_bound b k b' k' b1 b2 b1' b2' k0 k1 k0' k1'
  exact ⟨fun w => plus_any a b k a' b' k' w a1 a2 b1 b2 k0 k1 a1' a2' b1' b2' k0' k1',
    fun w hT => limited_any _ _ _ w (by omega) (by omega) (by omega) (by omega) (by omega) (by omega) hT⟩

end Go.Proofs.YtgfplfbfjkkalaaDoor
