/- What FnDivide asks of its callees: one bundle. -/
import Derived.Test.YtffcdnokkdifdaaDoorLh
import Derived.Test.YtffcdnokkdifdaaDoorSi
import Derived.Test.YtffcdnokkdifdaaDoorLa
namespace Go.Proofs.YtffcdnokkdifdaaDoor
open Go Go.RowKit OriM

theorem Does.div {a b k a' b' k' : Int} (h : validB a b k = true) (h' : validB a' b' k' = true) : Does 29 #[num a b k, num a' b' k'] (optV (Q.divN (q a b k) (q a' b' k'))) :=
  fun w hT => DivNum_ok h h' (i3_of_valid h) (i3_of_valid h') w hT

theorem optV_q {a b k : Int} (k0 : 0 ≤ k) : optV (some (q a b k)) = numOk a b k true := by
  simp only [optV, q]
  rw [Int.toNat_of_nonneg k0]

theorem q_of (r : Q) : q r.a r.b r.k = r := rfl

theorem mul_is {a b k a' b' k' x y z : Int} (hx : validB a b k = true) (hy : validB a' b' k' = true) (z0 : 0 ≤ z) (h : Q.mulN (q a b k) (q a' b' k') = some (q x y z)) :
    numOk (mulA a b k a' b' k') (mulB a b k a' b' k') (mulK a b k a' b' k') (mulO a b k a' b' k') = numOk x y z true := by
  rw [mul_q hx hy] at h
  by_cases ho : mulO a b k a' b' k' = true
  · rw [if_pos ho] at h
    have e := congrArg optV h
    rw [optV_q z0, optV_q (show 0 ≤ mulK a b k a' b' k' from lim_k _ _ _)] at e
    rw [ho]
    exact e
  · rw [if_neg ho] at h; cases h

theorem divide_facts {a b k a' b' k' : Int} (hx : validB a b k = true) (hy : validB a' b' k' = true) :
    ∃ qA qB qK pA pB pK sY : Int, ∃ dO mO : Bool,
      Does 29 #[num a b k, num a' b' k'] (numOk qA qB qK dO) ∧ (∀ w, Calls Tryd.prog 30 #[num a b k, num a' b' k'] w (RetB (numOk qA qB qK dO) w)) ∧
      (dO = true → Does 20 #[num qA qB qK, num a' b' k'] (numOk a b k true)) ∧ (dO = true → Does 21 #[num qA qB qK] (.bool true)) ∧
      Does 20 #[num a b k, num a' b' k'] (numOk pA pB pK mO) ∧ Does 25 #[num a' b' k'] (.int .i64 sY) ∧
      (mO = true → sY ≠ 0 → Does 29 #[num pA pB pK, num a' b' k'] (numOk a b k true)) ∧ Does 29 #[num a b k, num 0 0 0] (numOk 0 0 0 false) := by
  obtain ⟨_, _, _, _, k0, _⟩ := valid_bounds hx
  have tail : ∃ pA pB pK sY : Int, ∃ mO : Bool, Does 20 #[num a b k, num a' b' k'] (numOk pA pB pK mO) ∧ Does 25 #[num a' b' k'] (.int .i64 sY) ∧
      (mO = true → sY ≠ 0 → Does 29 #[num pA pB pK, num a' b' k'] (numOk a b k true)) ∧ Does 29 #[num a b k, num 0 0 0] (numOk 0 0 0 false) := by
    refine ⟨_, _, _, sgnV a' b' k', _, Does.mul hx hy, Does.sign hy, fun ho hs => ?_, ?_⟩
    · have e := mul_some hx hy ho
      have hp := lim_valid' e (lim_k _ _ _)
      have hn : Q.normOf (q a' b' k') ≠ 0 := by
        intro h
        obtain ⟨h1, h2⟩ := Q.norm_zero h
        apply hs
        rw [sgnV_q hy]
        unfold Q.sgn
        rw [h1, h2]
        exact Q.sgn2_zero
      have := Does.div hp hy
      rw [Q.mulN_divN (q_valid hx) (q_valid hy) hn e, optV_q k0] at this
      exact this
    · have hz : validB 0 0 0 = true := by decide
      have := Does.div hx hz
      rw [divN_none (fun h => h.1 (by simp [Q.normOf, q]))] at this
      exact this
  obtain ⟨pA, pB, pK, sY, mO, t1, t2, t3, t4⟩ := tail
  cases e : Q.divN (q a b k) (q a' b' k') with
  | none =>
    refine ⟨0, 0, 0, pA, pB, pK, sY, false, mO, ?_, ?_, (fun h => by cases h), (fun h => by cases h), t1, t2, t3, t4⟩
    · have := Does.div hx hy
      rw [e] at this
      exact this
    · intro w
      have := sDivNum_ok a b k a' b' k' hx hy w
      unfold divV at this
      rw [e] at this
      exact this
  | some r =>
    have hr : r.valid := by
      unfold Q.divN at e
      split at e
      · exact (Q.lim_valid e).1
      · cases e
    have hv : validB r.a r.b r.k = true := valid_of_q (by omega) hr
    refine ⟨r.a, r.b, r.k, pA, pB, pK, sY, true, mO, ?_, ?_, fun _ => ?_, fun _ => ?_, t1, t2, t3, t4⟩
    · have := Does.div hx hy
      rw [e] at this
      exact this
    · intro w
      have := sDivNum_ok a b k a' b' k' hx hy w
      unfold divV at this
      rw [e] at this
      exact this
    · have := Does.mul hv hy
      rw [mul_is hv hy k0 (Q.divN_mulN (q_valid hx) (q_valid hy) e)] at this
      exact this
    · intro w hT
      have := sValidNum_any r.a r.b r.k w
      rw [hv] at this
      exact this
end Go.Proofs.YtffcdnokkdifdaaDoor
