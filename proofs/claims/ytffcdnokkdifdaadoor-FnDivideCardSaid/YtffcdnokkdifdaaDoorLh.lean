/- What FnNumSigns asks of its callees: one bundle. -/
import Derived.Test.YtffcdnokkdifdaaDoorLg
namespace Go.Proofs.YtffcdnokkdifdaaDoor
open Go Go.RowKit OriM

theorem i3_of_valid {a b k : Int} (h : validB a b k = true) : I3 a b k := by
  obtain ⟨a1, a2, b1, b2, _, _⟩ := valid_bounds h
  exact ⟨by omega, by omega, by omega, by omega⟩

theorem i3_small {f : Int} (h0 : -400001 ≤ f) (h1 : f ≤ 400001) : I3 f 0 0 := ⟨by omega, by omega, by omega, by omega⟩

/-- A contract that answers one value and turns nothing old, the table being laid. -/
def Does (f : FuncId) (args : Array Value) (v : Value) : Prop := ∀ w, TzTab w → Calls Tryd.prog f args w (RetB v w)

theorem Does.sign {a b k : Int} (h : validB a b k = true) : Does 25 #[num a b k] (.int .i64 (sgnV a b k)) := fun w hT => SignNum_any a b k (i3_of_valid h) w hT
theorem Does.cmp {a b k a' b' k' : Int} (h : validB a b k = true) (h' : validB a' b' k' = true) : Does 26 #[num a b k, num a' b' k'] (.int .i64 (cmpV a b k a' b' k')) :=
  fun w hT => CompareNum_any a b k a' b' k' (i3_of_valid h) (i3_of_valid h') w hT
theorem Does.mul {a b k a' b' k' : Int} (h : validB a b k = true) (h' : validB a' b' k' = true) : Does 20 #[num a b k, num a' b' k'] (numOk (mulA a b k a' b' k') (mulB a b k a' b' k') (mulK a b k a' b' k') (mulO a b k a' b' k')) :=
  fun w hT => by
    have := MulNum_any a b k a' b' k' (i3_of_valid h) (i3_of_valid h') w hT
    rw [h, h', Bool.and_true, if_pos rfl] at this
    exact this
theorem Does.add {a b k a' b' k' : Int} (h : validB a b k = true) (h' : validB a' b' k' = true) : Does 19 #[num a b k, num a' b' k'] (numOk (addA a b k a' b' k') (addB a b k a' b' k') (addK a b k a' b' k') (addO a b k a' b' k')) :=
  fun w hT => by
    have := AddNum_any a b k a' b' k' (i3_of_valid h) (i3_of_valid h') w hT
    rw [h, h', Bool.and_true, if_pos rfl] at this
    exact this
theorem Does.sub {a b k a' b' k' : Int} (h : validB a b k = true) (h' : validB a' b' k' = true) : Does 22 #[num a b k, num a' b' k'] (numOk (addA a b k (-a') (-b') k') (addB a b k (-a') (-b') k') (addK a b k (-a') (-b') k') (addO a b k (-a') (-b') k')) :=
  fun w hT => by
    have := SubNum_any a b k a' b' k' (i3_of_valid h) (i3_of_valid h') w hT
    rw [h, h', Bool.and_true, if_pos rfl] at this
    exact this
theorem Does.floor {a b k : Int} (h : validB a b k = true) : Does 27 #[num a b k] (.int .i64 (floorV a b k)) := fun w hT => by
  have := FloorNum_any a b k (i3_of_valid h) w hT
  rw [if_pos h] at this
  exact this
theorem Does.make {f : Int} (h0 : -400001 ≤ f) (h1 : f ≤ 400001) : Does 28 #[.int .i64 f, .int .i64 0, .int .i64 0] (numOk (limA f 0 0) (limB f 0 0) (limK f 0 0) (limO f 0 0)) := fun w _ =>
  sMakeNum_any f 0 0 (i3_small h0 h1) w

theorem wrap_small {n : Int} (h0 : -1000000 ≤ n) (h1 : n ≤ 1000000) : IntKind.i64.wrap n = n := by rw [IntKind.wrap_i64]; omega

theorem sgnV_range (a b k : Int) : -1 ≤ sgnV a b k ∧ sgnV a b k ≤ 1 := by
  unfold sgnV
  split
  · exact sgn2_range _ _
  · omega

theorem prod_range {x y : Int} (hx : -1 ≤ x ∧ x ≤ 1) (hy : -1 ≤ y ∧ y ≤ 1) : -1000000 ≤ x * y ∧ x * y ≤ 1000000 := by
  rcases (show x = -1 ∨ x = 0 ∨ x = 1 by omega) with rfl | rfl | rfl <;> omega

/-- All of it, for three valid numbers. -/
theorem signs_facts {a b k a' b' k' a'' b'' k'' : Int} (hx : validB a b k = true) (hy : validB a' b' k' = true) (hz : validB a'' b'' k'' = true) :
    ∃ pA pB pK sP sX sY cXY cYX dA dB dK sD uA uB uK tA tB tK cUT f lA lB lK cL hA hB hK cH : Int, ∃ mO dO uO tO lO hO : Bool,
      Does 20 #[num a b k, num a' b' k'] (numOk pA pB pK mO) ∧ (mO = true → Does 25 #[num pA pB pK] (.int .i64 sP)) ∧
      Does 25 #[num a b k] (.int .i64 sX) ∧ Does 25 #[num a' b' k'] (.int .i64 sY) ∧ (mO = true → IntKind.i64.wrap (sX * sY) = sP) ∧
      Does 26 #[num a b k, num a' b' k'] (.int .i64 cXY) ∧ Does 26 #[num a' b' k', num a b k] (.int .i64 cYX) ∧ Does 26 #[num a b k, num a b k] (.int .i64 0) ∧
      IntKind.i64.wrap (-cYX) = cXY ∧ (cXY = 0 → eqB a b k a' b' k' = true) ∧
      Does 22 #[num a b k, num a' b' k'] (numOk dA dB dK dO) ∧ (dO = true → Does 25 #[num dA dB dK] (.int .i64 sD)) ∧ (dO = true → sD = cXY) ∧
      Does 19 #[num a b k, num a'' b'' k''] (numOk uA uB uK uO) ∧ Does 19 #[num a' b' k', num a'' b'' k''] (numOk tA tB tK tO) ∧
      (uO = true → tO = true → Does 26 #[num uA uB uK, num tA tB tK] (.int .i64 cUT)) ∧ (uO = true → tO = true → cUT = cXY) ∧
      Does 27 #[num a b k] (.int .i64 f) ∧ IntKind.i64.wrap (f + 1) = f + 1 ∧
      Does 28 #[.int .i64 f, .int .i64 0, .int .i64 0] (numOk lA lB lK lO) ∧ Does 28 #[.int .i64 (f + 1), .int .i64 0, .int .i64 0] (numOk hA hB hK hO) ∧
      (lO = true → Does 26 #[num lA lB lK, num a b k] (.int .i64 cL)) ∧ (lO = true → cL ≤ 0) ∧
      (hO = true → Does 26 #[num hA hB hK, num a b k] (.int .i64 cH)) ∧ (hO = true → 0 < cH) := by
  obtain ⟨f0, f1⟩ := floorV_range hx
  have lv : ∀ {A B K : Int}, limO A B K = true → validB (limA A B K) (limB A B K) (limK A B K) = true := by
    intro A B K h
    exact lim_valid' (x := q A B K) (by rw [lim_q, if_pos h]) (lim_k _ _ _)
  refine ⟨_, _, _, sgnV (mulA a b k a' b' k') (mulB a b k a' b' k') (mulK a b k a' b' k'), sgnV a b k, sgnV a' b' k', cmpV a b k a' b' k', cmpV a' b' k' a b k, _, _, _,
    sgnV (addA a b k (-a') (-b') k') (addB a b k (-a') (-b') k') (addK a b k (-a') (-b') k'), _, _, _, _, _, _,
    cmpV (addA a b k a'' b'' k'') (addB a b k a'' b'' k'') (addK a b k a'' b'' k'') (addA a' b' k' a'' b'' k'') (addB a' b' k' a'' b'' k'') (addK a' b' k' a'' b'' k''), floorV a b k, _, _, _,
    cmpV (limA (floorV a b k) 0 0) (limB (floorV a b k) 0 0) (limK (floorV a b k) 0 0) a b k, _, _, _,
    cmpV (limA (floorV a b k + 1) 0 0) (limB (floorV a b k + 1) 0 0) (limK (floorV a b k + 1) 0 0) a b k, _, _, _, _, _, _,
    Does.mul hx hy, fun h => Does.sign (lv h), Does.sign hx, Does.sign hy, fun h => ?_, Does.cmp hx hy, Does.cmp hy hx, ?_, ?_, cmpV_eq hx hy,
    Does.sub hx hy, fun h => Does.sign (lv h), sub_sign hx hy, Does.add hx hz, Does.add hy hz, fun h g => Does.cmp (lv h) (lv g), fun h g => add_cmp hx hy hz h g,
    Does.floor hx, wrap_small (by omega) (by omega), Does.make (by omega) (by omega), Does.make (by omega) (by omega), fun h => Does.cmp (lv h) hx, low_cmp hx, fun h => Does.cmp (lv h) hx, high_cmp hx⟩
  · rw [mul_sign hx hy h]
    have := prod_range (sgnV_range a b k) (sgnV_range a' b' k')
    exact wrap_small this.1 this.2
  · have := Does.cmp hx hx
    rw [cmpV_self hx] at this
    exact this
  · have := cmpV_range a' b' k' a b k
    rw [wrap_small (by omega) (by omega), cmpV_anti hx hy]
end Go.Proofs.YtffcdnokkdifdaaDoor
