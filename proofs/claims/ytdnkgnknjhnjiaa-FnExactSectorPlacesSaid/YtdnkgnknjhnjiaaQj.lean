/- The program's sectors of directions. -/
import Derived.Test.YtdnkgnknjhnjiaaQi
import Derived.RangeFuncNested
namespace Go.Proofs.Ytdnkgnknjhnjiaa
open Go Go.RowKit Go.Shelf
attribute [local go_sem] Oper.semAt_some

/-- A row of the call's own abides whatever turns no cells. -/
theorem own_from {w w' : World} {row : Option Nat} {base : Nat} {e : TypeId} {size : Nat} {v : Value} {n : Nat} {xs : List Value} (h : w.ownsRow base e size v n xs) (hg : w.grownBy w' row) (hr : ∀ r, row = some r → ∃ o : Obj, w.heap[r]? = some o ∧ o.isCells = false) : w'.ownsRow base e size v n xs := by
  refine h.kept hg ?_
  rcases h.2 with ⟨rfl, _⟩ | ⟨g, cap, cur, rfl, _, hgg, _⟩
  · exact .inl rfl
  · right
    intro e'
    obtain ⟨o, ho, hc⟩ := hr g e'.symm
    rw [hgg] at ho
    cases ho
    cases hc

/-- The loop's state: the sectors so far, the end. -/
def stF {n : Nat} (s : List Int × Int) (x : Ix n) : List Int × Int := (s.1.set x.1.1 (wrap64 (s.2 - x.1.2)), x.1.2)
def fold {n : Nat} (e0 : Int) (pre : List (Ix n)) : List Int × Int := pre.foldl stF (List.replicate n 0, e0)
theorem fold_snoc {n : Nat} (e0 : Int) (pre : List (Ix n)) (x : Ix n) : fold e0 (pre ++ [x]) = stF (fold e0 pre) x := by simp [fold, List.foldl_append]
theorem foldl_len {n : Nat} (pre : List (Ix n)) : ∀ s : List Int × Int, (pre.foldl stF s).1.length = s.1.length := by
  induction pre with
  | nil => intro s; rfl
  | cons x l ih => intro s; rw [List.foldl_cons, ih]; simp [stF]
theorem fold_len {n : Nat} (e0 : Int) (pre : List (Ix n)) : (fold e0 pre).1.length = n := by unfold fold; rw [foldl_len]; simp

/-- The sectors of the last k directions; zeros ahead. -/
def secK (xs : List Int) (n k : Nat) : List Int := (List.range n).map fun j => if n - k ≤ j then sec xs j else 0
theorem secK_len (xs : List Int) (n k : Nat) : (secK xs n k).length = n := by simp [secK]
theorem secK_nth (xs : List Int) (n k : Nat) {j : Nat} (h : j < n) : nth (secK xs n k) j = if n - k ≤ j then sec xs j else 0 := by
  rw [nth_of (by rw [secK_len]; exact h)]; simp [secK]
theorem secK_zero (xs : List Int) (n : Nat) : secK xs n 0 = List.replicate n 0 := by
  refine nth_ext (by simp [secK]) fun k hk => ?_
  rw [secK_len] at hk
  rw [secK_nth _ _ _ hk, if_neg (by omega), nth_of (by simpa using hk)]; simp
theorem secK_all (xs : List Int) (n : Nat) : secK xs n n = tab (sec xs) n := by
  refine nth_ext (by rw [secK_len, tab_len]) fun k hk => ?_
  rw [secK_len] at hk
  rw [secK_nth _ _ _ hk, if_pos (by omega), tab_nth hk]
theorem secK_set {xs : List Int} {n k : Nat} (h : k < n) : (secK xs n k).set (n - 1 - k) (sec xs (n - 1 - k)) = secK xs n (k + 1) := by
  refine nth_ext (by simp [secK_len]) fun p hp => ?_
  simp only [List.length_set, secK_len] at hp
  rw [nth_set (by rw [secK_len]; exact hp), secK_nth _ _ _ hp, secK_nth _ _ _ hp]
  by_cases h1 : n - 1 - k = p
  · rw [if_pos h1, if_pos (by omega), h1]
  · rw [if_neg h1]
    by_cases h2 : n - k ≤ p
    · rw [if_pos h2, if_pos (by omega)]
    · rw [if_neg h2, if_neg (by omega)]
theorem fold_upto {xs : List Int} {n : Nat} (hn : xs.length = n) (hp : 0 < n) (hd : DsK xs n) (k : Nat) (hk : k ≤ n) :
    fold (nth xs 0 + 16) (upto (bk xs n hp) k) = (secK xs n k, if k = 0 then nth xs 0 + 16 else nth xs (n - k)) := by
  induction k with
  | zero => simp [fold, upto, secK_zero]
  | succ k ih =>
    rw [upto_succ, fold_snoc, ih (by omega)]
    have h0 := hd.1 0 hp
    have h1 := hd.1 (n - 1 - k) (by omega)
    have e : wrap64 ((if k = 0 then nth xs 0 + 16 else nth xs (n - k)) - nth xs (n - 1 - k)) = sec xs (n - 1 - k) := by
      unfold sec
      rw [hn]
      by_cases h : k = 0
      · subst h
        rw [if_pos rfl, if_neg (by omega)]
        exact IntWalk.wrap64_in _ ⟨by omega, by omega⟩
      · have h2 := hd.1 (n - k) (by omega)
        rw [if_neg h, if_pos (by omega), show n - 1 - k + 1 = n - k by omega]
        exact IntWalk.wrap64_in _ ⟨by omega, by omega⟩
    show ((secK xs n k).set (n - 1 - k) (wrap64 (_ - nth xs (n - 1 - k))), nth xs (n - 1 - k)) = _
    rw [e, secK_set (by omega), if_neg (by omega), show n - (k + 1) = n - 1 - k by omega]

theorem own_cellN {w1 : World} {g n c base : Nat} {ys : List Int} (h : OwnN w1 base (.slice (some ⟨g, 0, none⟩) n c) n ys) (hl : ys.length = n) {k : Nat} (hk : k < n) : w1.cell? ⟨g, k, none⟩ = some (.int .i64 (nth ys k)) := by
  rw [h.cellAt k (by omega), List.getElem?_map, List.getElem?_eq_getElem (by omega), nth_of (by omega)]; rfl

/-- The loop's invariant: the boxes A (the slice), E (the end), the row. -/
def InvS (w : World) (BA BE : Nat) (n : Nat) (e0 : Int) (pre : List (Ix n)) (W : World) : Prop :=
  (Boxed W BA 22 (.slice (some ⟨w.heap.size, 0, none⟩) n n) ∧ Boxed W BE 2 (.int .i64 (fold e0 pre).2) ∧ OwnN W w.heap.size (.slice (some ⟨w.heap.size, 0, none⟩) n n) n (fold e0 pre).1) ∧ Below w.heap.size w W
theorem boxed_from {W W' : World} {row : Option Nat} {B : Nat} {t : TypeId} {v : Value} (h : Boxed W B t v) (hg : W.grownBy W' row) (hr : ∀ r, row = some r → ∃ o : Obj, W.heap[r]? = some o ∧ o.isCells = false) : Boxed W' B t v := by
  refine h.kept hg ?_
  intro e'
  obtain ⟨o, ho, hc⟩ := hr B e'.symm
  rw [show W.heap[B]? = _ from h] at ho
  cases ho
  cases hc
theorem invS_own {w : World} {BA BE n : Nat} {e0 : Int} {B : Nat} (hB : w.heap.size ≤ B) : OwnFrom B (InvS w BA BE n e0) := by
  intro s W W' row ⟨⟨h1, h2, h3⟩, h4⟩ hg hr
  have hr' : ∀ r, row = some r → ∃ o : Obj, W.heap[r]? = some o ∧ o.isCells = false := fun r e => (hr r e).2
  exact ⟨⟨boxed_from h1 hg hr', boxed_from h2 hg hr', own_from h3 hg hr'⟩, h4.grown hg h4.size (fun k e => Nat.le_trans hB (hr k e).1)⟩
theorem invS_step {w W : World} {BA BE Bs n : Nat} {e0 : Int} {pre : List (Ix n)} (h : InvS w BA BE n e0 pre W) (x : Ix n) (hA : w.heap.size < BA) (hE : w.heap.size < BE) (hAE : BA ≠ BE) (hs1 : w.heap.size < Bs) (hs2 : Bs ≠ BE) :
    KeepsOthers W ((W.setCell ⟨w.heap.size, x.1.1, none⟩ (.int .i64 (wrap64 ((fold e0 pre).2 - x.1.2)))).setCell ⟨BE, 0, none⟩ (.int .i64 x.1.2)) ∧
    Kb w.heap.size Bs W ((W.setCell ⟨w.heap.size, x.1.1, none⟩ (.int .i64 (wrap64 ((fold e0 pre).2 - x.1.2)))).setCell ⟨BE, 0, none⟩ (.int .i64 x.1.2)) ∧
    InvS w BA BE n e0 (pre ++ [x]) ((W.setCell ⟨w.heap.size, x.1.1, none⟩ (.int .i64 (wrap64 ((fold e0 pre).2 - x.1.2)))).setCell ⟨BE, 0, none⟩ (.int .i64 x.1.2)) := by
  obtain ⟨⟨h1, h2, h3⟩, h4⟩ := h
  have hl := fold_len e0 pre
  have hst := h3.stored x.1.1 (.int .i64 (wrap64 ((fold e0 pre).2 - x.1.2)))
  have k1 := h1.kept hst.2 (fun e => by cases e; omega)
  have k2 := h2.kept hst.2 (fun e => by cases e; omega)
  have hb : Below w.heap.size W ((W.setCell ⟨w.heap.size, x.1.1, none⟩ (.int .i64 (wrap64 ((fold e0 pre).2 - x.1.2)))).setCell ⟨BE, 0, none⟩ (.int .i64 x.1.2)) :=
    ((Below.refl _ W).setCell (p := ⟨w.heap.size, x.1.1, none⟩) (Nat.le_refl _) _).setCell (p := ⟨BE, 0, none⟩) (Nat.le_of_lt hE) _
  refine ⟨(KeepsOthers.setCell _ _ _).trans (KeepsOthers.setCell _ _ _), ⟨hb, ?_⟩, ⟨?_, ?_, ?_⟩, h4.trans hb⟩
  · rw [Below.heap_setCell _ _ _ _ hs2, Below.heap_setCell _ _ _ _ (by show Bs ≠ w.heap.size; omega)]
  · exact Boxed.other k1 hAE _
  · rw [fold_snoc]; exact Boxed.set _ k2
  · rw [fold_snoc]
    have := ownsRow_setCell_other hst.1 (a := ⟨BE, 0, none⟩) (by simp [Value.ownBlock]; omega) (.int .i64 x.1.2)
    unfold OwnN
    rw [show (stF (fold e0 pre) x).1 = (fold e0 pre).1.set x.1.1 (wrap64 ((fold e0 pre).2 - x.1.2)) from rfl, List.map_set]
    exact this

end Go.Proofs.Ytdnkgnknjhnjiaa
