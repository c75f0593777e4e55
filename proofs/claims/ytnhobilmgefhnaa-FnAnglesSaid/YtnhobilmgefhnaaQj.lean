/- The program's sectors of directions. -/
import Derived.Test.YtnhobilmgefhnaaQi
import Derived.RangeFuncNested
namespace Go.Proofs.Ytnhobilmgefhnaa
open Go Go.RowKit Go.Shelf
attribute [local go_sem] Oper.semAt_some

/-- A row of the call's own abides whatever turns no cells. -/
theorem own_from {w w' : World} {row : Option Nat} {base : Nat} {e : TypeId} {size : Nat} {v : Value} {n : Nat} {xs : List Value} (h : w.ownsRow base e size v n xs) (hg : w.grownBy w' row) (hr : ∀ r, row = some r → ∃ o : Obj, w.heap[r]? = some o ∧ o.isCells = false) : w'.ownsRow base e size v n xs := by
  refine h.kept hg ?_
  rcases h.2 with ⟨rfl, _⟩ | ⟨g, cap, cur, rfl, _, hgg, _⟩
  · exact .inl rfl
  · right
    intro e'
    obtain ⟨o, ho, hc⟩ := hr g e'.symm
    rw [hgg] at ho
    cases ho
    cases hc

/-- The loop's state: the sectors so far, the end. -/
def stF {n : Nat} (s : List Int × Int) (x : Ix n) : List Int × Int := (s.1.set x.1.1 (wrap64 (s.2 - x.1.2)), x.1.2)
def fold {n : Nat} (e0 : Int) (pre : List (Ix n)) : List Int × Int := pre.foldl stF (List.replicate n 0, e0)
theorem fold_snoc {n : Nat} (e0 : Int) (pre : List (Ix n)) (x : Ix n) : fold e0 (pre ++ [x]) = stF (fold e0 pre) x := by simp [fold, List.foldl_append]
theorem foldl_len {n : Nat} (pre : List (Ix n)) : ∀ s : List Int × Int, (pre.foldl stF s).1.length = s.1.length := by
  induction pre with
  | nil => intro s; rfl
  | cons x l ih => intro s; rw [List.foldl_cons, ih]; simp [stF]
theorem fold_len {n : Nat} (e0 : Int) (pre : List (Ix n)) : (fold e0 pre).1.length = n := by unfold fold; rw [foldl_len]; simp

/-- The sectors of the last k directions; zeros ahead. -/
def secK (xs : List Int) (n k : Nat) : List Int := (List.range n).map fun j => if n - k ≤ j then sec xs j else 0
theorem secK_len (xs : List Int) (n k : Nat) : (secK xs n k).length = n := by simp [secK]
theorem secK_nth (xs : List Int) (n k : Nat) {j : Nat} (h : j < n) : nth (secK xs n k) j = if n - k ≤ j then sec xs j else 0 := by
  rw [nth_of (by rw [secK_len]; exact h)]; simp [secK]
theorem secK_zero (xs : List Int) (n : Nat) : secK xs n 0 = List.replicate n 0 := by
  refine nth_ext (by simp [secK]) fun k hk => ?_
  rw [secK_len] at hk
  rw [secK_nth _ _ _ hk, if_neg (by omega), nth_of (by simpa using hk)]; simp
theorem secK_all (xs : List Int) (n : Nat) : secK xs n n = tab (sec xs) n := by
  refine nth_ext (by rw [secK_len, tab_len]) fun k hk => ?_
  rw [secK_len] at hk
  rw [secK_nth _ _ _ hk, if_pos (by omega), tab_nth hk]
theorem secK_set {xs : List Int} {n k : Nat} (h : k < n) : (secK xs n k).set (n - 1 - k) (sec xs (n - 1 - k)) = secK xs n (k + 1) := by
  refine nth_ext (by simp [secK_len]) fun p hp => ?_
  simp only [List.length_set, secK_len] at hp
  rw [nth_set (by rw [secK_len]; exact hp), secK_nth _ _ _ hp, secK_nth _ _ _ hp]
  by_cases h1 : n - 1 - k = p
  · rw [if_pos h1, if_pos (by omega), h1]
  · rw [if_neg h1]
    by_cases h2 : n - k ≤ p
    · rw [if_pos h2, if_pos (by omega)]
    · rw [if_neg h2, if_neg (by omega)]
theorem fold_upto {xs : List Int} {n : Nat} (hn : xs.length = n) (hp : 0 < n) (hd : DsK xs n) (k : Nat) (hk : k ≤ n) :
    fold (nth xs 0 + 16) (upto (bk xs n hp) k) = (secK xs n k, if k = 0 then nth xs 0 + 16 else nth xs (n - k)) := by
  induction k with
  | zero => simp [fold, upto, secK_zero]
  | succ k ih =>
    rw [upto_succ, fold_snoc, ih (by omega)]
    have h0 := hd.1 0 hp
    have h1 := hd.1 (n - 1 - k) (by omega)
    have e : wrap64 ((if k = 0 then nth xs 0 + 16 else nth xs (n - k)) - nth xs (n - 1 - k)) = sec xs (n - 1 - k) := by
      unfold sec
      rw [hn]
      by_cases h : k = 0
      · subst h
        rw [if_pos rfl, if_neg (by omega)]
        exact IntWalk.wrap64_in _ ⟨by omega, by omega⟩
      · have h2 := hd.1 (n - k) (by omega)
        rw [if_neg h, if_pos (by omega), show n - 1 - k + 1 = n - k by omega]
        exact IntWalk.wrap64_in _ ⟨by omega, by omega⟩
    show ((secK xs n k).set (n - 1 - k) (wrap64 (_ - nth xs (n - 1 - k))), nth xs (n - 1 - k)) = _
    rw [e, secK_set (by omega), if_neg (by omega), show n - (k + 1) = n - 1 - k by omega]

theorem own_cellN {w1 : World} {g n c base : Nat} {ys : List Int} (h : OwnN w1 base (.slice (some ⟨g, 0, none⟩) n c) n ys) (hl : ys.length = n) {k : Nat} (hk : k < n) : w1.cell? ⟨g, k, none⟩ = some (.int .i64 (nth ys k)) := by
  rw [h.cellAt k (by omega), List.getElem?_map, List.getElem?_eq_getElem (by omega), nth_of (by omega)]; rfl

/-- The loop's invariant: the boxes A (the slice), E (the end), the row. -/
def InvS (w : World) (BA BE : Nat) (n : Nat) (e0 : Int) (pre : List (Ix n)) (W : World) : Prop :=
  (Boxed W BA 24 (.slice (some ⟨w.heap.size, 0, none⟩) n n) ∧ Boxed W BE 2 (.int .i64 (fold e0 pre).2) ∧ OwnN W w.heap.size (.slice (some ⟨w.heap.size, 0, none⟩) n n) n (fold e0 pre).1) ∧ Below w.heap.size w W
theorem boxed_from {W W' : World} {row : Option Nat} {B : Nat} {t : TypeId} {v : Value} (h : Boxed W B t v) (hg : W.grownBy W' row) (hr : ∀ r, row = some r → ∃ o : Obj, W.heap[r]? = some o ∧ o.isCells = false) : Boxed W' B t v := by
  refine h.kept hg ?_
  intro e'
  obtain ⟨o, ho, hc⟩ := hr B e'.symm
  rw [show W.heap[B]? = _ from h] at ho
  cases ho
  cases hc
theorem invS_own {w : World} {BA BE n : Nat} {e0 : Int} {B : Nat} (hB : w.heap.size ≤ B) : OwnFrom B (InvS w BA BE n e0) := by
  intro s W W' row ⟨⟨h1, h2, h3⟩, h4⟩ hg hr
  have hr' : ∀ r, row = some r → ∃ o : Obj, W.heap[r]? = some o ∧ o.isCells = false := fun r e => (hr r e).2
  exact ⟨⟨boxed_from h1 hg hr', boxed_from h2 hg hr', own_from h3 hg hr'⟩, h4.grown hg h4.size (fun k e => Nat.le_trans hB (hr k e).1)⟩
theorem invS_step {w W : World} {BA BE Bs n : Nat} {e0 : Int} {pre : List (Ix n)} (h : InvS w BA BE n e0 pre W) (x : Ix n) (hA : w.heap.size < BA) (hE : w.heap.size < BE) (hAE : BA ≠ BE) (hs1 : w.heap.size < Bs) (hs2 : Bs ≠ BE) :
    KeepsOthers W ((W.setCell ⟨w.heap.size, x.1.1, none⟩ (.int .i64 (wrap64 ((fold e0 pre).2 - x.1.2)))).setCell ⟨BE, 0, none⟩ (.int .i64 x.1.2)) ∧
    Kb w.heap.size Bs W ((W.setCell ⟨w.heap.size, x.1.1, none⟩ (.int .i64 (wrap64 ((fold e0 pre).2 - x.1.2)))).setCell ⟨BE, 0, none⟩ (.int .i64 x.1.2)) ∧
    InvS w BA BE n e0 (pre ++ [x]) ((W.setCell ⟨w.heap.size, x.1.1, none⟩ (.int .i64 (wrap64 ((fold e0 pre).2 - x.1.2)))).setCell ⟨BE, 0, none⟩ (.int .i64 x.1.2)) := by
  obtain ⟨⟨h1, h2, h3⟩, h4⟩ := h
  have hl := fold_len e0 pre
  have hst := h3.stored x.1.1 (.int .i64 (wrap64 ((fold e0 pre).2 - x.1.2)))
  have k1 := h1.kept hst.2 (fun e => by cases e; omega)
  have k2 := h2.kept hst.2 (fun e => by cases e; omega)
  have hb : Below w.heap.size W ((W.setCell ⟨w.heap.size, x.1.1, none⟩ (.int .i64 (wrap64 ((fold e0 pre).2 - x.1.2)))).setCell ⟨BE, 0, none⟩ (.int .i64 x.1.2)) :=
    ((Below.refl _ W).setCell (p := ⟨w.heap.size, x.1.1, none⟩) (Nat.le_refl _) _).setCell (p := ⟨BE, 0, none⟩) (Nat.le_of_lt hE) _
  refine ⟨(KeepsOthers.setCell _ _ _).trans (KeepsOthers.setCell _ _ _), ⟨hb, ?_⟩, ⟨?_, ?_, ?_⟩, h4.trans hb⟩
  · rw [Below.heap_setCell _ _ _ _ hs2, Below.heap_setCell _ _ _ _ (by show Bs ≠ w.heap.size; omega)]
  · exact Boxed.other k1 hAE _
  · rw [fold_snoc]; exact Boxed.set _ k2
  · rw [fold_snoc]
    have := ownsRow_setCell_other hst.1 (a := ⟨BE, 0, none⟩) (by simp [Value.ownBlock]; omega) (.int .i64 x.1.2)
    unfold OwnN
    rw [show (stF (fold e0 pre) x).1 = (fold e0 pre).1.set x.1.1 (wrap64 ((fold e0 pre).2 - x.1.2)) from rfl, List.map_set]
    exact this

set_option maxRecDepth 100000 in
set_option maxHeartbeats 4000000 in
theorem iSO_yes (b o c : Nat) (xs : List Int) (w : World) (hb : b < w.heap.size) (hcs : Cells w b o xs) (hd : DirsP xs) (hl : xs.length ≤ 1048576)
    (HD : Hid (Calls Try.prog 34 #[.slice (some ⟨b, o, none⟩) xs.length c] w (RetP (DirsP xs) w))) :
    Calls Try.prog 10 #[.slice (some ⟨b, o, none⟩) xs.length c] w (RetOB (tab (sec xs) xs.length) true w) := by
  obtain ⟨n, hn⟩ : ∃ n, xs.length = n := ⟨_, rfl⟩
  have hp := hd.1
  have HDs := Lib.hid hd
  have HC := Lib.hid hcs
  have hd0 := hd.2.1 0 hp
  have hx0 := hcs 0 hp
  rw [Nat.add_zero] at hx0
  rw [hn] at hl HD hp ⊢
  have HN := Lib.hid hn
  clear hn hcs hd
  obtain ⟨i0, hi, hz0, hz1, hz2⟩ := info_parts infoI64
  obtain ⟨w1, hmk, hown0, hgrow0⟩ := run_make_full (P := Try.prog) w w.heap.size 24 2 i0 (.int .i64 0) 1 Try.underlying24 hi hz0 hz1 .i64 .i64 n (by rw [hz2]; omega) (by unfold maxLen; omega) (Nat.le_refl _)
  have B1 := grown_below hgrow0 (Nat.le_refl _) (fun k h => by cases h)
  have hx1 : w1.cell? ⟨b, o, none⟩ = some (.int .i64 (nth xs 0)) := (B1.cell (p := ⟨b, o, none⟩) hb).trans hx0
  have hs1 := B1.size
  have hb1 : b < w1.heap.size := by omega
  have he : IntKind.i64.wrap (nth xs 0 + 16) = nth xs 0 + 16 := IntWalk.i64_in _ (by omega)
  have HG := Lib.hid hgrow0
  have HO := Lib.hid hown0
  have HB1 := Lib.hid B1
  clear hgrow0 hown0 B1
  refine (callsIn_wide (n := 5)).1 ?_
  refine callsIn_of_wp_marks Try.func10 rfl trivial ?_ rfl
  simp only [Try.ntmps10, List.size_toArray, List.length_cons, List.length_nil, Nat.reduceAdd, Nat.reduceSub, Array.replicate_succ, Array.replicate_zero, List.push_toArray, List.append_toArray, List.nil_append, List.cons_append]
  gi_wp2_with fail
  refine ⟨trivial, ?_⟩
  refine (callsIn_wide.2 HD.out).mono ?_
  rintro e w2 ⟨r, rfl, hr, rfl⟩
  obtain rfl : r = true := by rw [hr]; exact HDs.out
  clear hr
  gi_wp2_with fail
  refine ⟨trivial, ?_⟩
  refine (back_in Fence.wide _ trivial rfl _ _ _ _).mono ?_
  rintro e w' ⟨rfl, rfl⟩
  gi_wp2_with fail
  have hrow : w.heap.size < w1.heap.size := (own_row HO.out w.heap.size rfl).2
  have bA := Boxed.new w1 24 (.slice (some ⟨w.heap.size, 0, none⟩) n n)
  have bE := Boxed.new (w1.alloc (.cells #[.slice (some ⟨w.heap.size, 0, none⟩) n n] 24)) 2 (.int .i64 (nth xs 0 + 16))
  have bD := Boxed.new ((w1.alloc (.cells #[.slice (some ⟨w.heap.size, 0, none⟩) n n] 24)).alloc (.cells #[.int .i64 (nth xs 0 + 16)] 2)) 24 (.slice (some ⟨b, o, none⟩) n c)
  simp only [World.size_alloc] at bE bD
  obtain ⟨w4, hw4⟩ : ∃ w4, ((w1.alloc (.cells #[.slice (some ⟨w.heap.size, 0, none⟩) n n] 24)).alloc (.cells #[.int .i64 (nth xs 0 + 16)] 2)).alloc (.cells #[.slice (some ⟨b, o, none⟩) n c] 24) = w4 := ⟨_, rfl⟩
  have B4 : Below w.heap.size w w4 := by rw [← hw4]; exact ((HB1.out.alloc hs1 _).alloc (by simp; omega) _).alloc (by simp; omega) _
  have z4 : w4.heap.size = w1.heap.size + 1 + 1 + 1 := by rw [← hw4]; simp
  have bA4 : Boxed w4 w1.heap.size 24 (.slice (some ⟨w.heap.size, 0, none⟩) n n) := by rw [← hw4]; exact (bA.alloc _).alloc _
  have bE4 : Boxed w4 (w1.heap.size + 1) 2 (.int .i64 (nth xs 0 + 16)) := by rw [← hw4]; exact bE.alloc _
  have bD4 : Boxed w4 (w1.heap.size + 1 + 1) 24 (.slice (some ⟨b, o, none⟩) n c) := by rw [← hw4]; exact bD
  have O4 : OwnN w4 w.heap.size (.slice (some ⟨w.heap.size, 0, none⟩) n n) n (List.replicate n 0) := by
    rw [← hw4]
    unfold OwnN
    rw [← zeros_made]
    exact ((HO.out.alloc _).alloc _).alloc _
  have c4 : ∀ j, j < n → w4.cell? ⟨b, o + j, none⟩ = some (.int .i64 (nth xs j)) := fun j hj => (B4.cell (p := ⟨b, o + j, none⟩) hb).trans (HC.out j (by rw [HN.out]; exact hj))
  rw [hw4]
  clear bA bE bD hw4 hx1 hx0 hmk
  refine wpIn_rangeFunc_ownG (F := Fence.wide) rfl (by decide) (gf := 55) (lb := #[.pointer (some ⟨w1.heap.size + 1 + 1, 0, none⟩)]) rfl trivial (enters_of Try.func55 (by kernel_rfl) rfl)
    (back_stops Fence.wide _ trivial rfl (by decide) (w1.heap.size + 1 + 1) w.heap.size b o n c xs hp hl hb w4 (by omega) (by omega) bD4.cell c4) kb_t (kb_b (by omega) (by omega)) (Below.refl _ _) (fun _ => rfl)
    (InvS w w1.heap.size (w1.heap.size + 1) n (nth xs 0 + 16)) (fun _ _ _ => False)
    (invS_own (by omega)) (fun _ _ _ _ _ hs _ _ => hs) ⟨⟨bA4, bE4, O4⟩, B4⟩
    (fun x => { tmps := #[.slice (some ⟨b, o, none⟩) n c, undef, .slice none 0 0, .bool false, .pointer (some ⟨w1.heap.size, 0, none⟩), .pointer (some ⟨w1.heap.size + 1, 0, none⟩), .int .i64 (x.1.1 : Int), .int .i64 x.1.2, .slice (some ⟨b, o, none⟩) n c, .bool true, .bool false, .slice (some ⟨b, o, none⟩) n c, .int .i64 n, .slice (some ⟨w.heap.size, 0, none⟩) n n, .slice (some ⟨b, o, none⟩) n c, .pointer (some ⟨b, o, none⟩), .int .i64 (nth xs 0), .int .i64 (nth xs 0 + 16), .slice (some ⟨b, o, none⟩) n c, .func (.func 55) #[] #[.pointer (some ⟨w1.heap.size + 1 + 1, 0, none⟩)], .int .i64 (x.1.1 : Int), .int .i64 x.1.2, undef, undef, undef, undef, undef, undef, undef, undef], defers := [] }) ?assign ?body ?done ?stop
  case assign =>
    intro l x W K hK
    simp only [ixE]
    gi_wp2
    exact hK
  case body =>
    rintro l pre x W hI _
    have hS := invS_step (Bs := w1.heap.size + 1 + 1) hI x hrow (by omega) (by omega) (by omega) (by omega)
    have cA := hI.1.1.cell
    have cE := hI.1.2.1.cell
    have fE := hI.1.2.1.frozen
    have hxn := x.2
    have cR := own_cellN hI.1.2.2 (fold_len _ _) hxn
    have fR := hI.1.2.2.frozenAt x.1.1
    have HS := Lib.hid hS
    have HI := Lib.hid hI
    clear hS hI
    gi_wp2
    exact ⟨HS.out.1.from _, HS.out.2.1, HS.out.2.2⟩
  case done =>
    rintro D ys W hD rfl hI hK
    have cA := hI.1.1.cell
    have HK := Lib.hid hK
    have HI := Lib.hid hI
    clear hI
    gi_wp2
    refine ⟨by simp, .inl ⟨_, _, rfl, run_takeDeferred HK.out, ?_⟩⟩
    refine ⟨.tuple #[.slice (some ⟨w.heap.size, 0, none⟩) n n, .bool true], by simp [results, Try.results10, go_sem], _, rfl, ?_, ?_⟩
    · have h3 := own_from HI.out.1.2.2 (grownBy_putObj' W D (.deferred none)) (fun r e => by cases e; exact ⟨_, HK.out, rfl⟩)
      rw [fold_upto HN.out hp (by have := HDs.out.2; rwa [HN.out] at this) n (Nat.le_refl _), secK_all] at h3
      unfold OwnI
      rw [tab_len]
      exact h3
    · exact HI.out.2.trans (belowK_b (w := w) (Nat.le_refl _) W D _ _ (by omega) HK.out rfl rfl)
  case stop =>
    rintro D c pre W _ _ h _
    exact h.elim

set_option maxHeartbeats 1000000 in
theorem iSO_any (v : Value) (xs : List Int) (hx : Ints xs) (b : Bool) (hv : b = true ↔ DirsP xs) (w : World) (h : Sl w w.heap.size v xs) (hl : xs.length ≤ 1048576) :
    Calls Try.prog 10 #[v] w (RetOB (secs b xs) b w) := by
  have HD := Lib.hid (iAD_any v xs hx w h hl)
  by_cases hd : DirsP xs
  · obtain rfl : b = true := hv.2 hd
    obtain ⟨A, c, rfl, hc, hcell⟩ := h
    obtain ⟨bb, o, rfl, hb, hcs⟩ := hcell hd.1
    exact iSO_yes bb o c xs w hb hcs hd hl HD
  · obtain rfl : b = false := dirsP_no hv hd
    have HN := Lib.hid hd
    clear hv hd
    go_enter Try.func10, Try.ntmps10
    go_wp2_with fail
    refine (HD.out).mono ?_
    rintro e w1 ⟨r, rfl, hr, rfl⟩
    obtain rfl : r = false := by rw [Bool.eq_false_iff]; exact fun h => HN.out (hr.1 h)
    clear hr
    go_wp2_with fail
    go_ret2
    exact ⟨_, rfl, own_nil _ _, Below.refl _ _⟩
end Go.Proofs.Ytnhobilmgefhnaa
