/- Little runs: by the program. -/
import Derived.Test.YtnhobilmgefhnaaVl
import Derived.Test.YtnhobilmgefhnaaVr
import Derived.Test.YtnhobilmgefhnaaVs
namespace Go.Proofs.Ytnhobilmgefhnaa
open Go Go.RowKit Go.Shelf
attribute [local go_sem] Oper.semAt_some

/-- Element c is the first one that is not as the first. -/
def BhP (r : List Int) (n c : Nat) : Prop := c < n ∧ nth r c ≠ nth r 0 ∧ ∀ j, j < c → nth r j = nth r 0
/-- The first c elements are a little run. -/
def LrP (r : List Int) (n c : Nat) : Prop := BhP r n c ∧ nth r 0 < nth r (n - 1) ∧ nth r 0 < nth r c
theorem bhP_one {r : List Int} {n c d : Nat} (h : BhP r n c) (k : BhP r n d) : c = d := by
  rcases Nat.lt_trichotomy c d with h1 | h1 | h1
  · exact absurd (k.2.2 c h1) h.2.1
  · exact h1
  · exact absurd (h.2.2 d h1) k.2.1
theorem bhP_pos {r : List Int} {n c : Nat} (h : BhP r n c) : 0 < c := by
  rcases c with _ | c
  · exact absurd rfl h.2.1
  · omega
open Classical in
/-- How many elements the run at the beginning has; 0 if there is none. -/
noncomputable def lr (r : List Int) (n : Nat) : Nat := if h : ∃ c, LrP r n c then h.choose else 0
theorem lr_of {r : List Int} {n c : Nat} (h : LrP r n c) : lr r n = c := by
  unfold lr
  rw [dif_pos ⟨c, h⟩]
  exact bhP_one (Exists.choose_spec (⟨c, h⟩ : ∃ c, LrP r n c)).1 h.1
theorem lr_no {r : List Int} {n : Nat} (h : ¬ ∃ c, LrP r n c) : lr r n = 0 := by unfold lr; rw [dif_neg h]
theorem lr_le (r : List Int) (n : Nat) : lr r n ≤ n := by
  by_cases h : ∃ c, LrP r n c
  · obtain ⟨c, hc⟩ := h
    rw [lr_of hc]
    exact Nat.le_of_lt hc.1.1
  · rw [lr_no h]; omega

/-- The run that begins with element k, cell for cell; all of the first k; their number. -/
noncomputable def runF (xs : List Int) (n k : Nat) : List Int := if lr (rot xs k) n = 0 then [] else [(k : Int), (lr (rot xs k) n : Int), nth xs k]
noncomputable def runsF (xs : List Int) (n : Nat) : Nat → List Int
  | 0 => []
  | k + 1 => runsF xs n k ++ runF xs n k
noncomputable def runsN (xs : List Int) (n : Nat) : Nat → Nat
  | 0 => 0
  | k + 1 => runsN xs n k + (if lr (rot xs k) n = 0 then 0 else 1)
theorem runs_yes {xs : List Int} {n k c : Nat} (h : LrP (rot xs k) n c) : runsF xs n (k + 1) = runsF xs n k ++ [(k : Int), (c : Int), nth xs k] ∧ runsN xs n (k + 1) = runsN xs n k + 1 := by
  have h0 : lr (rot xs k) n = c := lr_of h
  have hc : ¬ c = 0 := by have := bhP_pos h.1; omega
  constructor
  · show runsF xs n k ++ runF xs n k = _
    unfold runF
    rw [h0, if_neg hc]
  · show runsN xs n k + _ = _
    rw [h0, if_neg hc]
theorem runs_no {xs : List Int} {n k : Nat} (h : ¬ ∃ c, LrP (rot xs k) n c) : runsF xs n (k + 1) = runsF xs n k ∧ runsN xs n (k + 1) = runsN xs n k := by
  have h0 : lr (rot xs k) n = 0 := lr_no h
  constructor
  · show runsF xs n k ++ runF xs n k = _
    unfold runF
    rw [h0, if_pos rfl, List.append_nil]
  · show runsN xs n k + _ = _
    rw [h0, if_pos rfl, Nat.add_zero]
theorem runsN_le (xs : List Int) (n k : Nat) : runsN xs n k ≤ k := by
  induction k with
  | zero => simp [runsN]
  | succ k ih => simp only [runsN]; split <;> omega
theorem rot_zero {xs : List Int} {k : Nat} (h : k < xs.length) : nth (rot xs k) 0 = nth xs k := by
  unfold rot
  rw [nth_of (by simp; omega), nth_of h, List.getElem_append_left (by simp; omega), List.getElem_drop]
  simp

set_option maxHeartbeats 1000000 in
theorem neq_any (x s : Int) (B : Nat) (w : World) (hB : w.cell? ⟨B, 0, none⟩ = some (.int .i64 s)) : Calls Try.prog 64 #[.int .i64 x, .pointer (some ⟨B, 0, none⟩)] w (RetV (.bool (x != s)) w) := by
  go_enter Try.func64, Try.ntmps64
  go_wp2_with fail
  go_ret
  exact ⟨rfl, rfl⟩

/-- The index of the first element that is not s; -1 if there is none. -/
def IdxP (r : List Int) (n : Nat) (s z : Int) : Prop := (∃ c : Nat, c < n ∧ nth r c ≠ s ∧ (∀ j, j < c → nth r j = s) ∧ z = (c : Int)) ∨ ((∀ j, j < n → nth r j = s) ∧ z = -1)
set_option maxHeartbeats 2000000 in
theorem idx_any (v : Value) (r : List Int) (n : Nat) (s : Int) (B : Nat) (hr : r.length = n) (hp : 0 < n) (hl : n ≤ 1048576) (w : World) (hv : Sl w w.heap.size v r) (hB : w.cell? ⟨B, 0, none⟩ = some (.int .i64 s)) :
    Calls Try.prog 63 #[v, .func (.func 64) #[] #[.pointer (some ⟨B, 0, none⟩)]] w fun e w' => ∃ z, e = .returned (.int .i64 z) ∧ IdxP r n s z ∧ w = w' := by
  obtain ⟨b, o, c, rfl, hc, hb, C⟩ := sl_at hv hr hp
  have HC := Lib.hid C
  have HR := Lib.hid hr
  have HN := Lib.hid (fun x => neq_any x s B w hB)
  clear C hr hv hB
  go_enter Try.func63, Try.ntmps63
  go_wp2_with fail
  go_loopw [8] (fun i wr => ∃ k : Nat, k ≤ n ∧ i = .int .i64 k ∧ Hid (∀ j, j < k → nth r j = s) ∧ wr = w) (fun i _ => n - (intOf i).toNat)
  case atStart => exact ⟨0, Nat.zero_le _, rfl, Lib.hid (fun j hj => absurd hj (by omega)), rfl⟩
  case round =>
    obtain ⟨k, hk, rfl, hall, hw⟩ := hrel
    replace hw := hw.symm
    subst hw
    by_cases hlt : k < n
    · have x1 := HC.out k (by rw [HR.out]; exact hlt)
      have HX := Lib.hid (HN.out (nth r k))
      by_cases he : nth r k = s
      · have e1 : (nth r k != s) = false := by simp [he]
        have HE := Lib.hid (show ∀ j, j < k + 1 → nth r j = s from fun j hj => by
          rcases Nat.lt_or_ge j k with h' | h'
          · exact hall.out j h'
          · obtain rfl : j = k := by omega
            exact he)
        clear he
        go_wp2_with fail
        refine (HX.out).mono ?_
        rintro e w1 ⟨rfl, rfl⟩
        go_wp2_with fail
        go_roundw
        case rel => exact ⟨k + 1, by omega, by go_num, HE, by first | rfl | trivial⟩
        case measure => simp [intOf]; omega
      · have e1 : (nth r k != s) = true := by simp [he]
        have HE := Lib.hid he
        clear he
        go_wp2_with fail
        refine (HX.out).mono ?_
        rintro e w1 ⟨rfl, rfl⟩
        go_wp2_with fail
        go_ret
        exact ⟨_, rfl, .inl ⟨k, hlt, HE.out, hall.out, rfl⟩, by first | rfl | trivial⟩
    · obtain rfl : k = n := by omega
      go_wp2_with fail
      go_ret
      exact ⟨_, rfl, .inr ⟨hall.out, rfl⟩, by first | rfl | trivial⟩

theorem infoRun : (Try.prog.info? 41).map (fun i => (i.zero, i.size, i.bytes)) = some (some (p3v 0 0 0), 3, 24) := by kernel_rfl
/-- The box F holds the runs that have come; the box Bs the list whose rotations come. -/
structure InvT (w : World) (F Bs : Nat) (img : Value) (xs : List Int) {n : Nat} (pre : List (Rot n)) (W : World) : Prop where
  runs : ∃ fv, Boxed W F 38 fv ∧ OwnR W w.heap.size fv (runsN xs n pre.length) (runsF xs n pre.length)
  img : Boxed W Bs 24 img
  bel : Below w.heap.size w W
theorem invT_own {w : World} {F Bs : Nat} {img : Value} {xs : List Int} {n : Nat} {B : Nat} (hB : w.heap.size ≤ B) : OwnFrom B (InvT w F Bs img xs (n := n)) := by
  rintro s W W' row ⟨⟨fv, h1, h2⟩, hi, h3⟩ hg hr
  have hc := fun r e => (hr r e).2
  exact ⟨⟨fv, boxV_from h1 hg hc, ownV_from h2 hg hc⟩, boxV_from hi hg hc, h3.grown hg h3.size (fun k e => Nat.le_trans hB (hr k e).1)⟩
theorem keeps_fresh {z : Nat} {A B : World} (h : Fresh A B) : KeepsFrom z A B := ⟨h.size, fun k _ _ hk _ => (h.block k (Array.getElem?_eq_some_iff.1 hk).1).trans hk⟩
/-- A round without a run. -/
theorem invT_no {w W W' : World} {F Bs z b : Nat} {img : Value} {xs : List Int} {n : Nat} {pre : List (Rot n)} {x : Rot n} (h : InvT w F Bs img xs pre W) (hf : Fresh W W') (hb : b < w.heap.size) (hx : x.1.1 = pre.length) (hno : ¬ ∃ c, LrP (rot xs x.1.1) n c) :
    KeepsFrom z W W' ∧ Kr b Bs W W' ∧ InvT w F Bs img xs (pre ++ [x]) W' := by
  obtain ⟨⟨fv, h1, h2⟩, hi, h3⟩ := h
  have hs := h3.size
  have hg := fresh_grown hf
  refine ⟨keeps_fresh hf, kr_below hf (by omega) hi.lt, ⟨⟨fv, h1.kept hg (by simp), ?_⟩, hi.kept hg (by simp), h3.grown hg hs (fun k e => by cases e)⟩⟩
  rw [List.length_append]
  show OwnR _ _ _ (runsN xs n (pre.length + 1)) (runsF xs n (pre.length + 1))
  rw [hx] at hno
  rw [(runs_no hno).1, (runs_no hno).2]
  exact h2.kept hg (by
    rcases h2.2 with ⟨rfl, _⟩ | ⟨g, cap, cur, rfl, _⟩
    · exact .inl rfl
    · exact .inr (by simp [Value.ownBlock]))
/-- A round with a run. -/
theorem invT_yes {w W W2 w1 : World} {F Bs z b c : Nat} {img fv v' : Value} {ob : Obj} {xs : List Int} {n : Nat} {pre : List (Rot n)} {x : Rot n} (h : InvT w F Bs img xs pre W) (hf : Fresh W W2) (hF : w.heap.size ≤ F) (hFB : Bs ≠ F) (hb : b < w.heap.size) (hx : x.1.1 = pre.length) (hc : LrP (rot xs x.1.1) n c)
    (h1 : Boxed W2 F 38 fv) (h2 : OwnR W2 w.heap.size fv (runsN xs n pre.length) (runsF xs n pre.length))
    (hown' : w1.ownsRow w.heap.size 41 3 v' (runsN xs n pre.length + 1) ((runsF xs n pre.length).map (Value.int .i64) ++ [.int .i64 (x.1.1 : Int), .int .i64 (c : Int), .int .i64 (nth xs x.1.1)])) (hgrow : (W2.alloc ob).grownBy w1 fv.ownBlock) :
    KeepsFrom z W (w1.setCell ⟨F, 0, none⟩ v') ∧ Kr b Bs W (w1.setCell ⟨F, 0, none⟩ v') ∧ InvT w F Bs img xs (pre ++ [x]) (w1.setCell ⟨F, 0, none⟩ v') ∧ Boxed w1 F 38 fv := by
  have hs := h.bel.size
  have hg := fresh_grown hf
  have hz2 : w.heap.size ≤ W2.heap.size := Nat.le_trans hs hf.size
  obtain ⟨hv1, hv2, hr2, hk2, hb2⟩ := h1.appended (n₀ := w.heap.size) (by decide) h2 hz2 hF hown' hgrow
  have hi2 : Boxed W2 Bs 24 img := h.img.kept hg (by simp)
  have hi1 : Boxed w1 Bs 24 img := (hi2.alloc _).kept hgrow (hi2.not_row (by decide) h2)
  have hi3 : Boxed (w1.setCell ⟨F, 0, none⟩ v') Bs 24 img := hi1.kept (grownBy_setCell' w1 F v') (by simpa using hFB)
  have hB2 : Below w.heap.size W (w1.setCell ⟨F, 0, none⟩ v') := (Below.mono hf hs).trans hb2
  refine ⟨(keeps_fresh hf).trans (hk2.from _), ⟨hB2.size, hB2.block b hb, (show (w1.setCell ⟨F, 0, none⟩ v').heap[Bs]? = _ from hi3).trans (show W.heap[Bs]? = _ from h.img).symm⟩, ⟨⟨v', hv2, ?_⟩, hi3, h.bel.trans hB2⟩, hv1⟩
  rw [List.length_append]
  show OwnR _ _ _ (runsN xs n (pre.length + 1)) (runsF xs n (pre.length + 1))
  rw [hx] at hc
  rw [(runs_yes hc).1, (runs_yes hc).2]
  unfold OwnR
  rw [List.map_append]
  rw [hx] at hr2
  exact hr2

set_option linter.unusedSimpArgs false in
set_option maxRecDepth 100000 in
set_option maxHeartbeats 8000000 in
theorem iLr_yes (b o c n : Nat) (xs : List Int) (w : World) (hx : xs.length = n) (hp : 0 < n) (hc : n ≤ c) (hb : b < w.heap.size) (hcs : Cells w b o xs) (hl : n ≤ 16) :
    Calls Try.prog 43 #[.slice (some ⟨b, o, none⟩) n c] w fun e w' => ∃ u, e = .returned u ∧ OwnR w' w.heap.size u (runsN xs n n) (runsF xs n n) ∧ Below w.heap.size w w' := by
  have HC := Lib.hid hcs
  have HX := Lib.hid hx
  clear hcs hx
  refine (callsIn_wide (n := 5)).1 ?_
  refine callsIn_of_wp_marks Try.func43 rfl trivial ?_ rfl
  simp only [Try.ntmps43, List.size_toArray, List.length_cons, List.length_nil, Nat.reduceAdd, Nat.reduceSub, Array.replicate_succ, Array.replicate_zero, List.push_toArray, List.append_toArray, List.nil_append, List.cons_append]
  gi_wp2_with fail
  refine ⟨trivial, ?_⟩
  refine (rots_in _ _ _ _ _).mono ?_
  rintro e w' ⟨rfl, rfl⟩
  gi_wp2_with fail
  have bF := Boxed.new w 38 (.slice none 0 0)
  have bL := Boxed.new (w.alloc (.cells #[.slice none 0 0] 38)) 24 (.slice (some ⟨b, o, none⟩) n c)
  simp only [World.size_alloc] at bL
  obtain ⟨w4, hw4⟩ : ∃ w4, (w.alloc (.cells #[.slice none 0 0] 38)).alloc (.cells #[.slice (some ⟨b, o, none⟩) n c] 24) = w4 := ⟨_, rfl⟩
  have B4 : Below w.heap.size w w4 := by rw [← hw4]; exact ((Below.refl _ w).alloc (Nat.le_refl _) _).alloc (by simp) _
  have z4 : w4.heap.size = w.heap.size + 1 + 1 := by rw [← hw4]; simp
  have bF4 : Boxed w4 w.heap.size 38 (.slice none 0 0) := by rw [← hw4]; exact bF.alloc _
  have bL4 : Boxed w4 (w.heap.size + 1) 24 (.slice (some ⟨b, o, none⟩) n c) := by rw [← hw4]; exact bL
  rw [hw4]
  clear bF bL hw4
  refine wpIn_rangeFunc_made (F := Fence.wide) rfl (by decide) (gf := 58) (lb := #[.pointer (some ⟨w.heap.size + 1, 0, none⟩)]) rfl trivial (enters_of Try.func58 (by kernel_rfl) rfl)
    (rots_made _ (w.heap.size + 1) w.heap.size b o n c xs HX.out (by omega) hc w4 (by omega) (by omega) (by omega) bL4.cell (cells_below HC.out B4 hb)) kr_t (kr_b (by omega) (by omega)) (Below.refl _ _) (fun _ => rfl)
    (InvT w w.heap.size (w.heap.size + 1) (.slice (some ⟨b, o, none⟩) n c) xs) (fun _ _ _ => False) (invT_own (by omega)) (fun _ _ _ _ _ hs _ _ => hs) (fun pre x => yr_own pre x) ⟨⟨_, bF4, World.ownsRow_nil _ _ _ _⟩, bL4, B4⟩
    (fun x => { tmps := #[.slice (some ⟨b, o, none⟩) n c, undef, .slice none 0 0, .pointer (some ⟨w.heap.size, 0, none⟩), .int .i64 (x.1.1 : Int), x.2, undef, undef, undef, .slice (some ⟨b, o, none⟩) n c, .func (.func 58) #[] #[.pointer (some ⟨w.heap.size + 1, 0, none⟩)], .int .i64 (x.1.1 : Int), x.2, undef, undef, undef, undef, undef, undef, undef, undef, undef, undef, undef, undef, undef, undef, undef, undef, undef, undef, undef, undef, undef, undef, undef, undef, undef, undef, undef, undef, undef, undef, undef], defers := [] }) ?assign ?body ?done ?stop
  case assign =>
    intro l x W K hK
    simp only [rtE]
    gi_wp2
    exact hK
  case stop =>
    rintro D c pre W _ _ h _
    exact h.elim
  case done =>
    rintro D zs W hD hyl hI hK
    obtain ⟨fv, hbf, hrow⟩ := hI.runs
    rw [hyl] at hrow
    have cR := hbf.cell
    have HK := Lib.hid hK
    have HB := Lib.hid hI.bel
    have HR := Lib.hid hrow
    clear hI hK hrow hbf
    gi_wp2
    refine ⟨by simp, .inl ⟨_, _, rfl, run_takeDeferred HK.out, ?_⟩⟩
    refine ⟨fv, by simp [results, Try.results43, go_sem], fv, rfl, ownV_from HR.out (grownBy_putObj' W D (.deferred none)) (fun r e => by cases e; exact ⟨_, HK.out, rfl⟩), ?_⟩
    exact HB.out.trans (belowK_b (w := w) (Nat.le_refl _) W D _ _ (by omega) HK.out rfl rfl)
  case body =>
    rintro l pre ⟨⟨j, hj⟩, v⟩ W hI ⟨hjl, hown⟩
    simp only at hjl hown
    have hrl : (rot xs j).length = n := by rw [rot_len _ (by rw [HX.out]; omega), HX.out]
    have hs0 : nth (rot xs j) 0 = nth xs j := rot_zero (by rw [HX.out]; exact hj)
    obtain ⟨g, off, cap, rfl, hcap, hg, C⟩ := sl_at hown.sl hrl hp
    obtain rfl : off = 0 := by
      rcases hown.2 with ⟨h, _⟩ | ⟨g', c', cur, h, _⟩
      · cases h
      · cases h; rfl
    obtain ⟨p, hpn⟩ : ∃ p, n - 1 = p := ⟨_, rfl⟩
    have x0 := C 0 (by omega)
    have xp := C p (by omega)
    rw [Nat.zero_add] at x0 xp
    obtain ⟨s, hs⟩ : ∃ s, nth (rot xs j) 0 = s := ⟨_, rfl⟩
    obtain ⟨bf, hbf⟩ : ∃ bf, nth (rot xs j) p = bf := ⟨_, rfl⟩
    rw [hs] at x0
    rw [hbf] at xp
    have e1 : IntKind.i64.wrap ((n : Int) - 1) = (p : Int) := by rw [show (n : Int) - 1 = (p : Int) by omega]; exact IntWalk.i64_in _ (by omega)
    have i0 : (0 : Int) ≤ (p : Int) := by omega
    have i1 : (p : Int) < (n : Int) := by omega
    have i2 : (0 : Int) < (n : Int) := by omega
    have i3 : p < n := by omega
    have HI := Lib.hid hI
    have HO := Lib.hid hown
    have HJ := Lib.hid hjl
    have HRL := Lib.hid hrl
    have HS := Lib.hid hs
    have HS0 := Lib.hid hs0
    have HBF := Lib.hid hbf
    have HPN := Lib.hid hpn
    have HCC := Lib.hid C
    clear hI hown hjl hrl hs hbf hpn C hs0
    gi_wp2
    refine wpIn_region_round (S := fun w' => w'.cell? ⟨g, 0, none⟩ = some (.int .i64 s) ∧ w'.cell? ⟨g, p, none⟩ = some (.int .i64 bf)) (by kernel_rfl) (by rintro ⟨a', w', h⟩; exact h) (by kernel_rfl) ?_ (fun hHeld0 => ?_)
    · (try dsimp only); (first | (go_split_ands; assumption) | go_keep | (go_simp; done) | (simp [*]; done))
    refine wpAnyH_take (i := 0) (oi := ({ dst := some 13, op := Op.move (Operand.tmp 5), type := 24, pos := "l05_angles.go:214", after := #[], guard := none } : Oper)) (v := ?_) rfl (by kernel_rfl) (by kernel_rfl) (by kernel_rfl) (fun _ _ _ h => h) (Or.inl ⟨by rfl, ?_⟩) (by assumption) ?_
    rotate_left
    · intro w' hSw; (try dsimp only at hSw); go_simp; (try with_reducible rfl)
    try simp only [Act.put, List.setIfInBounds_toArray, List.set_cons_zero, List.set_cons_succ]
    refine wpAnyH_take (i := 1) (oi := ({ dst := some 14, op := Op.indexAddr 24 (Operand.tmp 13) (Operand.const (Value.int IntKind.i64 0)), type := 0, pos := "l05_angles.go:214", after := #[{ on := 0, ground := Ground.data }], guard := none } : Oper)) (v := ?_) rfl (by kernel_rfl) (by kernel_rfl) (by kernel_rfl) (fun _ _ _ h => h) (Or.inl ⟨by rfl, ?_⟩) (by assumption) ?_
    rotate_left
    · intro w' hSw; (try dsimp only at hSw); go_simp; (try with_reducible rfl)
    try simp only [Act.put, List.setIfInBounds_toArray, List.set_cons_zero, List.set_cons_succ]
    refine wpAnyH_take (i := 2) (oi := ({ dst := some 15, op := Op.load 2 (Operand.tmp 14), type := 2, pos := "l05_angles.go:214", after := #[{ on := 1, ground := Ground.data }], guard := none } : Oper)) (v := ?_) rfl (by kernel_rfl) (by kernel_rfl) (by kernel_rfl) (fun _ _ _ h => h) (Or.inl ⟨by rfl, ?_⟩) (by assumption) ?_
    rotate_left
    · intro w' hSw; (try dsimp only at hSw); go_simp; (try with_reducible rfl)
    try simp only [Act.put, List.setIfInBounds_toArray, List.set_cons_zero, List.set_cons_succ]
    refine wpAnyH_take (i := 3) (oi := ({ dst := some 16, op := Op.move (Operand.tmp 5), type := 24, pos := "l05_angles.go:214", after := #[{ on := 10, ground := Ground.gcOnly Departure.lateStores }], guard := none } : Oper)) (v := ?_) rfl (by kernel_rfl) (by kernel_rfl) (by kernel_rfl) (fun _ _ _ h => h) (Or.inl ⟨by rfl, ?_⟩) (by assumption) ?_
    rotate_left
    · intro w' hSw; (try dsimp only at hSw); go_simp; (try with_reducible rfl)
    try simp only [Act.put, List.setIfInBounds_toArray, List.set_cons_zero, List.set_cons_succ]
    refine wpAnyH_take (i := 4) (oi := ({ dst := some 17, op := Op.move (Operand.tmp 5), type := 24, pos := "l05_angles.go:214", after := #[], guard := none } : Oper)) (v := ?_) rfl (by kernel_rfl) (by kernel_rfl) (by kernel_rfl) (fun _ _ _ h => h) (Or.inl ⟨by rfl, ?_⟩) (by assumption) ?_
    rotate_left
    · intro w' hSw; (try dsimp only at hSw); go_simp; (try with_reducible rfl)
    try simp only [Act.put, List.setIfInBounds_toArray, List.set_cons_zero, List.set_cons_succ]
    refine wpAnyH_take (i := 5) (oi := ({ dst := some 18, op := Op.call { callee := Callee.builtin Builtin.len, args := #[Operand.tmp 17], argTypes := #[24] }, type := 3, pos := "l05_angles.go:214", after := #[{ on := 4, ground := Ground.data }], guard := none } : Oper)) (v := ?_) rfl (by kernel_rfl) (by kernel_rfl) (by kernel_rfl) (fun _ _ _ h => h) (Or.inl ⟨by rfl, ?_⟩) (by assumption) ?_
    rotate_left
    · intro w' hSw; (try dsimp only at hSw); go_simp; (try with_reducible rfl)
    try simp only [Act.put, List.setIfInBounds_toArray, List.set_cons_zero, List.set_cons_succ]
    refine wpAnyH_take (i := 6) (oi := ({ dst := some 19, op := Op.binOp BinOp.sub 3 (Operand.tmp 18) (Operand.const (Value.int IntKind.i64 1)) 3, type := 3, pos := "l05_angles.go:214", after := #[{ on := 5, ground := Ground.data }, { on := 10, ground := Ground.gcOnly Departure.lateStores }], guard := none } : Oper)) (v := ?_) rfl (by kernel_rfl) (by kernel_rfl) (by kernel_rfl) (fun _ _ _ h => h) (Or.inl ⟨by rfl, ?_⟩) (by assumption) ?_
    rotate_left
    · intro w' hSw; (try dsimp only at hSw); go_simp; (try with_reducible rfl)
    try simp only [Act.put, List.setIfInBounds_toArray, List.set_cons_zero, List.set_cons_succ]
    refine wpAnyH_take (i := 7) (oi := ({ dst := some 20, op := Op.indexAddr 24 (Operand.tmp 16) (Operand.tmp 19), type := 0, pos := "l05_angles.go:214", after := #[{ on := 3, ground := Ground.data }, { on := 6, ground := Ground.data }, { on := 10, ground := Ground.gcOnly Departure.lateStores }], guard := none } : Oper)) (v := ?_) rfl (by kernel_rfl) (by kernel_rfl) (by kernel_rfl) (fun _ _ _ h => h) (Or.inl ⟨by rfl, ?_⟩) (by assumption) ?_
    rotate_left
    · intro w' hSw; (try dsimp only at hSw); go_simp; (try with_reducible rfl)
    try simp only [Act.put, List.setIfInBounds_toArray, List.set_cons_zero, List.set_cons_succ]
    refine wpAnyH_take (i := 8) (oi := ({ dst := some 21, op := Op.load 2 (Operand.tmp 20), type := 2, pos := "l05_angles.go:214", after := #[{ on := 7, ground := Ground.data }, { on := 10, ground := Ground.gcOnly Departure.lateStores }], guard := none } : Oper)) (v := ?_) rfl (by kernel_rfl) (by kernel_rfl) (by kernel_rfl) (fun _ _ _ h => h) (Or.inl ⟨by rfl, ?_⟩) (by assumption) ?_
    rotate_left
    · intro w' hSw; (try dsimp only at hSw); go_simp; (try with_reducible rfl)
    try simp only [Act.put, List.setIfInBounds_toArray, List.set_cons_zero, List.set_cons_succ]
    refine wpAnyH_ready (rs := [9]) (by kernel_rfl) (by simp) ?_
    refine AllReadyH.cons (o := ({ dst := some 6, op := Op.alloc 2, type := 0, pos := "l05_angles.go:214", after := #[], guard := none } : Oper)) rfl (fun K hK => ?_) AllReadyH.nil
    go_simp
    refine hK.out _ _ ?_ (fun hHeld1 => ?_)
    · (try dsimp only); (first | (go_split_ands; assumption) | go_keep | (go_simp; done) | (simp [*]; done))
    clear hK K
    try simp only [Act.put, List.setIfInBounds_toArray, List.set_cons_zero, List.set_cons_succ]
    refine wpAnyH_ready (rs := [10]) (by kernel_rfl) (by simp) ?_
    refine AllReadyH.cons (o := ({ dst := none, op := Op.store 2 (Operand.tmp 6) (Operand.tmp 15), type := 0, pos := "l05_angles.go:214", after := #[{ on := 9, ground := Ground.data }, { on := 2, ground := Ground.data }, { on := 0, ground := Ground.phase }, { on := 1, ground := Ground.phase }, { on := 2, ground := Ground.phase }, { on := 3, ground := Ground.textOnly Departure.lateStores }, { on := 4, ground := Ground.textOnly Departure.lateStores }, { on := 5, ground := Ground.textOnly Departure.lateStoresUnsure }, { on := 6, ground := Ground.textOnly Departure.lateStores }, { on := 7, ground := Ground.textOnly Departure.lateStores }, { on := 8, ground := Ground.textOnly Departure.lateStores }, { on := 9, ground := Ground.phase }], guard := none } : Oper)) rfl (fun K hK => ?_) AllReadyH.nil
    go_simp
    refine hK.out _ _ ?_ (fun hHeld2 => ?_)
    · (try dsimp only); (first | (go_split_ands; assumption) | go_keep | (go_simp; done) | (simp [*]; done))
    clear hK K
    try simp only [Act.put, List.setIfInBounds_toArray, List.set_cons_zero, List.set_cons_succ]
    refine wpAnyH_take (i := 11) (oi := ({ dst := some 7, op := Op.assign (Operand.tmp 21), type := 2, pos := "l05_angles.go:214", after := #[{ on := 8, ground := Ground.data }, { on := 10, ground := Ground.chain }, { on := 0, ground := Ground.phase }, { on := 1, ground := Ground.phase }, { on := 2, ground := Ground.phase }, { on := 3, ground := Ground.phase }, { on := 4, ground := Ground.phase }, { on := 5, ground := Ground.phase }, { on := 6, ground := Ground.phase }, { on := 7, ground := Ground.phase }, { on := 8, ground := Ground.phase }, { on := 9, ground := Ground.phase }, { on := 10, ground := Ground.phase }], guard := none } : Oper)) (v := ?_) rfl (by kernel_rfl) (by kernel_rfl) (by kernel_rfl) (fun _ _ _ h => h) (Or.inl ⟨by rfl, ?_⟩) (by assumption) ?_
    rotate_left
    · intro w' hSw; (try dsimp only at hSw); go_simp; (try with_reducible rfl)
    try simp only [Act.put, List.setIfInBounds_toArray, List.set_cons_zero, List.set_cons_succ]
    refine wpAnyH_done (by kernel_rfl) ?_ _
    gi_wp2_with fail
    have hgz : g ≠ W.heap.size := by omega
    have f5 : Fresh W (W.alloc (.cells #[.int .i64 s] 2)).drew := ((Below.refl _ W).alloc (Nat.le_refl _) _).drew
    have b5 : Boxed (W.alloc (.cells #[.int .i64 s] 2)).drew W.heap.size 2 (.int .i64 s) := Boxed.new W _ _
    have z5 : (W.alloc (.cells #[.int .i64 s] 2)).drew.heap.size = W.heap.size + 1 := by simp
    clear hHeld0 hHeld1 hHeld2
    revert f5 b5 z5
    generalize (W.alloc (.cells #[.int .i64 s] 2)).drew = W2
    intro f5 b5 z5
    have c5 := b5.cell
    have HIX := Lib.hid (idx_any (.slice (some ⟨g, 0, none⟩) n cap) (rot xs j) n s W.heap.size HRL.out hp (by omega) W2 ⟨some ⟨g, 0, none⟩, cap, by rw [HRL.out], by rw [HRL.out]; exact hcap, fun _ => ⟨g, 0, rfl, by omega, cells_below HCC.out f5 hg⟩⟩ c5)
    have HF5 := Lib.hid f5
    have HB5 := Lib.hid b5
    refine ⟨trivial, ?_⟩
    refine (CallsIn.inRound l (callsIn_wide.2 HIX.out)).mono ?_
    rintro e W3 ⟨z, rfl, hz, hw⟩
    subst hw
    by_cases hsb : s < bf
    · have d1 : decide (s < bf) = true := decide_eq_true hsb
      have hz' : ∃ c', c' < n ∧ nth (rot xs j) c' ≠ s ∧ (∀ i, i < c' → nth (rot xs j) i = s) ∧ z = (c' : Int) := by
        rcases hz with h | ⟨h, _⟩
        · exact h
        · have := h p (by omega)
          rw [HBF.out] at this
          omega
      obtain ⟨c', hc1, hc2, hc3, rfl⟩ := hz'
      obtain ⟨y, hy⟩ : ∃ y, nth (rot xs j) c' = y := ⟨_, rfl⟩
      have xc : W2.cell? ⟨g, c', none⟩ = some (.int .i64 y) := by
        have := (cells_below HCC.out HF5.out hg) c' (by rw [HRL.out]; exact hc1)
        rw [Nat.zero_add, hy] at this
        exact this
      have HY := Lib.hid hy
      have HC2' := Lib.hid hc2
      have HC3 := Lib.hid hc3
      have HSB := Lib.hid hsb
      have k0 : (0 : Int) ≤ (c' : Int) := by omega
      have k1 : (c' : Int) < (n : Int) := by omega
      have hbh : Hid (BhP (rot xs j) n c') := Lib.hid ⟨hc1, by rw [HS.out]; exact hc2, fun i hi => by rw [HS.out]; exact hc3 i hi⟩
      clear hy hc2 hc3 hz hsb f5 b5
      by_cases hsy : s < y
      · have d2 : decide (s < y) = true := decide_eq_true hsy
        have HLR := Lib.hid (show LrP (rot xs j) n c' from ⟨hbh.out, by rw [HPN.out, HS.out, HBF.out]; exact HSB.out, by rw [HS.out, HY.out]; exact hsy⟩)
        clear hsy
        gi_wp2_with fail
        refine wpIn_region_round (S := fun w' => w'.cell? ⟨W.heap.size, 0, none⟩ = some (.int .i64 s) ∧ w'.cell? ⟨g, c', none⟩ = some (.int .i64 y)) (by kernel_rfl) (by rintro ⟨a', w', h⟩; exact h) (by kernel_rfl) ?_ (fun hHeld0 => ?_)
        · (try dsimp only); (first | (go_split_ands; assumption) | go_keep | (go_simp; done) | (simp [*]; done))
        refine wpAnyH_take (i := 0) (oi := ({ dst := some 25, op := Op.move (Operand.tmp 7), type := 2, pos := "l05_angles.go:216", after := #[], guard := none } : Oper)) (v := ?_) rfl (by kernel_rfl) (by kernel_rfl) (by kernel_rfl) (fun _ _ _ h => h) (Or.inl ⟨by rfl, ?_⟩) (by assumption) ?_
        rotate_left
        · intro w' hSw; (try dsimp only at hSw); go_simp; (try with_reducible rfl)
        try simp only [Act.put, List.setIfInBounds_toArray, List.set_cons_zero, List.set_cons_succ]
        refine wpAnyH_take (i := 1) (oi := ({ dst := some 26, op := Op.load 2 (Operand.tmp 6), type := 2, pos := "l05_angles.go:216", after := #[], guard := none } : Oper)) (v := ?_) rfl (by kernel_rfl) (by kernel_rfl) (by kernel_rfl) (fun _ _ _ h => h) (Or.inl ⟨by rfl, ?_⟩) (by assumption) ?_
        rotate_left
        · intro w' hSw; (try dsimp only at hSw); go_simp; (try with_reducible rfl)
        try simp only [Act.put, List.setIfInBounds_toArray, List.set_cons_zero, List.set_cons_succ]
        refine wpAnyH_take (i := 2) (oi := ({ dst := some 27, op := Op.binOp BinOp.gtr 2 (Operand.tmp 25) (Operand.tmp 26) 2, type := 4, pos := "l05_angles.go:216", after := #[{ on := 0, ground := Ground.data }, { on := 1, ground := Ground.data }], guard := none } : Oper)) (v := ?_) rfl (by kernel_rfl) (by kernel_rfl) (by kernel_rfl) (fun _ _ _ h => h) (Or.inl ⟨by rfl, ?_⟩) (by assumption) ?_
        rotate_left
        · intro w' hSw; (try dsimp only at hSw); go_simp; (try with_reducible rfl)
        try simp only [Act.put, List.setIfInBounds_toArray, List.set_cons_zero, List.set_cons_succ]
        refine wpAnyH_take (i := 3) (oi := ({ dst := some 28, op := Op.move (Operand.tmp 27), type := 4, pos := "l05_angles.go:216", after := #[{ on := 2, ground := Ground.data }], guard := none } : Oper)) (v := ?_) rfl (by kernel_rfl) (by kernel_rfl) (by kernel_rfl) (fun _ _ _ h => h) (Or.inl ⟨by rfl, ?_⟩) (by assumption) ?_
        rotate_left
        · intro w' hSw; (try dsimp only at hSw); go_simp; (try with_reducible rfl)
        try simp only [Act.put, List.setIfInBounds_toArray, List.set_cons_zero, List.set_cons_succ]
        refine wpAnyH_take (i := 4) (oi := ({ dst := some 29, op := Op.move (Operand.tmp 5), type := 24, pos := "l05_angles.go:216", after := #[{ on := 3, ground := Ground.guard }], guard := some (3, true) } : Oper)) (v := ?_) rfl (by kernel_rfl) (by kernel_rfl) (by kernel_rfl) (fun _ _ _ h => h) (Or.inl ⟨by rfl, ?_⟩) (by assumption) ?_
        rotate_left
        · intro w' hSw; (try dsimp only at hSw); go_simp; (try with_reducible rfl)
        try simp only [Act.put, List.setIfInBounds_toArray, List.set_cons_zero, List.set_cons_succ]
        refine wpAnyH_take (i := 5) (oi := ({ dst := some 30, op := Op.move (Operand.tmp 8), type := 3, pos := "l05_angles.go:216", after := #[{ on := 3, ground := Ground.guard }], guard := some (3, true) } : Oper)) (v := ?_) rfl (by kernel_rfl) (by kernel_rfl) (by kernel_rfl) (fun _ _ _ h => h) (Or.inl ⟨by rfl, ?_⟩) (by assumption) ?_
        rotate_left
        · intro w' hSw; (try dsimp only at hSw); go_simp; (try with_reducible rfl)
        try simp only [Act.put, List.setIfInBounds_toArray, List.set_cons_zero, List.set_cons_succ]
        refine wpAnyH_take (i := 6) (oi := ({ dst := some 31, op := Op.indexAddr 24 (Operand.tmp 29) (Operand.tmp 30), type := 0, pos := "l05_angles.go:216", after := #[{ on := 4, ground := Ground.data }, { on := 5, ground := Ground.data }, { on := 3, ground := Ground.guard }], guard := some (3, true) } : Oper)) (v := ?_) rfl (by kernel_rfl) (by kernel_rfl) (by kernel_rfl) (fun _ _ _ h => h) (Or.inl ⟨by rfl, ?_⟩) (by assumption) ?_
        rotate_left
        · intro w' hSw; (try dsimp only at hSw); go_simp; (try with_reducible rfl)
        try simp only [Act.put, List.setIfInBounds_toArray, List.set_cons_zero, List.set_cons_succ]
        refine wpAnyH_take (i := 7) (oi := ({ dst := some 32, op := Op.load 2 (Operand.tmp 31), type := 2, pos := "l05_angles.go:216", after := #[{ on := 6, ground := Ground.data }, { on := 3, ground := Ground.guard }], guard := some (3, true) } : Oper)) (v := ?_) rfl (by kernel_rfl) (by kernel_rfl) (by kernel_rfl) (fun _ _ _ h => h) (Or.inl ⟨by rfl, ?_⟩) (by assumption) ?_
        rotate_left
        · intro w' hSw; (try dsimp only at hSw); go_simp; (try with_reducible rfl)
        try simp only [Act.put, List.setIfInBounds_toArray, List.set_cons_zero, List.set_cons_succ]
        refine wpAnyH_take (i := 8) (oi := ({ dst := some 33, op := Op.load 2 (Operand.tmp 6), type := 2, pos := "l05_angles.go:216", after := #[{ on := 3, ground := Ground.guard }], guard := some (3, true) } : Oper)) (v := ?_) rfl (by kernel_rfl) (by kernel_rfl) (by kernel_rfl) (fun _ _ _ h => h) (Or.inl ⟨by rfl, ?_⟩) (by assumption) ?_
        rotate_left
        · intro w' hSw; (try dsimp only at hSw); go_simp; (try with_reducible rfl)
        try simp only [Act.put, List.setIfInBounds_toArray, List.set_cons_zero, List.set_cons_succ]
        refine wpAnyH_take (i := 9) (oi := ({ dst := some 34, op := Op.binOp BinOp.gtr 2 (Operand.tmp 32) (Operand.tmp 33) 2, type := 4, pos := "l05_angles.go:216", after := #[{ on := 7, ground := Ground.data }, { on := 8, ground := Ground.data }, { on := 3, ground := Ground.guard }], guard := some (3, true) } : Oper)) (v := ?_) rfl (by kernel_rfl) (by kernel_rfl) (by kernel_rfl) (fun _ _ _ h => h) (Or.inl ⟨by rfl, ?_⟩) (by assumption) ?_
        rotate_left
        · intro w' hSw; (try dsimp only at hSw); go_simp; (try with_reducible rfl)
        try simp only [Act.put, List.setIfInBounds_toArray, List.set_cons_zero, List.set_cons_succ]
        refine wpAnyH_take (i := 10) (oi := ({ dst := some 35, op := Op.pick (Operand.tmp 28) (Operand.tmp 34) (Operand.const (Value.bool false)), type := 4, pos := "l05_angles.go:216", after := #[{ on := 3, ground := Ground.data }, { on := 9, ground := Ground.data }], guard := none } : Oper)) (v := ?_) rfl (by kernel_rfl) (by kernel_rfl) (by kernel_rfl) (fun _ _ _ h => h) (Or.inl ⟨by rfl, ?_⟩) (by assumption) ?_
        rotate_left
        · intro w' hSw; (try dsimp only at hSw); go_simp; (try with_reducible rfl)
        try simp only [Act.put, List.setIfInBounds_toArray, List.set_cons_zero, List.set_cons_succ]
        refine wpAnyH_done (by kernel_rfl) ?_ _
        obtain ⟨fv, hbf0, hrow0⟩ := HI.out.runs
        have f7 : Fresh W W2.drew := HF5.out.drew
        have hbf2 := hbf0.kept (fresh_grown f7) (by simp)
        have hrow2 := own_fresh (I := fun (_ : Unit) W => OwnR W w.heap.size fv (runsN xs n pre.length) (runsF xs n pre.length)) (B := 0) (s := ()) (fun _ _ _ _ h hg hr => ownV_from h hg (fun r e => (hr r e).2)) hrow0 f7
        have hsx : nth xs j = s := by rw [← HS0.out, HS.out]
        have HST := Lib.hid (fun (w1 : World) (v' : Value) (h1 : w1.ownsRow w.heap.size 41 3 v' (runsN xs n pre.length + 1) ((runsF xs n pre.length).map (Value.int .i64) ++ [.int .i64 (j : Int), .int .i64 (c' : Int), .int .i64 s])) h2 => invT_yes (z := w4.heap.size) (b := b) (x := (⟨j, hj⟩, .slice (some ⟨g, 0, none⟩) n cap)) (w1 := w1) (v' := v') (ob := .cells #[.int .i64 (j : Int), .int .i64 (c' : Int), .int .i64 s] 41) HI.out f7 (Nat.le_refl _) (by omega) hb HJ.out HLR.out hbf2 hrow2 (by rw [hsx]; exact h1) h2)
        have hcf := hbf2.cell
        have hql := runsN_le xs n pre.length
        have hpl : pre.length < n := by rw [← HJ.out]; exact hj
        obtain ⟨q, hq⟩ : ∃ q, runsN xs n pre.length = q := ⟨_, rfl⟩
        rw [hq] at hrow2 HST hql
        have z7 : w.heap.size ≤ W2.drew.heap.size := by have := HI.out.bel.size; show w.heap.size ≤ W2.heap.size; omega
        have c5' := hHeld0.1
        clear hq hbf2 hbf0 hrow0 f7 hsx hHeld0 z5 c5 xc
        generalize W2.drew = W4 at hrow2 HST hcf c5' z7 ⊢
        obtain ⟨i0', hi, hz0, hz1, hz2⟩ := info_parts infoRun
        gi_wp2_with (gi_at_builtin; refine wpListIn_append_own _ rfl _ _ 38 rfl w.heap.size 41 i0' (p3v 0 0 0) 3 24 Try.underlying38 hi hz0 hz1 hz2 rfl (by decide) _ _ _ rfl (hrow2.alloc _) ⟨W4.heap.size, 0, none⟩ 1 1 [.int .i64 (j : Int), .int .i64 (c' : Int), .int .i64 s] rfl rfl (World.news_of_block (cs := #[.int .i64 (j : Int), .int .i64 (c' : Int), .int .i64 s]) (t := 41) (fr := (0, 0)) (heap_alloc_new W4 _)) (by simp [Value.oneCell']) (by unfold maxLen; omega) (by omega) (by simp; omega) ?_; intro v' w1 hown' hgrow _; obtain ⟨g', cap', rfl⟩ := ownsRow_succ hown'; have hS := HST.out w1 _ hown' hgrow; have hc1 := hS.2.2.2.cell; have hf1 := hS.2.2.2.frozen; replace hS := Lib.hid hS)
        exact ⟨hS.out.1, hS.out.2.1, hS.out.2.2.1⟩
      · have d2 : decide (s < y) = false := decide_eq_false hsy
        have HNO := Lib.hid (show ¬ ∃ d, LrP (rot xs j) n d from fun ⟨d, hd⟩ => hsy (by
          obtain rfl := bhP_one hbh.out hd.1
          have := hd.2.2
          rw [HS.out, HY.out] at this
          exact this))
        clear hsy
        gi_wp2_with fail
        refine wpIn_region_round (S := fun w' => w'.cell? ⟨W.heap.size, 0, none⟩ = some (.int .i64 s) ∧ w'.cell? ⟨g, c', none⟩ = some (.int .i64 y)) (by kernel_rfl) (by rintro ⟨a', w', h⟩; exact h) (by kernel_rfl) ?_ (fun hHeld0 => ?_)
        · (try dsimp only); (first | (go_split_ands; assumption) | go_keep | (go_simp; done) | (simp [*]; done))
        refine wpAnyH_take (i := 0) (oi := ({ dst := some 25, op := Op.move (Operand.tmp 7), type := 2, pos := "l05_angles.go:216", after := #[], guard := none } : Oper)) (v := ?_) rfl (by kernel_rfl) (by kernel_rfl) (by kernel_rfl) (fun _ _ _ h => h) (Or.inl ⟨by rfl, ?_⟩) (by assumption) ?_
        rotate_left
        · intro w' hSw; (try dsimp only at hSw); go_simp; (try with_reducible rfl)
        try simp only [Act.put, List.setIfInBounds_toArray, List.set_cons_zero, List.set_cons_succ]
        refine wpAnyH_take (i := 1) (oi := ({ dst := some 26, op := Op.load 2 (Operand.tmp 6), type := 2, pos := "l05_angles.go:216", after := #[], guard := none } : Oper)) (v := ?_) rfl (by kernel_rfl) (by kernel_rfl) (by kernel_rfl) (fun _ _ _ h => h) (Or.inl ⟨by rfl, ?_⟩) (by assumption) ?_
        rotate_left
        · intro w' hSw; (try dsimp only at hSw); go_simp; (try with_reducible rfl)
        try simp only [Act.put, List.setIfInBounds_toArray, List.set_cons_zero, List.set_cons_succ]
        refine wpAnyH_take (i := 2) (oi := ({ dst := some 27, op := Op.binOp BinOp.gtr 2 (Operand.tmp 25) (Operand.tmp 26) 2, type := 4, pos := "l05_angles.go:216", after := #[{ on := 0, ground := Ground.data }, { on := 1, ground := Ground.data }], guard := none } : Oper)) (v := ?_) rfl (by kernel_rfl) (by kernel_rfl) (by kernel_rfl) (fun _ _ _ h => h) (Or.inl ⟨by rfl, ?_⟩) (by assumption) ?_
        rotate_left
        · intro w' hSw; (try dsimp only at hSw); go_simp; (try with_reducible rfl)
        try simp only [Act.put, List.setIfInBounds_toArray, List.set_cons_zero, List.set_cons_succ]
        refine wpAnyH_take (i := 3) (oi := ({ dst := some 28, op := Op.move (Operand.tmp 27), type := 4, pos := "l05_angles.go:216", after := #[{ on := 2, ground := Ground.data }], guard := none } : Oper)) (v := ?_) rfl (by kernel_rfl) (by kernel_rfl) (by kernel_rfl) (fun _ _ _ h => h) (Or.inl ⟨by rfl, ?_⟩) (by assumption) ?_
        rotate_left
        · intro w' hSw; (try dsimp only at hSw); go_simp; (try with_reducible rfl)
        try simp only [Act.put, List.setIfInBounds_toArray, List.set_cons_zero, List.set_cons_succ]
        refine wpAnyH_take (i := 4) (oi := ({ dst := some 29, op := Op.move (Operand.tmp 5), type := 24, pos := "l05_angles.go:216", after := #[{ on := 3, ground := Ground.guard }], guard := some (3, true) } : Oper)) (v := ?_) rfl (by kernel_rfl) (by kernel_rfl) (by kernel_rfl) (fun _ _ _ h => h) (Or.inl ⟨by rfl, ?_⟩) (by assumption) ?_
        rotate_left
        · intro w' hSw; (try dsimp only at hSw); go_simp; (try with_reducible rfl)
        try simp only [Act.put, List.setIfInBounds_toArray, List.set_cons_zero, List.set_cons_succ]
        refine wpAnyH_take (i := 5) (oi := ({ dst := some 30, op := Op.move (Operand.tmp 8), type := 3, pos := "l05_angles.go:216", after := #[{ on := 3, ground := Ground.guard }], guard := some (3, true) } : Oper)) (v := ?_) rfl (by kernel_rfl) (by kernel_rfl) (by kernel_rfl) (fun _ _ _ h => h) (Or.inl ⟨by rfl, ?_⟩) (by assumption) ?_
        rotate_left
        · intro w' hSw; (try dsimp only at hSw); go_simp; (try with_reducible rfl)
        try simp only [Act.put, List.setIfInBounds_toArray, List.set_cons_zero, List.set_cons_succ]
        refine wpAnyH_take (i := 6) (oi := ({ dst := some 31, op := Op.indexAddr 24 (Operand.tmp 29) (Operand.tmp 30), type := 0, pos := "l05_angles.go:216", after := #[{ on := 4, ground := Ground.data }, { on := 5, ground := Ground.data }, { on := 3, ground := Ground.guard }], guard := some (3, true) } : Oper)) (v := ?_) rfl (by kernel_rfl) (by kernel_rfl) (by kernel_rfl) (fun _ _ _ h => h) (Or.inl ⟨by rfl, ?_⟩) (by assumption) ?_
        rotate_left
        · intro w' hSw; (try dsimp only at hSw); go_simp; (try with_reducible rfl)
        try simp only [Act.put, List.setIfInBounds_toArray, List.set_cons_zero, List.set_cons_succ]
        refine wpAnyH_take (i := 7) (oi := ({ dst := some 32, op := Op.load 2 (Operand.tmp 31), type := 2, pos := "l05_angles.go:216", after := #[{ on := 6, ground := Ground.data }, { on := 3, ground := Ground.guard }], guard := some (3, true) } : Oper)) (v := ?_) rfl (by kernel_rfl) (by kernel_rfl) (by kernel_rfl) (fun _ _ _ h => h) (Or.inl ⟨by rfl, ?_⟩) (by assumption) ?_
        rotate_left
        · intro w' hSw; (try dsimp only at hSw); go_simp; (try with_reducible rfl)
        try simp only [Act.put, List.setIfInBounds_toArray, List.set_cons_zero, List.set_cons_succ]
        refine wpAnyH_take (i := 8) (oi := ({ dst := some 33, op := Op.load 2 (Operand.tmp 6), type := 2, pos := "l05_angles.go:216", after := #[{ on := 3, ground := Ground.guard }], guard := some (3, true) } : Oper)) (v := ?_) rfl (by kernel_rfl) (by kernel_rfl) (by kernel_rfl) (fun _ _ _ h => h) (Or.inl ⟨by rfl, ?_⟩) (by assumption) ?_
        rotate_left
        · intro w' hSw; (try dsimp only at hSw); go_simp; (try with_reducible rfl)
        try simp only [Act.put, List.setIfInBounds_toArray, List.set_cons_zero, List.set_cons_succ]
        refine wpAnyH_take (i := 9) (oi := ({ dst := some 34, op := Op.binOp BinOp.gtr 2 (Operand.tmp 32) (Operand.tmp 33) 2, type := 4, pos := "l05_angles.go:216", after := #[{ on := 7, ground := Ground.data }, { on := 8, ground := Ground.data }, { on := 3, ground := Ground.guard }], guard := some (3, true) } : Oper)) (v := ?_) rfl (by kernel_rfl) (by kernel_rfl) (by kernel_rfl) (fun _ _ _ h => h) (Or.inl ⟨by rfl, ?_⟩) (by assumption) ?_
        rotate_left
        · intro w' hSw; (try dsimp only at hSw); go_simp; (try with_reducible rfl)
        try simp only [Act.put, List.setIfInBounds_toArray, List.set_cons_zero, List.set_cons_succ]
        refine wpAnyH_take (i := 10) (oi := ({ dst := some 35, op := Op.pick (Operand.tmp 28) (Operand.tmp 34) (Operand.const (Value.bool false)), type := 4, pos := "l05_angles.go:216", after := #[{ on := 3, ground := Ground.data }, { on := 9, ground := Ground.data }], guard := none } : Oper)) (v := ?_) rfl (by kernel_rfl) (by kernel_rfl) (by kernel_rfl) (fun _ _ _ h => h) (Or.inl ⟨by rfl, ?_⟩) (by assumption) ?_
        rotate_left
        · intro w' hSw; (try dsimp only at hSw); go_simp; (try with_reducible rfl)
        try simp only [Act.put, List.setIfInBounds_toArray, List.set_cons_zero, List.set_cons_succ]
        refine wpAnyH_done (by kernel_rfl) ?_ _
        gi_wp2_with fail
        exact invT_no HI.out (HF5.out.drew) hb HJ.out HNO.out
    · have d1 : decide (s < bf) = false := decide_eq_false hsb
      have HNO := Lib.hid (show ¬ ∃ d, LrP (rot xs j) n d from fun ⟨d, hd⟩ => hsb (by
        have := hd.2.1
        rw [HPN.out, HS.out, HBF.out] at this
        exact this))
      clear hsb hz f5 b5
      gi_wp2_with fail
      refine wpIn_region_round (S := fun w' => w'.cell? ⟨W.heap.size, 0, none⟩ = some (.int .i64 s)) (by kernel_rfl) (by rintro ⟨a', w', h⟩; exact h) (by kernel_rfl) ?_ (fun hHeld0 => ?_)
      · (try dsimp only); (first | (go_split_ands; assumption) | go_keep | (go_simp; done) | (simp [*]; done))
      refine wpAnyH_take (i := 0) (oi := ({ dst := some 25, op := Op.move (Operand.tmp 7), type := 2, pos := "l05_angles.go:216", after := #[], guard := none } : Oper)) (v := ?_) rfl (by kernel_rfl) (by kernel_rfl) (by kernel_rfl) (fun _ _ _ h => h) (Or.inl ⟨by rfl, ?_⟩) (by assumption) ?_
      rotate_left
      · intro w' hSw; (try dsimp only at hSw); go_simp; (try with_reducible rfl)
      try simp only [Act.put, List.setIfInBounds_toArray, List.set_cons_zero, List.set_cons_succ]
      refine wpAnyH_take (i := 1) (oi := ({ dst := some 26, op := Op.load 2 (Operand.tmp 6), type := 2, pos := "l05_angles.go:216", after := #[], guard := none } : Oper)) (v := ?_) rfl (by kernel_rfl) (by kernel_rfl) (by kernel_rfl) (fun _ _ _ h => h) (Or.inl ⟨by rfl, ?_⟩) (by assumption) ?_
      rotate_left
      · intro w' hSw; (try dsimp only at hSw); go_simp; (try with_reducible rfl)
      try simp only [Act.put, List.setIfInBounds_toArray, List.set_cons_zero, List.set_cons_succ]
      refine wpAnyH_take (i := 2) (oi := ({ dst := some 27, op := Op.binOp BinOp.gtr 2 (Operand.tmp 25) (Operand.tmp 26) 2, type := 4, pos := "l05_angles.go:216", after := #[{ on := 0, ground := Ground.data }, { on := 1, ground := Ground.data }], guard := none } : Oper)) (v := ?_) rfl (by kernel_rfl) (by kernel_rfl) (by kernel_rfl) (fun _ _ _ h => h) (Or.inl ⟨by rfl, ?_⟩) (by assumption) ?_
      rotate_left
      · intro w' hSw; (try dsimp only at hSw); go_simp; (try with_reducible rfl)
      try simp only [Act.put, List.setIfInBounds_toArray, List.set_cons_zero, List.set_cons_succ]
      refine wpAnyH_take (i := 3) (oi := ({ dst := some 28, op := Op.move (Operand.tmp 27), type := 4, pos := "l05_angles.go:216", after := #[{ on := 2, ground := Ground.data }], guard := none } : Oper)) (v := ?_) rfl (by kernel_rfl) (by kernel_rfl) (by kernel_rfl) (fun _ _ _ h => h) (Or.inl ⟨by rfl, ?_⟩) (by assumption) ?_
      rotate_left
      · intro w' hSw; (try dsimp only at hSw); go_simp; (try with_reducible rfl)
      try simp only [Act.put, List.setIfInBounds_toArray, List.set_cons_zero, List.set_cons_succ]
      refine wpAnyH_take (i := 4) (oi := ({ dst := some 29, op := Op.move (Operand.tmp 5), type := 24, pos := "l05_angles.go:216", after := #[{ on := 3, ground := Ground.guard }], guard := some (3, true) } : Oper)) (v := undef) rfl (by kernel_rfl) (by kernel_rfl) (by kernel_rfl) (fun _ _ _ h => h) (Or.inr ⟨by rfl, rfl⟩) (by assumption) ?_
      try simp only [Act.put, List.setIfInBounds_toArray, List.set_cons_zero, List.set_cons_succ]
      refine wpAnyH_take (i := 5) (oi := ({ dst := some 30, op := Op.move (Operand.tmp 8), type := 3, pos := "l05_angles.go:216", after := #[{ on := 3, ground := Ground.guard }], guard := some (3, true) } : Oper)) (v := undef) rfl (by kernel_rfl) (by kernel_rfl) (by kernel_rfl) (fun _ _ _ h => h) (Or.inr ⟨by rfl, rfl⟩) (by assumption) ?_
      try simp only [Act.put, List.setIfInBounds_toArray, List.set_cons_zero, List.set_cons_succ]
      refine wpAnyH_take (i := 6) (oi := ({ dst := some 31, op := Op.indexAddr 24 (Operand.tmp 29) (Operand.tmp 30), type := 0, pos := "l05_angles.go:216", after := #[{ on := 4, ground := Ground.data }, { on := 5, ground := Ground.data }, { on := 3, ground := Ground.guard }], guard := some (3, true) } : Oper)) (v := undef) rfl (by kernel_rfl) (by kernel_rfl) (by kernel_rfl) (fun _ _ _ h => h) (Or.inr ⟨by rfl, rfl⟩) (by assumption) ?_
      try simp only [Act.put, List.setIfInBounds_toArray, List.set_cons_zero, List.set_cons_succ]
      refine wpAnyH_take (i := 7) (oi := ({ dst := some 32, op := Op.load 2 (Operand.tmp 31), type := 2, pos := "l05_angles.go:216", after := #[{ on := 6, ground := Ground.data }, { on := 3, ground := Ground.guard }], guard := some (3, true) } : Oper)) (v := undef) rfl (by kernel_rfl) (by kernel_rfl) (by kernel_rfl) (fun _ _ _ h => h) (Or.inr ⟨by rfl, rfl⟩) (by assumption) ?_
      try simp only [Act.put, List.setIfInBounds_toArray, List.set_cons_zero, List.set_cons_succ]
      refine wpAnyH_take (i := 8) (oi := ({ dst := some 33, op := Op.load 2 (Operand.tmp 6), type := 2, pos := "l05_angles.go:216", after := #[{ on := 3, ground := Ground.guard }], guard := some (3, true) } : Oper)) (v := undef) rfl (by kernel_rfl) (by kernel_rfl) (by kernel_rfl) (fun _ _ _ h => h) (Or.inr ⟨by rfl, rfl⟩) (by assumption) ?_
      try simp only [Act.put, List.setIfInBounds_toArray, List.set_cons_zero, List.set_cons_succ]
      refine wpAnyH_take (i := 9) (oi := ({ dst := some 34, op := Op.binOp BinOp.gtr 2 (Operand.tmp 32) (Operand.tmp 33) 2, type := 4, pos := "l05_angles.go:216", after := #[{ on := 7, ground := Ground.data }, { on := 8, ground := Ground.data }, { on := 3, ground := Ground.guard }], guard := some (3, true) } : Oper)) (v := undef) rfl (by kernel_rfl) (by kernel_rfl) (by kernel_rfl) (fun _ _ _ h => h) (Or.inr ⟨by rfl, rfl⟩) (by assumption) ?_
      try simp only [Act.put, List.setIfInBounds_toArray, List.set_cons_zero, List.set_cons_succ]
      refine wpAnyH_take (i := 10) (oi := ({ dst := some 35, op := Op.pick (Operand.tmp 28) (Operand.tmp 34) (Operand.const (Value.bool false)), type := 4, pos := "l05_angles.go:216", after := #[{ on := 3, ground := Ground.data }, { on := 9, ground := Ground.data }], guard := none } : Oper)) (v := ?_) rfl (by kernel_rfl) (by kernel_rfl) (by kernel_rfl) (fun _ _ _ h => h) (Or.inl ⟨by rfl, ?_⟩) (by assumption) ?_
      rotate_left
      · intro w' hSw; (try dsimp only at hSw); go_simp; (try with_reducible rfl)
      try simp only [Act.put, List.setIfInBounds_toArray, List.set_cons_zero, List.set_cons_succ]
      refine wpAnyH_done (by kernel_rfl) ?_ _
      gi_wp2_with fail
      exact invT_no HI.out (HF5.out.drew) hb HJ.out HNO.out
end Go.Proofs.Ytnhobilmgefhnaa
