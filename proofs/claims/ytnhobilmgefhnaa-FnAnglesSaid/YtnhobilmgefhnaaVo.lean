/- The sector lists that A2Sectors draws are valid. -/
import Derived.Test.YtnhobilmgefhnaaVn
import Derived.Test.YtnhobilmgefhnaaVh
import Derived.Deep.AppendLies
import Derived.Deep.RegionHeld3
import Derived.Test.YtnhobilmgefhnaaQt
namespace Go.Proofs.Ytnhobilmgefhnaa
open Go Go.RowKit OriM

/-- The bytes lie below block M. -/
def NoV (v : Value) (M : Nat) : Prop := ∀ (k : Nat) o c a n', 0 < n' → M ≤ k → v = .slice (some ⟨k, o, a⟩) n' c → False
theorem NoV.mono {v : Value} {M M' : Nat} (h : NoV v M) (hM : M ≤ M') : NoV v M' := fun k o c a n' hn hk e => h k o c a n' hn (Nat.le_trans hM hk) e
theorem rot_vs {xs : List Int} {s : Int} (h1 : ∀ x ∈ xs, 1 ≤ x) (h2 : xs.sum = s) (k : Nat) : (∀ x ∈ rot xs k, 1 ≤ x) ∧ (rot xs k).sum = s := by
  constructor
  · intro x hx
    rcases List.mem_append.1 hx with h | h
    · exact h1 x (List.mem_of_mem_drop h)
    · exact h1 x (List.mem_of_mem_take h)
  · have e : xs.sum = (xs.take k).sum + (xs.drop k).sum := by rw [← List.sum_append, List.take_append_drop]
    unfold rot
    rw [List.sum_append]
    omega

/-- The bytes of a law, as they lie when it is called. -/
def CodeW (w : World) (v : Value) : Prop :=
  (∃ a c, v = .slice a 0 c) ∨ ∃ (b o n c : Nat), v = .slice (some ⟨b, o, none⟩) n c ∧ b < w.heap.size ∧ n ≤ 9223372036854775807 ∧ ∀ i, i < n → ∃ x : Int, w.cell? ⟨b, o + i, none⟩ = some (.int .u8 x) ∧ 0 ≤ x ∧ x ≤ 255
theorem CodeW.at {w w' : World} {v : Value} (h : CodeW w v) {B : Nat} (hB : w.heap.size ≤ B) (hb : Below w.heap.size w w') : CodeAt w' B v := by
  rcases h with h | ⟨b, o, n, c, rfl, hs, hn, h⟩
  · exact .inl h
  · refine .inr ⟨b, o, n, c, rfl, by omega, Nat.lt_of_lt_of_le hs hb.size, hn, fun i hi => ?_⟩
    obtain ⟨x, hx, h0, h1⟩ := h i hi
    exact ⟨x, by rw [hb.cell (p := ⟨b, o + i, none⟩) hs]; exact hx, h0, h1⟩
theorem CodeW.slice {w : World} {v : Value} (h : CodeW w v) : ∃ a n c, v = .slice a n c := by
  rcases h with ⟨a, c, h⟩ | ⟨b, o, n, c, h, _⟩
  · exact ⟨a, 0, c, h⟩
  · exact ⟨_, n, c, h⟩
theorem CodeW.nov {w : World} {v : Value} (h : CodeW w v) : NoV v w.heap.size := by
  intro k o c a n' hn hk e
  rcases h with ⟨a', c', h⟩ | ⟨b, o', n, c', h, hb, _⟩
  · rw [h] at e; cases e; omega
  · rw [h] at e; cases e; omega
theorem fromW_any (sa : Option Addr) (sn sc : Nat) (w : World) : Calls Try.prog 29 #[.slice sa sn sc] w fun e w' => e = .returned (.pointer (some ⟨w.heap.size, 0, none⟩)) ∧ w.alloc (Obj.cells #[.slice sa sn sc, Value.int IntKind.i64 0, Value.int IntKind.u64 0] 72) = w' := by
  go_enter Try.func29, Try.ntmps29
  go_wp2
  go_ret
  exact ⟨rfl, rfl⟩
/-- One of 2, 4, 6, 8. -/
theorem among_even (B L : Nat) (v : Value) (m : Nat) (w : World) (hS : Src w B v m) (hm : m ≤ 1099511627776) (hL : L < w.heap.size) (hLB : L ≠ B) (hc : ∀ i, i < 5 → ∃ x : Int, w.cell? ⟨L, i, none⟩ = some (.int .i64 x) ∧ (x = 2 ∨ x = 4 ∨ x = 6 ∨ x = 8)) :
    Calls Try.prog 31 #[.pointer (some ⟨B, 0, none⟩), .slice (some ⟨L, 0, none⟩) 5 5] w fun e w' => ∃ h : Nat, e = .returned (.int .i64 ((2 * h : Nat) : Int)) ∧ 1 ≤ h ∧ h ≤ 4 ∧ Src w' B v (m + 1) ∧ Touch B w w' := by
  have HN := Lib.hid (pick_any B v m 5 w hS hm (by omega) (by omega))
  have HC := Lib.hid hc
  clear hS hm hc
  go_enter Try.func31, Try.ntmps31
  go_wp2_with fail
  refine (HN.out).mono ?_
  rintro e w1 ⟨r, rfl, r0, r1, hS1, ht1⟩
  obtain ⟨i, rfl⟩ := Int.eq_ofNat_of_zero_le r0
  obtain ⟨x, hx, hxx⟩ := HC.out i (by omega)
  have hx1 : w1.cell? ⟨L, i, none⟩ = some (.int .i64 x) := by rw [ht1.cell (p := ⟨L, i, none⟩) hL hLB]; exact hx
  have HS1 := Lib.hid hS1
  have HT1 := Lib.hid ht1
  have HXX := Lib.hid hxx
  have hlt : (i : Int) < 5 := by omega
  clear hS1 ht1 hx r1 hxx
  go_wp2_with fail
  go_ret
  rcases HXX.out with rfl | rfl | rfl | rfl
  · exact ⟨1, rfl, by omega, by omega, HS1.out, HT1.out⟩
  · exact ⟨2, rfl, by omega, by omega, HS1.out, HT1.out⟩
  · exact ⟨3, rfl, by omega, by omega, HS1.out, HT1.out⟩
  · exact ⟨4, rfl, by omega, by omega, HS1.out, HT1.out⟩

/-- A valid list, in memory of the call's own. -/
def DrawnL (B : Nat) (v : Value) (m : Nat) (w : World) (e : Ending) (w' : World) : Prop :=
  ∃ u xs, e = .returned u ∧ OwnI w' w.heap.size u xs ∧ Vs xs ∧ Src w' B v m ∧ Touch B w w'

set_option maxRecDepth 100000 in
set_option maxHeartbeats 4000000 in
theorem draw_rest (B : Nat) (v : Value) (m n : Nat) (w : World) (h : Src w B v m) (hm : m + 50 ≤ 1099511627776) (n1 : 1 ≤ n) (n2 : n ≤ 16) (hv : NoV v w.heap.size) :
    Hid (Calls Try.prog 53 #[.pointer (some ⟨B, 0, none⟩), .int .i64 (n : Int), .int .i64 16] w (Parts B v (m + 40) n 16 w)) ∧
    Hid (∀ W, Src W B v (m + 40) → Calls Try.prog 52 #[.pointer (some ⟨B, 0, none⟩), .int .i64 (n : Int)] W (PickR B v (m + 41) ((n : Int) - 1) W)) ∧
    Hid (∀ (u : Value) (xs : List Int) (k : Nat) W base, OwnI W base u xs → xs.length = n → k < n → Calls Try.prog 54 #[u, .int .i64 (k : Int)] W (RetO (rot xs k) W)) := by
  refine ⟨Lib.hid (parts_any B v m n 16 w h (by omega) n1 (by omega) (by omega) hv), Lib.hid fun W hW => pick_any B v (m + 40) n W hW (by omega) (by omega) (by omega), Lib.hid fun u xs k W base ho hl hk => ?_⟩
  obtain ⟨b, o, c, rfl, hc, hb, C⟩ := sl_at ho.sl hl (by omega)
  exact sRt_any b o c n k xs W hb C hl hc hk (by omega)

set_option maxRecDepth 100000 in
set_option maxHeartbeats 4000000 in
theorem draw5_any (B : Nat) (v : Value) (m : Nat) (w : World) (h : Src w B v m) (hm : m + 100 ≤ 1099511627776) (hv : NoV v w.heap.size) :
    Calls Try.prog 33 #[.pointer (some ⟨B, 0, none⟩)] w (DrawnL B v (m + 60) w) := by
  have HP := Lib.hid (pick_any B v m 8 w h (by omega) (by omega) (by omega))
  have HV := Lib.hid hv
  have HBl := Lib.hid (srcAt_lt h.at_)
  have HM := Lib.hid hm
  clear h hv hm
  go_enter Try.func33, Try.ntmps33
  go_wp2_with fail
  refine (HP.out).mono ?_
  rintro e w1 ⟨r, rfl, r0, r1, hs1, ht1⟩
  have HO := Lib.hid (one_any B v (m + 1) 8 w1 hs1 (by have := HM.out; omega) (by omega) (by omega))
  have HT1 := Lib.hid ht1
  have e1 : IntKind.i64.wrap (1 + r) = 1 + r := IntWalk.i64_in _ (by omega)
  clear hs1 ht1
  go_wp2_with fail
  refine (HO.out).mono ?_
  rintro e w2 ⟨b, rfl, hs2, ht2⟩
  have HT2 := Lib.hid (HT1.out.trans ht2)
  have HS2 := Lib.hid hs2
  clear hs2 ht2
  cases b
  · obtain ⟨n, hn⟩ : ∃ n : Nat, 1 + r = (n : Int) := ⟨(1 + r).toNat, by omega⟩
    have HN := Lib.hid hn
    obtain ⟨H1, H2, H3⟩ := draw_rest B v (m + 2) n w2 HS2.out (by have := HM.out; omega) (by omega) (by omega) (HV.out.mono HT2.out.size)
    rw [hn]
    rw [hn] at e1
    have hn1 : 1 ≤ n := by omega
    clear hn r0 r1
    go_wp2_with fail
    refine (H1.out).mono ?_
    rintro e w3 ⟨u, xs, rfl, ho3, hl3, hp3, hq3, hs3, ht3⟩
    have HX := Lib.hid (rot_vs hp3 hq3)
    have HO3 := Lib.hid ho3
    have HL3 := Lib.hid hl3
    have H2' := Lib.hid (H2.out w3 hs3)
    have HT3 := Lib.hid (HT2.out.trans ht3)
    have hz2 := HT2.out.size
    clear ho3 hl3 hp3 hq3 hs3 ht3
    go_wp2_with fail
    refine (H2'.out).mono ?_
    rintro e w4 ⟨q, rfl, q0, q1, hs4, ht4⟩
    obtain ⟨k, rfl⟩ := Int.eq_ofNat_of_zero_le q0
    have H3' := Lib.hid (H3.out u xs k w4 w2.heap.size (own_touch HO3.out ht4 (by have := HBl.out; omega)) HL3.out (by omega))
    have HS4 := Lib.hid hs4
    have HT4 := Lib.hid (HT3.out.trans ht4)
    clear hs4 ht4 q0 q1
    go_wp2_with fail
    refine (H3'.out).mono ?_
    rintro e w5 ⟨z, rfl, ho5, hb5⟩
    have HZ := Lib.hid (own_base ho5 HT4.out.size)
    have HS5 := Lib.hid (HS4.out.fresh hb5)
    have HT5 := Lib.hid (HT4.out.trans (.ofBelow hb5))
    clear ho5 hb5
    go_wp2_with fail
    go_ret
    exact ⟨z, _, rfl, HZ.out, ⟨(HX.out k).1, (HX.out k).2⟩, HS5.out.mono (by omega), HT5.out⟩
  · have HP2 := Lib.hid (pick_any B v (m + 2) 16 w2 HS2.out (by have := HM.out; omega) (by omega) (by omega))
    clear r0 r1
    go_wp2_with fail
    refine (HP2.out).mono ?_
    rintro e w2' ⟨r', rfl, r0, r1, hs2', ht2'⟩
    have e2 : IntKind.i64.wrap (1 + r') = 1 + r' := IntWalk.i64_in _ (by omega)
    have HT2' := Lib.hid (HT2.out.trans ht2')
    have HS2' := Lib.hid hs2'
    clear hs2' ht2'
    obtain ⟨n, hn⟩ : ∃ n : Nat, 1 + r' = (n : Int) := ⟨(1 + r').toNat, by omega⟩
    have HN := Lib.hid hn
    obtain ⟨H1, H2, H3⟩ := draw_rest B v (m + 3) n w2' HS2'.out (by have := HM.out; omega) (by omega) (by omega) (HV.out.mono HT2'.out.size)
    rw [hn] at e2
    have hn1 : 1 ≤ n := by omega
    have e3 : IntKind.i64.wrap (1 + r') = (n : Int) := by rw [hn]; exact e2
    clear r0 r1 hn
    go_wp2_with fail
    refine (H1.out).mono ?_
    rintro e w3 ⟨u, xs, rfl, ho3, hl3, hp3, hq3, hs3, ht3⟩
    have HX := Lib.hid (rot_vs hp3 hq3)
    have HO3 := Lib.hid ho3
    have HL3 := Lib.hid hl3
    have H2' := Lib.hid (H2.out w3 hs3)
    have HT3 := Lib.hid (HT2'.out.trans ht3)
    have hz2 := HT2'.out.size
    clear ho3 hl3 hp3 hq3 hs3 ht3
    go_wp2_with fail
    refine (H2'.out).mono ?_
    rintro e w4 ⟨q, rfl, q0, q1, hs4, ht4⟩
    obtain ⟨k, rfl⟩ := Int.eq_ofNat_of_zero_le q0
    have H3' := Lib.hid (H3.out u xs k w4 w2'.heap.size (own_touch HO3.out ht4 (by have := HBl.out; omega)) HL3.out (by omega))
    have HS4 := Lib.hid hs4
    have HT4 := Lib.hid (HT3.out.trans ht4)
    clear hs4 ht4 q0 q1
    go_wp2_with fail
    refine (H3'.out).mono ?_
    rintro e w5 ⟨z, rfl, ho5, hb5⟩
    have HZ := Lib.hid (own_base ho5 HT4.out.size)
    have HS5 := Lib.hid (HS4.out.fresh hb5)
    have HT5 := Lib.hid (HT4.out.trans (.ofBelow hb5))
    clear ho5 hb5
    go_wp2_with fail
    go_ret
    exact ⟨z, _, rfl, HZ.out, ⟨(HX.out k).1, (HX.out k).2⟩, HS5.out.mono (by omega), HT5.out⟩

/-- Two lists, one element of each in turn. -/
def il (a b : List Int) : Nat → List Int
  | 0 => []
  | k + 1 => il a b k ++ [nth a k, nth b k]
theorem il_len (a b : List Int) (k : Nat) : (il a b k).length = 2 * k := by
  induction k with
  | zero => rfl
  | succ k ih => simp [il, ih]; omega
theorem il_sum {a b : List Int} (k : Nat) (ha : k ≤ a.length) (hb : k ≤ b.length) : (il a b k).sum = sumT a k + sumT b k := by
  induction k with
  | zero => simp [il, sumT_zero]
  | succ k ih =>
    rw [sumT_succ (by omega), sumT_succ (by omega)]
    have := ih (by omega) (by omega)
    simp [il]
    omega
theorem il_pos {a b : List Int} (ha : ∀ x ∈ a, 1 ≤ x) (hb : ∀ x ∈ b, 1 ≤ x) (k : Nat) (la : k ≤ a.length) (lb : k ≤ b.length) : ∀ x ∈ il a b k, 1 ≤ x := by
  induction k with
  | zero => intro x hx; cases hx
  | succ k ih =>
    intro x hx
    rcases List.mem_append.1 hx with h | h
    · exact ih (by omega) (by omega) x h
    · simp only [List.mem_cons, List.not_mem_nil, or_false] at h
      rcases h with rfl | rfl
      · exact ha _ (nth_mem (by omega))
      · exact hb _ (nth_mem (by omega))

set_option maxRecDepth 100000 in
set_option maxHeartbeats 8000000 in
theorem flat_loop (B : Nat) (v : Value) (m h : Nat) (w : World) (hs : Src w B v m) (hm : m + 200 ≤ 1099511627776) (h1 : 1 ≤ h) (h2 : h ≤ 4) (hv : NoV v w.heap.size) :
    Calls Try.prog 32 #[.pointer (some ⟨B, 0, none⟩), .int .i64 ((2 * h : Nat) : Int)] w (DrawnL B v (m + 100) w) := by
  have HP := Lib.hid (parts_any B v m h 8 w hs (by omega) h1 (by omega) (by omega) hv)
  have HV := Lib.hid hv
  have HBl := Lib.hid (srcAt_lt hs.at_)
  have HM := Lib.hid hm
  clear hs hv hm
  have d1 : ((2 * h : Nat) : Int) / 2 = (h : Int) := by omega
  have d2 : ((2 * h : Nat) : Int).tdiv 2 = (h : Int) := by rw [Int.tdiv_eq_ediv_of_nonneg (by omega)]; omega
  have d3 : IntKind.i64.wrap (h : Int) = (h : Int) := IntWalk.i64_in _ (by omega)
  obtain ⟨n2, hn2⟩ : ∃ n2 : Int, ((2 * h : Nat) : Int) = n2 := ⟨_, rfl⟩
  rw [hn2] at d1 d2 ⊢
  clear hn2
  obtain ⟨i0, hi, hz0, hz1, hz2⟩ := info_parts infoI64
  go_enter Try.func32, Try.ntmps32
  go_wp2_with fail
  refine (HP.out).mono ?_
  rintro e w1 ⟨ua, xa, rfl, oa, la, pa, qa, s1, t1⟩
  have HP2 := Lib.hid (parts_any B v (m + 40) h 8 w1 s1 (by have := HM.out; omega) h1 (by omega) (by omega) (HV.out.mono t1.size))
  have HOA := Lib.hid oa
  have HLA := Lib.hid la
  have HPA := Lib.hid pa
  have HQA := Lib.hid qa
  have HT1 := Lib.hid t1
  have z1 := t1.size
  clear oa la pa qa s1 t1
  go_wp2_with fail
  refine (HP2.out).mono ?_
  rintro e w2 ⟨ub, xb, rfl, ob, lb, pb, qb, s2, t2⟩
  have HO := Lib.hid (one_any B v (m + 80) 3 w2 s2 (by have := HM.out; omega) (by omega) (by omega))
  have HOB := Lib.hid (own_base ob z1)
  have HLB := Lib.hid lb
  have HPB := Lib.hid pb
  have HQB := Lib.hid qb
  have HT2 := Lib.hid (HT1.out.trans t2)
  have HOA2 := Lib.hid (own_touch HOA.out t2 (by have := HBl.out; omega))
  clear ob lb pb qb s2 t2
  go_wp2_with fail
  refine (HO.out).mono ?_
  rintro e w3 ⟨bb, rfl, s3, t3⟩
  have HS3 := Lib.hid s3
  have HT3 := Lib.hid (HT2.out.trans t3)
  have HOA3 := Lib.hid (own_touch HOA2.out t3 (by have := HBl.out; omega))
  have HOB3 := Lib.hid (own_touch HOB.out t3 (by have := HBl.out; omega))
  clear s3 t3
  -- the tail
  cases bb
  · have HOAW := HOA3
    have HOBW := HOB3
    have HLX := HLB
    have HPX := HPB
    have HQX := HQB
    have HSW := HS3
    have HTW := HT3
    have HBX := Lib.hid ((Below.refl w3.heap.size w3).alloc (Nat.le_refl _) (.cells #[] 2))
    have HW := Lib.hid (World.ownsRow_lit (base := w3.heap.size) (e := 2) (size := 1) w3 #[] 0 (Nat.le_refl _) (by decide) rfl)
    obtain ⟨ba, oa, ca, hua, hca, hba, CA⟩ := sl_at (OwnI.sl HOAW.out) HLA.out (by omega)
    obtain ⟨bx, ox, cx, hux, hcx, hbx, CX⟩ := sl_at (OwnI.sl HOBW.out) HLX.out (by omega)
    have HRA := Lib.hid (own_row HOAW.out)
    have HCA := Lib.hid CA
    have HCX := Lib.hid CX
    have HZW := Lib.hid HTW.out.size
    clear CA CX
    subst hua hux
    go_wp2_with fail
    go_loopw [8, 9] (fun z i wr => ∃ k : Nat, k ≤ h ∧ i = .int .i64 k ∧ OwnN wr w3.heap.size z (2 * k) (il xa xb k) ∧ Below w3.heap.size w3 wr) (fun _ i _ => h - (intOf i).toNat)
    case atStart => exact ⟨0, Nat.zero_le _, rfl, HW.out, HBX.out⟩
    case round =>
      obtain ⟨k, hk, rfl, hown, hbel⟩ := hrel
      have hsz := hbel.size
      by_cases hlt : k < h
      · have xk := (cells_below HCA.out hbel hba) k (by rw [HLA.out]; exact hlt)
        have yk := (cells_below HCX.out hbel hbx) k (by rw [HLX.out]; exact hlt)
        have ne1 := own_ne hown (g := ba) hba
        have ne2 := own_ne hown (g := bx) hbx
        have la1 : ba < wr.heap.size := by omega
        have lx1 : bx < wr.heap.size := by omega
        have j0 : (0 : Int) ≤ (k : Int) := by omega
        have j1 : (k : Int) < (h : Int) := by omega
        obtain ⟨y1, hy1⟩ : ∃ y, nth xa k = y := ⟨_, rfl⟩
        obtain ⟨y2, hy2⟩ : ∃ y, nth xb k = y := ⟨_, rfl⟩
        rw [hy1] at xk
        rw [hy2] at yk
        have HI := Lib.hid (show il xa xb (k + 1) = il xa xb k ++ [y1, y2] by rw [← hy1, ← hy2]; rfl)
        clear hy1 hy2
        go_wp2_with fail
        go_region_held3 (fun w' => w'.cell? ⟨ba, oa + k, none⟩ = some (.int .i64 y1) ∧ w'.cell? ⟨bx, ox + k, none⟩ = some (.int .i64 y2)) (first | go_keep | (go_split_ands; refine ⟨?_, ?_⟩ <;> (first | (rw [hgrow.cell_far _ (by simp; omega) ne1]; assumption) | (rw [hgrow.cell_far _ (by simp; omega) ne2]; assumption)))) ((refine step_append_lies _ (by rfl) _ _ _ (by rfl) w3.heap.size 2 i0 _ 1 8 Try.underlying24 hi hz0 hz1 hz2 rfl (by omega) u8 (2 * k) ((il xa xb k).map (Value.int .i64)) (by rfl) ((hown.alloc _).drew) ⟨wr.heap.size, 0, none⟩ 2 2 [.int .i64 y1, .int .i64 y2] (by rfl) (by rfl) (World.news_of_block (cs := #[.int .i64 y1, .int .i64 y2]) (t := 2) (fr := (0, 0)) (heap_alloc_new wr _)) (by simp [Value.oneCell']) (by omega) (by unfold maxLen; omega) (by omega) (by simp; omega) (wr.heap.size + 1) (by simp) ?_; intro gg cap w1 hown1 hgrow hat hlt1))
        have HB1 := ((hbel.alloc hsz (.cells #[.int .i64 y1, .int .i64 y2] 2)).drew).grown hgrow (by simp; omega) (fun j hj => (own_row hown j hj).1)
        clear hgrow xk yk
        go_wp2_with fail
        go_roundw
        case rel =>
          refine ⟨k + 1, by omega, by go_num, ?_, HB1⟩
          unfold OwnN
          rw [HI.out, List.map_append]
          exact hown1
        case measure => simp [intOf]; omega
      · obtain rfl : k = h := by omega
        go_wp2_with fail
        go_ret
        refine ⟨_, il xa xb k, rfl, ?_, ⟨il_pos HPA.out HPX.out k (by rw [HLA.out]; exact Nat.le_refl _) (by rw [HLX.out]; exact Nat.le_refl _), ?_⟩, (HSW.out.fresh hbel).mono (by omega), HTW.out.trans (.ofBelow hbel)⟩
        · unfold OwnI
          rw [il_len]
          exact own_base hown HZW.out
        · rw [il_sum k (by rw [HLA.out]; exact Nat.le_refl _) (by rw [HLX.out]; exact Nat.le_refl _)]
          have q1 := sumT_all xa
          have q2 := sumT_all xb
          rw [HLA.out, HQA.out] at q1
          rw [HLX.out, HQX.out] at q2
          omega
  · have HP3 := Lib.hid (pick_any B v (m + 81) h w3 HS3.out (by have := HM.out; omega) (by omega) (by omega))
    go_wp2_with fail
    refine (HP3.out).mono ?_
    rintro e w4 ⟨q, rfl, q0, q1, s4, t4⟩
    obtain ⟨k0, rfl⟩ := Int.eq_ofNat_of_zero_le q0
    have HOA4 := Lib.hid (own_touch HOA3.out t4 (by have := HBl.out; omega))
    have HRt := Lib.hid (show Calls Try.prog 54 #[ua, .int .i64 (k0 : Int)] w4 (RetO (rot xa k0) w4) from by
      obtain ⟨b1, o1, c1, rfl, hc1, hb1, C1⟩ := sl_at (OwnI.sl HOA4.out) HLA.out (by omega)
      exact sRt_any b1 o1 c1 h k0 xa w4 hb1 C1 HLA.out hc1 (by omega) (by omega))
    have HK0 := Lib.hid (show k0 ≤ xa.length by rw [HLA.out]; omega)
    have HS4 := Lib.hid s4
    have HT4 := Lib.hid (HT3.out.trans t4)
    clear s4 t4 q0 q1
    go_wp2_with fail
    refine (HRt.out).mono ?_
    rintro e w5 ⟨ux, rfl, o5, b5⟩
    obtain ⟨xx, hxx⟩ : ∃ xx, rot xa k0 = xx := ⟨_, rfl⟩
    have HLX := Lib.hid (show xx.length = h by rw [← hxx, rot_len _ HK0.out, HLA.out])
    have HPX := Lib.hid (show ∀ x ∈ xx, 1 ≤ x by rw [← hxx]; exact (rot_vs HPA.out HQA.out k0).1)
    have HQX := Lib.hid (show xx.sum = 8 by rw [← hxx]; exact (rot_vs HPA.out HQA.out k0).2)
    rw [hxx] at o5
    have HOAW := Lib.hid (own_below HOA4.out b5 (Nat.le_refl _))
    have HOBW := Lib.hid o5
    have HSW := Lib.hid (HS4.out.fresh b5)
    have HTW := Lib.hid (HT4.out.trans (.ofBelow b5))
    clear o5 b5 hxx
    have HBX := Lib.hid ((Below.refl w5.heap.size w5).alloc (Nat.le_refl _) (.cells #[] 2))
    have HW := Lib.hid (World.ownsRow_lit (base := w5.heap.size) (e := 2) (size := 1) w5 #[] 0 (Nat.le_refl _) (by decide) rfl)
    obtain ⟨ba, oa, ca, hua, hca, hba, CA⟩ := sl_at (OwnI.sl HOAW.out) HLA.out (by omega)
    obtain ⟨bx, ox, cx, hux, hcx, hbx, CX⟩ := sl_at (OwnI.sl HOBW.out) HLX.out (by omega)
    have HRA := Lib.hid (own_row HOAW.out)
    have HCA := Lib.hid CA
    have HCX := Lib.hid CX
    have HZW := Lib.hid HTW.out.size
    clear CA CX
    subst hua hux
    go_wp2_with fail
    go_loopw [8, 9] (fun z i wr => ∃ k : Nat, k ≤ h ∧ i = .int .i64 k ∧ OwnN wr w5.heap.size z (2 * k) (il xa xx k) ∧ Below w5.heap.size w5 wr) (fun _ i _ => h - (intOf i).toNat)
    case atStart => exact ⟨0, Nat.zero_le _, rfl, HW.out, HBX.out⟩
    case round =>
      obtain ⟨k, hk, rfl, hown, hbel⟩ := hrel
      have hsz := hbel.size
      by_cases hlt : k < h
      · have xk := (cells_below HCA.out hbel hba) k (by rw [HLA.out]; exact hlt)
        have yk := (cells_below HCX.out hbel hbx) k (by rw [HLX.out]; exact hlt)
        have ne1 := own_ne hown (g := ba) hba
        have ne2 := own_ne hown (g := bx) hbx
        have la1 : ba < wr.heap.size := by omega
        have lx1 : bx < wr.heap.size := by omega
        have j0 : (0 : Int) ≤ (k : Int) := by omega
        have j1 : (k : Int) < (h : Int) := by omega
        obtain ⟨y1, hy1⟩ : ∃ y, nth xa k = y := ⟨_, rfl⟩
        obtain ⟨y2, hy2⟩ : ∃ y, nth xx k = y := ⟨_, rfl⟩
        rw [hy1] at xk
        rw [hy2] at yk
        have HI := Lib.hid (show il xa xx (k + 1) = il xa xx k ++ [y1, y2] by rw [← hy1, ← hy2]; rfl)
        clear hy1 hy2
        go_wp2_with fail
        go_region_held3 (fun w' => w'.cell? ⟨ba, oa + k, none⟩ = some (.int .i64 y1) ∧ w'.cell? ⟨bx, ox + k, none⟩ = some (.int .i64 y2)) (first | go_keep | (go_split_ands; refine ⟨?_, ?_⟩ <;> (first | (rw [hgrow.cell_far _ (by simp; omega) ne1]; assumption) | (rw [hgrow.cell_far _ (by simp; omega) ne2]; assumption)))) ((refine step_append_lies _ (by rfl) _ _ _ (by rfl) w5.heap.size 2 i0 _ 1 8 Try.underlying24 hi hz0 hz1 hz2 rfl (by omega) u8 (2 * k) ((il xa xx k).map (Value.int .i64)) (by rfl) ((hown.alloc _).drew) ⟨wr.heap.size, 0, none⟩ 2 2 [.int .i64 y1, .int .i64 y2] (by rfl) (by rfl) (World.news_of_block (cs := #[.int .i64 y1, .int .i64 y2]) (t := 2) (fr := (0, 0)) (heap_alloc_new wr _)) (by simp [Value.oneCell']) (by omega) (by unfold maxLen; omega) (by omega) (by simp; omega) (wr.heap.size + 1) (by simp) ?_; intro gg cap w1 hown1 hgrow hat hlt1))
        have HB1 := ((hbel.alloc hsz (.cells #[.int .i64 y1, .int .i64 y2] 2)).drew).grown hgrow (by simp; omega) (fun j hj => (own_row hown j hj).1)
        clear hgrow xk yk
        go_wp2_with fail
        go_roundw
        case rel =>
          refine ⟨k + 1, by omega, by go_num, ?_, HB1⟩
          unfold OwnN
          rw [HI.out, List.map_append]
          exact hown1
        case measure => simp [intOf]; omega
      · obtain rfl : k = h := by omega
        go_wp2_with fail
        go_ret
        refine ⟨_, il xa xx k, rfl, ?_, ⟨il_pos HPA.out HPX.out k (by rw [HLA.out]; exact Nat.le_refl _) (by rw [HLX.out]; exact Nat.le_refl _), ?_⟩, (HSW.out.fresh hbel).mono (by omega), HTW.out.trans (.ofBelow hbel)⟩
        · unfold OwnI
          rw [il_len]
          exact own_base hown HZW.out
        · rw [il_sum k (by rw [HLA.out]; exact Nat.le_refl _) (by rw [HLX.out]; exact Nat.le_refl _)]
          have q1 := sumT_all xa
          have q2 := sumT_all xx
          rw [HLA.out, HQA.out] at q1
          rw [HLX.out, HQX.out] at q2
          omega

set_option maxRecDepth 100000 in
set_option maxHeartbeats 4000000 in
/-- A valid list, nothing old turned. -/
theorem sectors_any (v : Value) (w : World) (hC : CodeW w v) : Calls Try.prog 8 #[v] w fun e w' => ∃ u xs, e = .returned u ∧ OwnI w' w.heap.size u xs ∧ Vs xs ∧ Below w.heap.size w w' := by
  obtain ⟨sa, sn, sc, rfl⟩ := hC.slice
  have HNo := Lib.hid (hC.nov)
  have HC := Lib.hid hC
  have HF := Lib.hid (fromW_any sa sn sc w)
  clear hC
  go_enter Try.func8, Try.ntmps8
  go_wp2_with fail
  refine (HF.out).mono ?_
  rintro e w0 ⟨rfl, hw0⟩
  have hb0 : Below w.heap.size w w0 := by rw [← hw0]; exact (Below.refl _ w).alloc (Nat.le_refl _) _
  have hz0' : w0.heap.size = w.heap.size + 1 := by rw [← hw0]; simp
  have hs0 : Src w0 w.heap.size (.slice sa sn sc) 0 := ⟨by rw [← hw0]; exact ⟨by simp [go_sem], ⟨0, 0, by simp [go_sem], by simp [go_sem], by omega, by omega, by omega, by omega⟩, by simp [go_sem], by simp [go_sem]⟩, HC.out.at (Nat.le_refl _) hb0⟩
  have HO := Lib.hid (one_any w.heap.size (.slice sa sn sc) 0 2 w0 hs0 (by omega) (by omega) (by omega))
  have HB0 := Lib.hid hb0
  clear hs0 hb0 hw0
  go_wp2_with fail
  refine (HO.out).mono ?_
  rintro e w1 ⟨bb, rfl, s1, t1⟩
  have HS1 := Lib.hid s1
  have HT1 := Lib.hid t1
  have z1 := t1.size
  clear s1 t1
  cases bb
  · have HD := Lib.hid (draw5_any w.heap.size (.slice sa sn sc) 1 w1 HS1.out (by omega) (HNo.out.mono (by omega)))
    go_wp2_with fail
    refine (HD.out).mono ?_
    rintro e w2 ⟨u, xs, rfl, ho, hv, hs2, ht2⟩
    have HO2 := Lib.hid ho
    have HV2 := Lib.hid hv
    have HT2 := Lib.hid (HT1.out.trans ht2)
    clear ho hv hs2 ht2
    go_wp2_with fail
    go_ret
    exact ⟨u, xs, rfl, own_base HO2.out (by omega), HV2.out, HB0.out.trans (HT2.out.below (Nat.le_refl _) (by omega))⟩
  · have HA := Lib.hid (fun W (hW : Src W w.heap.size (.slice sa sn sc) 1) (L : Nat) (hL : L < W.heap.size) (hLB : L ≠ w.heap.size) (hc : ∀ i, i < 5 → ∃ x : Int, W.cell? ⟨L, i, none⟩ = some (.int .i64 x) ∧ (x = 2 ∨ x = 4 ∨ x = 6 ∨ x = 8)) => among_even w.heap.size L (.slice sa sn sc) 1 W hW (by omega) hL hLB hc)
    go_wp2_with fail
    refine (HA.out _ ?_ _ ?_ ?_ ?_).mono ?_
    · exact HS1.out.fresh ((Below.refl _ w1).alloc (Nat.le_refl _) _)
    · simp
    · omega
    · intro i hi
      rcases (show i = 0 ∨ i = 1 ∨ i = 2 ∨ i = 3 ∨ i = 4 by omega) with rfl | rfl | rfl | rfl | rfl <;> exact ⟨_, by simp [go_sem]; rfl, by omega⟩
    rintro e w2 ⟨h, rfl, h1, h2, s2, t2⟩
    have HT2 := Lib.hid ((HT1.out.trans (.ofBelow ((Below.refl _ w1).alloc (Nat.le_refl _) _))).trans t2)
    have HFl := Lib.hid (flat_loop w.heap.size (.slice sa sn sc) 2 h w2 s2 (by omega) h1 h2 (HNo.out.mono (by have := HT2.out.size; omega)))
    have z2 := HT2.out.size
    clear s2 t2
    go_wp2_with fail
    refine (HFl.out).mono ?_
    rintro e w3 ⟨u, xs, rfl, ho, hv, hs3, ht3⟩
    have HO3 := Lib.hid ho
    have HV3 := Lib.hid hv
    have HT3 := Lib.hid (HT2.out.trans ht3)
    clear ho hv hs3 ht3
    go_wp2_with fail
    go_ret
    exact ⟨u, xs, rfl, own_base HO3.out (by omega), HV3.out, HB0.out.trans (HT3.out.below (Nat.le_refl _) (by omega))⟩
end Go.Proofs.Ytnhobilmgefhnaa
