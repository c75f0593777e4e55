/- The program's alternating sums. -/
import Derived.Test.YtnhobilmgefhnaaQv
import Derived.Shelf.RegionOpen
namespace Go.Proofs.Ytnhobilmgefhnaa
open Go Go.RowKit Go.Shelf
attribute [local go_sem] Oper.semAt_some

set_option maxHeartbeats 1000000 in
theorem chunk_in (F : Fence) (n : Nat) (h5 : F.fn 78) (hro : F.round = none) (a : Option Addr) (len cap : Nat) (w : World) :
    CallsIn F n Try.prog 78 #[.slice a len cap, .int .i64 2] w fun e w' => e = .returned (.func (.func 84) #[] #[.pointer (some ⟨w.heap.size, 0, none⟩), .pointer (some ⟨w.heap.size + 1, 0, none⟩)]) ∧ w' = (w.alloc (.cells #[.slice a len cap] 24)).alloc (.cells #[.int .i64 2] 3) := by
  refine callsIn_of_wp Try.func78 rfl h5 ?_ hro
  simp only [Try.ntmps78, List.size_toArray, List.length_cons, List.length_nil, Nat.reduceAdd, Nat.reduceSub, Array.replicate_succ, Array.replicate_zero, List.push_toArray, List.append_toArray, List.nil_append, List.cons_append]
  gi_wp2
  go_ret
  exact ⟨rfl, rfl⟩

theorem abides_drew {α : Type} {B : Nat} {J : List α → World → Prop} (h : AbidesFrom B J) (s : List α) (W : World) (hs : J s W) : J s W.drew :=
  h s W W.drew none hs ⟨rfl, rfl, rfl, Nat.le_refl _, fun _ _ _ => rfl⟩ (fun r e => by cases e)

theorem chunk_stops (F : Fence) (n : Nat) (h7 : F.fn 84) (hro : F.round = none) (hn : 1 ≤ n) (B1 B2 n₀ b off m cap : Nat) (hm : 0 < m) (hl : 2 * m ≤ 1048576) (hcap : 2 * m ≤ cap) (w : World) (h1 : B1 < w.heap.size) (h2 : B2 < w.heap.size)
    (hB1 : w.cell? ⟨B1, 0, none⟩ = some (.slice (some ⟨b, off, none⟩) (2 * m) cap)) (hB2 : w.cell? ⟨B2, 0, none⟩ = some (.int .i64 2)) :
    SeqStopsK F n Try.prog 84 #[.pointer (some ⟨B1, 0, none⟩), .pointer (some ⟨B2, 0, none⟩)] (fun x : Rd m => pairE b off x) (Kc n₀ B1 B2) (fun ys => ys = upto (rd hm) m) (fun _ => True) m w := fun l J Jx W hW hJ _ hY h0 =>
  chunk1_in F n h7 hro hn l B1 B2 n₀ b off m cap hm hl hcap J Jx (fun pre W h => abides_drew hJ pre W h) hY W ((hW.cell (p := ⟨B1, 0, none⟩) h1).trans hB1) ((hW.cell (p := ⟨B2, 0, none⟩) h2).trans hB2) h0

/-- The sum so far. -/
def smF (xs : List Int) {m : Nat} (pre : List (Rd m)) : Int := pre.foldl (fun s x => IntKind.i64.wrap (s + (nth xs (2 * x.1) - nth xs (2 * x.1 + 1)))) 0
theorem smF_snoc (xs : List Int) {m : Nat} (pre : List (Rd m)) (x : Rd m) : smF xs (pre ++ [x]) = IntKind.i64.wrap (smF xs pre + (nth xs (2 * x.1) - nth xs (2 * x.1 + 1))) := by simp [smF, List.foldl_append]
theorem smF_upto {xs : List Int} (hv : Tl xs) {m : Nat} (hm : 0 < m) (hl : 2 * m ≤ xs.length) (k : Nat) (hk : k ≤ m) : smF xs (upto (rd hm) k) = altK xs k := by
  induction k with
  | zero => rfl
  | succ k ih =>
    rw [upto_succ, smF_snoc, ih (by omega), rd_at hm (by omega : k < m)]
    have b1 := altK_bd hv (k + 1) (by omega)
    have b2 := tl_len hv
    show IntKind.i64.wrap (altK xs (k + 1)) = altK xs (k + 1)
    exact IntWalk.i64_in _ (by omega)
def InvA (w : World) (BS : Nat) (xs : List Int) (m : Nat) (pre : List (Rd m)) (W : World) : Prop := Boxed W BS 2 (.int .i64 (smF xs pre)) ∧ Below w.heap.size w W
theorem invA_own {w : World} {BS m : Nat} {xs : List Int} {B : Nat} (hB : w.heap.size ≤ B) : OwnFrom B (InvA w BS xs m) := by
  intro s W W' row ⟨h1, h4⟩ hg hr
  exact ⟨boxed_from h1 hg (fun r e => (hr r e).2), h4.grown hg h4.size (fun k e => Nat.le_trans hB (hr k e).1)⟩
theorem invA_step {w W : World} {BS B1 B2 m : Nat} {xs : List Int} {pre : List (Rd m)} (h : InvA w BS xs m pre W) (x : Rd m) (hS : w.heap.size ≤ BS) (h1 : B1 ≠ BS) (h2 : B2 ≠ BS) :
    KeepsOthers W (W.setCell ⟨BS, 0, none⟩ (.int .i64 (IntKind.i64.wrap (smF xs pre + (nth xs (2 * x.1) - nth xs (2 * x.1 + 1)))))).drew ∧
    Kc w.heap.size B1 B2 W (W.setCell ⟨BS, 0, none⟩ (.int .i64 (IntKind.i64.wrap (smF xs pre + (nth xs (2 * x.1) - nth xs (2 * x.1 + 1)))))).drew ∧
    InvA w BS xs m (pre ++ [x]) (W.setCell ⟨BS, 0, none⟩ (.int .i64 (IntKind.i64.wrap (smF xs pre + (nth xs (2 * x.1) - nth xs (2 * x.1 + 1)))))).drew := by
  have hb : Below w.heap.size W (W.setCell ⟨BS, 0, none⟩ (.int .i64 (IntKind.i64.wrap (smF xs pre + (nth xs (2 * x.1) - nth xs (2 * x.1 + 1)))))).drew := ((Below.refl _ W).setCell (p := ⟨BS, 0, none⟩) hS _).drew
  refine ⟨(KeepsOthers.setCell _ _ _).trans (KeepsOthers.drew _), ⟨hb, ?_, ?_⟩, ?_, h.2.trans hb⟩
  · exact Below.heap_setCell W _ _ _ h1
  · exact Below.heap_setCell W _ _ _ h2
  · rw [smF_snoc]; exact Boxed.set _ h.1

set_option maxRecDepth 100000 in
set_option maxHeartbeats 4000000 in
theorem iAl_yes (b o c m : Nat) (xs : List Int) (w : World) (hc : xs.length ≤ c) (hb : b < w.heap.size) (hcs : Cells w b o xs) (hv : Tl xs) (hp : 0 < m) (hm : xs.length = 2 * m) (hl : xs.length ≤ 1048576) :
    Calls Try.prog 61 #[.slice (some ⟨b, o, none⟩) xs.length c] w (RetN (altK xs m) w) := by
  obtain ⟨n, hn⟩ : ∃ n, xs.length = n := ⟨_, rfl⟩
  have HC := Lib.hid hcs
  rw [hn] at hl hc hm ⊢
  have HN := Lib.hid hn
  have HM := Lib.hid hm
  have HV := Lib.hid hv
  have he2 : ((n : Int) % 2 == 0) = true := by simp; omega
  have he3 : ((n : Int) % 2 != 0) = false := by simp; omega
  clear hn hcs hv hm
  refine (callsIn_wide (n := 5)).1 ?_
  refine callsIn_of_wp_marks Try.func61 rfl trivial ?_ rfl
  simp only [Try.ntmps61, List.size_toArray, List.length_cons, List.length_nil, Nat.reduceAdd, Nat.reduceSub, Array.replicate_succ, Array.replicate_zero, List.push_toArray, List.append_toArray, List.nil_append, List.cons_append]
  gi_wp2_with fail
  refine ⟨trivial, ?_⟩
  refine (chunk_in Fence.wide _ trivial rfl _ _ _ _).mono ?_
  rintro e w' ⟨rfl, rfl⟩
  gi_wp2_with fail
  have bS := Boxed.new w 2 (.int .i64 0)
  have bL := Boxed.new (w.alloc (.cells #[.int .i64 0] 2)) 24 (.slice (some ⟨b, o, none⟩) n c)
  have bT := Boxed.new ((w.alloc (.cells #[.int .i64 0] 2)).alloc (.cells #[.slice (some ⟨b, o, none⟩) n c] 24)) 3 (.int .i64 2)
  simp only [World.size_alloc] at bL bT
  obtain ⟨w4, hw4⟩ : ∃ w4, ((w.alloc (.cells #[.int .i64 0] 2)).alloc (.cells #[.slice (some ⟨b, o, none⟩) n c] 24)).alloc (.cells #[.int .i64 2] 3) = w4 := ⟨_, rfl⟩
  have B4 : Below w.heap.size w w4 := by rw [← hw4]; exact (((Below.refl _ w).alloc (Nat.le_refl _) _).alloc (by simp) _).alloc (by simp; omega) _
  have z4 : w4.heap.size = w.heap.size + 1 + 1 + 1 := by rw [← hw4]; simp
  have bS4 : Boxed w4 w.heap.size 2 (.int .i64 0) := by rw [← hw4]; exact (bS.alloc _).alloc _
  have bL4 : Boxed w4 (w.heap.size + 1) 24 (.slice (some ⟨b, o, none⟩) n c) := by rw [← hw4]; exact bL.alloc _
  have bT4 : Boxed w4 (w.heap.size + 1 + 1) 3 (.int .i64 2) := by rw [← hw4]; exact bT
  rw [hw4]
  have cL4 := bL4.cell
  rw [HM.out] at cL4
  clear bS bL bT hw4
  refine wpIn_rangeFunc_ownG (F := Fence.wide) rfl (by decide) (gf := 84) (lb := #[.pointer (some ⟨w.heap.size + 1, 0, none⟩), .pointer (some ⟨w.heap.size + 1 + 1, 0, none⟩)]) rfl trivial (enters_of Try.func84 (by kernel_rfl) rfl)
    (chunk_stops Fence.wide _ trivial rfl (by decide) (w.heap.size + 1) (w.heap.size + 1 + 1) w.heap.size b o m c hp (by rw [← HM.out]; exact hl) (by rw [← HM.out]; exact hc) w4 (by omega) (by omega) cL4 bT4.cell) kc_t (kc_b (by omega) (by omega) (by omega)) (Below.refl _ _) (fun _ => rfl)
    (InvA w w.heap.size xs m) (fun _ _ _ => False)
    (invA_own (by omega)) (fun _ _ _ _ _ hs _ _ => hs) ⟨bS4, B4⟩
    (fun x => { tmps := #[.slice (some ⟨b, o, none⟩) n c, undef, .int .i64 0, .pointer (some ⟨w.heap.size, 0, none⟩), .slice (some ⟨b, o + 2 * x.1, none⟩) 2 2, .slice (some ⟨b, o, none⟩) n c, .func (.func 84) #[] #[.pointer (some ⟨w.heap.size + 1, 0, none⟩), .pointer (some ⟨w.heap.size + 1 + 1, 0, none⟩)], .slice (some ⟨b, o + 2 * x.1, none⟩) 2 2, undef, undef, undef, undef, undef, undef, undef, undef, undef, undef], defers := [] }) ?assign ?body ?done ?stop
  case assign =>
    intro l x W K hK
    simp only [pairE]
    gi_wp2
    exact hK
  case body =>
    rintro l pre x W hI _
    have hS := invA_step (B1 := w.heap.size + 1) (B2 := w.heap.size + 1 + 1) hI x (Nat.le_refl _) (by omega) (by omega)
    obtain ⟨p, hpx⟩ : ∃ p, 2 * x.1 = p := ⟨_, rfl⟩
    have hpn : p + 1 < n := by have := x.2; have := HM.out; omega
    rw [hpx] at hS ⊢
    have cS := hI.1.cell
    have fS := hI.1.frozen
    have c0 : W.cell? ⟨b, o + p, none⟩ = some (.int .i64 (nth xs p)) := (hI.2.cell (p := ⟨b, o + p, none⟩) hb).trans (HC.out p (by rw [HN.out]; omega))
    have c1 : W.cell? ⟨b, o + p + 1, none⟩ = some (.int .i64 (nth xs (p + 1))) := (hI.2.cell (p := ⟨b, o + p + 1, none⟩) hb).trans (HC.out (p + 1) (by rw [HN.out]; omega))
    have d0 := tl_nth HV.out (k := p) (by rw [HN.out]; omega)
    have d1 := tl_nth HV.out (k := p + 1) (by rw [HN.out]; omega)
    have e2 : IntKind.i64.wrap (nth xs p - nth xs (p + 1)) = nth xs p - nth xs (p + 1) := IntWalk.i64_in _ (by omega)
    have hmx : Try.prog.follows .mixedOrders = true := by kernel_rfl
    have HS := Lib.hid hS
    clear hS hI hpx
    gi_wp2
    gi_region_o
    all_goals gi_wp2
    all_goals exact ⟨HS.out.1.from _, HS.out.2.1, HS.out.2.2⟩
  case done =>
    rintro D ys W hD rfl hI hK
    have cA := hI.1.cell
    have HK := Lib.hid hK
    have HI := Lib.hid hI
    clear hI
    gi_wp2
    refine ⟨by simp, .inl ⟨_, _, rfl, run_takeDeferred HK.out, ?_⟩⟩
    refine ⟨.int .i64 (altK xs m), ?_, rfl, ?_⟩
    · rw [smF_upto HV.out hp (by rw [HN.out, HM.out]; omega) m (Nat.le_refl _)]
      simp [results, Try.results61, go_sem]
    · exact HI.out.2.trans (belowK_b (w := w) (Nat.le_refl _) W D _ _ (by omega) HK.out rfl rfl)
  case stop =>
    rintro D c pre W _ _ h _
    exact h.elim

set_option maxHeartbeats 1000000 in
theorem iAS_any (v : Value) (xs : List Int) (hx : Ints xs) (b : Bool) (hv : b = true ↔ AltP xs) (w : World) (h : Sl w w.heap.size v xs) (hl : xs.length ≤ 1048576) :
    Calls Try.prog 41 #[v] w (RetIB (alt b xs) b w) := by
  have HD := Lib.hid (iVS_any v xs hx w h hl)
  by_cases hvs : Vs xs
  · obtain ⟨A, c, rfl, hc, hcell⟩ := h
    obtain ⟨bb, o, rfl, hb, hcs⟩ := hcell (vs_pos hvs)
    by_cases he : xs.length % 2 = 0
    · obtain rfl : b = true := hv.2 ⟨hvs, he⟩
      have hA := Lib.hid (iAl_yes bb o c (xs.length / 2) xs w hc hb hcs hvs.tl (by have := vs_pos hvs; omega) (by omega) hl)
      obtain ⟨n, hn⟩ : ∃ n, xs.length = n := ⟨_, rfl⟩
      unfold alt
      rw [if_pos rfl]
      rw [hn] at he HD hA ⊢
      have HV := Lib.hid hvs
      have he2 : ((n : Int) % 2 == 0) = true := by simp; omega
      have he3 : ((n : Int) % 2 != 0) = false := by simp; omega
      clear hcs hcell hvs hv hn he
      go_enter Try.func41, Try.ntmps41
      go_wp2_with fail
      refine (HD.out).mono ?_
      rintro e w1 ⟨r, rfl, hr, rfl⟩
      obtain rfl : r = true := by rw [hr]; exact HV.out
      clear hr
      go_wp2_with fail
      refine (hA.out).mono ?_
      rintro e w1 ⟨rfl, b1⟩
      go_wp2_with fail
      go_ret2
      exact ⟨rfl, b1⟩
    · obtain rfl : b = false := altP_no hv (fun h => he h.2)
      obtain ⟨n, hn⟩ : ∃ n, xs.length = n := ⟨_, rfl⟩
      rw [hn] at he HD ⊢
      have HV := Lib.hid hvs
      have he2 : ((n : Int) % 2 == 0) = false := by simp; omega
      have he3 : ((n : Int) % 2 != 0) = true := by simp; omega
      clear hcs hcell hvs hv hn he
      go_enter Try.func41, Try.ntmps41
      go_wp2_with fail
      refine (HD.out).mono ?_
      rintro e w1 ⟨r, rfl, hr, rfl⟩
      obtain rfl : r = true := by rw [hr]; exact HV.out
      clear hr
      go_wp2_with fail
      go_ret2
      exact ⟨rfl, Below.refl _ _⟩
  · obtain rfl : b = false := altP_no hv (fun h => hvs h.1)
    have HV := Lib.hid hvs
    clear hvs hv
    go_enter Try.func41, Try.ntmps41
    go_wp2_with fail
    refine (HD.out).mono ?_
    rintro e w1 ⟨r, rfl, hr, rfl⟩
    obtain rfl : r = false := by rw [Bool.eq_false_iff]; exact fun h => HV.out (hr.1 h)
    clear hr
    go_wp2_with fail
    go_ret2
    exact ⟨rfl, Below.refl _ _⟩
end Go.Proofs.Ytnhobilmgefhnaa
