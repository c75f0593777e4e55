/- Clones, reversals: mirrored sector lists, on both sides. -/
import Derived.Test.YtnhobilmgefhnaaQl
import Derived.RegionTactic
import Derived.Maps.AppendAt
import Derived.Lib.SliceRun
namespace Go.Proofs.Ytnhobilmgefhnaa
open Go Go.RowKit

/-- n integers that v owns. -/
abbrev OwnN (w : World) (base : Nat) (v : Value) (n : Nat) (xs : List Int) : Prop := w.ownsRow base 2 1 v n (xs.map (Value.int .i64))

theorem sl_news {w : World} {b o : Nat} {xs : List Int} (h : Cells w b o xs) : ∀ j u, (xs.map (Value.int .i64))[j]? = some u → w.cell? ((⟨b, o, none⟩ : Addr).add j) = some u := by
  intro j u hu
  rw [List.getElem?_map] at hu
  rcases Nat.lt_or_ge j xs.length with hj | hj
  · rw [List.getElem?_eq_getElem hj] at hu
    simp only [Option.map_some, Option.some.injEq] at hu
    subst hu
    have := h j hj
    rw [nth_of hj] at this
    have hadd : (⟨b, o, none⟩ : Addr).add j = ⟨b, o + j, none⟩ := by unfold Addr.add; split <;> simp_all
    rw [hadd]; exact this
  · rw [List.getElem?_eq_none hj] at hu; cases hu
theorem ints_one (xs : List Int) : ∀ u ∈ xs.map (Value.int .i64), u.oneCell' = true := by
  intro u hu
  obtain ⟨x, _, rfl⟩ := List.mem_map.1 hu
  rfl

/-- The ends swapped as far as k. -/
def revK (xs : List Int) (k : Nat) : List Int := (List.range xs.length).map fun j => if j < k ∨ xs.length - k ≤ j then nth xs (xs.length - 1 - j) else nth xs j
theorem revK_len (xs : List Int) (k : Nat) : (revK xs k).length = xs.length := by simp [revK]
theorem revK_nth (xs : List Int) (k : Nat) {j : Nat} (h : j < xs.length) : nth (revK xs k) j = if j < k ∨ xs.length - k ≤ j then nth xs (xs.length - 1 - j) else nth xs j := by
  rw [nth_of (by rw [revK_len]; exact h)]; simp [revK]
theorem revK_zero (xs : List Int) : revK xs 0 = xs := by
  refine nth_ext (revK_len _ _) fun k hk => ?_
  rw [revK_len] at hk
  rw [revK_nth _ _ hk, if_neg (by omega)]
theorem nth_reverse {xs : List Int} {j : Nat} (h : j < xs.length) : nth xs.reverse j = nth xs (xs.length - 1 - j) := by
  rw [nth_of (by simpa using h), nth_of (by omega), List.getElem_reverse]
theorem revK_all {xs : List Int} {k j : Nat} (h : k + j + 1 = xs.length) (hk : j ≤ k) : revK xs k = xs.reverse := by
  refine nth_ext (by rw [revK_len, List.length_reverse]) fun p hp => ?_
  rw [revK_len] at hp
  rw [revK_nth _ _ hp, nth_reverse hp]
  split
  · rfl
  · congr 1; omega
theorem nth_set {xs : List Int} {i j : Nat} {x : Int} (h : j < xs.length) : nth (xs.set i x) j = if i = j then x else nth xs j := by
  rw [nth_of (by simpa using h), List.getElem_set]
  split
  · rfl
  · rw [nth_of h]
theorem revK_set {xs : List Int} {k j : Nat} (h : k + j + 1 = xs.length) (hk : k < j) : ((revK xs k).set k (nth xs j)).set j (nth xs k) = revK xs (k + 1) := by
  refine nth_ext (by simp [revK_len]) fun p hp => ?_
  simp only [List.length_set, revK_len] at hp
  rw [nth_set (by simpa [revK_len] using hp), nth_set (by simpa [revK_len] using hp), revK_nth _ _ hp, revK_nth _ _ hp]
  have e : xs.length - 1 - k = j := by omega
  have e' : xs.length - 1 - j = k := by omega
  by_cases h1 : j = p
  · subst h1; rw [if_pos rfl, if_pos (by omega), e']
  · rw [if_neg h1]
    by_cases h2 : k = p
    · subst h2; rw [if_pos rfl, if_pos (by omega), e]
    · rw [if_neg h2]
      by_cases h3 : p < k ∨ xs.length - k ≤ p
      · rw [if_pos h3, if_pos (by omega)]
      · rw [if_neg h3, if_neg (by omega)]

theorem rev_step {w1 : World} {g n c k j base : Nat} {xs : List Int} (hn : xs.length = n) (h : k + j + 1 = n) (hk : k < j) (hw : OwnI w1 base (.slice (some ⟨g, 0, none⟩) n c) (revK xs k)) :
    OwnI ((w1.setCell ⟨g, k, none⟩ (.int .i64 (nth xs j))).setCell ⟨g, j, none⟩ (.int .i64 (nth xs k))) base (.slice (some ⟨g, 0, none⟩) n c) (revK xs (k + 1)) ∧
      w1.grownBy ((w1.setCell ⟨g, k, none⟩ (.int .i64 (nth xs j))).setCell ⟨g, j, none⟩ (.int .i64 (nth xs k))) (some g) := by
  subst hn
  unfold OwnI at *
  rw [revK_len] at *
  have h1 := hw.stored k (.int .i64 (nth xs j))
  have h2 := h1.1.stored j (.int .i64 (nth xs k))
  rw [← List.map_set, ← List.map_set, revK_set h hk] at h2
  exact ⟨h2.1, grownBy_trans h1.2 h2.2⟩
theorem grownBy_drew {a b : World} {row : Option Nat} (h : a.grownBy b row) : a.grownBy b.drew row := ⟨h.os, h.tape, h.output, h.size, h.block⟩
theorem grownBy_drewN {a b : World} {row : Option Nat} (h : a.grownBy b row) (n : Nat) : a.grownBy (b.drewN n) row := ⟨h.os, h.tape, h.output, h.size, h.block⟩

/-- The row is turned round: nothing else has turned. -/
def RetRv (v : Value) (base : Nat) (xs : List Int) (w : World) (e : Ending) (w' : World) : Prop := e = .returned (.tuple #[]) ∧ OwnI w' base v xs.reverse ∧ w.grownBy w' v.ownBlock

set_option maxHeartbeats 4000000 in
theorem reverse_any (v : Value) (base : Nat) (xs : List Int) (w : World) (h : OwnI w base v xs) (hp : 0 < xs.length) (hl : xs.length ≤ 1048576) :
    Calls Try.prog 57 #[v] w (RetRv v base xs w) := by
  rcases h.2 with ⟨rfl, h0⟩ | ⟨g, c, cur, rfl, hb, hg, hnc, hm, hs, ht⟩
  · omega
  · obtain ⟨n, hn⟩ : ∃ n, xs.length = n := ⟨_, rfl⟩
    have H0 : OwnI w base (.slice (some ⟨g, 0, none⟩) n c) (revK xs 0) := by rw [revK_zero, ← hn]; exact h
    clear h hb hg hm hs ht
    rw [hn] at hl hnc hp ⊢
    have HN := Lib.hid hn
    clear hn
    go_enter Try.func57, Try.ntmps57
    go_wp2_with fail
    go_loopw [2, 3] (fun i j wr => ∃ k m : Nat, k + m + 1 = n ∧ i = .int .i64 k ∧ j = .int .i64 m ∧ OwnI wr base (.slice (some ⟨g, 0, none⟩) n c) (revK xs k) ∧ w.grownBy wr (some g)) (fun _ j _ => (intOf j).toNat)
    case atStart => exact ⟨0, n - 1, by omega, rfl, by go_num, H0, grownBy_refl _ _⟩
    case round =>
      obtain ⟨k, j, hkj, rfl, rfl, hown, hgr⟩ := hrel
      clear H0
      by_cases hlt : k < j
      · have hlk : (revK xs k).length = n := by rw [revK_len, HN.out]
        have hck := own_cell hlk hown (k := k) (by omega)
        have hcj := own_cell hlk hown (k := j) (by omega)
        rw [revK_nth _ _ (by rw [HN.out]; omega), if_neg (by rw [HN.out]; omega)] at hck hcj
        have hfk := own_free hlk hown k
        have hfj := own_free hlk hown j
        have HS := rev_step HN.out hkj hlt hown
        have hkn : k < n := by omega
        have hjn : j < n := by omega
        have HK := Lib.hid hkj
        clear hown hlk hkj
        go_wp2_with fail
        go_region
        all_goals
          go_wp2_with fail
          go_roundw
          case rel => exact ⟨k + 1, j - 1, by have := HK.out; omega, by go_num, by go_num, HS.1, grownBy_drew (grownBy_trans hgr HS.2)⟩
          case measure => simp [intOf]; omega
      · have hle : j ≤ k := by omega
        have HV := Lib.hid (revK_all (by rw [HN.out]; exact hkj) hle)
        have HK := Lib.hid hkj
        clear hkj hle
        go_wp2_with fail
        refine bodyPost_ret (v := .tuple #[]) (by simp [results, Try.results57, go_sem]) rfl ⟨rfl, ?_, hgr⟩
        have := HN.out
        unfold OwnI
        rw [List.length_reverse, this, ← HV.out]
        unfold OwnI at hown
        rw [revK_len, this] at hown
        exact hown
end Go.Proofs.Ytnhobilmgefhnaa
