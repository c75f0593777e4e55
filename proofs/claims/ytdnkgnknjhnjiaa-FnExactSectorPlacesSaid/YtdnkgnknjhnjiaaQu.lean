/- Alternating sums: the model's. -/
import Derived.Test.YtdnkgnknjhnjiaaQt
namespace Go.Proofs.Ytdnkgnknjhnjiaa
open Go Go.RowKit

/-- The first k differences, added up. -/
def altK (xs : List Int) : Nat → Int
  | 0 => 0
  | k + 1 => altK xs k + (nth xs (2 * k) - nth xs (2 * k + 1))
def AltP (xs : List Int) : Prop := Vs xs ∧ xs.length % 2 = 0
def alt (b : Bool) (xs : List Int) : Int := if b then altK xs (xs.length / 2) else 0
theorem altK_bd {xs : List Int} (h : Tl xs) (k : Nat) (hk : 2 * k ≤ xs.length) : -(16 * (k : Int)) ≤ altK xs k ∧ altK xs k ≤ 16 * (k : Int) := by
  induction k with
  | zero => simp [altK]
  | succ k ih =>
    have h1 := ih (by omega)
    have h2 := tl_nth h (k := 2 * k) (by omega)
    have h3 := tl_nth h (k := 2 * k + 1) (by omega)
    simp only [altK]
    omega
theorem altP_no {xs : List Int} {b : Bool} (hb : b = true ↔ AltP xs) (h : ¬ AltP xs) : b = false := by
  rcases b with _ | _
  · rfl
  · exact absurd (hb.1 rfl) h

/-- A number and a bool; the world has drawn, no more. -/
def RetIB (x : Int) (b : Bool) (w : World) (e : Ending) (w' : World) : Prop := e = .returned (.tuple #[.int .i64 x, .bool b]) ∧ Below w.heap.size w w'

set_option maxHeartbeats 2000000 in
theorem sAS_any (v : Value) (xs : List Int) (hx : Ints xs) (b : Bool) (hv : b = true ↔ AltP xs) (w : World) (h : Sl w w.heap.size v xs) (hl : xs.length ≤ 1048576) :
    Calls Try.prog 23 #[v] w (RetIB (alt b xs) b w) := by
  have HO := Lib.hid (sOk_any v xs hx w h hl)
  by_cases hvs : Vs xs
  · have HV := Lib.hid hvs
    obtain ⟨A, c, rfl, hc, hcell⟩ := h
    obtain ⟨n, hn⟩ : ∃ n, xs.length = n := ⟨_, rfl⟩
    rw [hn] at hl hc hcell HO ⊢
    obtain ⟨bb, o, rfl, hbb, hcs⟩ := hcell (by rw [← hn]; exact vs_pos hvs)
    have HN := Lib.hid hn
    have HCS := Lib.hid hcs
    clear hcell hx hvs hcs
    by_cases he : n % 2 = 0
    · obtain rfl : b = true := hv.2 ⟨HV.out, by rw [hn]; exact he⟩
      have he2 : ((n : Int) % 2 == 0) = true := by simp; omega
      have he3 : ((n : Int) % 2 != 0) = false := by simp; omega
      have HE := Lib.hid he
      clear hv hn he
      go_enter Try.func23, Try.ntmps23
      go_wp2_with fail
      refine (HO.out).mono ?_
      rintro e w1 ⟨r, rfl, hr, rfl⟩
      obtain rfl : r = true := by rw [hr]; exact HV.out
      clear hr
      go_wp2_with fail
      go_loopw [4, 5] (fun z i wr => ∃ k p : Nat, Hid (p = 2 * k) ∧ p ≤ n ∧ i = .int .i64 p ∧ z = .int .i64 (altK xs k) ∧ Hid (∃ m, wr = w.drewN m)) (fun _ i _ => n - (intOf i).toNat)
      case atStart => exact ⟨0, 0, Lib.hid rfl, Nat.zero_le _, rfl, rfl, Lib.hid ⟨0, rfl⟩⟩
      case round =>
        obtain ⟨k, p, hp, hpn, rfl, rfl, hm⟩ := hrel
        have hcw : ∀ b o, wr.cell? ⟨b, o, none⟩ = w.cell? ⟨b, o, none⟩ := fun b o => by obtain ⟨m, e⟩ := hm.out; rw [e]; rfl
        by_cases hlt : p < n
        · have hlt1 : p + 1 < n := by have := HE.out; have := hp.out; omega
          have c0 := (hcw _ _).trans (HCS.out p (by rw [HN.out]; exact hlt))
          have c1 := (hcw _ _).trans (HCS.out (p + 1) (by rw [HN.out]; exact hlt1))
          have d0 := vs_nth HV.out (k := p) (by rw [HN.out]; exact hlt)
          have d1 := vs_nth HV.out (k := p + 1) (by rw [HN.out]; exact hlt1)
          have bd := altK_bd HV.out.tl k (by have := HN.out; have := hp.out; omega)
          have bk : (k : Int) ≤ 1048576 := by have := hp.out; omega
          have hs : Hid (altK xs (k + 1) = altK xs k + (nth xs p - nth xs (p + 1))) := Lib.hid (by rw [hp.out]; rfl)
          have e1 : IntKind.i64.wrap ((p : Int) + 1) = (p : Int) + 1 := IntWalk.i64_in _ (by omega)
          have t1 : ((p : Int) + 1).toNat = p + 1 := by omega
          have e2 : IntKind.i64.wrap (nth xs p - nth xs (p + 1)) = nth xs p - nth xs (p + 1) := IntWalk.i64_in _ (by omega)
          have e3 : IntKind.i64.wrap (altK xs k + (nth xs p - nth xs (p + 1))) = altK xs k + (nth xs p - nth xs (p + 1)) := IntWalk.i64_in _ (by omega)
          have i1 : (0 : Int) ≤ (p : Int) + 1 := by omega
          have i2 : (p : Int) + 1 < (n : Int) := by omega
          have i3 : (p : Int) < (n : Int) := by omega
          clear hcw
          go_wp2_with fail
          go_quiet (fail)
          go_wp2_with fail
          go_roundw
          case rel => exact ⟨k + 1, p + 2, Lib.hid (by have := hp.out; omega), by omega, by go_num, by rw [hs.out], Lib.hid (drew_more hm.out _)⟩
          case measure => simp [intOf]; omega
        · clear hcw
          go_wp2_with fail
          go_ret2
          refine ⟨?_, by obtain ⟨m, e⟩ := hm.out; rw [e]; exact below_drewN (Below.refl _ _) m⟩
          have := HN.out
          have h2 := hp.out
          unfold alt
          rw [if_pos rfl, this, show n / 2 = k by omega]
          rfl
    · obtain rfl : b = false := altP_no hv (fun h => he (by rw [← hn]; exact h.2))
      have he2 : ((n : Int) % 2 == 0) = false := by simp; omega
      have he3 : ((n : Int) % 2 != 0) = true := by simp; omega
      clear hv hn he
      go_enter Try.func23, Try.ntmps23
      go_wp2_with fail
      refine (HO.out).mono ?_
      rintro e w1 ⟨r, rfl, hr, rfl⟩
      obtain rfl : r = true := by rw [hr]; exact HV.out
      clear hr
      go_wp2_with fail
      go_ret2
      exact ⟨rfl, Below.refl _ _⟩
  · obtain rfl : b = false := altP_no hv (fun h => hvs h.1)
    have HV := Lib.hid hvs
    clear hvs hv
    go_enter Try.func23, Try.ntmps23
    go_wp2_with fail
    refine (HO.out).mono ?_
    rintro e w1 ⟨r, rfl, hr, rfl⟩
    obtain rfl : r = false := by rw [Bool.eq_false_iff]; exact fun h => HV.out (hr.1 h)
    clear hr
    go_wp2_with fail
    go_ret2
    exact ⟨rfl, Below.refl _ _⟩
end Go.Proofs.Ytdnkgnknjhnjiaa
