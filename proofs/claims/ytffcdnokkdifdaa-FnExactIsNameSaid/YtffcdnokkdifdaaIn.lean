/- IsName: the program's and the model's contracts, and the walk of its law. -/
import Derived.Test.YtffcdnokkdifdaaProg
import Derived.Test.YtffcdnokkdifdaaRows
import Derived.WalkKit
import Derived.WalkSpells
import Derived.WalkLawsBesides
import Derived.Below
import Derived.BigRegion
import Derived.BigQuiet
import Derived.Deep.QuietTactic
import Derived.Lib.Hide
import Derived.Deep.Light
import Derived.Deep.RegionWith
namespace Go.Proofs.Ytffcdnokkdifdaa
open Go Go.RowKit

def Ret (v : Value) (w : World) (e : Ending) (w' : World) : Prop := e = .returned v ∧ w = w'

/-- A letter, a digit, what a name holds. -/
def letB (c : Int) : Bool := decide (65 ≤ c ∧ c ≤ 90 ∨ 97 ≤ c ∧ c ≤ 122)
def digB (c : Int) : Bool := decide (48 ≤ c ∧ c ≤ 57)
def okB (c : Int) : Bool := letB c || digB c || decide (c = 95)

theorem letB_cases (c : Int) : (65 ≤ c ∧ c ≤ 90 ∧ letB c = true) ∨ (97 ≤ c ∧ c ≤ 122 ∧ letB c = true) ∨ (c < 65 ∧ letB c = false) ∨ (90 < c ∧ c < 97 ∧ letB c = false) ∨ (122 < c ∧ letB c = false) := by
  simp only [letB, decide_eq_true_eq, decide_eq_false_iff_not]; omega

theorem digB_cases (c : Int) : (48 ≤ c ∧ c ≤ 57 ∧ digB c = true) ∨ (c < 48 ∧ digB c = false) ∨ (57 < c ∧ digB c = false) := by
  simp only [digB, decide_eq_true_eq, decide_eq_false_iff_not]; omega

theorem isLetter_any (c : Int) (w : World) : Calls Try.prog 8 #[.int .u8 c] w (Ret (.bool (letB c)) w) := by
  rcases letB_cases c with ⟨h1, h2, e⟩ | ⟨h1, h2, e⟩ | ⟨h1, e⟩ | ⟨h1, h2, e⟩ | ⟨h1, e⟩ <;> rw [e] <;> clear e
  · go_enter Try.func8, Try.ntmps8
    go_wp2
    go_ret
    exact ⟨rfl, rfl⟩
  · have h3 : 65 ≤ c := by omega
    have h4 : ¬ c ≤ 90 := by omega
    go_enter Try.func8, Try.ntmps8
    go_wp2
    go_ret
    exact ⟨rfl, rfl⟩
  · have h3 : ¬ 65 ≤ c := by omega
    have h4 : ¬ 97 ≤ c := by omega
    go_enter Try.func8, Try.ntmps8
    go_wp2
    go_ret
    exact ⟨rfl, rfl⟩
  · have h3 : 65 ≤ c := by omega
    have h4 : ¬ c ≤ 90 := by omega
    have h5 : ¬ 97 ≤ c := by omega
    go_enter Try.func8, Try.ntmps8
    go_wp2
    go_ret
    exact ⟨rfl, rfl⟩
  · have h3 : 65 ≤ c := by omega
    have h4 : ¬ c ≤ 90 := by omega
    have h5 : 97 ≤ c := by omega
    have h6 : ¬ c ≤ 122 := by omega
    go_enter Try.func8, Try.ntmps8
    go_wp2
    go_ret
    exact ⟨rfl, rfl⟩

theorem lLetter_any (c : Int) (w : World) : Calls Try.prog 6 #[.int .u8 c] w (Ret (.bool (letB c)) w) := by
  rcases letB_cases c with ⟨h1, h2, e⟩ | ⟨h1, h2, e⟩ | ⟨h1, e⟩ | ⟨h1, h2, e⟩ | ⟨h1, e⟩ <;> rw [e] <;> clear e
  · go_enter Try.func6, Try.ntmps6
    go_wp2
    go_ret
    exact ⟨rfl, rfl⟩
  · have h3 : 65 ≤ c := by omega
    have h4 : ¬ c ≤ 90 := by omega
    go_enter Try.func6, Try.ntmps6
    go_wp2
    go_ret
    exact ⟨rfl, rfl⟩
  · have h3 : ¬ 65 ≤ c := by omega
    have h4 : ¬ 97 ≤ c := by omega
    go_enter Try.func6, Try.ntmps6
    go_wp2
    go_ret
    exact ⟨rfl, rfl⟩
  · have h3 : 65 ≤ c := by omega
    have h4 : ¬ c ≤ 90 := by omega
    have h5 : ¬ 97 ≤ c := by omega
    go_enter Try.func6, Try.ntmps6
    go_wp2
    go_ret
    exact ⟨rfl, rfl⟩
  · have h3 : 65 ≤ c := by omega
    have h4 : ¬ c ≤ 90 := by omega
    have h5 : 97 ≤ c := by omega
    have h6 : ¬ c ≤ 122 := by omega
    go_enter Try.func6, Try.ntmps6
    go_wp2
    go_ret
    exact ⟨rfl, rfl⟩

theorem isDigit_any (c : Int) (w : World) : Calls Try.prog 9 #[.int .u8 c] w (Ret (.bool (digB c)) w) := by
  rcases digB_cases c with ⟨h1, h2, e⟩ | ⟨h1, e⟩ | ⟨h1, e⟩ <;> rw [e] <;> clear e
  · go_enter Try.func9, Try.ntmps9
    go_wp2
    go_ret
    exact ⟨rfl, rfl⟩
  · have h3 : ¬ 48 ≤ c := by omega
    go_enter Try.func9, Try.ntmps9
    go_wp2
    go_ret
    exact ⟨rfl, rfl⟩
  · have h3 : 48 ≤ c := by omega
    have h4 : ¬ c ≤ 57 := by omega
    go_enter Try.func9, Try.ntmps9
    go_wp2
    go_ret
    exact ⟨rfl, rfl⟩

theorem lDigit_any (c : Int) (w : World) : Calls Try.prog 7 #[.int .u8 c] w (Ret (.bool (digB c)) w) := by
  rcases digB_cases c with ⟨h1, h2, e⟩ | ⟨h1, e⟩ | ⟨h1, e⟩ <;> rw [e] <;> clear e
  · go_enter Try.func7, Try.ntmps7
    go_wp2
    go_ret
    exact ⟨rfl, rfl⟩
  · have h3 : ¬ 48 ≤ c := by omega
    go_enter Try.func7, Try.ntmps7
    go_wp2
    go_ret
    exact ⟨rfl, rfl⟩
  · have h3 : 48 ≤ c := by omega
    have h4 : ¬ c ≤ 57 := by omega
    go_enter Try.func7, Try.ntmps7
    go_wp2
    go_ret
    exact ⟨rfl, rfl⟩

/-- What a name is. -/
def NameP (s : ByteArray) : Prop := 1 ≤ s.size ∧ s.size ≤ 12 ∧ (∀ h : 0 < s.size, letB (s[0].toNat : Int) = true) ∧ ∀ i (h : i < s.size), okB (s[i].toNat : Int) = true
def RetN (s : ByteArray) (w : World) (e : Ending) (w' : World) : Prop := ∃ r : Bool, e = .returned (.bool r) ∧ (r = true ↔ NameP s) ∧ w = w'

theorem IsName_any (s : ByteArray) (w : World) : Calls Try.prog 5 #[.string s] w (RetN s w) := by
  by_cases h1 : s.size < 1
  · go_enter Try.func5, Try.ntmps5
    go_wp2
    go_ret
    exact ⟨false, rfl, by simp [NameP]; omega, rfl⟩
  by_cases h2 : 12 < s.size
  · go_enter Try.func5, Try.ntmps5
    go_wp2
    go_ret
    exact ⟨false, rfl, by simp [NameP]; omega, rfl⟩
  have h0 : 0 < s.size := by omega
  have HL := Lib.hid (isLetter_any (s[0].toNat : Int))
  by_cases h3 : letB (s[0].toNat : Int) = true
  · rw [h3] at HL
    have h3' := Lib.hid h3
    clear h3
    go_enter Try.func5, Try.ntmps5
    go_wp2_with fail
    refine (HL.out _).mono ?_
    rintro e w1 ⟨rfl, rfl⟩
    go_wp2_with fail
    go_loop [3] (fun i => ∃ k : Nat, 1 ≤ k ∧ k ≤ s.size ∧ i = .int .i64 k ∧ ∀ j (h : j < s.size), j < k → okB (s[j].toNat : Int) = true) (fun i => s.size - (intOf i).toNat)
    case atStart => exact ⟨1, by omega, by omega, rfl, fun j h hj => by
        have e : j = 0 := by omega
        subst e
        simp [okB, h3'.out]⟩
    case round =>
      obtain ⟨k, hk1, hk, rfl, hall⟩ := hrel
      have HA := Lib.hid hall
      clear hall
      by_cases hlt : k < s.size
      · have HK := Lib.hid (isLetter_any (s[k].toNat : Int))
        have HD := Lib.hid (isDigit_any (s[k].toNat : Int))
        have next : okB (s[k].toNat : Int) = true → ∀ j (h : j < s.size), j < k + 1 → okB (s[j].toNat : Int) = true := by
          intro ho j h hj
          rcases Nat.lt_or_ge j k with h' | h'
          · exact HA.out j h h'
          · obtain rfl : j = k := by omega
            exact ho
        have HN := Lib.hid next
        clear next
        by_cases hl : letB (s[k].toNat : Int) = true
        · have HO := Lib.hid (show okB (s[k].toNat : Int) = true by simp [okB, hl])
          rw [hl] at HK
          clear hl
          go_wp2_with fail
          refine (HK.out _).mono ?_
          rintro e w1 ⟨rfl, rfl⟩
          go_wp2_with fail
          go_round
          case rel => exact ⟨k + 1, by omega, by omega, by go_num, HN.out HO.out⟩
          case measure => simp [intOf]; omega
        · by_cases hd : digB (s[k].toNat : Int) = true
          · have HO := Lib.hid (show okB (s[k].toNat : Int) = true by simp [okB, hd])
            rw [Bool.eq_false_iff.2 hl] at HK
            rw [hd] at HD
            clear hl hd
            go_wp2_with fail
            refine (HK.out _).mono ?_
            rintro e w1 ⟨rfl, rfl⟩
            go_wp2_with fail
            refine (HD.out _).mono ?_
            rintro e w1 ⟨rfl, rfl⟩
            go_wp2_with fail
            go_round
            case rel => exact ⟨k + 1, by omega, by omega, by go_num, HN.out HO.out⟩
            case measure => simp [intOf]; omega
          · by_cases hu : (s[k].toNat : Int) = 95
            · have HO := Lib.hid (show okB (s[k].toNat : Int) = true by simp [okB, hu])
              have HU := Lib.hid hu
              rw [Bool.eq_false_iff.2 hl] at HK
              rw [Bool.eq_false_iff.2 hd] at HD
              clear hl hd hu
              go_wp2_with fail
              refine (HK.out _).mono ?_
              rintro e w1 ⟨rfl, rfl⟩
              go_wp2_with fail
              refine (HD.out _).mono ?_
              rintro e w1 ⟨rfl, rfl⟩
              have hu := HU.out
              go_wp2_with fail
              go_round
              case rel => exact ⟨k + 1, by omega, by omega, by go_num, HN.out HO.out⟩
              case measure => simp [intOf]; omega
            · have HO := Lib.hid (show okB (s[k].toNat : Int) = false by simp [okB, hu, hl, hd])
              have HU := Lib.hid hu
              rw [Bool.eq_false_iff.2 hl] at HK
              rw [Bool.eq_false_iff.2 hd] at HD
              clear hl hd hu
              go_wp2_with fail
              refine (HK.out _).mono ?_
              rintro e w1 ⟨rfl, rfl⟩
              go_wp2_with fail
              refine (HD.out _).mono ?_
              rintro e w1 ⟨rfl, rfl⟩
              have hu := HU.out
              go_wp2_with fail
              go_ret
              exact ⟨false, rfl, iff_of_false (by simp) (fun (h : NameP s) => by
                have := h.2.2.2 k hlt
                rw [HO.out] at this
                cases this), rfl⟩
      · go_wp2_with fail
        go_ret
        exact ⟨true, rfl, by simp only [true_iff]; exact ⟨by omega, by omega, fun _ => h3'.out, fun i hi => HA.out i hi (by omega)⟩, rfl⟩
  · rw [Bool.eq_false_iff.2 h3] at HL
    have h3' := Lib.hid h3
    clear h3
    go_enter Try.func5, Try.ntmps5
    go_wp2_with fail
    refine (HL.out _).mono ?_
    rintro e w1 ⟨rfl, rfl⟩
    go_wp2
    go_ret
    exact ⟨false, rfl, by simp [NameP]; exact fun _ _ h => absurd (h h0) h3'.out, rfl⟩
theorem isEmpty_size (s : ByteArray) : s.toList.isEmpty = decide (s.size = 0) := by
  rw [ByteArray.toList_eq, Bool.eq_iff_iff]
  simp only [List.isEmpty_iff, decide_eq_true_eq]
  rw [← List.length_eq_zero_iff]
  rfl

theorem sIsName_any (s : ByteArray) (w : World) : Calls Try.prog 4 #[.string s] w (RetN s w) := by
  have he := isEmpty_size s
  by_cases h1 : s.size < 1
  · rw [decide_eq_true (by omega)] at he
    go_enter Try.func4, Try.ntmps4
    go_wp2
    go_ret
    exact ⟨false, rfl, by simp [NameP]; omega, rfl⟩
  rw [decide_eq_false (by omega)] at he
  by_cases h2 : 12 < s.size
  · go_enter Try.func4, Try.ntmps4
    go_wp2
    go_ret
    exact ⟨false, rfl, by simp [NameP]; omega, rfl⟩
  have h0 : 0 < s.size := by omega
  have HL := Lib.hid (lLetter_any (s[0].toNat : Int))
  by_cases h3 : letB (s[0].toNat : Int) = true
  · rw [h3] at HL
    have h3' := Lib.hid h3
    clear h3
    go_enter Try.func4, Try.ntmps4
    go_wp2_with fail
    refine (HL.out _).mono ?_
    rintro e w1 ⟨rfl, rfl⟩
    go_wp2_with fail
    go_loop [3] (fun i => ∃ k : Nat, 0 ≤ k ∧ k ≤ s.size ∧ i = .int .i64 k ∧ ∀ j (h : j < s.size), j < k → okB (s[j].toNat : Int) = true) (fun i => s.size - (intOf i).toNat)
    case atStart => exact ⟨0, by omega, by omega, rfl, fun j h hj => absurd hj (by omega)⟩
    case round =>
      obtain ⟨k, hk1, hk, rfl, hall⟩ := hrel
      have HA := Lib.hid hall
      clear hall
      by_cases hlt : k < s.size
      · have HK := Lib.hid (lLetter_any (s[k].toNat : Int))
        have HD := Lib.hid (lDigit_any (s[k].toNat : Int))
        have next : okB (s[k].toNat : Int) = true → ∀ j (h : j < s.size), j < k + 1 → okB (s[j].toNat : Int) = true := by
          intro ho j h hj
          rcases Nat.lt_or_ge j k with h' | h'
          · exact HA.out j h h'
          · obtain rfl : j = k := by omega
            exact ho
        have HN := Lib.hid next
        clear next
        by_cases hl : letB (s[k].toNat : Int) = true
        · have HO := Lib.hid (show okB (s[k].toNat : Int) = true by simp [okB, hl])
          rw [hl] at HK
          clear hl
          go_wp2_with fail
          refine (HK.out _).mono ?_
          rintro e w1 ⟨rfl, rfl⟩
          go_wp2_with fail
          go_round
          case rel => exact ⟨k + 1, by omega, by omega, by go_num, HN.out HO.out⟩
          case measure => simp [intOf]; omega
        · by_cases hd : digB (s[k].toNat : Int) = true
          · have HO := Lib.hid (show okB (s[k].toNat : Int) = true by simp [okB, hd])
            rw [Bool.eq_false_iff.2 hl] at HK
            rw [hd] at HD
            clear hl hd
            go_wp2_with fail
            refine (HK.out _).mono ?_
            rintro e w1 ⟨rfl, rfl⟩
            go_wp2_with fail
            refine (HD.out _).mono ?_
            rintro e w1 ⟨rfl, rfl⟩
            go_wp2_with fail
            go_round
            case rel => exact ⟨k + 1, by omega, by omega, by go_num, HN.out HO.out⟩
            case measure => simp [intOf]; omega
          · by_cases hu : (s[k].toNat : Int) = 95
            · have HO := Lib.hid (show okB (s[k].toNat : Int) = true by simp [okB, hu])
              have HU := Lib.hid hu
              rw [Bool.eq_false_iff.2 hl] at HK
              rw [Bool.eq_false_iff.2 hd] at HD
              clear hl hd hu
              go_wp2_with fail
              refine (HK.out _).mono ?_
              rintro e w1 ⟨rfl, rfl⟩
              go_wp2_with fail
              refine (HD.out _).mono ?_
              rintro e w1 ⟨rfl, rfl⟩
              have hu := HU.out
              go_wp2_with fail
              go_round
              case rel => exact ⟨k + 1, by omega, by omega, by go_num, HN.out HO.out⟩
              case measure => simp [intOf]; omega
            · have HO := Lib.hid (show okB (s[k].toNat : Int) = false by simp [okB, hu, hl, hd])
              have HU := Lib.hid hu
              rw [Bool.eq_false_iff.2 hl] at HK
              rw [Bool.eq_false_iff.2 hd] at HD
              clear hl hd hu
              go_wp2_with fail
              refine (HK.out _).mono ?_
              rintro e w1 ⟨rfl, rfl⟩
              go_wp2_with fail
              refine (HD.out _).mono ?_
              rintro e w1 ⟨rfl, rfl⟩
              have hu := HU.out
              go_wp2_with fail
              go_ret
              exact ⟨false, rfl, iff_of_false (by simp) (fun (h : NameP s) => by
                have := h.2.2.2 k hlt
                rw [HO.out] at this
                cases this), rfl⟩
      · go_wp2_with fail
        go_ret
        exact ⟨true, rfl, by simp only [true_iff]; exact ⟨by omega, by omega, fun _ => h3'.out, fun i hi => HA.out i hi (by omega)⟩, rfl⟩
  · rw [Bool.eq_false_iff.2 h3] at HL
    have h3' := Lib.hid h3
    clear h3
    go_enter Try.func4, Try.ntmps4
    go_wp2_with fail
    refine (HL.out _).mono ?_
    rintro e w1 ⟨rfl, rfl⟩
    go_wp2
    go_ret
    exact ⟨false, rfl, by simp [NameP]; exact fun _ _ h => absurd (h h0) h3'.out, rfl⟩

theorem exactIsName.walk (s : ByteArray) (w : World) : Calls Try.prog 3 #[.string s] w (Ret (.bool true) w) := by
  by_cases h : 1048576 < s.size
  · go_enter Try.func3, Try.ntmps3
    go_wp2
    go_ret
    exact ⟨rfl, rfl⟩
  have HI := Lib.hid (IsName_any s)
  have HS := Lib.hid (sIsName_any s)
  go_enter Try.func3, Try.ntmps3
  go_wp2_with fail
  refine (HS.out _).mono ?_
  rintro e w1 ⟨r, rfl, hr, rfl⟩
  have HR := Lib.hid hr
  clear hr
  go_wp2_with fail
  refine (HI.out _).mono ?_
  rintro e w1 ⟨r', rfl, hr', rfl⟩
  obtain rfl : r' = r := by rw [Bool.eq_iff_iff, hr', HR.out]
  clear hr'
  cases r'
  all_goals
    go_wp2_with fail
    go_ret
    exact ⟨rfl, rfl⟩
end Go.Proofs.Ytffcdnokkdifdaa
