/- CodeName: the program's and the model's contracts, and the walk of its law. -/
import Derived.Test.YtffcdnokkdifdaaDoorOpen
namespace Go.Proofs.YtffcdnokkdifdaaDoor
open Go Go.ChangeShapes Go.WideShapes Go.ChangeAt Go.RowKit

/-- The names of the codes. -/
def codeStrs : List (List UInt8) := [[111, 107], [105, 110, 118, 97, 108, 105, 100], [114, 97, 110, 103, 101], [110, 111, 116, 45, 102, 111, 117, 110, 100], [101, 120, 105, 115, 116, 115], [102, 117, 108, 108], [115, 116, 97, 116, 101], [103, 101, 111, 109, 101, 116, 114, 121], [110, 111, 116, 45, 102, 108, 97, 116], [98, 108, 111, 99, 107, 101, 100], [98, 117, 100, 103, 101, 116], [115, 121, 110, 116, 97, 120], [111, 114, 100, 101, 114]]
def nmS (n : Nat) : ByteArray := ⟨(codeStrs.getD n []).toArray⟩
/-- The variable holds the names. -/
def NmTab (w : World) : Prop := ∀ n, n < 13 → w.cell? ⟨0, n, none⟩ = some (.string (nmS n))

/-- An array of strings that reads as a list of texts. -/
theorem strs_of_tab {H : Type} {enc : TypeId × Value → H} {P : Program} {w : World} {base : Nat} {sp : Nat → Bool} {held : Bool} {fuel : Nat} {t e : TypeId} {n : Nat} {cs : List Value} {zs : List (List UInt8)} {p : List MemPlace}
    (ht : P.underlying t = some (.array n e)) (he : P.underlying e = some .string) (hce : P.cellsOf e = 1) (hct : P.cellsOf t = n)
    (h : DataW.trod enc P w base sp held fuel t cs = some (.agg (zs.map fun z => .lit (.string z)), p)) : cs = zs.map fun z => Value.string ⟨z.toArray⟩ := by
  cases fuel with
  | zero => simp [DataW.trod] at h
  | succ fuel =>
    simp only [DataW.trod, ht, hce, hct, Nat.mul_one] at h
    split at h
    · rename_i hl
      obtain ⟨xs, hm, hx⟩ := Option.map_eq_some_iff.1 h
      have hxs : xs.map (·.1) = zs.map fun z => (DataW.lit (.string z) : DataW H) := by
        have := congrArg Prod.fst hx
        simpa using this
      have hxl : xs.length = n := by simpa using Lib.mapM_length hm
      have hzl : zs.length = n := by
        have := congrArg List.length hxs
        simp at this
        omega
      apply List.ext_getElem?
      intro i
      by_cases hi : i < n
      · obtain ⟨b, hb, hf⟩ := Lib.mapM_at hm i i (by simp [hi])
        obtain ⟨z, hc, rfl, _⟩ := DataW.trod_string he hf
        have h1 : cs[i]? = some (.string z) := by
          have := congrArg (·[0]?) hc
          simpa [List.getElem?_take, List.getElem?_drop] using this
        have h2 : (xs.map (·.1))[i]? = some (DataW.lit (.string z.data.toList) : DataW H) := by simp [hb]
        rw [hxs] at h2
        simp only [List.getElem?_map, Option.map_eq_some_iff, DataW.lit.injEq, Lit.string.injEq] at h2
        obtain ⟨z', hz', rfl⟩ := h2
        simp [h1, hz']
      · rw [List.getElem?_eq_none (by omega), List.getElem?_eq_none (by simp; omega)]
    · cases h

theorem nm_of_laid {W : World} (h : laidMetH Tryd.prog Rows.fnExactCodeNameRow.laid W) : NmTab W := by
  obtain ⟨ps, ⟨g', t', cs, fuel, p, q, hg', ht', hvar, hd, _, _⟩, _⟩ := (show laidMet Tryd.prog [("loop.example/g00857/impl.codeNames", .agg (codeStrs.map fun z => .lit (.string z)))] W from h)
  obtain rfl := Option.some.inj ((show Tryd.prog.globalNamed "loop.example/g00857/impl.codeNames" = some 0 by kernel_rfl).symm.trans hg')
  obtain rfl := Option.some.inj ((show (Tryd.prog.globals[0]?).map (·.type) = some 68 by kernel_rfl).symm.trans ht')
  have e := strs_of_tab Tryd.underlying68 Tryd.underlying9 (by kernel_rfl) (by kernel_rfl) hd
  intro n hn
  have hv : W.var? Tryd.prog "loop.example/g00857/impl.codeNames" = some (codeStrs.map fun z => Value.string ⟨z.toArray⟩).toArray := by rw [hvar, ← e]
  have := World.var?_cell hg' hv n
  rw [this]
  simp [nmS, List.getD_eq_getElem?_getD, List.getElem?_eq_getElem (show n < codeStrs.length from hn)]

theorem NmTab.below {B : Nat} {w w' : World} (h : NmTab w) (hb : Below B w w') (hB : 0 < B) : NmTab w' := fun n hn => by
  rw [hb.cell (p := ⟨0, n, none⟩) hB]; exact h n hn

/-- The name of a code. -/
def codeV (c : Int) : ByteArray := if 0 ≤ c ∧ c ≤ 12 then nmS c.toNat else ⟨#[]⟩

theorem CodeName_any (c : Int) (w : World) (hN : NmTab w) : Calls Tryd.prog 32 #[.int .i64 c] w (Ret (.string (codeV c)) w) := by
  unfold codeV
  by_cases h : 0 ≤ c ∧ c ≤ 12
  · rw [if_pos h]
    obtain ⟨n, rfl⟩ : ∃ n : Nat, c = n := ⟨c.toNat, by omega⟩
    have hn : n < 13 := by omega
    have hc := hN n hn
    rw [Int.toNat_natCast]
    clear h hN
    go_enter Tryd.func32, Tryd.ntmps32
    go_wp2
    go_ret
    exact ⟨rfl, rfl⟩
  · rw [if_neg h]
    have h' : c < 0 ∨ 13 ≤ c := by omega
    clear h hN
    rcases h' with h | h
    · go_enter Tryd.func32, Tryd.ntmps32
      go_wp2
      go_ret
      exact ⟨rfl, rfl⟩
    · have h0 : ¬ c < 0 := by omega
      go_enter Tryd.func32, Tryd.ntmps32
      go_wp2
      go_ret
      exact ⟨rfl, rfl⟩

theorem list_cell (w : World) (n : Nat) (hn : n < 13) : (w.alloc (Obj.cells #[Value.string { data := #[111, 107] }, Value.string { data := #[105, 110, 118, 97, 108, 105, 100] }, Value.string { data := #[114, 97, 110, 103, 101] }, Value.string { data := #[110, 111, 116, 45, 102, 111, 117, 110, 100] }, Value.string { data := #[101, 120, 105, 115, 116, 115] }, Value.string { data := #[102, 117, 108, 108] }, Value.string { data := #[115, 116, 97, 116, 101] }, Value.string { data := #[103, 101, 111, 109, 101, 116, 114, 121] }, Value.string { data := #[110, 111, 116, 45, 102, 108, 97, 116] }, Value.string { data := #[98, 108, 111, 99, 107, 101, 100] }, Value.string { data := #[98, 117, 100, 103, 101, 116] }, Value.string { data := #[115, 121, 110, 116, 97, 120] }, Value.string { data := #[111, 114, 100, 101, 114] }] 9)).cell? ⟨w.heap.size, n, none⟩ = some (.string (nmS n)) := by
  rw [World.cell?_alloc_new]
  match n, hn with
  | 0, _ | 1, _ | 2, _ | 3, _ | 4, _ | 5, _ | 6, _ | 7, _ | 8, _ | 9, _ | 10, _ | 11, _ | 12, _ => rfl

theorem sCodeName_any (c : Int) (w : World) : Calls Tryd.prog 31 #[.int .i64 c] w (RetB (.string (codeV c)) w) := by
  have HI := Lib.hid (l00In_any c 0 12)
  unfold codeV
  by_cases h : 0 ≤ c ∧ c ≤ 12
  · rw [if_pos h]
    obtain ⟨n, rfl⟩ : ∃ n : Nat, c = n := ⟨c.toNat, by omega⟩
    have hn : n < 13 := by omega
    have e : inB (n : Int) 0 12 = true := by simp [inB]; omega
    rw [e] at HI
    rw [Int.toNat_natCast]
    clear h e
    go_enter Tryd.func31, Tryd.ntmps31
    have hc := list_cell w n hn
    go_wp2_with fail
    refine (HI.out _).mono ?_
    rintro e w1 ⟨rfl, rfl⟩
    go_wp2
    go_ret
    exact ⟨rfl, by (repeat (first | with_reducible exact Below.refl _ _ | with_reducible refine Below.drew ?_ | with_reducible refine Below.alloc ?_ (by first | omega | (simp; done) | (simp; omega)) _ | with_reducible refine Below.setCell ?_ (by first | omega | (simp; done) | (simp; omega)) _ | with_reducible refine Below.trans ?_ (Below.mono (by assumption) (by first | omega | (simp; done) | (simp; omega)))))⟩
  · rw [if_neg h]
    have e : inB c 0 12 = false := by simp [inB]; omega
    rw [e] at HI
    clear h e
    go_enter Tryd.func31, Tryd.ntmps31
    go_wp2_with fail
    refine (HI.out _).mono ?_
    rintro e w1 ⟨rfl, rfl⟩
    go_wp2_with fail
    go_ret
    exact ⟨rfl, by (repeat (first | with_reducible exact Below.refl _ _ | with_reducible refine Below.drew ?_ | with_reducible refine Below.alloc ?_ (by first | omega | (simp; done) | (simp; omega)) _ | with_reducible refine Below.setCell ?_ (by first | omega | (simp; done) | (simp; omega)) _ | with_reducible refine Below.trans ?_ (Below.mono (by assumption) (by first | omega | (simp; done) | (simp; omega)))))⟩

theorem exactCodeName.walk (c : Int) (w : World) (hN : NmTab w) (hg : 0 < w.heap.size) :
    Calls Tryd.prog 6 #[.int .i64 c] w (RetB (.bool true) w) := by
  have HI := Lib.hid (CodeName_any c)
  have HS := Lib.hid (sCodeName_any c)
  generalize codeV c = s at *
  go_enter Tryd.func6, Tryd.ntmps6
  go_wp2_with fail
  refine (HS.out _).mono ?_
  rintro e w1 ⟨rfl, hb1⟩
  have hN1 := hN.below hb1 hg
  go_wp2_with fail
  refine (HI.out _ hN1).mono ?_
  rintro e w2 ⟨rfl, rfl⟩
  go_wp2_with fail
  go_ret
  exact ⟨rfl, by (repeat (first | with_reducible exact Below.refl _ _ | with_reducible refine Below.drew ?_ | with_reducible refine Below.alloc ?_ (by first | omega | (simp; done) | (simp; omega)) _ | with_reducible refine Below.setCell ?_ (by first | omega | (simp; done) | (simp; omega)) _ | with_reducible refine Below.trans ?_ (Below.mono (by assumption) (by first | omega | (simp; done) | (simp; omega)))))⟩
end Go.Proofs.YtffcdnokkdifdaaDoor
