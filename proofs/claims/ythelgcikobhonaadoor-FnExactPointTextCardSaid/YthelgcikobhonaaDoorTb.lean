/- Decimal numerals: the library's and the model's. -/
import Derived.Test.YthelgcikobhonaaDoorTa
import Derived.Test.YthelgcikobhonaaDoorWb
import Derived.Test.YthelgcikobhonaaDoorShelf
import Derived.Lib.AppendIntMem
import Derived.WalkSmall
import Derived.Laws.BytesArg
import Derived.Deep.RegionHeld3
import Derived.Deep.DeepCutAuto
namespace Go.Proofs.YthelgcikobhonaaDoor
open Go Go.RowKit OriM

/-- The library's powers of ten lie in their variable. -/
def PW (w : World) : Prop := Lib.TabIs Tryd.prog w "internal/strconv.uint64pow10" .u64 Lib.pow10Tab
theorem gPow : Tryd.prog.globalNamed "internal/strconv.uint64pow10" = some 1 := by kernel_rfl
theorem PW.lt {w : World} (h : PW w) : 1 < w.heap.size := by
  have hv : w.var? Tryd.prog "internal/strconv.uint64pow10" = some _ := h
  unfold World.var? at hv
  simp only [gPow] at hv
  rcases Nat.lt_or_ge 1 w.heap.size with h' | h'
  · exact h'
  · simp [Array.getElem?_eq_none h'] at hv
theorem PW.below {B : Nat} {w w' : World} (h : PW w) (hb : Below B w w') (hB : w.heap.size ≤ B) : PW w' := var?_below hb gPow (Nat.lt_of_lt_of_le h.lt hB) h
structure TT (w : World) : Prop where
  tz : TzTab w
  pw : PW w
theorem TT.below {B : Nat} {w w' : World} (h : TT w) (hb : Below B w w') (hB : w.heap.size ≤ B) : TT w' := ⟨h.tz.below hb hB, h.pw.below hb hB⟩

theorem fmt_any (n : Int) (h0 : -9223372036854775808 ≤ n) (h1 : n ≤ 9223372036854775807) (w : World) (hT : TT w) :
    Calls Tryd.prog 29 #[.int .i64 n, .int .i64 10] w (RetB (tv (Lib.itoa n)) w) :=
  (Tryd.strconv_FormatInt_10 n h0 h1 w hT.pw).mono (by rintro e w' ⟨rfl, k, os, rfl⟩; exact ⟨rfl, Lib.below_grow _ _ (Nat.le_refl _) _ _⟩)

theorem conv1 (w : World) (b : Nat) (x : Int) (hc : w.cell? ⟨b, 0, none⟩ = some (.int .u8 x)) : Sem.run Tryd.prog (convert 62 9 (.slice (some ⟨b, 0, none⟩) 1 1)) w = .ok (tv [UInt8.ofNat x.toNat]) w := by
  have h := run_convert_bytes_arg (P := Tryd.prog) w 62 5 Tryd.underlying62 Tryd.underlying5 b 0 1 1 [x] rfl (fun i hi => by have h0 : i = 0 := (by omega); subst h0; exact hc) 9 Tryd.underlying9
  exact h

set_option maxHeartbeats 2000000 in
theorem dec_dig (n : Int) (h0 : 0 ≤ n) (h1 : n < 10) (w : World) : Calls Tryd.prog 27 #[.int .i64 n] w (RetB (tv (Lib.itoa n)) w) := by
  have hcv := conv1 (w.alloc (Obj.cells #[Value.int IntKind.u8 (48 + n)] 5)) w.heap.size (48 + n) (by simp [go_sem])
  have HE := Lib.hid (show Lib.itoa n = [UInt8.ofNat (48 + n).toNat] by rw [itoa_small h0 h1, Int.toNat_add (by omega) h0]; rfl)
  go_enter Tryd.func27, Tryd.ntmps27
  go_wp2_with fail
  go_ret
  exact ⟨by rw [HE.out]; rfl, by (repeat (first | with_reducible exact Below.refl _ _ | with_reducible assumption | with_reducible refine below_drewN ?_ _ | with_reducible refine Below.drew ?_ | with_reducible refine Below.alloc ?_ (by first | omega | (simp; done) | (simp; omega)) _ | with_reducible refine Below.setCell ?_ (by first | omega | (simp; done) | (simp; omega)) _ | with_reducible refine Below.trans ?_ (Below.mono (by assumption) (by first | omega | (simp; done) | (simp; omega)))))⟩
set_option maxHeartbeats 2000000 in
theorem dec_neg (n : Int) (h0 : -10 < n) (h1 : n < 0) (w : World) : Calls Tryd.prog 27 #[.int .i64 n] w (RetB (tv (Lib.itoa n)) w) := by
  have HD := Lib.hid fun w => dec_dig (-n) (by omega) (by omega) w
  have HE := Lib.hid (show Lib.itoa n = 45 :: Lib.itoa (-n) from itoa_neg h1)
  have hl : ¬ 9223372036854775807 < 1 + (Lib.itoa (-n)).length := by have := itoa_len (n := -n) (by omega) (by omega); omega
  go_enter Tryd.func27, Tryd.ntmps27
  go_wp2_with fail
  refine (HD.out _).mono ?_
  rintro e w1 ⟨rfl, b1⟩
  go_wp2_with fail
  go_ret
  refine ⟨?_, by (repeat (first | with_reducible exact Below.refl _ _ | with_reducible assumption | with_reducible refine below_drewN ?_ _ | with_reducible refine Below.drew ?_ | with_reducible refine Below.alloc ?_ (by first | omega | (simp; done) | (simp; omega)) _ | with_reducible refine Below.setCell ?_ (by first | omega | (simp; done) | (simp; omega)) _ | with_reducible refine Below.trans ?_ (Below.mono (by assumption) (by first | omega | (simp; done) | (simp; omega)))))⟩
  show Ending.returned (.string ((⟨[45].toArray⟩ : ByteArray) ++ ⟨(Lib.itoa (-n)).toArray⟩)) = _
  rw [ba_append, HE.out]; rfl
end Go.Proofs.YthelgcikobhonaaDoor
