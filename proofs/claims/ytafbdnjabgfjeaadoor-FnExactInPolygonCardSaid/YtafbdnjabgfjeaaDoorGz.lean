/- The laws of validity and order of points and lines, of the vectors of directions: walked whole. -/
import Derived.Test.YtafbdnjabgfjeaaDoorGq
import Derived.Test.YtafbdnjabgfjeaaDoorGc
import Derived.Test.YtafbdnjabgfjeaaDoorGl
import Derived.Deep.RegionHeld3
import Derived.Deep.DeepCutAuto
import Derived.Deep.DrawnRows
namespace Go.Proofs.YtafbdnjabgfjeaaDoor
open Go Go.RowKit OriM
variable {β : Bool}

theorem toPt_any (a b k c d l : Int) (w : World) (hT : LT β w) : Calls Tryd.prog 42 #[pt a b k c d l] w (RetB (pt a b k c d l) w) :=
  toPoint_core _ _ _ _ _ _ w hT (Lib.hid fun w _ => toNum_any a b k w) (Lib.hid fun w _ => toNum_any c d l w)
theorem eqN_any (a b k : Int) (w : World) : Calls Tryd.prog 46 #[num a b k, num a b k] w (RetB (.bool true) w) := by
  have h := eqNum_any a b k a b k w
  rwa [show eqB a b k a b k = true by simp [eqB]] at h
theorem eqPt_any (a b k c d l : Int) (w : World) (hT : LT β w) : Calls Tryd.prog 91 #[pt a b k c d l, pt a b k c d l] w (RetB (.bool true) w) :=
  eqPoint_core _ _ _ _ _ _ w hT (Lib.hid fun w _ => eqN_any a b k w) (Lib.hid fun w _ => eqN_any c d l w)
end Go.Proofs.YtafbdnjabgfjeaaDoor
