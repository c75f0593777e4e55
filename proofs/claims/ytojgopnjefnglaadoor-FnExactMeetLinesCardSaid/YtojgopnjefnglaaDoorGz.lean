/- The laws of validity and order of points and lines, of the vectors of directions: walked whole. -/
import Derived.Test.YtojgopnjefnglaaDoorGq
import Derived.Test.YtojgopnjefnglaaDoorGc
import Derived.Test.YtojgopnjefnglaaDoorGrValidPoint
import Derived.Test.YtojgopnjefnglaaDoorGrValidLine
import Derived.Test.YtojgopnjefnglaaDoorGrComparePoints
namespace Go.Proofs.YtojgopnjefnglaaDoor
open Go Go.RowKit OriM
variable {β : Bool}

theorem toPt_any (a b k c d l : Int) (w : World) (hT : LT β w) : Calls Tryd.prog 16 #[pt a b k c d l] w (RetB (pt a b k c d l) w) :=
  toPoint_core _ _ _ _ _ _ w hT (Lib.hid fun w _ => toNum_any a b k w) (Lib.hid fun w _ => toNum_any c d l w)
theorem toLn_any (d a b k : Int) (w : World) (hT : LT β w) : Calls Tryd.prog 19 #[lnv d a b k] w (RetB (lnv d a b k) w) :=
  toLine_core _ _ _ _ w hT (Lib.hid fun w _ => toNum_any a b k w)
theorem eqN_any (a b k : Int) (w : World) : Calls Tryd.prog 54 #[num a b k, num a b k] w (RetB (.bool true) w) := by
  have h := eqNum_any a b k a b k w
  rwa [show eqB a b k a b k = true by simp [eqB]] at h
theorem eqPt_any (a b k c d l : Int) (w : World) (hT : LT β w) : Calls Tryd.prog 25 #[pt a b k c d l, pt a b k c d l] w (RetB (.bool true) w) :=
  eqPoint_core _ _ _ _ _ _ w hT (Lib.hid fun w _ => eqN_any a b k w) (Lib.hid fun w _ => eqN_any c d l w)
theorem eqLn_any (d a b k : Int) (w : World) (hT : LT β w) : Calls Tryd.prog 30 #[lnv d a b k, lnv d a b k] w (RetB (.bool true) w) :=
  eqLine_core _ _ _ _ w hT (Lib.hid fun w _ => eqN_any a b k w)

theorem exactValidPoint.walk {a b k c d l : Int} (h : I6 a b k c d l) (w : World) (hT : LT β w) : Calls Tryd.prog 3 #[pt a b k c d l] w (RetB (.bool true) w) :=
  exactValidPoint.core _ _ _ _ _ _ _ w hT (Lib.hid fun w hT => toPt_any a b k c d l w hT) (Lib.hid fun w hT => sVP_any a b k c d l w hT) (Lib.hid fun w hT => toPt_any a b k c d l w hT) (Lib.hid fun w hT => iVP_any h w hT)
theorem exactValidLine.walk {d a b k : Int} (h : I3 a b k) (w : World) (hT : LT β w) : Calls Tryd.prog 4 #[lnv d a b k] w (RetB (.bool true) w) :=
  exactValidLine.core _ _ _ _ _ w hT (Lib.hid fun w hT => toLn_any d a b k w hT) (Lib.hid fun w hT => sVL_any d a b k w hT) (Lib.hid fun w hT => toLn_any d a b k w hT) (Lib.hid fun w hT => iVL_any h w hT)
theorem exactComparePoints.walk {a b k c d l a' b' k' c' d' l' : Int} (h : I6 a b k c d l) (h' : I6 a' b' k' c' d' l') (w : World) (hT : LT β w) :
    Calls Tryd.prog 5 #[pt a b k c d l, pt a' b' k' c' d' l'] w (RetB (.bool true) w) :=
  exactComparePoints.core _ _ _ _ _ _ _ _ _ _ _ _ _ w hT (Lib.hid fun w hT => toPt_any a b k c d l w hT) (Lib.hid fun w hT => toPt_any a' b' k' c' d' l' w hT) (Lib.hid fun w hT => sCP_any a b k c d l a' b' k' c' d' l' w hT)
    (Lib.hid fun w hT => toPt_any a b k c d l w hT) (Lib.hid fun w hT => toPt_any a' b' k' c' d' l' w hT) (Lib.hid fun w hT => iCP_any h h' w hT)
end Go.Proofs.YtojgopnjefnglaaDoor
