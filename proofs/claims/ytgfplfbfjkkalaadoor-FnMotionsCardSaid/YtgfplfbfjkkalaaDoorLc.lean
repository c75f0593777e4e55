/- SignNum and CompareNum: the program's and the model's contracts, and the walks of their laws. -/
import Derived.Test.YtgfplfbfjkkalaaDoorSe
import Derived.Test.YtgfplfbfjkkalaaDoorLb
namespace Go.Proofs.YtgfplfbfjkkalaaDoor
open Go Go.RowKit OriM

/-- What a comparison is. -/
def cmpV (a b k a' b' k' : Int) : Int := if validB a b k && validB a' b' k' then Q.sgn2 (plusA a k (-a') k') (plusA b k (-b') k') else 0

end Go.Proofs.YtgfplfbfjkkalaaDoor
