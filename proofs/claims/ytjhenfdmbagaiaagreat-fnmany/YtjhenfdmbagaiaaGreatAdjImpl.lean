/-
  impl.wholeOnes and impl.Adjusted.
-/
import Derived.Test.YtjhenfdmbagaiaaGreatAdjFair
import Derived.Test.YtjhenfdmbagaiaaGreatFitsOn
import Derived.WalkMore
namespace Go.Proofs.YtjhenfdmbagaiaaGreat.Crew
open Go.ChangeShapes Go.WideShapes Go.ChangeAt Go.RowKit

end Go.Proofs.YtjhenfdmbagaiaaGreat.Crew
