/- Three results of one reading, as one value. -/
import Derived.Test.YtobdgmopflccfaaRows
import Derived.Test.YtobdgmopflccfaaM3
import Derived.WalkKit
import Derived.WalkSpells
import Derived.WalkLawsBesides
import Derived.Outline
namespace Go.Proofs.Ytobdgmopflccfaa
open Go.RowKit
theorem ret3 {a b : Nat} {c : Bool} {T : M3.R} (h : (a, b, c) = T) : Ending.returned (.tuple #[.int .i64 (a : Int), .int .i64 (b : Int), .bool c]) = .returned (.tuple #[.int .i64 (T.1 : Int), .int .i64 (T.2.1 : Int), .bool T.2.2]) := by rw [← h]
end Go.Proofs.Ytobdgmopflccfaa
