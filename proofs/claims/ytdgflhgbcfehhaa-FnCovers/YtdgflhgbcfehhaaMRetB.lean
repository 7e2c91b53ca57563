/- A truth value that is returned: a plain fact, over whatever program. -/
import Derived.Test.YtdgflhgbcfehhaaMEG
namespace Go.Proofs.Ytdgflhgbcfehhaa
theorem retB7 {a b : Bool} (h : a = b) : Ending.returned (.bool a) = .returned (.bool b) := by rw [h]
theorem retI7 {a b : Int} (h : a = b) : Ending.returned (.int .i64 a) = .returned (.int .i64 b) := by rw [h]
end Go.Proofs.Ytdgflhgbcfehhaa
