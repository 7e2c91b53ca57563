/- Rows of pipes by closures: and, of the program. -/
import Derived.Test.YtndaapidfiocoaaRows
import Derived.Test.YtndaapidfiocoaaMFM
import Derived.WalkKit
import Derived.WalkSpells
import Derived.WalkLawsBesides
import Derived.Outline
namespace Go.Proofs.Ytndaapidfiocoaa
open Go.RowKit
namespace FL
def Stp.cs (s : Stp) : List Value := [.int .i64 (s.k : Int), .bool s.back, .int .i64 s.to, .int .i64 s.room]
abbrev Stp.v (s : Stp) : Value := .agg #[.int .i64 (s.k : Int), .bool s.back, .int .i64 s.to, .int .i64 s.room]
end FL
set_option linter.unusedSimpArgs false in
set_option maxHeartbeats 1600000 in
set_option maxRecDepth 100000 in
theorem and_any (F : Nat) (cs : Array Value) (s : FL.Stp) (w : World) :
    Calls Try.prog 64 #[.func (.func F) #[] cs, s.v] w fun e w' => e = .returned (.func (.func 68) #[] #[.pointer (some ⟨w.heap.size, 0, none⟩), .pointer (some ⟨w.heap.size + 1, 0, none⟩)]) ∧ w' = (w.alloc (.cells #[.func (.func F) #[] cs] 69)).alloc (.cells #[.int .i64 (s.k : Int), .bool s.back, .int .i64 s.to, .int .i64 s.room] 82) := by
  obtain ⟨k, bk, to, room⟩ := s
  go_enter Try.func64, Try.ntmps64
  go_wp2
  go_ret
  exact ⟨rfl, rfl⟩
end Go.Proofs.Ytndaapidfiocoaa
