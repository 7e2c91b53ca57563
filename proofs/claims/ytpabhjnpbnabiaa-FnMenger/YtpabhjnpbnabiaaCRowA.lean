/- Rows of pipes by closures: and, of the program. -/
import Derived.Test.YtpabhjnpbnabiaaRows
import Derived.Test.YtpabhjnpbnabiaaMFM
import Derived.WalkKit
import Derived.WalkSpells
import Derived.WalkLawsBesides
import Derived.Outline
namespace Go.Proofs.Ytpabhjnpbnabiaa
open Go.RowKit
namespace FL
def Stp.cs (s : Stp) : List Value := [.int .i64 (s.k : Int), .bool s.back, .int .i64 s.to, .int .i64 s.room]
abbrev Stp.v (s : Stp) : Value := .agg #[.int .i64 (s.k : Int), .bool s.back, .int .i64 s.to, .int .i64 s.room]
end FL
set_option linter.unusedSimpArgs false in
set_option maxHeartbeats 1600000 in
set_option maxRecDepth 100000 in
theorem and_any (F : Nat) (cs : Array Value) (s : FL.Stp) (w : World) :
    Calls Try.prog 83 #[.func (.func F) #[] cs, s.v] w fun e w' => e = .returned (.func (.func 93) #[] #[.pointer (some ⟨w.heap.size, 0, none⟩), .pointer (some ⟨w.heap.size + 1, 0, none⟩)]) ∧ w' = (w.alloc (.cells #[.func (.func F) #[] cs] 87)).alloc (.cells #[.int .i64 (s.k : Int), .bool s.back, .int .i64 s.to, .int .i64 s.room] 111) := by
  obtain ⟨k, bk, to, room⟩ := s
  go_enter Try.func83, Try.ntmps83
  go_wp2
  go_ret
  exact ⟨rfl, rfl⟩
end Go.Proofs.Ytpabhjnpbnabiaa
