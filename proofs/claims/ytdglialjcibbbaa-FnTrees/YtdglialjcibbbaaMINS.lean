/- What slices.Insert does ahead of a row of numbers that the call owns. -/
import Derived.Test.YtdglialjcibbbaaRows
import Derived.Test.YtdglialjcibbbaaM5
import Derived.WalkKit
import Derived.WalkSpells
import Derived.WalkLawsBesides
import Derived.Outline
namespace Go.Proofs.Ytdglialjcibbbaa
open Go.RowKit
/-- What slices.Insert ahead of a row that the call owns does, of one number that lies in a new block. -/
def InsertsI : Prop := ∀ (base : Nat) (a : Option Addr) (cap : Nat) (zs : List Int) (k : Int) (w : World), base ≤ w.heap.size → w.ownsRow base 3 1 (.slice a zs.length cap) zs.length (M4.iv zs) → zs.length ≤ 1000 →
  Calls Try.prog 64 #[.slice a zs.length cap, .int .i64 0, .slice (some ⟨w.heap.size, 0, none⟩) 1 1] (w.alloc (.cells #[.int .i64 k] 3)) fun e w' => ∃ a1 c1, e = .returned (.slice a1 (zs.length + 1) c1) ∧ w'.ownsRow base 3 1 (.slice a1 (zs.length + 1) c1) (zs.length + 1) (M4.iv (k :: zs)) ∧ Below base w w'
end Go.Proofs.Ytdglialjcibbbaa
