/- What TakeSdnv answers, by the program's loop and by the specification's. -/
import Derived.Test.YtapojeehidhhnaaRows
import Derived.Test.YtapojeehidhhnaaRet3
import Derived.WalkKit
import Derived.WalkSpells
import Derived.WalkLawsBesides
import Derived.Outline
namespace Go.Proofs.Ytapojeehidhhnaa
open Go.RowKit
theorem takeF_no {s : ByteArray} {x : Int} (h : ¬ (s.size ≤ 400 ∧ 0 ≤ x ∧ x < s.size)) : M3.takeF s x = M3.no := by unfold M3.takeF; rw [if_neg h]
theorem takeF_yes {s : ByteArray} {a : Nat} (h1 : s.size ≤ 400) (h2 : a < s.size) : M3.takeF s (a : Int) = M3.tkS (M3.gb s) s.size a a 0 := by
  unfold M3.takeF; rw [if_pos ⟨h1, by omega, by omega⟩]; rfl
theorem takeF_impl {s : ByteArray} {a : Nat} (h1 : s.size ≤ 400) (h2 : a < s.size) (h3 : M3.gb s a ≠ 128) : M3.tkI (M3.gb s) s.size a 0 = M3.takeF s (a : Int) := by
  rw [takeF_yes h1 h2, ← M3.tk_all (M3.gb s) s.size a h2 (M3.gb_lt s a), if_neg h3]
theorem takeF_128 {s : ByteArray} {a : Nat} (h1 : s.size ≤ 400) (h2 : a < s.size) (h3 : M3.gb s a = 128) : M3.no = M3.takeF s (a : Int) := by
  rw [takeF_yes h1 h2, ← M3.tk_all (M3.gb s) s.size a h2 (M3.gb_lt s a), if_pos h3]
abbrev tk3 (T : M3.R) : Value := .tuple #[.int .i64 (T.1 : Int), .int .i64 (T.2.1 : Int), .bool T.2.2]
end Go.Proofs.Ytapojeehidhhnaa
