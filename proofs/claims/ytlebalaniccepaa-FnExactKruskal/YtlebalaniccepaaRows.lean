/-
  No cell of these rows narrows 'for every input' (looked for: loops, veiled, ifaces, maps, wideKeys, modest, calm, conditions, laid).
  DERIVED. THE GIVEN ROWS OF THIS SEAT. 4 by the template 'for every input the law returns true; each argument reads behind the call as it read before'; 0 by the template 'total and deterministic' (their statements: YtlebalaniccepaaTotals.lean).
  GIVEN WITH THE SEED: the statements are not yours to turn. If you find one false, say at which input.
  Laid BY PROGRAM, IN A SANDBOX (cutbox-rows.mjs): the forced cells as the released guide's own fill.sh prints them over the translation fe93573b106b728e… (all of the seat's roots in one cut). By AI agents, Wed Nov 11 2026. No macro, syntax, notation, axiom, sorry.
-/
import Derived.Test.YtlebalaniccepaaChecked
import GoSem.Claim
import GoSem.ClaimJoined
import GoSem.ClaimMapViews
import Derived.JoinedTies
import Derived.KernelRfl
namespace Go.Proofs.Ytlebalaniccepaa
/- THE CELL 'sum', in the pinned program and in every row, IS THE sha256 OF THE DUMP (.gsa) THAT YtlebalaniccepaaProg.lean LOADS. Nothing in Lean hashes anything: it is a label: what it is worth is what the hold of that sum in a sandbox is worth. -/
noncomputable def Try.pinned : Pinned := { name := "ytlebalaniccepaa", sum := "fe93573b106b728e6829f2bfa92563668791d5567da54b6f9ef04bed8aee63d4", checked := Try.checked }
namespace Rows
def none {H : Type} : Left H := { results := [], args := [] }

/-- 'laws.FnExactByDue': WHATEVER THE INPUT: true; the input reads as it did. -/
def fnExactByDueSpec : ChangeSpec := { name := "fnExactByDue", fn := fun _ => fun
  | [d] => { results := [.lit (.bool true)], args := [d] }
  | _ => none }
def fnExactByDueRow : OpenClaim := { program := "ytlebalaniccepaa", sum := "fe93573b106b728e6829f2bfa92563668791d5567da54b6f9ef04bed8aee63d4", func := "loop.example/g00315/laws.FnExactByDue", spec := "fnExactByDue", unfollowed := true, recurses := true, apart := false }
def FnExactByDueSaid : Prop := fnExactByDueRow.holds Try.pinned (OpenSpec.ofChange fnExactByDueSpec)

/-- ITS FALSE NEIGHBOUR: 'it returns false'. Refute it at one input. -/
def fnExactByDueWrong : ChangeSpec := { name := "fnExactByDue", fn := fun _ => fun
  | [d] => { results := [.lit (.bool false)], args := [d] }
  | _ => none }
def FnExactByDueWrongFalsely : Prop := fnExactByDueRow.holds Try.pinned (OpenSpec.ofChange fnExactByDueWrong)

/-- 'laws.FnExactFewestLate': WHATEVER THE INPUT: true; the input reads as it did. -/
def fnExactFewestLateSpec : ChangeSpec := { name := "fnExactFewestLate", fn := fun _ => fun
  | [d] => { results := [.lit (.bool true)], args := [d] }
  | _ => none }
def fnExactFewestLateRow : OpenClaim := { program := "ytlebalaniccepaa", sum := "fe93573b106b728e6829f2bfa92563668791d5567da54b6f9ef04bed8aee63d4", func := "loop.example/g00315/laws.FnExactFewestLate", spec := "fnExactFewestLate", unfollowed := true, recurses := true, apart := false }
def FnExactFewestLateSaid : Prop := fnExactFewestLateRow.holds Try.pinned (OpenSpec.ofChange fnExactFewestLateSpec)

/-- ITS FALSE NEIGHBOUR: 'it returns false'. Refute it at one input. -/
def fnExactFewestLateWrong : ChangeSpec := { name := "fnExactFewestLate", fn := fun _ => fun
  | [d] => { results := [.lit (.bool false)], args := [d] }
  | _ => none }
def FnExactFewestLateWrongFalsely : Prop := fnExactFewestLateRow.holds Try.pinned (OpenSpec.ofChange fnExactFewestLateWrong)

/-- 'laws.FnExactOrderFor': WHATEVER THE INPUT: true; the input reads as it did. -/
def fnExactOrderForSpec : ChangeSpec := { name := "fnExactOrderFor", fn := fun _ => fun
  | [d1, d2] => { results := [.lit (.bool true)], args := [d1, d2] }
  | _ => none }
def fnExactOrderForRow : OpenClaim := { program := "ytlebalaniccepaa", sum := "fe93573b106b728e6829f2bfa92563668791d5567da54b6f9ef04bed8aee63d4", func := "loop.example/g00315/laws.FnExactOrderFor", spec := "fnExactOrderFor", unfollowed := true, recurses := true, apart := false }
def FnExactOrderForSaid : Prop := fnExactOrderForRow.holds Try.pinned (OpenSpec.ofChange fnExactOrderForSpec)

/-- ITS FALSE NEIGHBOUR: 'it returns false'. Refute it at one input. -/
def fnExactOrderForWrong : ChangeSpec := { name := "fnExactOrderFor", fn := fun _ => fun
  | [d1, d2] => { results := [.lit (.bool false)], args := [d1, d2] }
  | _ => none }
def FnExactOrderForWrongFalsely : Prop := fnExactOrderForRow.holds Try.pinned (OpenSpec.ofChange fnExactOrderForWrong)

/-- 'laws.FnExactKruskal': WHATEVER THE INPUT: true; the input reads as it did. -/
def fnExactKruskalSpec : ChangeSpec := { name := "fnExactKruskal", fn := fun _ => fun
  | [d] => { results := [.lit (.bool true)], args := [d] }
  | _ => none }
def fnExactKruskalRow : OpenClaim := { program := "ytlebalaniccepaa", sum := "fe93573b106b728e6829f2bfa92563668791d5567da54b6f9ef04bed8aee63d4", func := "loop.example/g00315/laws.FnExactKruskal", spec := "fnExactKruskal", unfollowed := true, recurses := true, apart := false }
def FnExactKruskalSaid : Prop := fnExactKruskalRow.holds Try.pinned (OpenSpec.ofChange fnExactKruskalSpec)

/-- ITS FALSE NEIGHBOUR: 'it returns false'. Refute it at one input. -/
def fnExactKruskalWrong : ChangeSpec := { name := "fnExactKruskal", fn := fun _ => fun
  | [d] => { results := [.lit (.bool false)], args := [d] }
  | _ => none }
def FnExactKruskalWrongFalsely : Prop := fnExactKruskalRow.holds Try.pinned (OpenSpec.ofChange fnExactKruskalWrong)

/- THE SECOND FORM. 'bulk': how many values and letters a reading holds, each counted each time it is reached (what is shared counts as often as it is met; a slice's spare places count too). A statement '..UptoSaid' is the law's where the arguments, and the package variables that the reading takes, are together of bulk at most 1048576: NARROWER than '..Said'. Prove '..Said' where nothing that the law and all that it calls make is longer than what came in: it says more and counts as full. Else prove '..UptoSaid'. A law counts once. -/
mutual
def uptoBulk {H : Type} : DataW H → Nat
  | .lit (.string bytes) => bytes.length + 1
  | .lit _ => 1
  | .nil => 1
  | .ptr d => uptoBulk d + 1
  | .slice elems spare => uptoBulkAll elems + uptoBulkAll spare + 1
  | .agg parts => uptoBulkAll parts + 1
  | .iface _ d => uptoBulk d + 1
  | .map entries => uptoBulkEntries entries + 1
  | .held _ => 1
def uptoBulkAll {H : Type} : List (DataW H) → Nat
  | [] => 0
  | d :: r => uptoBulk d + uptoBulkAll r
def uptoBulkEntries {H : Type} : List (Lit × DataW H) → Nat
  | [] => 0
  | x :: r => uptoBulkEntry x + uptoBulkEntries r
def uptoBulkEntry {H : Type} : Lit × DataW H → Nat
  | (.string bytes, d) => bytes.length + uptoBulk d + 1
  | (_, d) => uptoBulk d + 1
 end
def uptoSmall : (H : Type) → List (DataW H) → Bool := fun _ ds => decide (uptoBulkAll ds ≤ 1048576)
def OpenSpec.upto (s : _root_.Go.ChangeSpec) : _root_.Go.OpenSpec := { _root_.Go.OpenSpec.ofChange s with cond := some uptoSmall }

/-- 'laws.FnExactByDue', WHERE WHAT IT READS IS OF BULK AT MOST 1048576: true; the input reads as it did. -/
def fnExactByDueUptoRow : OpenClaim := { program := "ytlebalaniccepaa", sum := "fe93573b106b728e6829f2bfa92563668791d5567da54b6f9ef04bed8aee63d4", func := "loop.example/g00315/laws.FnExactByDue", spec := "fnExactByDue", unfollowed := true, recurses := true, apart := false, narrowed := true }
def FnExactByDueUptoSaid : Prop := fnExactByDueUptoRow.holds Try.pinned (OpenSpec.upto fnExactByDueSpec)

/-- 'laws.FnExactFewestLate', WHERE WHAT IT READS IS OF BULK AT MOST 1048576: true; the input reads as it did. -/
def fnExactFewestLateUptoRow : OpenClaim := { program := "ytlebalaniccepaa", sum := "fe93573b106b728e6829f2bfa92563668791d5567da54b6f9ef04bed8aee63d4", func := "loop.example/g00315/laws.FnExactFewestLate", spec := "fnExactFewestLate", unfollowed := true, recurses := true, apart := false, narrowed := true }
def FnExactFewestLateUptoSaid : Prop := fnExactFewestLateUptoRow.holds Try.pinned (OpenSpec.upto fnExactFewestLateSpec)

/-- 'laws.FnExactOrderFor', WHERE WHAT IT READS IS OF BULK AT MOST 1048576: true; the input reads as it did. -/
def fnExactOrderForUptoRow : OpenClaim := { program := "ytlebalaniccepaa", sum := "fe93573b106b728e6829f2bfa92563668791d5567da54b6f9ef04bed8aee63d4", func := "loop.example/g00315/laws.FnExactOrderFor", spec := "fnExactOrderFor", unfollowed := true, recurses := true, apart := false, narrowed := true }
def FnExactOrderForUptoSaid : Prop := fnExactOrderForUptoRow.holds Try.pinned (OpenSpec.upto fnExactOrderForSpec)

/-- 'laws.FnExactKruskal', WHERE WHAT IT READS IS OF BULK AT MOST 1048576: true; the input reads as it did. -/
def fnExactKruskalUptoRow : OpenClaim := { program := "ytlebalaniccepaa", sum := "fe93573b106b728e6829f2bfa92563668791d5567da54b6f9ef04bed8aee63d4", func := "loop.example/g00315/laws.FnExactKruskal", spec := "fnExactKruskal", unfollowed := true, recurses := true, apart := false, narrowed := true }
def FnExactKruskalUptoSaid : Prop := fnExactKruskalUptoRow.holds Try.pinned (OpenSpec.upto fnExactKruskalSpec)

end Rows
end Go.Proofs.Ytlebalaniccepaa
