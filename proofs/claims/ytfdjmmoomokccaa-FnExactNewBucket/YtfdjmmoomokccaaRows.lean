/-
  No cell of these rows narrows 'for every input' (looked for: loops, veiled, ifaces, maps, wideKeys, modest, calm, conditions, laid).
  DERIVED. THE GIVEN ROWS OF THIS SEAT. 5 by the template 'for every input the law returns true; each argument reads behind the call as it read before'; 0 by the template 'total and deterministic' (their statements: YtfdjmmoomokccaaTotals.lean).
  GIVEN WITH THE SEED: the statements are not yours to turn. If you find one false, say at which input.
  Laid BY PROGRAM, IN A SANDBOX (cutbox-rows.mjs): the forced cells as the released guide's own fill.sh prints them over the translation b833e304506d4a6f… (all of the seat's roots in one cut). By AI agents, Wed Nov 11 2026. No macro, syntax, notation, axiom, sorry.
-/
import Derived.Test.YtfdjmmoomokccaaChecked
import GoSem.Claim
import GoSem.ClaimJoined
import GoSem.ClaimMapViews
import Derived.JoinedTies
import Derived.KernelRfl
namespace Go.Proofs.Ytfdjmmoomokccaa
/- THE CELL 'sum', in the pinned program and in every row, IS THE sha256 OF THE DUMP (.gsa) THAT YtfdjmmoomokccaaProg.lean LOADS. Nothing in Lean hashes anything: it is a label: what it is worth is what the hold of that sum in a sandbox is worth. -/
noncomputable def Try.pinned : Pinned := { name := "ytfdjmmoomokccaa", sum := "b833e304506d4a6f91d799cc4f213146c2e9bea89129ac74d93d6ff47fd3bd05", checked := Try.checked }
namespace Rows
def none {H : Type} : Left H := { results := [], args := [] }

/-- 'laws.FnExactNewBucket': WHATEVER THE INPUT: true; the input reads as it did. -/
def fnExactNewBucketSpec : ChangeSpec := { name := "fnExactNewBucket", fn := fun _ => fun
  | [d1, d2] => { results := [.lit (.bool true)], args := [d1, d2] }
  | _ => none }
def fnExactNewBucketRow : OpenClaim := { program := "ytfdjmmoomokccaa", sum := "b833e304506d4a6f91d799cc4f213146c2e9bea89129ac74d93d6ff47fd3bd05", func := "loop.example/g00315/laws.FnExactNewBucket", spec := "fnExactNewBucket", apart := false }
def FnExactNewBucketSaid : Prop := fnExactNewBucketRow.holds Try.pinned (OpenSpec.ofChange fnExactNewBucketSpec)

/-- ITS FALSE NEIGHBOUR: 'it returns false'. Refute it at one input. -/
def fnExactNewBucketWrong : ChangeSpec := { name := "fnExactNewBucket", fn := fun _ => fun
  | [d1, d2] => { results := [.lit (.bool false)], args := [d1, d2] }
  | _ => none }
def FnExactNewBucketWrongFalsely : Prop := fnExactNewBucketRow.holds Try.pinned (OpenSpec.ofChange fnExactNewBucketWrong)

/-- 'laws.FnExactNewCell': WHATEVER THE INPUT: true; the input reads as it did. -/
def fnExactNewCellSpec : ChangeSpec := { name := "fnExactNewCell", fn := fun _ => fun
  | [d1, d2] => { results := [.lit (.bool true)], args := [d1, d2] }
  | _ => none }
def fnExactNewCellRow : OpenClaim := { program := "ytfdjmmoomokccaa", sum := "b833e304506d4a6f91d799cc4f213146c2e9bea89129ac74d93d6ff47fd3bd05", func := "loop.example/g00315/laws.FnExactNewCell", spec := "fnExactNewCell", apart := false }
def FnExactNewCellSaid : Prop := fnExactNewCellRow.holds Try.pinned (OpenSpec.ofChange fnExactNewCellSpec)

/-- ITS FALSE NEIGHBOUR: 'it returns false'. Refute it at one input. -/
def fnExactNewCellWrong : ChangeSpec := { name := "fnExactNewCell", fn := fun _ => fun
  | [d1, d2] => { results := [.lit (.bool false)], args := [d1, d2] }
  | _ => none }
def FnExactNewCellWrongFalsely : Prop := fnExactNewCellRow.holds Try.pinned (OpenSpec.ofChange fnExactNewCellWrong)

/-- 'laws.FnExactGoodBucket': WHATEVER THE INPUT: true; the input reads as it did. -/
def fnExactGoodBucketSpec : ChangeSpec := { name := "fnExactGoodBucket", fn := fun _ => fun
  | [d] => { results := [.lit (.bool true)], args := [d] }
  | _ => none }
def fnExactGoodBucketRow : OpenClaim := { program := "ytfdjmmoomokccaa", sum := "b833e304506d4a6f91d799cc4f213146c2e9bea89129ac74d93d6ff47fd3bd05", func := "loop.example/g00315/laws.FnExactGoodBucket", spec := "fnExactGoodBucket", apart := false }
def FnExactGoodBucketSaid : Prop := fnExactGoodBucketRow.holds Try.pinned (OpenSpec.ofChange fnExactGoodBucketSpec)

/-- ITS FALSE NEIGHBOUR: 'it returns false'. Refute it at one input. -/
def fnExactGoodBucketWrong : ChangeSpec := { name := "fnExactGoodBucket", fn := fun _ => fun
  | [d] => { results := [.lit (.bool false)], args := [d] }
  | _ => none }
def FnExactGoodBucketWrongFalsely : Prop := fnExactGoodBucketRow.holds Try.pinned (OpenSpec.ofChange fnExactGoodBucketWrong)

/-- 'laws.FnExactGoodCell': WHATEVER THE INPUT: true; the input reads as it did. -/
def fnExactGoodCellSpec : ChangeSpec := { name := "fnExactGoodCell", fn := fun _ => fun
  | [d] => { results := [.lit (.bool true)], args := [d] }
  | _ => none }
def fnExactGoodCellRow : OpenClaim := { program := "ytfdjmmoomokccaa", sum := "b833e304506d4a6f91d799cc4f213146c2e9bea89129ac74d93d6ff47fd3bd05", func := "loop.example/g00315/laws.FnExactGoodCell", spec := "fnExactGoodCell", apart := false }
def FnExactGoodCellSaid : Prop := fnExactGoodCellRow.holds Try.pinned (OpenSpec.ofChange fnExactGoodCellSpec)

/-- ITS FALSE NEIGHBOUR: 'it returns false'. Refute it at one input. -/
def fnExactGoodCellWrong : ChangeSpec := { name := "fnExactGoodCell", fn := fun _ => fun
  | [d] => { results := [.lit (.bool false)], args := [d] }
  | _ => none }
def FnExactGoodCellWrongFalsely : Prop := fnExactGoodCellRow.holds Try.pinned (OpenSpec.ofChange fnExactGoodCellWrong)

/-- 'laws.FnExactMostIn': WHATEVER THE INPUT: true; the input reads as it did. -/
def fnExactMostInSpec : ChangeSpec := { name := "fnExactMostIn", fn := fun _ => fun
  | [d1, d2, d3] => { results := [.lit (.bool true)], args := [d1, d2, d3] }
  | _ => none }
def fnExactMostInRow : OpenClaim := { program := "ytfdjmmoomokccaa", sum := "b833e304506d4a6f91d799cc4f213146c2e9bea89129ac74d93d6ff47fd3bd05", func := "loop.example/g00315/laws.FnExactMostIn", spec := "fnExactMostIn", apart := false }
def FnExactMostInSaid : Prop := fnExactMostInRow.holds Try.pinned (OpenSpec.ofChange fnExactMostInSpec)

/-- ITS FALSE NEIGHBOUR: 'it returns false'. Refute it at one input. -/
def fnExactMostInWrong : ChangeSpec := { name := "fnExactMostIn", fn := fun _ => fun
  | [d1, d2, d3] => { results := [.lit (.bool false)], args := [d1, d2, d3] }
  | _ => none }
def FnExactMostInWrongFalsely : Prop := fnExactMostInRow.holds Try.pinned (OpenSpec.ofChange fnExactMostInWrong)

/- THE SECOND FORM. 'bulk': how many values and letters a reading holds, each counted each time it is reached (what is shared counts as often as it is met; a slice's spare places count too). A statement '..UptoSaid' is the law's where the arguments, and the package variables that the reading takes, are together of bulk at most 1048576: NARROWER than '..Said'. Prove '..Said' where nothing that the law and all that it calls make is longer than what came in: it says more and counts as full. Else prove '..UptoSaid'. A law counts once. -/
mutual
def uptoBulk {H : Type} : DataW H → Nat
  | .lit (.string bytes) => bytes.length + 1
  | .lit _ => 1
  | .nil => 1
  | .ptr d => uptoBulk d + 1
  | .slice elems spare => uptoBulkAll elems + uptoBulkAll spare + 1
  | .agg parts => uptoBulkAll parts + 1
  | .iface _ d => uptoBulk d + 1
  | .map entries => uptoBulkEntries entries + 1
  | .held _ => 1
def uptoBulkAll {H : Type} : List (DataW H) → Nat
  | [] => 0
  | d :: r => uptoBulk d + uptoBulkAll r
def uptoBulkEntries {H : Type} : List (Lit × DataW H) → Nat
  | [] => 0
  | x :: r => uptoBulkEntry x + uptoBulkEntries r
def uptoBulkEntry {H : Type} : Lit × DataW H → Nat
  | (.string bytes, d) => bytes.length + uptoBulk d + 1
  | (_, d) => uptoBulk d + 1
 end
def uptoSmall : (H : Type) → List (DataW H) → Bool := fun _ ds => decide (uptoBulkAll ds ≤ 1048576)
def OpenSpec.upto (s : _root_.Go.ChangeSpec) : _root_.Go.OpenSpec := { _root_.Go.OpenSpec.ofChange s with cond := some uptoSmall }

/-- 'laws.FnExactNewBucket', WHERE WHAT IT READS IS OF BULK AT MOST 1048576: true; the input reads as it did. -/
def fnExactNewBucketUptoRow : OpenClaim := { program := "ytfdjmmoomokccaa", sum := "b833e304506d4a6f91d799cc4f213146c2e9bea89129ac74d93d6ff47fd3bd05", func := "loop.example/g00315/laws.FnExactNewBucket", spec := "fnExactNewBucket", apart := false, narrowed := true }
def FnExactNewBucketUptoSaid : Prop := fnExactNewBucketUptoRow.holds Try.pinned (OpenSpec.upto fnExactNewBucketSpec)

/-- 'laws.FnExactNewCell', WHERE WHAT IT READS IS OF BULK AT MOST 1048576: true; the input reads as it did. -/
def fnExactNewCellUptoRow : OpenClaim := { program := "ytfdjmmoomokccaa", sum := "b833e304506d4a6f91d799cc4f213146c2e9bea89129ac74d93d6ff47fd3bd05", func := "loop.example/g00315/laws.FnExactNewCell", spec := "fnExactNewCell", apart := false, narrowed := true }
def FnExactNewCellUptoSaid : Prop := fnExactNewCellUptoRow.holds Try.pinned (OpenSpec.upto fnExactNewCellSpec)

/-- 'laws.FnExactGoodBucket', WHERE WHAT IT READS IS OF BULK AT MOST 1048576: true; the input reads as it did. -/
def fnExactGoodBucketUptoRow : OpenClaim := { program := "ytfdjmmoomokccaa", sum := "b833e304506d4a6f91d799cc4f213146c2e9bea89129ac74d93d6ff47fd3bd05", func := "loop.example/g00315/laws.FnExactGoodBucket", spec := "fnExactGoodBucket", apart := false, narrowed := true }
def FnExactGoodBucketUptoSaid : Prop := fnExactGoodBucketUptoRow.holds Try.pinned (OpenSpec.upto fnExactGoodBucketSpec)

/-- 'laws.FnExactGoodCell', WHERE WHAT IT READS IS OF BULK AT MOST 1048576: true; the input reads as it did. -/
def fnExactGoodCellUptoRow : OpenClaim := { program := "ytfdjmmoomokccaa", sum := "b833e304506d4a6f91d799cc4f213146c2e9bea89129ac74d93d6ff47fd3bd05", func := "loop.example/g00315/laws.FnExactGoodCell", spec := "fnExactGoodCell", apart := false, narrowed := true }
def FnExactGoodCellUptoSaid : Prop := fnExactGoodCellUptoRow.holds Try.pinned (OpenSpec.upto fnExactGoodCellSpec)

/-- 'laws.FnExactMostIn', WHERE WHAT IT READS IS OF BULK AT MOST 1048576: true; the input reads as it did. -/
def fnExactMostInUptoRow : OpenClaim := { program := "ytfdjmmoomokccaa", sum := "b833e304506d4a6f91d799cc4f213146c2e9bea89129ac74d93d6ff47fd3bd05", func := "loop.example/g00315/laws.FnExactMostIn", spec := "fnExactMostIn", apart := false, narrowed := true }
def FnExactMostInUptoSaid : Prop := fnExactMostInUptoRow.holds Try.pinned (OpenSpec.upto fnExactMostInSpec)

end Rows
end Go.Proofs.Ytfdjmmoomokccaa
