/-
  No cell of these rows narrows 'for every input' (looked for: loops, veiled, ifaces, maps, wideKeys, modest, calm, conditions, laid).
  DERIVED. THE GIVEN ROWS OF THIS SEAT. 3 by the template 'for every input the law returns true; each argument reads behind the call as it read before'; 0 by the template 'total and deterministic' (their statements: YtpdmbobcbehilaaTotals.lean).
  GIVEN WITH THE SEED: the statements are not yours to turn. If you find one false, say at which input.
  Laid BY PROGRAM, IN A SANDBOX (cutbox-rows.mjs): the forced cells as the released guide's own fill.sh prints them over the translation 65c6d76fcd4e5aa4… (all of the seat's roots in one cut). By AI agents, Wed Nov 11 2026. No macro, syntax, notation, axiom, sorry.
-/
import Derived.Test.YtpdmbobcbehilaaChecked
import GoSem.Claim
import GoSem.ClaimJoined
import GoSem.ClaimMapViews
import Derived.JoinedTies
import Derived.KernelRfl
namespace Go.Proofs.Ytpdmbobcbehilaa
/- THE CELL 'sum', in the pinned program and in every row, IS THE sha256 OF THE DUMP (.gsa) THAT YtpdmbobcbehilaaProg.lean LOADS. Nothing in Lean hashes anything: it is a label: what it is worth is what the hold of that sum in a sandbox is worth. -/
noncomputable def Try.pinned : Pinned := { name := "ytpdmbobcbehilaa", sum := "65c6d76fcd4e5aa4eae2ab5511325306f3f52d4df7b2eab93c6efee7d2709533", checked := Try.checked }
namespace Rows
def none {H : Type} : Left H := { results := [], args := [] }

/-- 'laws.FnExactReachAll': WHATEVER THE INPUT: true; the input reads as it did. -/
def fnExactReachAllSpec : ChangeSpec := { name := "fnExactReachAll", fn := fun _ => fun
  | [d1, d2, d3] => { results := [.lit (.bool true)], args := [d1, d2, d3] }
  | _ => none }
def fnExactReachAllRow : OpenClaim := { program := "ytpdmbobcbehilaa", sum := "65c6d76fcd4e5aa4eae2ab5511325306f3f52d4df7b2eab93c6efee7d2709533", func := "loop.example/g00315/laws.FnExactReachAll", spec := "fnExactReachAll", inPlace := ["math.Float64frombits", "math.Float64bits"], unfollowed := true, recurses := true, apart := false }
def FnExactReachAllSaid : Prop := fnExactReachAllRow.holds Try.pinned (OpenSpec.ofChange fnExactReachAllSpec)

/-- ITS FALSE NEIGHBOUR: 'it returns false'. Refute it at one input. -/
def fnExactReachAllWrong : ChangeSpec := { name := "fnExactReachAll", fn := fun _ => fun
  | [d1, d2, d3] => { results := [.lit (.bool false)], args := [d1, d2, d3] }
  | _ => none }
def FnExactReachAllWrongFalsely : Prop := fnExactReachAllRow.holds Try.pinned (OpenSpec.ofChange fnExactReachAllWrong)

/-- 'laws.FnExactDeliveredBy': WHATEVER THE INPUT: true; the input reads as it did. -/
def fnExactDeliveredBySpec : ChangeSpec := { name := "fnExactDeliveredBy", fn := fun _ => fun
  | [d1, d2, d3, d4] => { results := [.lit (.bool true)], args := [d1, d2, d3, d4] }
  | _ => none }
def fnExactDeliveredByRow : OpenClaim := { program := "ytpdmbobcbehilaa", sum := "65c6d76fcd4e5aa4eae2ab5511325306f3f52d4df7b2eab93c6efee7d2709533", func := "loop.example/g00315/laws.FnExactDeliveredBy", spec := "fnExactDeliveredBy", inPlace := ["math.Float64frombits", "math.Float64bits"], unfollowed := true, recurses := true, apart := false }
def FnExactDeliveredBySaid : Prop := fnExactDeliveredByRow.holds Try.pinned (OpenSpec.ofChange fnExactDeliveredBySpec)

/-- ITS FALSE NEIGHBOUR: 'it returns false'. Refute it at one input. -/
def fnExactDeliveredByWrong : ChangeSpec := { name := "fnExactDeliveredBy", fn := fun _ => fun
  | [d1, d2, d3, d4] => { results := [.lit (.bool false)], args := [d1, d2, d3, d4] }
  | _ => none }
def FnExactDeliveredByWrongFalsely : Prop := fnExactDeliveredByRow.holds Try.pinned (OpenSpec.ofChange fnExactDeliveredByWrong)

/-- 'laws.FnExactTreeFor': WHATEVER THE INPUT: true; the input reads as it did. -/
def fnExactTreeForSpec : ChangeSpec := { name := "fnExactTreeFor", fn := fun _ => fun
  | [d1, d2, d3] => { results := [.lit (.bool true)], args := [d1, d2, d3] }
  | _ => none }
def fnExactTreeForRow : OpenClaim := { program := "ytpdmbobcbehilaa", sum := "65c6d76fcd4e5aa4eae2ab5511325306f3f52d4df7b2eab93c6efee7d2709533", func := "loop.example/g00315/laws.FnExactTreeFor", spec := "fnExactTreeFor", inPlace := ["math.Float64frombits", "math.Float64bits"], unfollowed := true, recurses := true, apart := false }
def FnExactTreeForSaid : Prop := fnExactTreeForRow.holds Try.pinned (OpenSpec.ofChange fnExactTreeForSpec)

/-- ITS FALSE NEIGHBOUR: 'it returns false'. Refute it at one input. -/
def fnExactTreeForWrong : ChangeSpec := { name := "fnExactTreeFor", fn := fun _ => fun
  | [d1, d2, d3] => { results := [.lit (.bool false)], args := [d1, d2, d3] }
  | _ => none }
def FnExactTreeForWrongFalsely : Prop := fnExactTreeForRow.holds Try.pinned (OpenSpec.ofChange fnExactTreeForWrong)

/- THE SECOND FORM. 'bulk': how many values and letters a reading holds, each counted each time it is reached (what is shared counts as often as it is met; a slice's spare places count too). A statement '..UptoSaid' is the law's where the arguments, and the package variables that the reading takes, are together of bulk at most 1048576: NARROWER than '..Said'. Prove '..Said' where nothing that the law and all that it calls make is longer than what came in: it says more and counts as full. Else prove '..UptoSaid'. A law counts once. -/
mutual
def uptoBulk {H : Type} : DataW H → Nat
  | .lit (.string bytes) => bytes.length + 1
  | .lit _ => 1
  | .nil => 1
  | .ptr d => uptoBulk d + 1
  | .slice elems spare => uptoBulkAll elems + uptoBulkAll spare + 1
  | .agg parts => uptoBulkAll parts + 1
  | .iface _ d => uptoBulk d + 1
  | .map entries => uptoBulkEntries entries + 1
  | .held _ => 1
def uptoBulkAll {H : Type} : List (DataW H) → Nat
  | [] => 0
  | d :: r => uptoBulk d + uptoBulkAll r
def uptoBulkEntries {H : Type} : List (Lit × DataW H) → Nat
  | [] => 0
  | x :: r => uptoBulkEntry x + uptoBulkEntries r
def uptoBulkEntry {H : Type} : Lit × DataW H → Nat
  | (.string bytes, d) => bytes.length + uptoBulk d + 1
  | (_, d) => uptoBulk d + 1
 end
def uptoSmall : (H : Type) → List (DataW H) → Bool := fun _ ds => decide (uptoBulkAll ds ≤ 1048576)
def OpenSpec.upto (s : _root_.Go.ChangeSpec) : _root_.Go.OpenSpec := { _root_.Go.OpenSpec.ofChange s with cond := some uptoSmall }

/-- 'laws.FnExactReachAll', WHERE WHAT IT READS IS OF BULK AT MOST 1048576: true; the input reads as it did. -/
def fnExactReachAllUptoRow : OpenClaim := { program := "ytpdmbobcbehilaa", sum := "65c6d76fcd4e5aa4eae2ab5511325306f3f52d4df7b2eab93c6efee7d2709533", func := "loop.example/g00315/laws.FnExactReachAll", spec := "fnExactReachAll", inPlace := ["math.Float64frombits", "math.Float64bits"], unfollowed := true, recurses := true, apart := false, narrowed := true }
def FnExactReachAllUptoSaid : Prop := fnExactReachAllUptoRow.holds Try.pinned (OpenSpec.upto fnExactReachAllSpec)

/-- 'laws.FnExactDeliveredBy', WHERE WHAT IT READS IS OF BULK AT MOST 1048576: true; the input reads as it did. -/
def fnExactDeliveredByUptoRow : OpenClaim := { program := "ytpdmbobcbehilaa", sum := "65c6d76fcd4e5aa4eae2ab5511325306f3f52d4df7b2eab93c6efee7d2709533", func := "loop.example/g00315/laws.FnExactDeliveredBy", spec := "fnExactDeliveredBy", inPlace := ["math.Float64frombits", "math.Float64bits"], unfollowed := true, recurses := true, apart := false, narrowed := true }
def FnExactDeliveredByUptoSaid : Prop := fnExactDeliveredByUptoRow.holds Try.pinned (OpenSpec.upto fnExactDeliveredBySpec)

/-- 'laws.FnExactTreeFor', WHERE WHAT IT READS IS OF BULK AT MOST 1048576: true; the input reads as it did. -/
def fnExactTreeForUptoRow : OpenClaim := { program := "ytpdmbobcbehilaa", sum := "65c6d76fcd4e5aa4eae2ab5511325306f3f52d4df7b2eab93c6efee7d2709533", func := "loop.example/g00315/laws.FnExactTreeFor", spec := "fnExactTreeFor", inPlace := ["math.Float64frombits", "math.Float64bits"], unfollowed := true, recurses := true, apart := false, narrowed := true }
def FnExactTreeForUptoSaid : Prop := fnExactTreeForUptoRow.holds Try.pinned (OpenSpec.upto fnExactTreeForSpec)

end Rows
end Go.Proofs.Ytpdmbobcbehilaa
