/-
  No cell of these rows narrows 'for every input' (looked for: loops, veiled, ifaces, maps, wideKeys, modest, calm, conditions, laid).
  DERIVED. THE GIVEN ROWS OF THIS SEAT. 6 by the template 'for every input the law returns true; each argument reads behind the call as it read before'; 0 by the template 'total and deterministic' (their statements: YtmgbckdomdoncaaTotals.lean).
  GIVEN WITH THE SEED: the statements are not yours to turn. If you find one false, say at which input.
  Laid BY PROGRAM, IN A SANDBOX (cutbox-rows.mjs): the forced cells as the released guide's own fill.sh prints them over the translation 7c6a4053191f36ed… (all of the seat's roots in one cut). By AI agents, Wed Nov 11 2026. No macro, syntax, notation, axiom, sorry.
-/
import Derived.Test.YtmgbckdomdoncaaChecked
import GoSem.Claim
import GoSem.ClaimJoined
import GoSem.ClaimMapViews
import Derived.JoinedTies
import Derived.KernelRfl
namespace Go.Proofs.Ytmgbckdomdoncaa
/- THE CELL 'sum', in the pinned program and in every row, IS THE sha256 OF THE DUMP (.gsa) THAT YtmgbckdomdoncaaProg.lean LOADS. Nothing in Lean hashes anything: it is a label: what it is worth is what the hold of that sum in a sandbox is worth. -/
noncomputable def Try.pinned : Pinned := { name := "ytmgbckdomdoncaa", sum := "7c6a4053191f36eda6573d5439e323ab2f02865c8000e00350d3d3ed7b95fd33", checked := Try.checked }
namespace Rows
def none {H : Type} : Left H := { results := [], args := [] }

/-- 'laws.FnExactGoodRoads': WHATEVER THE INPUT: true; the input reads as it did. -/
def fnExactGoodRoadsSpec : ChangeSpec := { name := "fnExactGoodRoads", fn := fun _ => fun
  | [d] => { results := [.lit (.bool true)], args := [d] }
  | _ => none }
def fnExactGoodRoadsRow : OpenClaim := { program := "ytmgbckdomdoncaa", sum := "7c6a4053191f36eda6573d5439e323ab2f02865c8000e00350d3d3ed7b95fd33", func := "loop.example/g00315/laws.FnExactGoodRoads", spec := "fnExactGoodRoads", apart := false }
def FnExactGoodRoadsSaid : Prop := fnExactGoodRoadsRow.holds Try.pinned (OpenSpec.ofChange fnExactGoodRoadsSpec)

/-- ITS FALSE NEIGHBOUR: 'it returns false'. Refute it at one input. -/
def fnExactGoodRoadsWrong : ChangeSpec := { name := "fnExactGoodRoads", fn := fun _ => fun
  | [d] => { results := [.lit (.bool false)], args := [d] }
  | _ => none }
def FnExactGoodRoadsWrongFalsely : Prop := fnExactGoodRoadsRow.holds Try.pinned (OpenSpec.ofChange fnExactGoodRoadsWrong)

/-- 'laws.FnExactAllCosts': WHATEVER THE INPUT: true; the input reads as it did. -/
def fnExactAllCostsSpec : ChangeSpec := { name := "fnExactAllCosts", fn := fun _ => fun
  | [d] => { results := [.lit (.bool true)], args := [d] }
  | _ => none }
def fnExactAllCostsRow : OpenClaim := { program := "ytmgbckdomdoncaa", sum := "7c6a4053191f36eda6573d5439e323ab2f02865c8000e00350d3d3ed7b95fd33", func := "loop.example/g00315/laws.FnExactAllCosts", spec := "fnExactAllCosts", apart := false }
def FnExactAllCostsSaid : Prop := fnExactAllCostsRow.holds Try.pinned (OpenSpec.ofChange fnExactAllCostsSpec)

/-- ITS FALSE NEIGHBOUR: 'it returns false'. Refute it at one input. -/
def fnExactAllCostsWrong : ChangeSpec := { name := "fnExactAllCosts", fn := fun _ => fun
  | [d] => { results := [.lit (.bool false)], args := [d] }
  | _ => none }
def FnExactAllCostsWrongFalsely : Prop := fnExactAllCostsRow.holds Try.pinned (OpenSpec.ofChange fnExactAllCostsWrong)

/-- 'laws.FnExactHasGain': WHATEVER THE INPUT: true; the input reads as it did. -/
def fnExactHasGainSpec : ChangeSpec := { name := "fnExactHasGain", fn := fun _ => fun
  | [d] => { results := [.lit (.bool true)], args := [d] }
  | _ => none }
def fnExactHasGainRow : OpenClaim := { program := "ytmgbckdomdoncaa", sum := "7c6a4053191f36eda6573d5439e323ab2f02865c8000e00350d3d3ed7b95fd33", func := "loop.example/g00315/laws.FnExactHasGain", spec := "fnExactHasGain", apart := false }
def FnExactHasGainSaid : Prop := fnExactHasGainRow.holds Try.pinned (OpenSpec.ofChange fnExactHasGainSpec)

/-- ITS FALSE NEIGHBOUR: 'it returns false'. Refute it at one input. -/
def fnExactHasGainWrong : ChangeSpec := { name := "fnExactHasGain", fn := fun _ => fun
  | [d] => { results := [.lit (.bool false)], args := [d] }
  | _ => none }
def FnExactHasGainWrongFalsely : Prop := fnExactHasGainRow.holds Try.pinned (OpenSpec.ofChange fnExactHasGainWrong)

/-- 'laws.FnExactCostFrom': WHATEVER THE INPUT: true; the input reads as it did. -/
def fnExactCostFromSpec : ChangeSpec := { name := "fnExactCostFrom", fn := fun _ => fun
  | [d1, d2] => { results := [.lit (.bool true)], args := [d1, d2] }
  | _ => none }
def fnExactCostFromRow : OpenClaim := { program := "ytmgbckdomdoncaa", sum := "7c6a4053191f36eda6573d5439e323ab2f02865c8000e00350d3d3ed7b95fd33", func := "loop.example/g00315/laws.FnExactCostFrom", spec := "fnExactCostFrom", apart := false }
def FnExactCostFromSaid : Prop := fnExactCostFromRow.holds Try.pinned (OpenSpec.ofChange fnExactCostFromSpec)

/-- ITS FALSE NEIGHBOUR: 'it returns false'. Refute it at one input. -/
def fnExactCostFromWrong : ChangeSpec := { name := "fnExactCostFrom", fn := fun _ => fun
  | [d1, d2] => { results := [.lit (.bool false)], args := [d1, d2] }
  | _ => none }
def FnExactCostFromWrongFalsely : Prop := fnExactCostFromRow.holds Try.pinned (OpenSpec.ofChange fnExactCostFromWrong)

/-- 'laws.FnExactWayBetween': WHATEVER THE INPUT: true; the input reads as it did. -/
def fnExactWayBetweenSpec : ChangeSpec := { name := "fnExactWayBetween", fn := fun _ => fun
  | [d1, d2, d3] => { results := [.lit (.bool true)], args := [d1, d2, d3] }
  | _ => none }
def fnExactWayBetweenRow : OpenClaim := { program := "ytmgbckdomdoncaa", sum := "7c6a4053191f36eda6573d5439e323ab2f02865c8000e00350d3d3ed7b95fd33", func := "loop.example/g00315/laws.FnExactWayBetween", spec := "fnExactWayBetween", inPlace := ["slices.overlaps[int]"], apart := false }
def FnExactWayBetweenSaid : Prop := fnExactWayBetweenRow.holds Try.pinned (OpenSpec.ofChange fnExactWayBetweenSpec)

/-- ITS FALSE NEIGHBOUR: 'it returns false'. Refute it at one input. -/
def fnExactWayBetweenWrong : ChangeSpec := { name := "fnExactWayBetween", fn := fun _ => fun
  | [d1, d2, d3] => { results := [.lit (.bool false)], args := [d1, d2, d3] }
  | _ => none }
def FnExactWayBetweenWrongFalsely : Prop := fnExactWayBetweenRow.holds Try.pinned (OpenSpec.ofChange fnExactWayBetweenWrong)

/-- 'laws.FnExactPotentialsOf': WHATEVER THE INPUT: true; the input reads as it did. -/
def fnExactPotentialsOfSpec : ChangeSpec := { name := "fnExactPotentialsOf", fn := fun _ => fun
  | [d] => { results := [.lit (.bool true)], args := [d] }
  | _ => none }
def fnExactPotentialsOfRow : OpenClaim := { program := "ytmgbckdomdoncaa", sum := "7c6a4053191f36eda6573d5439e323ab2f02865c8000e00350d3d3ed7b95fd33", func := "loop.example/g00315/laws.FnExactPotentialsOf", spec := "fnExactPotentialsOf", apart := false }
def FnExactPotentialsOfSaid : Prop := fnExactPotentialsOfRow.holds Try.pinned (OpenSpec.ofChange fnExactPotentialsOfSpec)

/-- ITS FALSE NEIGHBOUR: 'it returns false'. Refute it at one input. -/
def fnExactPotentialsOfWrong : ChangeSpec := { name := "fnExactPotentialsOf", fn := fun _ => fun
  | [d] => { results := [.lit (.bool false)], args := [d] }
  | _ => none }
def FnExactPotentialsOfWrongFalsely : Prop := fnExactPotentialsOfRow.holds Try.pinned (OpenSpec.ofChange fnExactPotentialsOfWrong)

/- THE SECOND FORM. 'bulk': how many values and letters a reading holds, each counted each time it is reached (what is shared counts as often as it is met; a slice's spare places count too). A statement '..UptoSaid' is the law's where the arguments, and the package variables that the reading takes, are together of bulk at most 1048576: NARROWER than '..Said'. Prove '..Said' where nothing that the law and all that it calls make is longer than what came in: it says more and counts as full. Else prove '..UptoSaid'. A law counts once. -/
mutual
def uptoBulk {H : Type} : DataW H → Nat
  | .lit (.string bytes) => bytes.length + 1
  | .lit _ => 1
  | .nil => 1
  | .ptr d => uptoBulk d + 1
  | .slice elems spare => uptoBulkAll elems + uptoBulkAll spare + 1
  | .agg parts => uptoBulkAll parts + 1
  | .iface _ d => uptoBulk d + 1
  | .map entries => uptoBulkEntries entries + 1
  | .held _ => 1
def uptoBulkAll {H : Type} : List (DataW H) → Nat
  | [] => 0
  | d :: r => uptoBulk d + uptoBulkAll r
def uptoBulkEntries {H : Type} : List (Lit × DataW H) → Nat
  | [] => 0
  | x :: r => uptoBulkEntry x + uptoBulkEntries r
def uptoBulkEntry {H : Type} : Lit × DataW H → Nat
  | (.string bytes, d) => bytes.length + uptoBulk d + 1
  | (_, d) => uptoBulk d + 1
 end
def uptoSmall : (H : Type) → List (DataW H) → Bool := fun _ ds => decide (uptoBulkAll ds ≤ 1048576)
def OpenSpec.upto (s : _root_.Go.ChangeSpec) : _root_.Go.OpenSpec := { _root_.Go.OpenSpec.ofChange s with cond := some uptoSmall }

/-- 'laws.FnExactGoodRoads', WHERE WHAT IT READS IS OF BULK AT MOST 1048576: true; the input reads as it did. -/
def fnExactGoodRoadsUptoRow : OpenClaim := { program := "ytmgbckdomdoncaa", sum := "7c6a4053191f36eda6573d5439e323ab2f02865c8000e00350d3d3ed7b95fd33", func := "loop.example/g00315/laws.FnExactGoodRoads", spec := "fnExactGoodRoads", apart := false, narrowed := true }
def FnExactGoodRoadsUptoSaid : Prop := fnExactGoodRoadsUptoRow.holds Try.pinned (OpenSpec.upto fnExactGoodRoadsSpec)

/-- 'laws.FnExactAllCosts', WHERE WHAT IT READS IS OF BULK AT MOST 1048576: true; the input reads as it did. -/
def fnExactAllCostsUptoRow : OpenClaim := { program := "ytmgbckdomdoncaa", sum := "7c6a4053191f36eda6573d5439e323ab2f02865c8000e00350d3d3ed7b95fd33", func := "loop.example/g00315/laws.FnExactAllCosts", spec := "fnExactAllCosts", apart := false, narrowed := true }
def FnExactAllCostsUptoSaid : Prop := fnExactAllCostsUptoRow.holds Try.pinned (OpenSpec.upto fnExactAllCostsSpec)

/-- 'laws.FnExactHasGain', WHERE WHAT IT READS IS OF BULK AT MOST 1048576: true; the input reads as it did. -/
def fnExactHasGainUptoRow : OpenClaim := { program := "ytmgbckdomdoncaa", sum := "7c6a4053191f36eda6573d5439e323ab2f02865c8000e00350d3d3ed7b95fd33", func := "loop.example/g00315/laws.FnExactHasGain", spec := "fnExactHasGain", apart := false, narrowed := true }
def FnExactHasGainUptoSaid : Prop := fnExactHasGainUptoRow.holds Try.pinned (OpenSpec.upto fnExactHasGainSpec)

/-- 'laws.FnExactCostFrom', WHERE WHAT IT READS IS OF BULK AT MOST 1048576: true; the input reads as it did. -/
def fnExactCostFromUptoRow : OpenClaim := { program := "ytmgbckdomdoncaa", sum := "7c6a4053191f36eda6573d5439e323ab2f02865c8000e00350d3d3ed7b95fd33", func := "loop.example/g00315/laws.FnExactCostFrom", spec := "fnExactCostFrom", apart := false, narrowed := true }
def FnExactCostFromUptoSaid : Prop := fnExactCostFromUptoRow.holds Try.pinned (OpenSpec.upto fnExactCostFromSpec)

/-- 'laws.FnExactWayBetween', WHERE WHAT IT READS IS OF BULK AT MOST 1048576: true; the input reads as it did. -/
def fnExactWayBetweenUptoRow : OpenClaim := { program := "ytmgbckdomdoncaa", sum := "7c6a4053191f36eda6573d5439e323ab2f02865c8000e00350d3d3ed7b95fd33", func := "loop.example/g00315/laws.FnExactWayBetween", spec := "fnExactWayBetween", inPlace := ["slices.overlaps[int]"], apart := false, narrowed := true }
def FnExactWayBetweenUptoSaid : Prop := fnExactWayBetweenUptoRow.holds Try.pinned (OpenSpec.upto fnExactWayBetweenSpec)

/-- 'laws.FnExactPotentialsOf', WHERE WHAT IT READS IS OF BULK AT MOST 1048576: true; the input reads as it did. -/
def fnExactPotentialsOfUptoRow : OpenClaim := { program := "ytmgbckdomdoncaa", sum := "7c6a4053191f36eda6573d5439e323ab2f02865c8000e00350d3d3ed7b95fd33", func := "loop.example/g00315/laws.FnExactPotentialsOf", spec := "fnExactPotentialsOf", apart := false, narrowed := true }
def FnExactPotentialsOfUptoSaid : Prop := fnExactPotentialsOfUptoRow.holds Try.pinned (OpenSpec.upto fnExactPotentialsOfSpec)

end Rows
end Go.Proofs.Ytmgbckdomdoncaa
