/-
  No cell of these rows narrows 'for every input' (looked for: loops, veiled, ifaces, maps, wideKeys, modest, calm, conditions, laid).
  DERIVED. THE GIVEN ROWS OF THIS SEAT. 6 by the template 'for every input the law returns true; each argument reads behind the call as it read before'; 0 by the template 'total and deterministic' (their statements: YtdobnplcacaomaaTotals.lean).
  GIVEN WITH THE SEED: the statements are not yours to turn. If you find one false, say at which input.
  Laid BY PROGRAM, IN A SANDBOX (cutbox-rows.mjs): the forced cells as the released guide's own fill.sh prints them over the translation 280be0f5b85f3124… (all of the seat's roots in one cut). By AI agents, Wed Nov 11 2026. No macro, syntax, notation, axiom, sorry.
-/
import Derived.Test.YtdobnplcacaomaaChecked
import GoSem.Claim
import GoSem.ClaimJoined
import GoSem.ClaimMapViews
import Derived.JoinedTies
import Derived.KernelRfl
namespace Go.Proofs.Ytdobnplcacaomaa
/- THE CELL 'sum', in the pinned program and in every row, IS THE sha256 OF THE DUMP (.gsa) THAT YtdobnplcacaomaaProg.lean LOADS. Nothing in Lean hashes anything: it is a label: what it is worth is what the hold of that sum in a sandbox is worth. -/
noncomputable def Try.pinned : Pinned := { name := "ytdobnplcacaomaa", sum := "280be0f5b85f312477bf56f060aef50b8a88194ac8d4f4e1f1f4acb0488b4d97", checked := Try.checked }
namespace Rows
def none {H : Type} : Left H := { results := [], args := [] }

/-- 'laws.FnExactMinCut': WHATEVER THE INPUT: true; the input reads as it did. -/
def fnExactMinCutSpec : ChangeSpec := { name := "fnExactMinCut", fn := fun _ => fun
  | [d1, d2, d3] => { results := [.lit (.bool true)], args := [d1, d2, d3] }
  | _ => none }
def fnExactMinCutRow : OpenClaim := { program := "ytdobnplcacaomaa", sum := "280be0f5b85f312477bf56f060aef50b8a88194ac8d4f4e1f1f4acb0488b4d97", func := "loop.example/g00315/laws.FnExactMinCut", spec := "fnExactMinCut", unfollowed := true, recurses := true, apart := false }
def FnExactMinCutSaid : Prop := fnExactMinCutRow.holds Try.pinned (OpenSpec.ofChange fnExactMinCutSpec)

/-- ITS FALSE NEIGHBOUR: 'it returns false'. Refute it at one input. -/
def fnExactMinCutWrong : ChangeSpec := { name := "fnExactMinCut", fn := fun _ => fun
  | [d1, d2, d3] => { results := [.lit (.bool false)], args := [d1, d2, d3] }
  | _ => none }
def FnExactMinCutWrongFalsely : Prop := fnExactMinCutRow.holds Try.pinned (OpenSpec.ofChange fnExactMinCutWrong)

/-- 'laws.FnExactCutSize': WHATEVER THE INPUT: true; the input reads as it did. -/
def fnExactCutSizeSpec : ChangeSpec := { name := "fnExactCutSize", fn := fun _ => fun
  | [d1, d2] => { results := [.lit (.bool true)], args := [d1, d2] }
  | _ => none }
def fnExactCutSizeRow : OpenClaim := { program := "ytdobnplcacaomaa", sum := "280be0f5b85f312477bf56f060aef50b8a88194ac8d4f4e1f1f4acb0488b4d97", func := "loop.example/g00315/laws.FnExactCutSize", spec := "fnExactCutSize", apart := false }
def FnExactCutSizeSaid : Prop := fnExactCutSizeRow.holds Try.pinned (OpenSpec.ofChange fnExactCutSizeSpec)

/-- ITS FALSE NEIGHBOUR: 'it returns false'. Refute it at one input. -/
def fnExactCutSizeWrong : ChangeSpec := { name := "fnExactCutSize", fn := fun _ => fun
  | [d1, d2] => { results := [.lit (.bool false)], args := [d1, d2] }
  | _ => none }
def FnExactCutSizeWrongFalsely : Prop := fnExactCutSizeRow.holds Try.pinned (OpenSpec.ofChange fnExactCutSizeWrong)

/-- 'laws.FnExactGoodLinks': WHATEVER THE INPUT: true; the input reads as it did. -/
def fnExactGoodLinksSpec : ChangeSpec := { name := "fnExactGoodLinks", fn := fun _ => fun
  | [d] => { results := [.lit (.bool true)], args := [d] }
  | _ => none }
def fnExactGoodLinksRow : OpenClaim := { program := "ytdobnplcacaomaa", sum := "280be0f5b85f312477bf56f060aef50b8a88194ac8d4f4e1f1f4acb0488b4d97", func := "loop.example/g00315/laws.FnExactGoodLinks", spec := "fnExactGoodLinks", apart := false }
def FnExactGoodLinksSaid : Prop := fnExactGoodLinksRow.holds Try.pinned (OpenSpec.ofChange fnExactGoodLinksSpec)

/-- ITS FALSE NEIGHBOUR: 'it returns false'. Refute it at one input. -/
def fnExactGoodLinksWrong : ChangeSpec := { name := "fnExactGoodLinks", fn := fun _ => fun
  | [d] => { results := [.lit (.bool false)], args := [d] }
  | _ => none }
def FnExactGoodLinksWrongFalsely : Prop := fnExactGoodLinksRow.holds Try.pinned (OpenSpec.ofChange fnExactGoodLinksWrong)

/-- 'laws.FnExactWaysApart': WHATEVER THE INPUT: true; the input reads as it did. -/
def fnExactWaysApartSpec : ChangeSpec := { name := "fnExactWaysApart", fn := fun _ => fun
  | [d1, d2, d3] => { results := [.lit (.bool true)], args := [d1, d2, d3] }
  | _ => none }
def fnExactWaysApartRow : OpenClaim := { program := "ytdobnplcacaomaa", sum := "280be0f5b85f312477bf56f060aef50b8a88194ac8d4f4e1f1f4acb0488b4d97", func := "loop.example/g00315/laws.FnExactWaysApart", spec := "fnExactWaysApart", unfollowed := true, recurses := true, apart := false }
def FnExactWaysApartSaid : Prop := fnExactWaysApartRow.holds Try.pinned (OpenSpec.ofChange fnExactWaysApartSpec)

/-- ITS FALSE NEIGHBOUR: 'it returns false'. Refute it at one input. -/
def fnExactWaysApartWrong : ChangeSpec := { name := "fnExactWaysApart", fn := fun _ => fun
  | [d1, d2, d3] => { results := [.lit (.bool false)], args := [d1, d2, d3] }
  | _ => none }
def FnExactWaysApartWrongFalsely : Prop := fnExactWaysApartRow.holds Try.pinned (OpenSpec.ofChange fnExactWaysApartWrong)

/-- 'laws.FnExactFewestToCut': WHATEVER THE INPUT: true; the input reads as it did. -/
def fnExactFewestToCutSpec : ChangeSpec := { name := "fnExactFewestToCut", fn := fun _ => fun
  | [d1, d2, d3] => { results := [.lit (.bool true)], args := [d1, d2, d3] }
  | _ => none }
def fnExactFewestToCutRow : OpenClaim := { program := "ytdobnplcacaomaa", sum := "280be0f5b85f312477bf56f060aef50b8a88194ac8d4f4e1f1f4acb0488b4d97", func := "loop.example/g00315/laws.FnExactFewestToCut", spec := "fnExactFewestToCut", unfollowed := true, recurses := true, apart := false }
def FnExactFewestToCutSaid : Prop := fnExactFewestToCutRow.holds Try.pinned (OpenSpec.ofChange fnExactFewestToCutSpec)

/-- ITS FALSE NEIGHBOUR: 'it returns false'. Refute it at one input. -/
def fnExactFewestToCutWrong : ChangeSpec := { name := "fnExactFewestToCut", fn := fun _ => fun
  | [d1, d2, d3] => { results := [.lit (.bool false)], args := [d1, d2, d3] }
  | _ => none }
def FnExactFewestToCutWrongFalsely : Prop := fnExactFewestToCutRow.holds Try.pinned (OpenSpec.ofChange fnExactFewestToCutWrong)

/-- 'laws.FnExactReachedBy': WHATEVER THE INPUT: true; the input reads as it did. -/
def fnExactReachedBySpec : ChangeSpec := { name := "fnExactReachedBy", fn := fun _ => fun
  | [d1, d2, d3] => { results := [.lit (.bool true)], args := [d1, d2, d3] }
  | _ => none }
def fnExactReachedByRow : OpenClaim := { program := "ytdobnplcacaomaa", sum := "280be0f5b85f312477bf56f060aef50b8a88194ac8d4f4e1f1f4acb0488b4d97", func := "loop.example/g00315/laws.FnExactReachedBy", spec := "fnExactReachedBy", unfollowed := true, recurses := true, apart := false }
def FnExactReachedBySaid : Prop := fnExactReachedByRow.holds Try.pinned (OpenSpec.ofChange fnExactReachedBySpec)

/-- ITS FALSE NEIGHBOUR: 'it returns false'. Refute it at one input. -/
def fnExactReachedByWrong : ChangeSpec := { name := "fnExactReachedBy", fn := fun _ => fun
  | [d1, d2, d3] => { results := [.lit (.bool false)], args := [d1, d2, d3] }
  | _ => none }
def FnExactReachedByWrongFalsely : Prop := fnExactReachedByRow.holds Try.pinned (OpenSpec.ofChange fnExactReachedByWrong)

/- THE SECOND FORM. 'bulk': how many values and letters a reading holds, each counted each time it is reached (what is shared counts as often as it is met; a slice's spare places count too). A statement '..UptoSaid' is the law's where the arguments, and the package variables that the reading takes, are together of bulk at most 1048576: NARROWER than '..Said'. Prove '..Said' where nothing that the law and all that it calls make is longer than what came in: it says more and counts as full. Else prove '..UptoSaid'. A law counts once. -/
mutual
def uptoBulk {H : Type} : DataW H → Nat
  | .lit (.string bytes) => bytes.length + 1
  | .lit _ => 1
  | .nil => 1
  | .ptr d => uptoBulk d + 1
  | .slice elems spare => uptoBulkAll elems + uptoBulkAll spare + 1
  | .agg parts => uptoBulkAll parts + 1
  | .iface _ d => uptoBulk d + 1
  | .map entries => uptoBulkEntries entries + 1
  | .held _ => 1
def uptoBulkAll {H : Type} : List (DataW H) → Nat
  | [] => 0
  | d :: r => uptoBulk d + uptoBulkAll r
def uptoBulkEntries {H : Type} : List (Lit × DataW H) → Nat
  | [] => 0
  | x :: r => uptoBulkEntry x + uptoBulkEntries r
def uptoBulkEntry {H : Type} : Lit × DataW H → Nat
  | (.string bytes, d) => bytes.length + uptoBulk d + 1
  | (_, d) => uptoBulk d + 1
 end
def uptoSmall : (H : Type) → List (DataW H) → Bool := fun _ ds => decide (uptoBulkAll ds ≤ 1048576)
def OpenSpec.upto (s : _root_.Go.ChangeSpec) : _root_.Go.OpenSpec := { _root_.Go.OpenSpec.ofChange s with cond := some uptoSmall }

/-- 'laws.FnExactMinCut', WHERE WHAT IT READS IS OF BULK AT MOST 1048576: true; the input reads as it did. -/
def fnExactMinCutUptoRow : OpenClaim := { program := "ytdobnplcacaomaa", sum := "280be0f5b85f312477bf56f060aef50b8a88194ac8d4f4e1f1f4acb0488b4d97", func := "loop.example/g00315/laws.FnExactMinCut", spec := "fnExactMinCut", unfollowed := true, recurses := true, apart := false, narrowed := true }
def FnExactMinCutUptoSaid : Prop := fnExactMinCutUptoRow.holds Try.pinned (OpenSpec.upto fnExactMinCutSpec)

/-- 'laws.FnExactCutSize', WHERE WHAT IT READS IS OF BULK AT MOST 1048576: true; the input reads as it did. -/
def fnExactCutSizeUptoRow : OpenClaim := { program := "ytdobnplcacaomaa", sum := "280be0f5b85f312477bf56f060aef50b8a88194ac8d4f4e1f1f4acb0488b4d97", func := "loop.example/g00315/laws.FnExactCutSize", spec := "fnExactCutSize", apart := false, narrowed := true }
def FnExactCutSizeUptoSaid : Prop := fnExactCutSizeUptoRow.holds Try.pinned (OpenSpec.upto fnExactCutSizeSpec)

/-- 'laws.FnExactGoodLinks', WHERE WHAT IT READS IS OF BULK AT MOST 1048576: true; the input reads as it did. -/
def fnExactGoodLinksUptoRow : OpenClaim := { program := "ytdobnplcacaomaa", sum := "280be0f5b85f312477bf56f060aef50b8a88194ac8d4f4e1f1f4acb0488b4d97", func := "loop.example/g00315/laws.FnExactGoodLinks", spec := "fnExactGoodLinks", apart := false, narrowed := true }
def FnExactGoodLinksUptoSaid : Prop := fnExactGoodLinksUptoRow.holds Try.pinned (OpenSpec.upto fnExactGoodLinksSpec)

/-- 'laws.FnExactWaysApart', WHERE WHAT IT READS IS OF BULK AT MOST 1048576: true; the input reads as it did. -/
def fnExactWaysApartUptoRow : OpenClaim := { program := "ytdobnplcacaomaa", sum := "280be0f5b85f312477bf56f060aef50b8a88194ac8d4f4e1f1f4acb0488b4d97", func := "loop.example/g00315/laws.FnExactWaysApart", spec := "fnExactWaysApart", unfollowed := true, recurses := true, apart := false, narrowed := true }
def FnExactWaysApartUptoSaid : Prop := fnExactWaysApartUptoRow.holds Try.pinned (OpenSpec.upto fnExactWaysApartSpec)

/-- 'laws.FnExactFewestToCut', WHERE WHAT IT READS IS OF BULK AT MOST 1048576: true; the input reads as it did. -/
def fnExactFewestToCutUptoRow : OpenClaim := { program := "ytdobnplcacaomaa", sum := "280be0f5b85f312477bf56f060aef50b8a88194ac8d4f4e1f1f4acb0488b4d97", func := "loop.example/g00315/laws.FnExactFewestToCut", spec := "fnExactFewestToCut", unfollowed := true, recurses := true, apart := false, narrowed := true }
def FnExactFewestToCutUptoSaid : Prop := fnExactFewestToCutUptoRow.holds Try.pinned (OpenSpec.upto fnExactFewestToCutSpec)

/-- 'laws.FnExactReachedBy', WHERE WHAT IT READS IS OF BULK AT MOST 1048576: true; the input reads as it did. -/
def fnExactReachedByUptoRow : OpenClaim := { program := "ytdobnplcacaomaa", sum := "280be0f5b85f312477bf56f060aef50b8a88194ac8d4f4e1f1f4acb0488b4d97", func := "loop.example/g00315/laws.FnExactReachedBy", spec := "fnExactReachedBy", unfollowed := true, recurses := true, apart := false, narrowed := true }
def FnExactReachedByUptoSaid : Prop := fnExactReachedByUptoRow.holds Try.pinned (OpenSpec.upto fnExactReachedBySpec)

end Rows
end Go.Proofs.Ytdobnplcacaomaa
