/-
  No cell of these rows narrows 'for every input' (looked for: loops, veiled, ifaces, maps, wideKeys, modest, calm, conditions, laid).
  DERIVED. THE GIVEN ROWS OF THIS SEAT. 6 by the template 'for every input the law returns true; each argument reads behind the call as it read before'; 0 by the template 'total and deterministic' (their statements: YtjekofjhplhemaaTotals.lean).
  GIVEN WITH THE SEED: the statements are not yours to turn. If you find one false, say at which input.
  Laid BY PROGRAM, IN A SANDBOX (cutbox-rows.mjs): the forced cells as the released guide's own fill.sh prints them over the translation 2427f2d32c1afdaa… (all of the seat's roots in one cut). By AI agents, Wed Nov 11 2026. No macro, syntax, notation, axiom, sorry.
-/
import Derived.Test.YtjekofjhplhemaaChecked
import GoSem.Claim
import GoSem.ClaimJoined
import GoSem.ClaimMapViews
import Derived.JoinedTies
import Derived.KernelRfl
namespace Go.Proofs.Ytjekofjhplhemaa
/- THE CELL 'sum', in the pinned program and in every row, IS THE sha256 OF THE DUMP (.gsa) THAT YtjekofjhplhemaaProg.lean LOADS. Nothing in Lean hashes anything: it is a label: what it is worth is what the hold of that sum in a sandbox is worth. -/
noncomputable def Try.pinned : Pinned := { name := "ytjekofjhplhemaa", sum := "2427f2d32c1afdaace258fc2197696ccccee4b8363e467f682d07c39dddd3d63", checked := Try.checked }
namespace Rows
def none {H : Type} : Left H := { results := [], args := [] }

/-- 'laws.FnExactAddPiece': WHATEVER THE INPUT: true; the input reads as it did. -/
def fnExactAddPieceSpec : ChangeSpec := { name := "fnExactAddPiece", fn := fun _ => fun
  | [d1, d2] => { results := [.lit (.bool true)], args := [d1, d2] }
  | _ => none }
def fnExactAddPieceRow : OpenClaim := { program := "ytjekofjhplhemaa", sum := "2427f2d32c1afdaace258fc2197696ccccee4b8363e467f682d07c39dddd3d63", func := "loop.example/g00315/laws.FnExactAddPiece", spec := "fnExactAddPiece", unfollowed := true, recurses := true, apart := false }
def FnExactAddPieceSaid : Prop := fnExactAddPieceRow.holds Try.pinned (OpenSpec.ofChange fnExactAddPieceSpec)

/-- ITS FALSE NEIGHBOUR: 'it returns false'. Refute it at one input. -/
def fnExactAddPieceWrong : ChangeSpec := { name := "fnExactAddPiece", fn := fun _ => fun
  | [d1, d2] => { results := [.lit (.bool false)], args := [d1, d2] }
  | _ => none }
def FnExactAddPieceWrongFalsely : Prop := fnExactAddPieceRow.holds Try.pinned (OpenSpec.ofChange fnExactAddPieceWrong)

/-- 'laws.FnExactGoodSession': WHATEVER THE INPUT: true; the input reads as it did. -/
def fnExactGoodSessionSpec : ChangeSpec := { name := "fnExactGoodSession", fn := fun _ => fun
  | [d] => { results := [.lit (.bool true)], args := [d] }
  | _ => none }
def fnExactGoodSessionRow : OpenClaim := { program := "ytjekofjhplhemaa", sum := "2427f2d32c1afdaace258fc2197696ccccee4b8363e467f682d07c39dddd3d63", func := "loop.example/g00315/laws.FnExactGoodSession", spec := "fnExactGoodSession", apart := false }
def FnExactGoodSessionSaid : Prop := fnExactGoodSessionRow.holds Try.pinned (OpenSpec.ofChange fnExactGoodSessionSpec)

/-- ITS FALSE NEIGHBOUR: 'it returns false'. Refute it at one input. -/
def fnExactGoodSessionWrong : ChangeSpec := { name := "fnExactGoodSession", fn := fun _ => fun
  | [d] => { results := [.lit (.bool false)], args := [d] }
  | _ => none }
def FnExactGoodSessionWrongFalsely : Prop := fnExactGoodSessionRow.holds Try.pinned (OpenSpec.ofChange fnExactGoodSessionWrong)

/-- 'laws.FnExactStepSession': WHATEVER THE INPUT: true; the input reads as it did. -/
def fnExactStepSessionSpec : ChangeSpec := { name := "fnExactStepSession", fn := fun _ => fun
  | [d1, d2] => { results := [.lit (.bool true)], args := [d1, d2] }
  | _ => none }
def fnExactStepSessionRow : OpenClaim := { program := "ytjekofjhplhemaa", sum := "2427f2d32c1afdaace258fc2197696ccccee4b8363e467f682d07c39dddd3d63", func := "loop.example/g00315/laws.FnExactStepSession", spec := "fnExactStepSession", apart := false }
def FnExactStepSessionSaid : Prop := fnExactStepSessionRow.holds Try.pinned (OpenSpec.ofChange fnExactStepSessionSpec)

/-- ITS FALSE NEIGHBOUR: 'it returns false'. Refute it at one input. -/
def fnExactStepSessionWrong : ChangeSpec := { name := "fnExactStepSession", fn := fun _ => fun
  | [d1, d2] => { results := [.lit (.bool false)], args := [d1, d2] }
  | _ => none }
def FnExactStepSessionWrongFalsely : Prop := fnExactStepSessionRow.holds Try.pinned (OpenSpec.ofChange fnExactStepSessionWrong)

/-- 'laws.FnExactPlaySession': WHATEVER THE INPUT: true; the input reads as it did. -/
def fnExactPlaySessionSpec : ChangeSpec := { name := "fnExactPlaySession", fn := fun _ => fun
  | [d1, d2] => { results := [.lit (.bool true)], args := [d1, d2] }
  | _ => none }
def fnExactPlaySessionRow : OpenClaim := { program := "ytjekofjhplhemaa", sum := "2427f2d32c1afdaace258fc2197696ccccee4b8363e467f682d07c39dddd3d63", func := "loop.example/g00315/laws.FnExactPlaySession", spec := "fnExactPlaySession", apart := false }
def FnExactPlaySessionSaid : Prop := fnExactPlaySessionRow.holds Try.pinned (OpenSpec.ofChange fnExactPlaySessionSpec)

/-- ITS FALSE NEIGHBOUR: 'it returns false'. Refute it at one input. -/
def fnExactPlaySessionWrong : ChangeSpec := { name := "fnExactPlaySession", fn := fun _ => fun
  | [d1, d2] => { results := [.lit (.bool false)], args := [d1, d2] }
  | _ => none }
def FnExactPlaySessionWrongFalsely : Prop := fnExactPlaySessionRow.holds Try.pinned (OpenSpec.ofChange fnExactPlaySessionWrong)

/-- 'laws.FnExactReceived': WHATEVER THE INPUT: true; the input reads as it did. -/
def fnExactReceivedSpec : ChangeSpec := { name := "fnExactReceived", fn := fun _ => fun
  | [d] => { results := [.lit (.bool true)], args := [d] }
  | _ => none }
def fnExactReceivedRow : OpenClaim := { program := "ytjekofjhplhemaa", sum := "2427f2d32c1afdaace258fc2197696ccccee4b8363e467f682d07c39dddd3d63", func := "loop.example/g00315/laws.FnExactReceived", spec := "fnExactReceived", apart := false }
def FnExactReceivedSaid : Prop := fnExactReceivedRow.holds Try.pinned (OpenSpec.ofChange fnExactReceivedSpec)

/-- ITS FALSE NEIGHBOUR: 'it returns false'. Refute it at one input. -/
def fnExactReceivedWrong : ChangeSpec := { name := "fnExactReceived", fn := fun _ => fun
  | [d] => { results := [.lit (.bool false)], args := [d] }
  | _ => none }
def FnExactReceivedWrongFalsely : Prop := fnExactReceivedRow.holds Try.pinned (OpenSpec.ofChange fnExactReceivedWrong)

/-- 'laws.FnExactCalmSession': WHATEVER THE INPUT: true; the input reads as it did. -/
def fnExactCalmSessionSpec : ChangeSpec := { name := "fnExactCalmSession", fn := fun _ => fun
  | [d] => { results := [.lit (.bool true)], args := [d] }
  | _ => none }
def fnExactCalmSessionRow : OpenClaim := { program := "ytjekofjhplhemaa", sum := "2427f2d32c1afdaace258fc2197696ccccee4b8363e467f682d07c39dddd3d63", func := "loop.example/g00315/laws.FnExactCalmSession", spec := "fnExactCalmSession", apart := false }
def FnExactCalmSessionSaid : Prop := fnExactCalmSessionRow.holds Try.pinned (OpenSpec.ofChange fnExactCalmSessionSpec)

/-- ITS FALSE NEIGHBOUR: 'it returns false'. Refute it at one input. -/
def fnExactCalmSessionWrong : ChangeSpec := { name := "fnExactCalmSession", fn := fun _ => fun
  | [d] => { results := [.lit (.bool false)], args := [d] }
  | _ => none }
def FnExactCalmSessionWrongFalsely : Prop := fnExactCalmSessionRow.holds Try.pinned (OpenSpec.ofChange fnExactCalmSessionWrong)

/- THE SECOND FORM. 'bulk': how many values and letters a reading holds, each counted each time it is reached (what is shared counts as often as it is met; a slice's spare places count too). A statement '..UptoSaid' is the law's where the arguments, and the package variables that the reading takes, are together of bulk at most 1048576: NARROWER than '..Said'. Prove '..Said' where nothing that the law and all that it calls make is longer than what came in: it says more and counts as full. Else prove '..UptoSaid'. A law counts once. -/
mutual
def uptoBulk {H : Type} : DataW H → Nat
  | .lit (.string bytes) => bytes.length + 1
  | .lit _ => 1
  | .nil => 1
  | .ptr d => uptoBulk d + 1
  | .slice elems spare => uptoBulkAll elems + uptoBulkAll spare + 1
  | .agg parts => uptoBulkAll parts + 1
  | .iface _ d => uptoBulk d + 1
  | .map entries => uptoBulkEntries entries + 1
  | .held _ => 1
def uptoBulkAll {H : Type} : List (DataW H) → Nat
  | [] => 0
  | d :: r => uptoBulk d + uptoBulkAll r
def uptoBulkEntries {H : Type} : List (Lit × DataW H) → Nat
  | [] => 0
  | x :: r => uptoBulkEntry x + uptoBulkEntries r
def uptoBulkEntry {H : Type} : Lit × DataW H → Nat
  | (.string bytes, d) => bytes.length + uptoBulk d + 1
  | (_, d) => uptoBulk d + 1
 end
def uptoSmall : (H : Type) → List (DataW H) → Bool := fun _ ds => decide (uptoBulkAll ds ≤ 1048576)
def OpenSpec.upto (s : _root_.Go.ChangeSpec) : _root_.Go.OpenSpec := { _root_.Go.OpenSpec.ofChange s with cond := some uptoSmall }

/-- 'laws.FnExactAddPiece', WHERE WHAT IT READS IS OF BULK AT MOST 1048576: true; the input reads as it did. -/
def fnExactAddPieceUptoRow : OpenClaim := { program := "ytjekofjhplhemaa", sum := "2427f2d32c1afdaace258fc2197696ccccee4b8363e467f682d07c39dddd3d63", func := "loop.example/g00315/laws.FnExactAddPiece", spec := "fnExactAddPiece", unfollowed := true, recurses := true, apart := false, narrowed := true }
def FnExactAddPieceUptoSaid : Prop := fnExactAddPieceUptoRow.holds Try.pinned (OpenSpec.upto fnExactAddPieceSpec)

/-- 'laws.FnExactGoodSession', WHERE WHAT IT READS IS OF BULK AT MOST 1048576: true; the input reads as it did. -/
def fnExactGoodSessionUptoRow : OpenClaim := { program := "ytjekofjhplhemaa", sum := "2427f2d32c1afdaace258fc2197696ccccee4b8363e467f682d07c39dddd3d63", func := "loop.example/g00315/laws.FnExactGoodSession", spec := "fnExactGoodSession", apart := false, narrowed := true }
def FnExactGoodSessionUptoSaid : Prop := fnExactGoodSessionUptoRow.holds Try.pinned (OpenSpec.upto fnExactGoodSessionSpec)

/-- 'laws.FnExactStepSession', WHERE WHAT IT READS IS OF BULK AT MOST 1048576: true; the input reads as it did. -/
def fnExactStepSessionUptoRow : OpenClaim := { program := "ytjekofjhplhemaa", sum := "2427f2d32c1afdaace258fc2197696ccccee4b8363e467f682d07c39dddd3d63", func := "loop.example/g00315/laws.FnExactStepSession", spec := "fnExactStepSession", apart := false, narrowed := true }
def FnExactStepSessionUptoSaid : Prop := fnExactStepSessionUptoRow.holds Try.pinned (OpenSpec.upto fnExactStepSessionSpec)

/-- 'laws.FnExactPlaySession', WHERE WHAT IT READS IS OF BULK AT MOST 1048576: true; the input reads as it did. -/
def fnExactPlaySessionUptoRow : OpenClaim := { program := "ytjekofjhplhemaa", sum := "2427f2d32c1afdaace258fc2197696ccccee4b8363e467f682d07c39dddd3d63", func := "loop.example/g00315/laws.FnExactPlaySession", spec := "fnExactPlaySession", apart := false, narrowed := true }
def FnExactPlaySessionUptoSaid : Prop := fnExactPlaySessionUptoRow.holds Try.pinned (OpenSpec.upto fnExactPlaySessionSpec)

/-- 'laws.FnExactReceived', WHERE WHAT IT READS IS OF BULK AT MOST 1048576: true; the input reads as it did. -/
def fnExactReceivedUptoRow : OpenClaim := { program := "ytjekofjhplhemaa", sum := "2427f2d32c1afdaace258fc2197696ccccee4b8363e467f682d07c39dddd3d63", func := "loop.example/g00315/laws.FnExactReceived", spec := "fnExactReceived", apart := false, narrowed := true }
def FnExactReceivedUptoSaid : Prop := fnExactReceivedUptoRow.holds Try.pinned (OpenSpec.upto fnExactReceivedSpec)

/-- 'laws.FnExactCalmSession', WHERE WHAT IT READS IS OF BULK AT MOST 1048576: true; the input reads as it did. -/
def fnExactCalmSessionUptoRow : OpenClaim := { program := "ytjekofjhplhemaa", sum := "2427f2d32c1afdaace258fc2197696ccccee4b8363e467f682d07c39dddd3d63", func := "loop.example/g00315/laws.FnExactCalmSession", spec := "fnExactCalmSession", apart := false, narrowed := true }
def FnExactCalmSessionUptoSaid : Prop := fnExactCalmSessionUptoRow.holds Try.pinned (OpenSpec.upto fnExactCalmSessionSpec)

end Rows
end Go.Proofs.Ytjekofjhplhemaa
