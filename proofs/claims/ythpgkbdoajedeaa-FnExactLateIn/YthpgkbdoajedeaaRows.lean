/-
  No cell of these rows narrows 'for every input' (looked for: loops, veiled, ifaces, maps, wideKeys, modest, calm, conditions, laid).
  DERIVED. THE GIVEN ROWS OF THIS SEAT. 4 by the template 'for every input the law returns true; each argument reads behind the call as it read before'; 0 by the template 'total and deterministic' (their statements: YthpgkbdoajedeaaTotals.lean).
  GIVEN WITH THE SEED: the statements are not yours to turn. If you find one false, say at which input.
  Laid BY PROGRAM, IN A SANDBOX (cutbox-rows.mjs): the forced cells as the released guide's own fill.sh prints them over the translation 9638b8997c0afc8e… (all of the seat's roots in one cut). By AI agents, Wed Nov 11 2026. No macro, syntax, notation, axiom, sorry.
-/
import Derived.Test.YthpgkbdoajedeaaChecked
import GoSem.Claim
import GoSem.ClaimJoined
import GoSem.ClaimMapViews
import Derived.JoinedTies
import Derived.KernelRfl
namespace Go.Proofs.Ythpgkbdoajedeaa
/- THE CELL 'sum', in the pinned program and in every row, IS THE sha256 OF THE DUMP (.gsa) THAT YthpgkbdoajedeaaProg.lean LOADS. Nothing in Lean hashes anything: it is a label: what it is worth is what the hold of that sum in a sandbox is worth. -/
noncomputable def Try.pinned : Pinned := { name := "ythpgkbdoajedeaa", sum := "9638b8997c0afc8ee3b32e1354623453e1e41d2efd8315ada2c824d1a1b90669", checked := Try.checked }
namespace Rows
def none {H : Type} : Left H := { results := [], args := [] }

/-- 'laws.FnExactGoodJobs': WHATEVER THE INPUT: true; the input reads as it did. -/
def fnExactGoodJobsSpec : ChangeSpec := { name := "fnExactGoodJobs", fn := fun _ => fun
  | [d] => { results := [.lit (.bool true)], args := [d] }
  | _ => none }
def fnExactGoodJobsRow : OpenClaim := { program := "ythpgkbdoajedeaa", sum := "9638b8997c0afc8ee3b32e1354623453e1e41d2efd8315ada2c824d1a1b90669", func := "loop.example/g00315/laws.FnExactGoodJobs", spec := "fnExactGoodJobs", apart := false }
def FnExactGoodJobsSaid : Prop := fnExactGoodJobsRow.holds Try.pinned (OpenSpec.ofChange fnExactGoodJobsSpec)

/-- ITS FALSE NEIGHBOUR: 'it returns false'. Refute it at one input. -/
def fnExactGoodJobsWrong : ChangeSpec := { name := "fnExactGoodJobs", fn := fun _ => fun
  | [d] => { results := [.lit (.bool false)], args := [d] }
  | _ => none }
def FnExactGoodJobsWrongFalsely : Prop := fnExactGoodJobsRow.holds Try.pinned (OpenSpec.ofChange fnExactGoodJobsWrong)

/-- 'laws.FnExactLatenessOf': WHATEVER THE INPUT: true; the input reads as it did. -/
def fnExactLatenessOfSpec : ChangeSpec := { name := "fnExactLatenessOf", fn := fun _ => fun
  | [d1, d2] => { results := [.lit (.bool true)], args := [d1, d2] }
  | _ => none }
def fnExactLatenessOfRow : OpenClaim := { program := "ythpgkbdoajedeaa", sum := "9638b8997c0afc8ee3b32e1354623453e1e41d2efd8315ada2c824d1a1b90669", func := "loop.example/g00315/laws.FnExactLatenessOf", spec := "fnExactLatenessOf", recurses := true, apart := false }
def FnExactLatenessOfSaid : Prop := fnExactLatenessOfRow.holds Try.pinned (OpenSpec.ofChange fnExactLatenessOfSpec)

/-- ITS FALSE NEIGHBOUR: 'it returns false'. Refute it at one input. -/
def fnExactLatenessOfWrong : ChangeSpec := { name := "fnExactLatenessOf", fn := fun _ => fun
  | [d1, d2] => { results := [.lit (.bool false)], args := [d1, d2] }
  | _ => none }
def FnExactLatenessOfWrongFalsely : Prop := fnExactLatenessOfRow.holds Try.pinned (OpenSpec.ofChange fnExactLatenessOfWrong)

/-- 'laws.FnExactLateIn': WHATEVER THE INPUT: true; the input reads as it did. -/
def fnExactLateInSpec : ChangeSpec := { name := "fnExactLateIn", fn := fun _ => fun
  | [d1, d2] => { results := [.lit (.bool true)], args := [d1, d2] }
  | _ => none }
def fnExactLateInRow : OpenClaim := { program := "ythpgkbdoajedeaa", sum := "9638b8997c0afc8ee3b32e1354623453e1e41d2efd8315ada2c824d1a1b90669", func := "loop.example/g00315/laws.FnExactLateIn", spec := "fnExactLateIn", recurses := true, apart := false }
def FnExactLateInSaid : Prop := fnExactLateInRow.holds Try.pinned (OpenSpec.ofChange fnExactLateInSpec)

/-- ITS FALSE NEIGHBOUR: 'it returns false'. Refute it at one input. -/
def fnExactLateInWrong : ChangeSpec := { name := "fnExactLateIn", fn := fun _ => fun
  | [d1, d2] => { results := [.lit (.bool false)], args := [d1, d2] }
  | _ => none }
def FnExactLateInWrongFalsely : Prop := fnExactLateInRow.holds Try.pinned (OpenSpec.ofChange fnExactLateInWrong)

/-- 'laws.FnExactIsJobOrder': WHATEVER THE INPUT: true; the input reads as it did. -/
def fnExactIsJobOrderSpec : ChangeSpec := { name := "fnExactIsJobOrder", fn := fun _ => fun
  | [d1, d2] => { results := [.lit (.bool true)], args := [d1, d2] }
  | _ => none }
def fnExactIsJobOrderRow : OpenClaim := { program := "ythpgkbdoajedeaa", sum := "9638b8997c0afc8ee3b32e1354623453e1e41d2efd8315ada2c824d1a1b90669", func := "loop.example/g00315/laws.FnExactIsJobOrder", spec := "fnExactIsJobOrder", recurses := true, apart := false }
def FnExactIsJobOrderSaid : Prop := fnExactIsJobOrderRow.holds Try.pinned (OpenSpec.ofChange fnExactIsJobOrderSpec)

/-- ITS FALSE NEIGHBOUR: 'it returns false'. Refute it at one input. -/
def fnExactIsJobOrderWrong : ChangeSpec := { name := "fnExactIsJobOrder", fn := fun _ => fun
  | [d1, d2] => { results := [.lit (.bool false)], args := [d1, d2] }
  | _ => none }
def FnExactIsJobOrderWrongFalsely : Prop := fnExactIsJobOrderRow.holds Try.pinned (OpenSpec.ofChange fnExactIsJobOrderWrong)

/- THE SECOND FORM. 'bulk': how many values and letters a reading holds, each counted each time it is reached (what is shared counts as often as it is met; a slice's spare places count too). A statement '..UptoSaid' is the law's where the arguments, and the package variables that the reading takes, are together of bulk at most 1048576: NARROWER than '..Said'. Prove '..Said' where nothing that the law and all that it calls make is longer than what came in: it says more and counts as full. Else prove '..UptoSaid'. A law counts once. -/
mutual
def uptoBulk {H : Type} : DataW H → Nat
  | .lit (.string bytes) => bytes.length + 1
  | .lit _ => 1
  | .nil => 1
  | .ptr d => uptoBulk d + 1
  | .slice elems spare => uptoBulkAll elems + uptoBulkAll spare + 1
  | .agg parts => uptoBulkAll parts + 1
  | .iface _ d => uptoBulk d + 1
  | .map entries => uptoBulkEntries entries + 1
  | .held _ => 1
def uptoBulkAll {H : Type} : List (DataW H) → Nat
  | [] => 0
  | d :: r => uptoBulk d + uptoBulkAll r
def uptoBulkEntries {H : Type} : List (Lit × DataW H) → Nat
  | [] => 0
  | x :: r => uptoBulkEntry x + uptoBulkEntries r
def uptoBulkEntry {H : Type} : Lit × DataW H → Nat
  | (.string bytes, d) => bytes.length + uptoBulk d + 1
  | (_, d) => uptoBulk d + 1
 end
def uptoSmall : (H : Type) → List (DataW H) → Bool := fun _ ds => decide (uptoBulkAll ds ≤ 1048576)
def OpenSpec.upto (s : _root_.Go.ChangeSpec) : _root_.Go.OpenSpec := { _root_.Go.OpenSpec.ofChange s with cond := some uptoSmall }

/-- 'laws.FnExactGoodJobs', WHERE WHAT IT READS IS OF BULK AT MOST 1048576: true; the input reads as it did. -/
def fnExactGoodJobsUptoRow : OpenClaim := { program := "ythpgkbdoajedeaa", sum := "9638b8997c0afc8ee3b32e1354623453e1e41d2efd8315ada2c824d1a1b90669", func := "loop.example/g00315/laws.FnExactGoodJobs", spec := "fnExactGoodJobs", apart := false, narrowed := true }
def FnExactGoodJobsUptoSaid : Prop := fnExactGoodJobsUptoRow.holds Try.pinned (OpenSpec.upto fnExactGoodJobsSpec)

/-- 'laws.FnExactLatenessOf', WHERE WHAT IT READS IS OF BULK AT MOST 1048576: true; the input reads as it did. -/
def fnExactLatenessOfUptoRow : OpenClaim := { program := "ythpgkbdoajedeaa", sum := "9638b8997c0afc8ee3b32e1354623453e1e41d2efd8315ada2c824d1a1b90669", func := "loop.example/g00315/laws.FnExactLatenessOf", spec := "fnExactLatenessOf", recurses := true, apart := false, narrowed := true }
def FnExactLatenessOfUptoSaid : Prop := fnExactLatenessOfUptoRow.holds Try.pinned (OpenSpec.upto fnExactLatenessOfSpec)

/-- 'laws.FnExactLateIn', WHERE WHAT IT READS IS OF BULK AT MOST 1048576: true; the input reads as it did. -/
def fnExactLateInUptoRow : OpenClaim := { program := "ythpgkbdoajedeaa", sum := "9638b8997c0afc8ee3b32e1354623453e1e41d2efd8315ada2c824d1a1b90669", func := "loop.example/g00315/laws.FnExactLateIn", spec := "fnExactLateIn", recurses := true, apart := false, narrowed := true }
def FnExactLateInUptoSaid : Prop := fnExactLateInUptoRow.holds Try.pinned (OpenSpec.upto fnExactLateInSpec)

/-- 'laws.FnExactIsJobOrder', WHERE WHAT IT READS IS OF BULK AT MOST 1048576: true; the input reads as it did. -/
def fnExactIsJobOrderUptoRow : OpenClaim := { program := "ythpgkbdoajedeaa", sum := "9638b8997c0afc8ee3b32e1354623453e1e41d2efd8315ada2c824d1a1b90669", func := "loop.example/g00315/laws.FnExactIsJobOrder", spec := "fnExactIsJobOrder", recurses := true, apart := false, narrowed := true }
def FnExactIsJobOrderUptoSaid : Prop := fnExactIsJobOrderUptoRow.holds Try.pinned (OpenSpec.upto fnExactIsJobOrderSpec)

end Rows
end Go.Proofs.Ythpgkbdoajedeaa
