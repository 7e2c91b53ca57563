/-
  No cell of these rows narrows 'for every input' (looked for: loops, veiled, ifaces, maps, wideKeys, modest, calm, conditions, laid).
  DERIVED. THE GIVEN ROWS OF THIS SEAT. 4 by the template 'for every input the law returns true; each argument reads behind the call as it read before'; 0 by the template 'total and deterministic' (their statements: YtapojeehidhhnapTotals.lean).
  GIVEN WITH THE SEED: the statements are not yours to turn. If you find one false, say at which input.
  Laid BY PROGRAM, IN A SANDBOX (cutbox-rows.mjs): the forced cells as the released guide's own fill.sh prints them over the translation 054010b0714edf10… (all of the seat's roots in one cut). By AI agents, Wed Nov 11 2026. No macro, syntax, notation, axiom, sorry.
-/
import Derived.Test.YtapojeehidhhnapChecked
import GoSem.Claim
import GoSem.ClaimJoined
import GoSem.ClaimMapViews
import Derived.JoinedTies
import Derived.KernelRfl
namespace Go.Proofs.Ytapojeehidhhnap
/- THE CELL 'sum', in the pinned program and in every row, IS THE sha256 OF THE DUMP (.gsa) THAT YtapojeehidhhnapProg.lean LOADS. Nothing in Lean hashes anything: it is a label: what it is worth is what the hold of that sum in a sandbox is worth. -/
noncomputable def Try.pinned : Pinned := { name := "ytapojeehidhhnap", sum := "054010b0714edf10f19343ac485f5e190d84ec3f2b7cb05f2b6bb86b05ebabb7", checked := Try.checked }
namespace Rows
def none {H : Type} : Left H := { results := [], args := [] }

/-- 'laws.FnExactRunNet': WHATEVER THE INPUT: true; the input reads as it did. -/
def fnExactRunNetSpec : ChangeSpec := { name := "fnExactRunNet", fn := fun _ => fun
  | [d] => { results := [.lit (.bool true)], args := [d] }
  | _ => none }
def fnExactRunNetRow : OpenClaim := { program := "ytapojeehidhhnap", sum := "054010b0714edf10f19343ac485f5e190d84ec3f2b7cb05f2b6bb86b05ebabb7", func := "loop.example/g00315/laws.FnExactRunNet", spec := "fnExactRunNet", recurses := true, apart := false }
def FnExactRunNetSaid : Prop := fnExactRunNetRow.holds Try.pinned (OpenSpec.ofChange fnExactRunNetSpec)

/-- ITS FALSE NEIGHBOUR: 'it returns false'. Refute it at one input. -/
def fnExactRunNetWrong : ChangeSpec := { name := "fnExactRunNet", fn := fun _ => fun
  | [d] => { results := [.lit (.bool false)], args := [d] }
  | _ => none }
def FnExactRunNetWrongFalsely : Prop := fnExactRunNetRow.holds Try.pinned (OpenSpec.ofChange fnExactRunNetWrong)

/-- 'laws.FnExactSdnvOf': WHATEVER THE INPUT: true; the input reads as it did. -/
def fnExactSdnvOfSpec : ChangeSpec := { name := "fnExactSdnvOf", fn := fun _ => fun
  | [d] => { results := [.lit (.bool true)], args := [d] }
  | _ => none }
def fnExactSdnvOfRow : OpenClaim := { program := "ytapojeehidhhnap", sum := "054010b0714edf10f19343ac485f5e190d84ec3f2b7cb05f2b6bb86b05ebabb7", func := "loop.example/g00315/laws.FnExactSdnvOf", spec := "fnExactSdnvOf", apart := false }
def FnExactSdnvOfSaid : Prop := fnExactSdnvOfRow.holds Try.pinned (OpenSpec.ofChange fnExactSdnvOfSpec)

/-- ITS FALSE NEIGHBOUR: 'it returns false'. Refute it at one input. -/
def fnExactSdnvOfWrong : ChangeSpec := { name := "fnExactSdnvOf", fn := fun _ => fun
  | [d] => { results := [.lit (.bool false)], args := [d] }
  | _ => none }
def FnExactSdnvOfWrongFalsely : Prop := fnExactSdnvOfRow.holds Try.pinned (OpenSpec.ofChange fnExactSdnvOfWrong)

/-- 'laws.FnExactTakeSdnv': WHATEVER THE INPUT: true; the input reads as it did. -/
def fnExactTakeSdnvSpec : ChangeSpec := { name := "fnExactTakeSdnv", fn := fun _ => fun
  | [d1, d2] => { results := [.lit (.bool true)], args := [d1, d2] }
  | _ => none }
def fnExactTakeSdnvRow : OpenClaim := { program := "ytapojeehidhhnap", sum := "054010b0714edf10f19343ac485f5e190d84ec3f2b7cb05f2b6bb86b05ebabb7", func := "loop.example/g00315/laws.FnExactTakeSdnv", spec := "fnExactTakeSdnv", apart := false }
def FnExactTakeSdnvSaid : Prop := fnExactTakeSdnvRow.holds Try.pinned (OpenSpec.ofChange fnExactTakeSdnvSpec)

/-- ITS FALSE NEIGHBOUR: 'it returns false'. Refute it at one input. -/
def fnExactTakeSdnvWrong : ChangeSpec := { name := "fnExactTakeSdnv", fn := fun _ => fun
  | [d1, d2] => { results := [.lit (.bool false)], args := [d1, d2] }
  | _ => none }
def FnExactTakeSdnvWrongFalsely : Prop := fnExactTakeSdnvRow.holds Try.pinned (OpenSpec.ofChange fnExactTakeSdnvWrong)

/-- 'laws.FnExactSdnvList': WHATEVER THE INPUT: true; the input reads as it did. -/
def fnExactSdnvListSpec : ChangeSpec := { name := "fnExactSdnvList", fn := fun _ => fun
  | [d] => { results := [.lit (.bool true)], args := [d] }
  | _ => none }
def fnExactSdnvListRow : OpenClaim := { program := "ytapojeehidhhnap", sum := "054010b0714edf10f19343ac485f5e190d84ec3f2b7cb05f2b6bb86b05ebabb7", func := "loop.example/g00315/laws.FnExactSdnvList", spec := "fnExactSdnvList", apart := false }
def FnExactSdnvListSaid : Prop := fnExactSdnvListRow.holds Try.pinned (OpenSpec.ofChange fnExactSdnvListSpec)

/-- ITS FALSE NEIGHBOUR: 'it returns false'. Refute it at one input. -/
def fnExactSdnvListWrong : ChangeSpec := { name := "fnExactSdnvList", fn := fun _ => fun
  | [d] => { results := [.lit (.bool false)], args := [d] }
  | _ => none }
def FnExactSdnvListWrongFalsely : Prop := fnExactSdnvListRow.holds Try.pinned (OpenSpec.ofChange fnExactSdnvListWrong)

/- THE SECOND FORM. 'bulk': how many values and letters a reading holds, each counted each time it is reached (what is shared counts as often as it is met; a slice's spare places count too). A statement '..UptoSaid' is the law's where the arguments, and the package variables that the reading takes, are together of bulk at most 1048576: NARROWER than '..Said'. Prove '..Said' where nothing that the law and all that it calls make is longer than what came in: it says more and counts as full. Else prove '..UptoSaid'. A law counts once. -/
mutual
def uptoBulk {H : Type} : DataW H → Nat
  | .lit (.string bytes) => bytes.length + 1
  | .lit _ => 1
  | .nil => 1
  | .ptr d => uptoBulk d + 1
  | .slice elems spare => uptoBulkAll elems + uptoBulkAll spare + 1
  | .agg parts => uptoBulkAll parts + 1
  | .iface _ d => uptoBulk d + 1
  | .map entries => uptoBulkEntries entries + 1
  | .held _ => 1
def uptoBulkAll {H : Type} : List (DataW H) → Nat
  | [] => 0
  | d :: r => uptoBulk d + uptoBulkAll r
def uptoBulkEntries {H : Type} : List (Lit × DataW H) → Nat
  | [] => 0
  | x :: r => uptoBulkEntry x + uptoBulkEntries r
def uptoBulkEntry {H : Type} : Lit × DataW H → Nat
  | (.string bytes, d) => bytes.length + uptoBulk d + 1
  | (_, d) => uptoBulk d + 1
 end
def uptoSmall : (H : Type) → List (DataW H) → Bool := fun _ ds => decide (uptoBulkAll ds ≤ 1048576)
def OpenSpec.upto (s : _root_.Go.ChangeSpec) : _root_.Go.OpenSpec := { _root_.Go.OpenSpec.ofChange s with cond := some uptoSmall }

/-- 'laws.FnExactRunNet', WHERE WHAT IT READS IS OF BULK AT MOST 1048576: true; the input reads as it did. -/
def fnExactRunNetUptoRow : OpenClaim := { program := "ytapojeehidhhnap", sum := "054010b0714edf10f19343ac485f5e190d84ec3f2b7cb05f2b6bb86b05ebabb7", func := "loop.example/g00315/laws.FnExactRunNet", spec := "fnExactRunNet", recurses := true, apart := false, narrowed := true }
def FnExactRunNetUptoSaid : Prop := fnExactRunNetUptoRow.holds Try.pinned (OpenSpec.upto fnExactRunNetSpec)

/-- 'laws.FnExactSdnvOf', WHERE WHAT IT READS IS OF BULK AT MOST 1048576: true; the input reads as it did. -/
def fnExactSdnvOfUptoRow : OpenClaim := { program := "ytapojeehidhhnap", sum := "054010b0714edf10f19343ac485f5e190d84ec3f2b7cb05f2b6bb86b05ebabb7", func := "loop.example/g00315/laws.FnExactSdnvOf", spec := "fnExactSdnvOf", apart := false, narrowed := true }
def FnExactSdnvOfUptoSaid : Prop := fnExactSdnvOfUptoRow.holds Try.pinned (OpenSpec.upto fnExactSdnvOfSpec)

/-- 'laws.FnExactTakeSdnv', WHERE WHAT IT READS IS OF BULK AT MOST 1048576: true; the input reads as it did. -/
def fnExactTakeSdnvUptoRow : OpenClaim := { program := "ytapojeehidhhnap", sum := "054010b0714edf10f19343ac485f5e190d84ec3f2b7cb05f2b6bb86b05ebabb7", func := "loop.example/g00315/laws.FnExactTakeSdnv", spec := "fnExactTakeSdnv", apart := false, narrowed := true }
def FnExactTakeSdnvUptoSaid : Prop := fnExactTakeSdnvUptoRow.holds Try.pinned (OpenSpec.upto fnExactTakeSdnvSpec)

/-- 'laws.FnExactSdnvList', WHERE WHAT IT READS IS OF BULK AT MOST 1048576: true; the input reads as it did. -/
def fnExactSdnvListUptoRow : OpenClaim := { program := "ytapojeehidhhnap", sum := "054010b0714edf10f19343ac485f5e190d84ec3f2b7cb05f2b6bb86b05ebabb7", func := "loop.example/g00315/laws.FnExactSdnvList", spec := "fnExactSdnvList", apart := false, narrowed := true }
def FnExactSdnvListUptoSaid : Prop := fnExactSdnvListUptoRow.holds Try.pinned (OpenSpec.upto fnExactSdnvListSpec)

end Rows
end Go.Proofs.Ytapojeehidhhnap
