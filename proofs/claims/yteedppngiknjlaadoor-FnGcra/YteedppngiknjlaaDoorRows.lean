/-
  NARROWER THAN 'FOR EVERY INPUT', by the rows' own cells (each row's printed sentence says how): FnGcra: ifaces, laid · FnMost: ifaces, laid.
  DERIVED. THE GIVEN ROWS OF THIS SEAT. 2 by the template 'for every input the law returns true; each argument reads behind the call as it read before'; 0 by the template 'total and deterministic' (their statements: YteedppngiknjlaaDoorTotals.lean).
  GIVEN WITH THE SEED: the statements are not yours to turn. If you find one false, say at which input.
  Laid BY PROGRAM, IN A SANDBOX (cutbox-rows.mjs): the forced cells as the released guide's own fill.sh prints them over the translation c1a7b9c8323fa402… (all of the seat's roots in one cut). By AI agents, Wed Nov 11 2026. No macro, syntax, notation, axiom, sorry.
-/
import Derived.Test.YteedppngiknjlaaDoorChecked
import GoSem.Claim
import GoSem.ClaimJoined
import GoSem.ClaimMapViews
import Derived.JoinedTies
import Derived.KernelRfl
namespace Go.Proofs.YteedppngiknjlaaDoor
/- THE CELL 'sum', in the pinned program and in every row, IS THE sha256 OF THE DUMP (.gsa) THAT YteedppngiknjlaaDoorProg.lean LOADS. Nothing in Lean hashes anything: it is a label: what it is worth is what the hold of that sum in a sandbox is worth. -/
noncomputable def Tryd.pinned : Pinned := { name := "yteedppngiknjlaadoor", sum := "c1a7b9c8323fa402e410dfc531c15124b7e278fedafe08a20405167adf7face6", checked := Tryd.checked }
namespace Rows
def none {H : Type} : Left H := { results := [], args := [] }

/- WHAT THE LISTED PACKAGE-LEVEL VARIABLES READ AS WHEN THE CALL BEGINS. Each datum BY PROGRAM (the guide's laid-datum.mjs) off the statement by which the dump's own 'gosem.cut.vars' lays the variable. In a bare row this is a premise. The card (YteedppngiknjlaaDoorCards.lean) ties it to the program's text. -/
def laid_errors_errorType {H : Type} : DataW H := .iface "internal/reflectlite.rtype" (.agg [.ptr (.lit (.string [101, 114, 114, 111, 114]))])
def laid_loop_example_g00315_impl_errNotAsSaid {H : Type} : DataW H := .iface "*errors.errorString" (.ptr (.agg [.lit (.string [110, 111, 116, 32, 97, 115, 32, 115, 97, 105, 100])]))
def laid_loop_example_g00315_impl_errTooMuch {H : Type} : DataW H := .iface "*errors.errorString" (.ptr (.agg [.lit (.string [116, 111, 111, 32, 109, 117, 99, 104, 32, 97, 116, 32, 111, 110, 99, 101])]))

/-- 'laws.FnGcra': WHATEVER THE INPUT: true; the input reads as it did. -/
def fnGcraSpec : ChangeSpec := { name := "fnGcra", vars := ["loop.example/g00315/impl.errNotAsSaid", "loop.example/g00315/impl.errTooMuch"], fn := fun _ => fun
  | [d1, d2, g1, g2] => { results := [.lit (.bool true)], args := [d1, d2], vars := [g1, g2] }
  | _ => none }
def fnGcraRow : OpenClaim := { program := "yteedppngiknjlaadoor", sum := "c1a7b9c8323fa402e410dfc531c15124b7e278fedafe08a20405167adf7face6", func := "loop.example/g00315/laws.FnGcra", spec := "fnGcra", inPlace := ["internal/reflectlite.TypeOf", "internal/reflectlite.ValueOf", "(internal/reflectlite.Value).Type", "(internal/reflectlite.Value).IsNil", "(internal/reflectlite.Value).Elem", "(internal/reflectlite.Value).Set"], unfollowed := true, recurses := true, named := ["loop.example/g00315/impl.errNotAsSaid", "errors.errorType", "loop.example/g00315/impl.errTooMuch"], ifaces := true, apart := false, laid := [("errors.errorType", laid_errors_errorType), ("loop.example/g00315/impl.errNotAsSaid", laid_loop_example_g00315_impl_errNotAsSaid), ("loop.example/g00315/impl.errTooMuch", laid_loop_example_g00315_impl_errTooMuch)] }
def FnGcraSaid : Prop := fnGcraRow.holds Tryd.pinned (OpenSpec.ofChange fnGcraSpec)

/-- ITS FALSE NEIGHBOUR: 'it returns false'. Refute it at one input. -/
def fnGcraWrong : ChangeSpec := { name := "fnGcra", vars := ["loop.example/g00315/impl.errNotAsSaid", "loop.example/g00315/impl.errTooMuch"], fn := fun _ => fun
  | [d1, d2, g1, g2] => { results := [.lit (.bool false)], args := [d1, d2], vars := [g1, g2] }
  | _ => none }
def FnGcraWrongFalsely : Prop := fnGcraRow.holds Tryd.pinned (OpenSpec.ofChange fnGcraWrong)

/-- 'laws.FnMost': WHATEVER THE INPUT: true; the input reads as it did. -/
def fnMostSpec : ChangeSpec := { name := "fnMost", vars := ["loop.example/g00315/impl.errNotAsSaid"], fn := fun _ => fun
  | [d1, d2, g1] => { results := [.lit (.bool true)], args := [d1, d2], vars := [g1] }
  | _ => none }
def fnMostRow : OpenClaim := { program := "yteedppngiknjlaadoor", sum := "c1a7b9c8323fa402e410dfc531c15124b7e278fedafe08a20405167adf7face6", func := "loop.example/g00315/laws.FnMost", spec := "fnMost", inPlace := ["internal/reflectlite.TypeOf", "internal/reflectlite.ValueOf", "(internal/reflectlite.Value).Type", "(internal/reflectlite.Value).IsNil", "(internal/reflectlite.Value).Elem", "(internal/reflectlite.Value).Set"], unfollowed := true, recurses := true, named := ["loop.example/g00315/impl.errNotAsSaid", "errors.errorType"], ifaces := true, apart := false, laid := [("errors.errorType", laid_errors_errorType), ("loop.example/g00315/impl.errNotAsSaid", laid_loop_example_g00315_impl_errNotAsSaid)] }
def FnMostSaid : Prop := fnMostRow.holds Tryd.pinned (OpenSpec.ofChange fnMostSpec)

/-- ITS FALSE NEIGHBOUR: 'it returns false'. Refute it at one input. -/
def fnMostWrong : ChangeSpec := { name := "fnMost", vars := ["loop.example/g00315/impl.errNotAsSaid"], fn := fun _ => fun
  | [d1, d2, g1] => { results := [.lit (.bool false)], args := [d1, d2], vars := [g1] }
  | _ => none }
def FnMostWrongFalsely : Prop := fnMostRow.holds Tryd.pinned (OpenSpec.ofChange fnMostWrong)

/- THE SECOND FORM. 'bulk': how many values and letters a reading holds, each counted each time it is reached (what is shared counts as often as it is met; a slice's spare places count too). A statement '..UptoSaid' is the law's where the arguments, and the package variables that the reading takes, are together of bulk at most 1048576: NARROWER than '..Said'. Prove '..Said' where nothing that the law and all that it calls make is longer than what came in: it says more and counts as full. Else prove '..UptoSaid'. A law counts once. -/
mutual
def uptoBulk {H : Type} : DataW H → Nat
  | .lit (.string bytes) => bytes.length + 1
  | .lit _ => 1
  | .nil => 1
  | .ptr d => uptoBulk d + 1
  | .slice elems spare => uptoBulkAll elems + uptoBulkAll spare + 1
  | .agg parts => uptoBulkAll parts + 1
  | .iface _ d => uptoBulk d + 1
  | .map entries => uptoBulkEntries entries + 1
  | .held _ => 1
def uptoBulkAll {H : Type} : List (DataW H) → Nat
  | [] => 0
  | d :: r => uptoBulk d + uptoBulkAll r
def uptoBulkEntries {H : Type} : List (Lit × DataW H) → Nat
  | [] => 0
  | x :: r => uptoBulkEntry x + uptoBulkEntries r
def uptoBulkEntry {H : Type} : Lit × DataW H → Nat
  | (.string bytes, d) => bytes.length + uptoBulk d + 1
  | (_, d) => uptoBulk d + 1
 end
def uptoSmall : (H : Type) → List (DataW H) → Bool := fun _ ds => decide (uptoBulkAll ds ≤ 1048576)
def OpenSpec.upto (s : _root_.Go.ChangeSpec) : _root_.Go.OpenSpec := { _root_.Go.OpenSpec.ofChange s with cond := some uptoSmall }

/-- 'laws.FnGcra', WHERE WHAT IT READS IS OF BULK AT MOST 1048576: true; the input reads as it did. -/
def fnGcraUptoRow : OpenClaim := { program := "yteedppngiknjlaadoor", sum := "c1a7b9c8323fa402e410dfc531c15124b7e278fedafe08a20405167adf7face6", func := "loop.example/g00315/laws.FnGcra", spec := "fnGcra", inPlace := ["internal/reflectlite.TypeOf", "internal/reflectlite.ValueOf", "(internal/reflectlite.Value).Type", "(internal/reflectlite.Value).IsNil", "(internal/reflectlite.Value).Elem", "(internal/reflectlite.Value).Set"], unfollowed := true, recurses := true, named := ["loop.example/g00315/impl.errNotAsSaid", "errors.errorType", "loop.example/g00315/impl.errTooMuch"], ifaces := true, apart := false, laid := [("errors.errorType", laid_errors_errorType), ("loop.example/g00315/impl.errNotAsSaid", laid_loop_example_g00315_impl_errNotAsSaid), ("loop.example/g00315/impl.errTooMuch", laid_loop_example_g00315_impl_errTooMuch)], narrowed := true }
def FnGcraUptoSaid : Prop := fnGcraUptoRow.holds Tryd.pinned (OpenSpec.upto fnGcraSpec)

/-- 'laws.FnMost', WHERE WHAT IT READS IS OF BULK AT MOST 1048576: true; the input reads as it did. -/
def fnMostUptoRow : OpenClaim := { program := "yteedppngiknjlaadoor", sum := "c1a7b9c8323fa402e410dfc531c15124b7e278fedafe08a20405167adf7face6", func := "loop.example/g00315/laws.FnMost", spec := "fnMost", inPlace := ["internal/reflectlite.TypeOf", "internal/reflectlite.ValueOf", "(internal/reflectlite.Value).Type", "(internal/reflectlite.Value).IsNil", "(internal/reflectlite.Value).Elem", "(internal/reflectlite.Value).Set"], unfollowed := true, recurses := true, named := ["loop.example/g00315/impl.errNotAsSaid", "errors.errorType"], ifaces := true, apart := false, laid := [("errors.errorType", laid_errors_errorType), ("loop.example/g00315/impl.errNotAsSaid", laid_loop_example_g00315_impl_errNotAsSaid)], narrowed := true }
def FnMostUptoSaid : Prop := fnMostUptoRow.holds Tryd.pinned (OpenSpec.upto fnMostSpec)

end Rows
end Go.Proofs.YteedppngiknjlaaDoor
