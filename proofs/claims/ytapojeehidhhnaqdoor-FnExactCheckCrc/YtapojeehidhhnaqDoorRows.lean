/-
  NARROWER THAN 'FOR EVERY INPUT', by the rows' own cells (each row's printed sentence says how): FnExactCrcOf: laid · FnExactWithCrc: laid · FnExactCheckCrc: laid · FnExactCrcAdd: laid.
  DERIVED. THE GIVEN ROWS OF THIS SEAT. 4 by the template 'for every input the law returns true; each argument reads behind the call as it read before'; 0 by the template 'total and deterministic' (their statements: YtapojeehidhhnaqDoorTotals.lean).
  GIVEN WITH THE SEED: the statements are not yours to turn. If you find one false, say at which input.
  Laid BY PROGRAM, IN A SANDBOX (cutbox-rows.mjs): the forced cells as the released guide's own fill.sh prints them over the translation 9f8d15dcac74ece2… (all of the seat's roots in one cut). By AI agents, Wed Nov 11 2026. No macro, syntax, notation, axiom, sorry.
-/
import Derived.Test.YtapojeehidhhnaqDoorChecked
import GoSem.Claim
import GoSem.ClaimJoined
import GoSem.ClaimMapViews
import Derived.JoinedTies
import Derived.KernelRfl
namespace Go.Proofs.YtapojeehidhhnaqDoor
/- THE CELL 'sum', in the pinned program and in every row, IS THE sha256 OF THE DUMP (.gsa) THAT YtapojeehidhhnaqDoorProg.lean LOADS. Nothing in Lean hashes anything: it is a label: what it is worth is what the hold of that sum in a sandbox is worth. -/
noncomputable def Tryd.pinned : Pinned := { name := "ytapojeehidhhnaqdoor", sum := "9f8d15dcac74ece2eb3bf5d8b1a366d72772b68cdcf3496113f90b3b7d905fa2", checked := Tryd.checked }
namespace Rows
def none {H : Type} : Left H := { results := [], args := [] }

/- WHAT THE LISTED PACKAGE-LEVEL VARIABLES READ AS WHEN THE CALL BEGINS. Each datum BY PROGRAM (the guide's laid-datum.mjs) off the statement by which the dump's own 'gosem.cut.vars' lays the variable. In a bare row this is a premise. The card (YtapojeehidhhnaqDoorCards.lean) ties it to the program's text. -/
def laid_loop_example_g00315_impl_crcTable {H : Type} : DataW H := .agg [.lit (.int .i64 0), .lit (.int .i64 4129), .lit (.int .i64 8258), .lit (.int .i64 12387), .lit (.int .i64 16516), .lit (.int .i64 20645), .lit (.int .i64 24774), .lit (.int .i64 28903), .lit (.int .i64 33032), .lit (.int .i64 37161), .lit (.int .i64 41290), .lit (.int .i64 45419), .lit (.int .i64 49548), .lit (.int .i64 53677), .lit (.int .i64 57806), .lit (.int .i64 61935)]

/-- 'laws.FnExactCrcOf': WHATEVER THE INPUT: true; the input reads as it did. -/
def fnExactCrcOfSpec : ChangeSpec := { name := "fnExactCrcOf", vars := ["loop.example/g00315/impl.crcTable"], fn := fun _ => fun
  | [d, g1] => { results := [.lit (.bool true)], args := [d], vars := [g1] }
  | _ => none }
def fnExactCrcOfRow : OpenClaim := { program := "ytapojeehidhhnaqdoor", sum := "9f8d15dcac74ece2eb3bf5d8b1a366d72772b68cdcf3496113f90b3b7d905fa2", func := "loop.example/g00315/laws.FnExactCrcOf", spec := "fnExactCrcOf", named := ["loop.example/g00315/impl.crcTable"], apart := false, laid := [("loop.example/g00315/impl.crcTable", laid_loop_example_g00315_impl_crcTable)] }
def FnExactCrcOfSaid : Prop := fnExactCrcOfRow.holds Tryd.pinned (OpenSpec.ofChange fnExactCrcOfSpec)

/-- ITS FALSE NEIGHBOUR: 'it returns false'. Refute it at one input. -/
def fnExactCrcOfWrong : ChangeSpec := { name := "fnExactCrcOf", vars := ["loop.example/g00315/impl.crcTable"], fn := fun _ => fun
  | [d, g1] => { results := [.lit (.bool false)], args := [d], vars := [g1] }
  | _ => none }
def FnExactCrcOfWrongFalsely : Prop := fnExactCrcOfRow.holds Tryd.pinned (OpenSpec.ofChange fnExactCrcOfWrong)

/-- 'laws.FnExactWithCrc': WHATEVER THE INPUT: true; the input reads as it did. -/
def fnExactWithCrcSpec : ChangeSpec := { name := "fnExactWithCrc", vars := ["loop.example/g00315/impl.crcTable"], fn := fun _ => fun
  | [d, g1] => { results := [.lit (.bool true)], args := [d], vars := [g1] }
  | _ => none }
def fnExactWithCrcRow : OpenClaim := { program := "ytapojeehidhhnaqdoor", sum := "9f8d15dcac74ece2eb3bf5d8b1a366d72772b68cdcf3496113f90b3b7d905fa2", func := "loop.example/g00315/laws.FnExactWithCrc", spec := "fnExactWithCrc", named := ["loop.example/g00315/impl.crcTable"], apart := false, laid := [("loop.example/g00315/impl.crcTable", laid_loop_example_g00315_impl_crcTable)] }
def FnExactWithCrcSaid : Prop := fnExactWithCrcRow.holds Tryd.pinned (OpenSpec.ofChange fnExactWithCrcSpec)

/-- ITS FALSE NEIGHBOUR: 'it returns false'. Refute it at one input. -/
def fnExactWithCrcWrong : ChangeSpec := { name := "fnExactWithCrc", vars := ["loop.example/g00315/impl.crcTable"], fn := fun _ => fun
  | [d, g1] => { results := [.lit (.bool false)], args := [d], vars := [g1] }
  | _ => none }
def FnExactWithCrcWrongFalsely : Prop := fnExactWithCrcRow.holds Tryd.pinned (OpenSpec.ofChange fnExactWithCrcWrong)

/-- 'laws.FnExactCheckCrc': WHATEVER THE INPUT: true; the input reads as it did. -/
def fnExactCheckCrcSpec : ChangeSpec := { name := "fnExactCheckCrc", vars := ["loop.example/g00315/impl.crcTable"], fn := fun _ => fun
  | [d, g1] => { results := [.lit (.bool true)], args := [d], vars := [g1] }
  | _ => none }
def fnExactCheckCrcRow : OpenClaim := { program := "ytapojeehidhhnaqdoor", sum := "9f8d15dcac74ece2eb3bf5d8b1a366d72772b68cdcf3496113f90b3b7d905fa2", func := "loop.example/g00315/laws.FnExactCheckCrc", spec := "fnExactCheckCrc", named := ["loop.example/g00315/impl.crcTable"], apart := false, laid := [("loop.example/g00315/impl.crcTable", laid_loop_example_g00315_impl_crcTable)] }
def FnExactCheckCrcSaid : Prop := fnExactCheckCrcRow.holds Tryd.pinned (OpenSpec.ofChange fnExactCheckCrcSpec)

/-- ITS FALSE NEIGHBOUR: 'it returns false'. Refute it at one input. -/
def fnExactCheckCrcWrong : ChangeSpec := { name := "fnExactCheckCrc", vars := ["loop.example/g00315/impl.crcTable"], fn := fun _ => fun
  | [d, g1] => { results := [.lit (.bool false)], args := [d], vars := [g1] }
  | _ => none }
def FnExactCheckCrcWrongFalsely : Prop := fnExactCheckCrcRow.holds Tryd.pinned (OpenSpec.ofChange fnExactCheckCrcWrong)

/-- 'laws.FnExactCrcAdd': WHATEVER THE INPUT: true; the input reads as it did. -/
def fnExactCrcAddSpec : ChangeSpec := { name := "fnExactCrcAdd", vars := ["loop.example/g00315/impl.crcTable"], fn := fun _ => fun
  | [d1, d2, g1] => { results := [.lit (.bool true)], args := [d1, d2], vars := [g1] }
  | _ => none }
def fnExactCrcAddRow : OpenClaim := { program := "ytapojeehidhhnaqdoor", sum := "9f8d15dcac74ece2eb3bf5d8b1a366d72772b68cdcf3496113f90b3b7d905fa2", func := "loop.example/g00315/laws.FnExactCrcAdd", spec := "fnExactCrcAdd", named := ["loop.example/g00315/impl.crcTable"], apart := false, laid := [("loop.example/g00315/impl.crcTable", laid_loop_example_g00315_impl_crcTable)] }
def FnExactCrcAddSaid : Prop := fnExactCrcAddRow.holds Tryd.pinned (OpenSpec.ofChange fnExactCrcAddSpec)

/-- ITS FALSE NEIGHBOUR: 'it returns false'. Refute it at one input. -/
def fnExactCrcAddWrong : ChangeSpec := { name := "fnExactCrcAdd", vars := ["loop.example/g00315/impl.crcTable"], fn := fun _ => fun
  | [d1, d2, g1] => { results := [.lit (.bool false)], args := [d1, d2], vars := [g1] }
  | _ => none }
def FnExactCrcAddWrongFalsely : Prop := fnExactCrcAddRow.holds Tryd.pinned (OpenSpec.ofChange fnExactCrcAddWrong)

/- THE SECOND FORM. 'bulk': how many values and letters a reading holds, each counted each time it is reached (what is shared counts as often as it is met; a slice's spare places count too). A statement '..UptoSaid' is the law's where the arguments, and the package variables that the reading takes, are together of bulk at most 1048576: NARROWER than '..Said'. Prove '..Said' where nothing that the law and all that it calls make is longer than what came in: it says more and counts as full. Else prove '..UptoSaid'. A law counts once. -/
mutual
def uptoBulk {H : Type} : DataW H → Nat
  | .lit (.string bytes) => bytes.length + 1
  | .lit _ => 1
  | .nil => 1
  | .ptr d => uptoBulk d + 1
  | .slice elems spare => uptoBulkAll elems + uptoBulkAll spare + 1
  | .agg parts => uptoBulkAll parts + 1
  | .iface _ d => uptoBulk d + 1
  | .map entries => uptoBulkEntries entries + 1
  | .held _ => 1
def uptoBulkAll {H : Type} : List (DataW H) → Nat
  | [] => 0
  | d :: r => uptoBulk d + uptoBulkAll r
def uptoBulkEntries {H : Type} : List (Lit × DataW H) → Nat
  | [] => 0
  | x :: r => uptoBulkEntry x + uptoBulkEntries r
def uptoBulkEntry {H : Type} : Lit × DataW H → Nat
  | (.string bytes, d) => bytes.length + uptoBulk d + 1
  | (_, d) => uptoBulk d + 1
 end
def uptoSmall : (H : Type) → List (DataW H) → Bool := fun _ ds => decide (uptoBulkAll ds ≤ 1048576)
def OpenSpec.upto (s : _root_.Go.ChangeSpec) : _root_.Go.OpenSpec := { _root_.Go.OpenSpec.ofChange s with cond := some uptoSmall }

/-- 'laws.FnExactCrcOf', WHERE WHAT IT READS IS OF BULK AT MOST 1048576: true; the input reads as it did. -/
def fnExactCrcOfUptoRow : OpenClaim := { program := "ytapojeehidhhnaqdoor", sum := "9f8d15dcac74ece2eb3bf5d8b1a366d72772b68cdcf3496113f90b3b7d905fa2", func := "loop.example/g00315/laws.FnExactCrcOf", spec := "fnExactCrcOf", named := ["loop.example/g00315/impl.crcTable"], apart := false, laid := [("loop.example/g00315/impl.crcTable", laid_loop_example_g00315_impl_crcTable)], narrowed := true }
def FnExactCrcOfUptoSaid : Prop := fnExactCrcOfUptoRow.holds Tryd.pinned (OpenSpec.upto fnExactCrcOfSpec)

/-- 'laws.FnExactWithCrc', WHERE WHAT IT READS IS OF BULK AT MOST 1048576: true; the input reads as it did. -/
def fnExactWithCrcUptoRow : OpenClaim := { program := "ytapojeehidhhnaqdoor", sum := "9f8d15dcac74ece2eb3bf5d8b1a366d72772b68cdcf3496113f90b3b7d905fa2", func := "loop.example/g00315/laws.FnExactWithCrc", spec := "fnExactWithCrc", named := ["loop.example/g00315/impl.crcTable"], apart := false, laid := [("loop.example/g00315/impl.crcTable", laid_loop_example_g00315_impl_crcTable)], narrowed := true }
def FnExactWithCrcUptoSaid : Prop := fnExactWithCrcUptoRow.holds Tryd.pinned (OpenSpec.upto fnExactWithCrcSpec)

/-- 'laws.FnExactCheckCrc', WHERE WHAT IT READS IS OF BULK AT MOST 1048576: true; the input reads as it did. -/
def fnExactCheckCrcUptoRow : OpenClaim := { program := "ytapojeehidhhnaqdoor", sum := "9f8d15dcac74ece2eb3bf5d8b1a366d72772b68cdcf3496113f90b3b7d905fa2", func := "loop.example/g00315/laws.FnExactCheckCrc", spec := "fnExactCheckCrc", named := ["loop.example/g00315/impl.crcTable"], apart := false, laid := [("loop.example/g00315/impl.crcTable", laid_loop_example_g00315_impl_crcTable)], narrowed := true }
def FnExactCheckCrcUptoSaid : Prop := fnExactCheckCrcUptoRow.holds Tryd.pinned (OpenSpec.upto fnExactCheckCrcSpec)

/-- 'laws.FnExactCrcAdd', WHERE WHAT IT READS IS OF BULK AT MOST 1048576: true; the input reads as it did. -/
def fnExactCrcAddUptoRow : OpenClaim := { program := "ytapojeehidhhnaqdoor", sum := "9f8d15dcac74ece2eb3bf5d8b1a366d72772b68cdcf3496113f90b3b7d905fa2", func := "loop.example/g00315/laws.FnExactCrcAdd", spec := "fnExactCrcAdd", named := ["loop.example/g00315/impl.crcTable"], apart := false, laid := [("loop.example/g00315/impl.crcTable", laid_loop_example_g00315_impl_crcTable)], narrowed := true }
def FnExactCrcAddUptoSaid : Prop := fnExactCrcAddUptoRow.holds Tryd.pinned (OpenSpec.upto fnExactCrcAddSpec)

end Rows
end Go.Proofs.YtapojeehidhhnaqDoor
