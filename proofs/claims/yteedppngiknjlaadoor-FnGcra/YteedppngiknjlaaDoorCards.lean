/-
  DERIVED. GIVEN WITH THE SEED: THE CARDS: each row of YteedppngiknjlaaDoorRows.lean that lists a variable, with what it lists TIED to the program's text (the seventh form; the later family's looks); each row that meets fmt, with fmt's text TOLD by the authors' own Lean function (tested against real Go, not proved from fmt's source: count such statements apart). THE CARD IS WHAT COUNTS. Prove the row's statement (the work); the ties are given (YteedppngiknjlaaDoorTie.lean); close each card by the builder's one call (the guide's Derived/Test/ToyasCard.lean, 'card_holds'). Laid BY PROGRAM, IN A SANDBOX (cutbox-door.mjs). By AI agents, Wed Nov 11 2026. No macro, syntax, notation, axiom, sorry.
-/
import Derived.Test.YteedppngiknjlaaDoorRows
import GoSem.ClaimSeven
namespace Go.Proofs.YteedppngiknjlaaDoor
namespace Rows

/-- THE TIED CARD OF 'laws.FnGcra'. -/
def fnGcraCard : Claim7 := { stood := { row := fnGcraRow, standIns := [], harness := (true, "063b51dc6fed68a45703c20bab60658f650c7e0eaa69d46e4841e925329b9473"), looks := true }, kinds := [], alts := [], laidByText := true, laidKinds := [.handle, .sentinel, .sentinel], laidTests := true, laidLooks := .later }
def FnGcraCardSaid : Prop := Claim7.holds Tryd.pinned (.plain (OpenSpec.ofChange fnGcraSpec)) fnGcraCard

/-- THE TIED CARD OF 'laws.FnMost'. -/
def fnMostCard : Claim7 := { stood := { row := fnMostRow, standIns := [], harness := (true, "063b51dc6fed68a45703c20bab60658f650c7e0eaa69d46e4841e925329b9473"), looks := true }, kinds := [], alts := [], laidByText := true, laidKinds := [.handle, .sentinel], laidTests := true, laidLooks := .later }
def FnMostCardSaid : Prop := Claim7.holds Tryd.pinned (.plain (OpenSpec.ofChange fnMostSpec)) fnMostCard

/-- THE SECOND FORM's CARD OF 'laws.FnGcra'. -/
def fnGcraUptoCard : Claim7 := { stood := { row := fnGcraUptoRow, standIns := [], harness := (true, "063b51dc6fed68a45703c20bab60658f650c7e0eaa69d46e4841e925329b9473"), looks := true }, kinds := [], alts := [], laidByText := true, laidKinds := [.handle, .sentinel, .sentinel], laidTests := true, laidLooks := .later }
def FnGcraUptoCardSaid : Prop := Claim7.holds Tryd.pinned (.plain (OpenSpec.upto fnGcraSpec)) fnGcraUptoCard

/-- THE SECOND FORM's CARD OF 'laws.FnMost'. -/
def fnMostUptoCard : Claim7 := { stood := { row := fnMostUptoRow, standIns := [], harness := (true, "063b51dc6fed68a45703c20bab60658f650c7e0eaa69d46e4841e925329b9473"), looks := true }, kinds := [], alts := [], laidByText := true, laidKinds := [.handle, .sentinel], laidTests := true, laidLooks := .later }
def FnMostUptoCardSaid : Prop := Claim7.holds Tryd.pinned (.plain (OpenSpec.upto fnMostSpec)) fnMostUptoCard
end Rows
end Go.Proofs.YteedppngiknjlaaDoor
