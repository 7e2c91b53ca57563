/-
  DERIVED. GIVEN WITH THE SEED: THE CARDS: each row of YtapojeehidhhnaaDoorRows.lean that lists a variable, with what it lists TIED to the program's text (the seventh form; the later family's looks); each row that meets fmt, with fmt's text TOLD by the authors' own Lean function (tested against real Go, not proved from fmt's source: count such statements apart). THE CARD IS WHAT COUNTS. Prove the row's statement (the work); the ties are given (YtapojeehidhhnaaDoorTie.lean); close each card by the builder's one call (the guide's Derived/Test/ToyasCard.lean, 'card_holds'). Laid BY PROGRAM, IN A SANDBOX (cutbox-door.mjs). By AI agents, Wed Nov 11 2026. No macro, syntax, notation, axiom, sorry.
-/
import Derived.Test.YtapojeehidhhnaaDoorRows
import GoSem.ClaimSeven
namespace Go.Proofs.YtapojeehidhhnaaDoor
namespace Rows

/-- THE TIED CARD OF 'laws.FnCrc'. -/
def fnCrcCard : Claim7 := { stood := { row := fnCrcRow, standIns := [], harness := (true, "c00da3093caf622f66cebc87ed1ecfc8f66de1f44ce3ae4f54da645d6367d73c"), looks := false }, kinds := [], alts := [], laidByText := true, laidKinds := [.data], laidTests := true, laidLooks := .later }
def FnCrcCardSaid : Prop := Claim7.holds Tryd.pinned (.plain (OpenSpec.ofChange fnCrcSpec)) fnCrcCard

/-- THE SECOND FORM's CARD OF 'laws.FnCrc'. -/
def fnCrcUptoCard : Claim7 := { stood := { row := fnCrcUptoRow, standIns := [], harness := (true, "c00da3093caf622f66cebc87ed1ecfc8f66de1f44ce3ae4f54da645d6367d73c"), looks := false }, kinds := [], alts := [], laidByText := true, laidKinds := [.data], laidTests := true, laidLooks := .later }
def FnCrcUptoCardSaid : Prop := Claim7.holds Tryd.pinned (.plain (OpenSpec.upto fnCrcSpec)) fnCrcUptoCard
end Rows
end Go.Proofs.YtapojeehidhhnaaDoor
