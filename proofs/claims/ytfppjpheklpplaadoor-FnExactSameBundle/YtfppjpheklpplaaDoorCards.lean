/-
  DERIVED. GIVEN WITH THE SEED: THE CARDS: each row of YtfppjpheklpplaaDoorRows.lean that lists a variable, with what it lists TIED to the program's text (the seventh form; the later family's looks); each row that meets fmt, with fmt's text TOLD by the authors' own Lean function (tested against real Go, not proved from fmt's source: count such statements apart). THE CARD IS WHAT COUNTS. Prove the row's statement (the work); the ties are given (YtfppjpheklpplaaDoorTie.lean); close each card by the builder's one call (the guide's Derived/Test/ToyasCard.lean, 'card_holds'). Laid BY PROGRAM, IN A SANDBOX (cutbox-door.mjs). By AI agents, Wed Nov 11 2026. No macro, syntax, notation, axiom, sorry.
-/
import Derived.Test.YtfppjpheklpplaaDoorRows
import GoSem.ClaimSeven
namespace Go.Proofs.YtfppjpheklpplaaDoor
namespace Rows

/-- THE TIED CARD OF 'laws.FnExactSameBundle'. -/
def fnExactSameBundleCard : Claim7 := { stood := { row := fnExactSameBundleRow, standIns := [], harness := (true, "ead013c14cedc6dfc3f8611ca0e2a85c46b55ccb2e19c45a46856686f5b08abb"), looks := false }, kinds := [], alts := [], laidByText := true, laidKinds := [.data, .data, .data], laidTests := true, laidLooks := .later }
def FnExactSameBundleCardSaid : Prop := Claim7.holds Tryd.pinned (.plain (OpenSpec.ofChange fnExactSameBundleSpec)) fnExactSameBundleCard

/-- THE SECOND FORM's CARD OF 'laws.FnExactSameBundle'. -/
def fnExactSameBundleUptoCard : Claim7 := { stood := { row := fnExactSameBundleUptoRow, standIns := [], harness := (true, "ead013c14cedc6dfc3f8611ca0e2a85c46b55ccb2e19c45a46856686f5b08abb"), looks := false }, kinds := [], alts := [], laidByText := true, laidKinds := [.data, .data, .data], laidTests := true, laidLooks := .later }
def FnExactSameBundleUptoCardSaid : Prop := Claim7.holds Tryd.pinned (.plain (OpenSpec.upto fnExactSameBundleSpec)) fnExactSameBundleUptoCard
end Rows
end Go.Proofs.YtfppjpheklpplaaDoor
