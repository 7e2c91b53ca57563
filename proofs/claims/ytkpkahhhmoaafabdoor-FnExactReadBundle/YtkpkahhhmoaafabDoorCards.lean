/-
  DERIVED. GIVEN WITH THE SEED: THE CARDS: each row of YtkpkahhhmoaafabDoorRows.lean that lists a variable, with what it lists TIED to the program's text (the seventh form; the later family's looks); each row that meets fmt, with fmt's text TOLD by the authors' own Lean function (tested against real Go, not proved from fmt's source: count such statements apart). THE CARD IS WHAT COUNTS. Prove the row's statement (the work); the ties are given (YtkpkahhhmoaafabDoorTie.lean); close each card by the builder's one call (the guide's Derived/Test/ToyasCard.lean, 'card_holds'). Laid BY PROGRAM, IN A SANDBOX (cutbox-door.mjs). By AI agents, Wed Nov 11 2026. No macro, syntax, notation, axiom, sorry.
-/
import Derived.Test.YtkpkahhhmoaafabDoorRows
import GoSem.ClaimSeven
namespace Go.Proofs.YtkpkahhhmoaafabDoor
namespace Rows

/-- THE TIED CARD OF 'laws.FnExactBundleBytes'. -/
def fnExactBundleBytesCard : Claim7 := { stood := { row := fnExactBundleBytesRow, standIns := [], harness := (true, "4b51e018f4b59383cec41ef43b81aaa5a6c086257a150314f64a8a1135d9ce0e"), looks := true }, kinds := [], alts := [], laidByText := true, laidKinds := [.data], laidTests := true, laidLooks := .later }
def FnExactBundleBytesCardSaid : Prop := Claim7.holds Tryd.pinned (.plain (OpenSpec.ofChange fnExactBundleBytesSpec)) fnExactBundleBytesCard

/-- THE TIED CARD OF 'laws.FnExactReadBundle'. -/
def fnExactReadBundleCard : Claim7 := { stood := { row := fnExactReadBundleRow, standIns := [], harness := (true, "4b51e018f4b59383cec41ef43b81aaa5a6c086257a150314f64a8a1135d9ce0e"), looks := true }, kinds := [], alts := [], laidByText := true, laidKinds := [.data], laidTests := true, laidLooks := .later }
def FnExactReadBundleCardSaid : Prop := Claim7.holds Tryd.pinned (.plain (OpenSpec.ofChange fnExactReadBundleSpec)) fnExactReadBundleCard

/-- THE TIED CARD OF 'laws.FnExactIdOf'. -/
def fnExactIdOfCard : Claim7 := { stood := { row := fnExactIdOfRow, standIns := [], harness := (true, "4b51e018f4b59383cec41ef43b81aaa5a6c086257a150314f64a8a1135d9ce0e"), looks := true }, kinds := [], alts := [], laidByText := true, laidKinds := [.data, .data, .data], laidTests := true, laidLooks := .later }
def FnExactIdOfCardSaid : Prop := Claim7.holds Tryd.pinned (.plain (OpenSpec.ofChange fnExactIdOfSpec)) fnExactIdOfCard

/-- THE TIED CARD OF 'laws.FnExactSameBundle'. -/
def fnExactSameBundleCard : Claim7 := { stood := { row := fnExactSameBundleRow, standIns := [], harness := (true, "4b51e018f4b59383cec41ef43b81aaa5a6c086257a150314f64a8a1135d9ce0e"), looks := true }, kinds := [], alts := [], laidByText := true, laidKinds := [.data, .data, .data], laidTests := true, laidLooks := .later }
def FnExactSameBundleCardSaid : Prop := Claim7.holds Tryd.pinned (.plain (OpenSpec.ofChange fnExactSameBundleSpec)) fnExactSameBundleCard

/-- THE SECOND FORM's CARD OF 'laws.FnExactBundleBytes'. -/
def fnExactBundleBytesUptoCard : Claim7 := { stood := { row := fnExactBundleBytesUptoRow, standIns := [], harness := (true, "4b51e018f4b59383cec41ef43b81aaa5a6c086257a150314f64a8a1135d9ce0e"), looks := true }, kinds := [], alts := [], laidByText := true, laidKinds := [.data], laidTests := true, laidLooks := .later }
def FnExactBundleBytesUptoCardSaid : Prop := Claim7.holds Tryd.pinned (.plain (OpenSpec.upto fnExactBundleBytesSpec)) fnExactBundleBytesUptoCard

/-- THE SECOND FORM's CARD OF 'laws.FnExactReadBundle'. -/
def fnExactReadBundleUptoCard : Claim7 := { stood := { row := fnExactReadBundleUptoRow, standIns := [], harness := (true, "4b51e018f4b59383cec41ef43b81aaa5a6c086257a150314f64a8a1135d9ce0e"), looks := true }, kinds := [], alts := [], laidByText := true, laidKinds := [.data], laidTests := true, laidLooks := .later }
def FnExactReadBundleUptoCardSaid : Prop := Claim7.holds Tryd.pinned (.plain (OpenSpec.upto fnExactReadBundleSpec)) fnExactReadBundleUptoCard

/-- THE SECOND FORM's CARD OF 'laws.FnExactIdOf'. -/
def fnExactIdOfUptoCard : Claim7 := { stood := { row := fnExactIdOfUptoRow, standIns := [], harness := (true, "4b51e018f4b59383cec41ef43b81aaa5a6c086257a150314f64a8a1135d9ce0e"), looks := true }, kinds := [], alts := [], laidByText := true, laidKinds := [.data, .data, .data], laidTests := true, laidLooks := .later }
def FnExactIdOfUptoCardSaid : Prop := Claim7.holds Tryd.pinned (.plain (OpenSpec.upto fnExactIdOfSpec)) fnExactIdOfUptoCard

/-- THE SECOND FORM's CARD OF 'laws.FnExactSameBundle'. -/
def fnExactSameBundleUptoCard : Claim7 := { stood := { row := fnExactSameBundleUptoRow, standIns := [], harness := (true, "4b51e018f4b59383cec41ef43b81aaa5a6c086257a150314f64a8a1135d9ce0e"), looks := true }, kinds := [], alts := [], laidByText := true, laidKinds := [.data, .data, .data], laidTests := true, laidLooks := .later }
def FnExactSameBundleUptoCardSaid : Prop := Claim7.holds Tryd.pinned (.plain (OpenSpec.upto fnExactSameBundleSpec)) fnExactSameBundleUptoCard
end Rows
end Go.Proofs.YtkpkahhhmoaafabDoor
