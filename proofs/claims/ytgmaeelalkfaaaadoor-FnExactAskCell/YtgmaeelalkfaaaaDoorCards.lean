/-
  DERIVED. GIVEN WITH THE SEED: THE CARDS: each row of YtgmaeelalkfaaaaDoorRows.lean that lists a variable, with what it lists TIED to the program's text (the seventh form; the later family's looks); each row that meets fmt, with fmt's text TOLD by the authors' own Lean function (tested against real Go, not proved from fmt's source: count such statements apart). THE CARD IS WHAT COUNTS. Prove the row's statement (the work); the ties are given (YtgmaeelalkfaaaaDoorTie.lean); close each card by the builder's one call (the guide's Derived/Test/ToyasCard.lean, 'card_holds'). Laid BY PROGRAM, IN A SANDBOX (cutbox-door.mjs). By AI agents, Wed Nov 11 2026. No macro, syntax, notation, axiom, sorry.
-/
import Derived.Test.YtgmaeelalkfaaaaDoorRows
import GoSem.ClaimSeven
namespace Go.Proofs.YtgmaeelalkfaaaaDoor
namespace Rows

/-- THE TIED CARD OF 'laws.FnExactLevelAt'. -/
def fnExactLevelAtCard : Claim7 := { stood := { row := fnExactLevelAtRow, standIns := [], harness := (true, "0c5f99d702e7290dbccbfb5cba2a0c29075266aa3b85739bd45009dea0f78915"), looks := true }, kinds := [], alts := [], laidByText := true, laidKinds := [.sentinel], laidTests := true, laidLooks := .later }
def FnExactLevelAtCardSaid : Prop := Claim7.holds Tryd.pinned (.plain (OpenSpec.ofChange fnExactLevelAtSpec)) fnExactLevelAtCard

/-- THE TIED CARD OF 'laws.FnExactAskBucket'. -/
def fnExactAskBucketCard : Claim7 := { stood := { row := fnExactAskBucketRow, standIns := [], harness := (true, "0c5f99d702e7290dbccbfb5cba2a0c29075266aa3b85739bd45009dea0f78915"), looks := true }, kinds := [], alts := [], laidByText := true, laidKinds := [.handle, .sentinel], laidTests := true, laidLooks := .later }
def FnExactAskBucketCardSaid : Prop := Claim7.holds Tryd.pinned (.plain (OpenSpec.ofChange fnExactAskBucketSpec)) fnExactAskBucketCard

/-- THE TIED CARD OF 'laws.FnExactAskCell'. -/
def fnExactAskCellCard : Claim7 := { stood := { row := fnExactAskCellRow, standIns := [], harness := (true, "0c5f99d702e7290dbccbfb5cba2a0c29075266aa3b85739bd45009dea0f78915"), looks := true }, kinds := [], alts := [], laidByText := true, laidKinds := [.sentinel, .sentinel], laidTests := true, laidLooks := .later }
def FnExactAskCellCardSaid : Prop := Claim7.holds Tryd.pinned (.plain (OpenSpec.ofChange fnExactAskCellSpec)) fnExactAskCellCard

/-- THE TIED CARD OF 'laws.FnExactBothTell'. -/
def fnExactBothTellCard : Claim7 := { stood := { row := fnExactBothTellRow, standIns := [], harness := (true, "0c5f99d702e7290dbccbfb5cba2a0c29075266aa3b85739bd45009dea0f78915"), looks := true }, kinds := [], alts := [], laidByText := true, laidKinds := [.handle, .sentinel], laidTests := true, laidLooks := .later }
def FnExactBothTellCardSaid : Prop := Claim7.holds Tryd.pinned (.plain (OpenSpec.ofChange fnExactBothTellSpec)) fnExactBothTellCard

/-- THE SECOND FORM's CARD OF 'laws.FnExactLevelAt'. -/
def fnExactLevelAtUptoCard : Claim7 := { stood := { row := fnExactLevelAtUptoRow, standIns := [], harness := (true, "0c5f99d702e7290dbccbfb5cba2a0c29075266aa3b85739bd45009dea0f78915"), looks := true }, kinds := [], alts := [], laidByText := true, laidKinds := [.sentinel], laidTests := true, laidLooks := .later }
def FnExactLevelAtUptoCardSaid : Prop := Claim7.holds Tryd.pinned (.plain (OpenSpec.upto fnExactLevelAtSpec)) fnExactLevelAtUptoCard

/-- THE SECOND FORM's CARD OF 'laws.FnExactAskBucket'. -/
def fnExactAskBucketUptoCard : Claim7 := { stood := { row := fnExactAskBucketUptoRow, standIns := [], harness := (true, "0c5f99d702e7290dbccbfb5cba2a0c29075266aa3b85739bd45009dea0f78915"), looks := true }, kinds := [], alts := [], laidByText := true, laidKinds := [.handle, .sentinel], laidTests := true, laidLooks := .later }
def FnExactAskBucketUptoCardSaid : Prop := Claim7.holds Tryd.pinned (.plain (OpenSpec.upto fnExactAskBucketSpec)) fnExactAskBucketUptoCard

/-- THE SECOND FORM's CARD OF 'laws.FnExactAskCell'. -/
def fnExactAskCellUptoCard : Claim7 := { stood := { row := fnExactAskCellUptoRow, standIns := [], harness := (true, "0c5f99d702e7290dbccbfb5cba2a0c29075266aa3b85739bd45009dea0f78915"), looks := true }, kinds := [], alts := [], laidByText := true, laidKinds := [.sentinel, .sentinel], laidTests := true, laidLooks := .later }
def FnExactAskCellUptoCardSaid : Prop := Claim7.holds Tryd.pinned (.plain (OpenSpec.upto fnExactAskCellSpec)) fnExactAskCellUptoCard

/-- THE SECOND FORM's CARD OF 'laws.FnExactBothTell'. -/
def fnExactBothTellUptoCard : Claim7 := { stood := { row := fnExactBothTellUptoRow, standIns := [], harness := (true, "0c5f99d702e7290dbccbfb5cba2a0c29075266aa3b85739bd45009dea0f78915"), looks := true }, kinds := [], alts := [], laidByText := true, laidKinds := [.handle, .sentinel], laidTests := true, laidLooks := .later }
def FnExactBothTellUptoCardSaid : Prop := Claim7.holds Tryd.pinned (.plain (OpenSpec.upto fnExactBothTellSpec)) fnExactBothTellUptoCard
end Rows
end Go.Proofs.YtgmaeelalkfaaaaDoor
