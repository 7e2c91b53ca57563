/-
  DERIVED. GIVEN WITH THE SEED: THE CARDS: each row of YtcpfbgogfhlmjaaDoorRows.lean that lists a variable, with what it lists TIED to the program's text (the seventh form; the later family's looks); each row that meets fmt, with fmt's text TOLD by the authors' own Lean function (tested against real Go, not proved from fmt's source: count such statements apart). THE CARD IS WHAT COUNTS. Prove the row's statement (the work); the ties are given (YtcpfbgogfhlmjaaDoorTie.lean); close each card by the builder's one call (the guide's Derived/Test/ToyasCard.lean, 'card_holds'). Laid BY PROGRAM, IN A SANDBOX (cutbox-door.mjs). By AI agents, Wed Nov 11 2026. No macro, syntax, notation, axiom, sorry.
-/
import Derived.Test.YtcpfbgogfhlmjaaDoorRows
import GoSem.ClaimSeven
namespace Go.Proofs.YtcpfbgogfhlmjaaDoor
namespace Rows

/-- THE TIED CARD OF 'laws.FnBundles'. -/
def fnBundlesCard : Claim7 := { stood := { row := fnBundlesRow, standIns := [], harness := (true, "426a0c2949b977ed8a383a99da67fed5552e043571c1645bd90c89833abd8889"), looks := true }, kinds := [], alts := [], laidByText := true, laidKinds := [.data], laidTests := true, laidLooks := .later }
def FnBundlesCardSaid : Prop := Claim7.holds Tryd.pinned (.plain (OpenSpec.ofChange fnBundlesSpec)) fnBundlesCard

/-- THE TIED CARD OF 'laws.FnLives'. -/
def fnLivesCard : Claim7 := { stood := { row := fnLivesRow, standIns := [], harness := (true, "426a0c2949b977ed8a383a99da67fed5552e043571c1645bd90c89833abd8889"), looks := true }, kinds := [], alts := [], laidByText := true, laidKinds := [.data, .data, .data], laidTests := true, laidLooks := .later }
def FnLivesCardSaid : Prop := Claim7.holds Tryd.pinned (.plain (OpenSpec.ofChange fnLivesSpec)) fnLivesCard

/-- THE SECOND FORM's CARD OF 'laws.FnBundles'. -/
def fnBundlesUptoCard : Claim7 := { stood := { row := fnBundlesUptoRow, standIns := [], harness := (true, "426a0c2949b977ed8a383a99da67fed5552e043571c1645bd90c89833abd8889"), looks := true }, kinds := [], alts := [], laidByText := true, laidKinds := [.data], laidTests := true, laidLooks := .later }
def FnBundlesUptoCardSaid : Prop := Claim7.holds Tryd.pinned (.plain (OpenSpec.upto fnBundlesSpec)) fnBundlesUptoCard

/-- THE SECOND FORM's CARD OF 'laws.FnLives'. -/
def fnLivesUptoCard : Claim7 := { stood := { row := fnLivesUptoRow, standIns := [], harness := (true, "426a0c2949b977ed8a383a99da67fed5552e043571c1645bd90c89833abd8889"), looks := true }, kinds := [], alts := [], laidByText := true, laidKinds := [.data, .data, .data], laidTests := true, laidLooks := .later }
def FnLivesUptoCardSaid : Prop := Claim7.holds Tryd.pinned (.plain (OpenSpec.upto fnLivesSpec)) fnLivesUptoCard
end Rows
end Go.Proofs.YtcpfbgogfhlmjaaDoor
