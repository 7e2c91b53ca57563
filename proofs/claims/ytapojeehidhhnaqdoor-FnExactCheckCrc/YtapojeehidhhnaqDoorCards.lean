/-
  DERIVED. GIVEN WITH THE SEED: THE CARDS: each row of YtapojeehidhhnaqDoorRows.lean that lists a variable, with what it lists TIED to the program's text (the seventh form; the later family's looks); each row that meets fmt, with fmt's text TOLD by the authors' own Lean function (tested against real Go, not proved from fmt's source: count such statements apart). THE CARD IS WHAT COUNTS. Prove the row's statement (the work); the ties are given (YtapojeehidhhnaqDoorTie.lean); close each card by the builder's one call (the guide's Derived/Test/ToyasCard.lean, 'card_holds'). Laid BY PROGRAM, IN A SANDBOX (cutbox-door.mjs). By AI agents, Wed Nov 11 2026. No macro, syntax, notation, axiom, sorry.
-/
import Derived.Test.YtapojeehidhhnaqDoorRows
import GoSem.ClaimSeven
namespace Go.Proofs.YtapojeehidhhnaqDoor
namespace Rows

/-- THE TIED CARD OF 'laws.FnExactCrcOf'. -/
def fnExactCrcOfCard : Claim7 := { stood := { row := fnExactCrcOfRow, standIns := [], harness := (true, "80a27c7448904526750d9440ed3594d858dc6d8c9293b4416ea9e0e52dba289c"), looks := false }, kinds := [], alts := [], laidByText := true, laidKinds := [.data], laidTests := true, laidLooks := .later }
def FnExactCrcOfCardSaid : Prop := Claim7.holds Tryd.pinned (.plain (OpenSpec.ofChange fnExactCrcOfSpec)) fnExactCrcOfCard

/-- THE TIED CARD OF 'laws.FnExactWithCrc'. -/
def fnExactWithCrcCard : Claim7 := { stood := { row := fnExactWithCrcRow, standIns := [], harness := (true, "80a27c7448904526750d9440ed3594d858dc6d8c9293b4416ea9e0e52dba289c"), looks := false }, kinds := [], alts := [], laidByText := true, laidKinds := [.data], laidTests := true, laidLooks := .later }
def FnExactWithCrcCardSaid : Prop := Claim7.holds Tryd.pinned (.plain (OpenSpec.ofChange fnExactWithCrcSpec)) fnExactWithCrcCard

/-- THE TIED CARD OF 'laws.FnExactCheckCrc'. -/
def fnExactCheckCrcCard : Claim7 := { stood := { row := fnExactCheckCrcRow, standIns := [], harness := (true, "80a27c7448904526750d9440ed3594d858dc6d8c9293b4416ea9e0e52dba289c"), looks := false }, kinds := [], alts := [], laidByText := true, laidKinds := [.data], laidTests := true, laidLooks := .later }
def FnExactCheckCrcCardSaid : Prop := Claim7.holds Tryd.pinned (.plain (OpenSpec.ofChange fnExactCheckCrcSpec)) fnExactCheckCrcCard

/-- THE TIED CARD OF 'laws.FnExactCrcAdd'. -/
def fnExactCrcAddCard : Claim7 := { stood := { row := fnExactCrcAddRow, standIns := [], harness := (true, "80a27c7448904526750d9440ed3594d858dc6d8c9293b4416ea9e0e52dba289c"), looks := false }, kinds := [], alts := [], laidByText := true, laidKinds := [.data], laidTests := true, laidLooks := .later }
def FnExactCrcAddCardSaid : Prop := Claim7.holds Tryd.pinned (.plain (OpenSpec.ofChange fnExactCrcAddSpec)) fnExactCrcAddCard

/-- THE SECOND FORM's CARD OF 'laws.FnExactCrcOf'. -/
def fnExactCrcOfUptoCard : Claim7 := { stood := { row := fnExactCrcOfUptoRow, standIns := [], harness := (true, "80a27c7448904526750d9440ed3594d858dc6d8c9293b4416ea9e0e52dba289c"), looks := false }, kinds := [], alts := [], laidByText := true, laidKinds := [.data], laidTests := true, laidLooks := .later }
def FnExactCrcOfUptoCardSaid : Prop := Claim7.holds Tryd.pinned (.plain (OpenSpec.upto fnExactCrcOfSpec)) fnExactCrcOfUptoCard

/-- THE SECOND FORM's CARD OF 'laws.FnExactWithCrc'. -/
def fnExactWithCrcUptoCard : Claim7 := { stood := { row := fnExactWithCrcUptoRow, standIns := [], harness := (true, "80a27c7448904526750d9440ed3594d858dc6d8c9293b4416ea9e0e52dba289c"), looks := false }, kinds := [], alts := [], laidByText := true, laidKinds := [.data], laidTests := true, laidLooks := .later }
def FnExactWithCrcUptoCardSaid : Prop := Claim7.holds Tryd.pinned (.plain (OpenSpec.upto fnExactWithCrcSpec)) fnExactWithCrcUptoCard

/-- THE SECOND FORM's CARD OF 'laws.FnExactCheckCrc'. -/
def fnExactCheckCrcUptoCard : Claim7 := { stood := { row := fnExactCheckCrcUptoRow, standIns := [], harness := (true, "80a27c7448904526750d9440ed3594d858dc6d8c9293b4416ea9e0e52dba289c"), looks := false }, kinds := [], alts := [], laidByText := true, laidKinds := [.data], laidTests := true, laidLooks := .later }
def FnExactCheckCrcUptoCardSaid : Prop := Claim7.holds Tryd.pinned (.plain (OpenSpec.upto fnExactCheckCrcSpec)) fnExactCheckCrcUptoCard

/-- THE SECOND FORM's CARD OF 'laws.FnExactCrcAdd'. -/
def fnExactCrcAddUptoCard : Claim7 := { stood := { row := fnExactCrcAddUptoRow, standIns := [], harness := (true, "80a27c7448904526750d9440ed3594d858dc6d8c9293b4416ea9e0e52dba289c"), looks := false }, kinds := [], alts := [], laidByText := true, laidKinds := [.data], laidTests := true, laidLooks := .later }
def FnExactCrcAddUptoCardSaid : Prop := Claim7.holds Tryd.pinned (.plain (OpenSpec.upto fnExactCrcAddSpec)) fnExactCrcAddUptoCard
end Rows
end Go.Proofs.YtapojeehidhhnaqDoor
