/-
  DERIVED. GIVEN WITH THE SEED: THE CARDS: each row of YtcnhkoijphfibaaDoorRows.lean that lists a variable, with what it lists TIED to the program's text (the seventh form; the later family's looks); each row that meets fmt, with fmt's text TOLD by the authors' own Lean function (tested against real Go, not proved from fmt's source: count such statements apart). THE CARD IS WHAT COUNTS. Prove the row's statement (the work); the ties are given (YtcnhkoijphfibaaDoorTie.lean); close each card by the builder's one call (the guide's Derived/Test/ToyasCard.lean, 'card_holds'). Laid BY PROGRAM, IN A SANDBOX (cutbox-door.mjs). By AI agents, Wed Nov 11 2026. No macro, syntax, notation, axiom, sorry.
-/
import Derived.Test.YtcnhkoijphfibaaDoorRows
import GoSem.ClaimSeven
namespace Go.Proofs.YtcnhkoijphfibaaDoor
namespace Rows

/-- THE TIED CARD OF 'identitylaw15.CsnOrders'. -/
def csnOrdersCard : Claim7 := { stood := { row := csnOrdersRow, standIns := [], harness := (true, "9829f3ffb35da0903f811b74813917ace1b2cb381cdf365f409835dd6ab772ed"), looks := false }, kinds := [], alts := [], laidByText := true, laidKinds := [.data, .data, .data], laidTests := true, laidLooks := .later }
def CsnOrdersCardSaid : Prop := Claim7.holds Tryd.pinned (.plain (OpenSpec.ofChange csnOrdersSpec)) csnOrdersCard

/-- THE TIED CARD OF 'identitylaw15.CsnTexts'. -/
def csnTextsCard : Claim7 := { stood := { row := csnTextsRow, standIns := [], harness := (true, "9829f3ffb35da0903f811b74813917ace1b2cb381cdf365f409835dd6ab772ed"), looks := false }, kinds := [], alts := [], laidByText := true, laidKinds := [.data, .data, .data], laidTests := true, laidLooks := .later }
def CsnTextsCardSaid : Prop := Claim7.holds Tryd.pinned (.plain (OpenSpec.ofChange csnTextsSpec)) csnTextsCard

/-- THE TIED CARD OF 'identitylaw15.CsnNext'. -/
def csnNextCard : Claim7 := { stood := { row := csnNextRow, standIns := [], harness := (true, "9829f3ffb35da0903f811b74813917ace1b2cb381cdf365f409835dd6ab772ed"), looks := false }, kinds := [], alts := [], laidByText := true, laidKinds := [.data, .data, .data], laidTests := true, laidLooks := .later }
def CsnNextCardSaid : Prop := Claim7.holds Tryd.pinned (.plain (OpenSpec.ofChange csnNextSpec)) csnNextCard

/-- THE TIED CARD OF 'identitylaw15.CsnChain'. -/
def csnChainCard : Claim7 := { stood := { row := csnChainRow, standIns := [], harness := (true, "9829f3ffb35da0903f811b74813917ace1b2cb381cdf365f409835dd6ab772ed"), looks := false }, kinds := [], alts := [], laidByText := true, laidKinds := [.data, .data, .data], laidTests := true, laidLooks := .later }
def CsnChainCardSaid : Prop := Claim7.holds Tryd.pinned (.plain (OpenSpec.ofChange csnChainSpec)) csnChainCard

/-- THE TIED CARD OF 'identitylaw15.CsnChecks'. -/
def csnChecksCard : Claim7 := { stood := { row := csnChecksRow, standIns := [], harness := (true, "9829f3ffb35da0903f811b74813917ace1b2cb381cdf365f409835dd6ab772ed"), looks := false }, kinds := [], alts := [], laidByText := true, laidKinds := [.data, .data, .data], laidTests := true, laidLooks := .later }
def CsnChecksCardSaid : Prop := Claim7.holds Tryd.pinned (.plain (OpenSpec.ofChange csnChecksSpec)) csnChecksCard

/-- THE TIED CARD OF 'identitylaw15.CsnNotes'. -/
def csnNotesCard : Claim7 := { stood := { row := csnNotesRow, standIns := [], harness := (true, "9829f3ffb35da0903f811b74813917ace1b2cb381cdf365f409835dd6ab772ed"), looks := false }, kinds := [], alts := [], laidByText := true, laidKinds := [.data, .data, .data], laidTests := true, laidLooks := .later }
def CsnNotesCardSaid : Prop := Claim7.holds Tryd.pinned (.plain (OpenSpec.ofChange csnNotesSpec)) csnNotesCard

/-- THE TIED CARD OF 'identitylaw15.CsnJoins'. -/
def csnJoinsCard : Claim7 := { stood := { row := csnJoinsRow, standIns := [], harness := (true, "9829f3ffb35da0903f811b74813917ace1b2cb381cdf365f409835dd6ab772ed"), looks := false }, kinds := [], alts := [], laidByText := true, laidKinds := [.data, .data, .data], laidTests := true, laidLooks := .later }
def CsnJoinsCardSaid : Prop := Claim7.holds Tryd.pinned (.plain (OpenSpec.ofChange csnJoinsSpec)) csnJoinsCard

/-- THE TIED CARD OF 'identitylaw15.CsnLattice'. -/
def csnLatticeCard : Claim7 := { stood := { row := csnLatticeRow, standIns := [], harness := (true, "9829f3ffb35da0903f811b74813917ace1b2cb381cdf365f409835dd6ab772ed"), looks := false }, kinds := [], alts := [], laidByText := true, laidKinds := [.data, .data, .data], laidTests := true, laidLooks := .later }
def CsnLatticeCardSaid : Prop := Claim7.holds Tryd.pinned (.plain (OpenSpec.ofChange csnLatticeSpec)) csnLatticeCard

/-- THE SECOND FORM's CARD OF 'identitylaw15.CsnOrders'. -/
def csnOrdersUptoCard : Claim7 := { stood := { row := csnOrdersUptoRow, standIns := [], harness := (true, "9829f3ffb35da0903f811b74813917ace1b2cb381cdf365f409835dd6ab772ed"), looks := false }, kinds := [], alts := [], laidByText := true, laidKinds := [.data, .data, .data], laidTests := true, laidLooks := .later }
def CsnOrdersUptoCardSaid : Prop := Claim7.holds Tryd.pinned (.plain (OpenSpec.upto csnOrdersSpec)) csnOrdersUptoCard

/-- THE SECOND FORM's CARD OF 'identitylaw15.CsnTexts'. -/
def csnTextsUptoCard : Claim7 := { stood := { row := csnTextsUptoRow, standIns := [], harness := (true, "9829f3ffb35da0903f811b74813917ace1b2cb381cdf365f409835dd6ab772ed"), looks := false }, kinds := [], alts := [], laidByText := true, laidKinds := [.data, .data, .data], laidTests := true, laidLooks := .later }
def CsnTextsUptoCardSaid : Prop := Claim7.holds Tryd.pinned (.plain (OpenSpec.upto csnTextsSpec)) csnTextsUptoCard

/-- THE SECOND FORM's CARD OF 'identitylaw15.CsnNext'. -/
def csnNextUptoCard : Claim7 := { stood := { row := csnNextUptoRow, standIns := [], harness := (true, "9829f3ffb35da0903f811b74813917ace1b2cb381cdf365f409835dd6ab772ed"), looks := false }, kinds := [], alts := [], laidByText := true, laidKinds := [.data, .data, .data], laidTests := true, laidLooks := .later }
def CsnNextUptoCardSaid : Prop := Claim7.holds Tryd.pinned (.plain (OpenSpec.upto csnNextSpec)) csnNextUptoCard

/-- THE SECOND FORM's CARD OF 'identitylaw15.CsnChain'. -/
def csnChainUptoCard : Claim7 := { stood := { row := csnChainUptoRow, standIns := [], harness := (true, "9829f3ffb35da0903f811b74813917ace1b2cb381cdf365f409835dd6ab772ed"), looks := false }, kinds := [], alts := [], laidByText := true, laidKinds := [.data, .data, .data], laidTests := true, laidLooks := .later }
def CsnChainUptoCardSaid : Prop := Claim7.holds Tryd.pinned (.plain (OpenSpec.upto csnChainSpec)) csnChainUptoCard

/-- THE SECOND FORM's CARD OF 'identitylaw15.CsnChecks'. -/
def csnChecksUptoCard : Claim7 := { stood := { row := csnChecksUptoRow, standIns := [], harness := (true, "9829f3ffb35da0903f811b74813917ace1b2cb381cdf365f409835dd6ab772ed"), looks := false }, kinds := [], alts := [], laidByText := true, laidKinds := [.data, .data, .data], laidTests := true, laidLooks := .later }
def CsnChecksUptoCardSaid : Prop := Claim7.holds Tryd.pinned (.plain (OpenSpec.upto csnChecksSpec)) csnChecksUptoCard

/-- THE SECOND FORM's CARD OF 'identitylaw15.CsnNotes'. -/
def csnNotesUptoCard : Claim7 := { stood := { row := csnNotesUptoRow, standIns := [], harness := (true, "9829f3ffb35da0903f811b74813917ace1b2cb381cdf365f409835dd6ab772ed"), looks := false }, kinds := [], alts := [], laidByText := true, laidKinds := [.data, .data, .data], laidTests := true, laidLooks := .later }
def CsnNotesUptoCardSaid : Prop := Claim7.holds Tryd.pinned (.plain (OpenSpec.upto csnNotesSpec)) csnNotesUptoCard

/-- THE SECOND FORM's CARD OF 'identitylaw15.CsnJoins'. -/
def csnJoinsUptoCard : Claim7 := { stood := { row := csnJoinsUptoRow, standIns := [], harness := (true, "9829f3ffb35da0903f811b74813917ace1b2cb381cdf365f409835dd6ab772ed"), looks := false }, kinds := [], alts := [], laidByText := true, laidKinds := [.data, .data, .data], laidTests := true, laidLooks := .later }
def CsnJoinsUptoCardSaid : Prop := Claim7.holds Tryd.pinned (.plain (OpenSpec.upto csnJoinsSpec)) csnJoinsUptoCard

/-- THE SECOND FORM's CARD OF 'identitylaw15.CsnLattice'. -/
def csnLatticeUptoCard : Claim7 := { stood := { row := csnLatticeUptoRow, standIns := [], harness := (true, "9829f3ffb35da0903f811b74813917ace1b2cb381cdf365f409835dd6ab772ed"), looks := false }, kinds := [], alts := [], laidByText := true, laidKinds := [.data, .data, .data], laidTests := true, laidLooks := .later }
def CsnLatticeUptoCardSaid : Prop := Claim7.holds Tryd.pinned (.plain (OpenSpec.upto csnLatticeSpec)) csnLatticeUptoCard
end Rows
end Go.Proofs.YtcnhkoijphfibaaDoor
