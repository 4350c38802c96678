/-
  DERIVED. GIVEN WITH THE SEED: THE CARDS: each row of YtbogmmdmfbcbnaaDoorRows.lean that lists a variable, with what it lists TIED to the program's text (the seventh form; the later family's looks); each row that meets fmt, with fmt's text TOLD by the authors' own Lean function (tested against real Go, not proved from fmt's source: count such statements apart). THE CARD IS WHAT COUNTS. Prove the row's statement (the work); the ties are given (YtbogmmdmfbcbnaaDoorTie.lean); close each card by the builder's one call (the guide's Derived/Test/ToyasCard.lean, 'card_holds'). Laid BY PROGRAM, IN A SANDBOX (cutbox-door.mjs). By AI agents, Wed Nov 11 2026. No macro, syntax, notation, axiom, sorry.
-/
import Derived.Test.YtbogmmdmfbcbnaaDoorRows
import GoSem.ClaimSeven
namespace Go.Proofs.YtbogmmdmfbcbnaaDoor
namespace Rows

/-- THE TIED CARD OF 'identitylaw28.ProofChallenges'. -/
def proofChallengesCard : Claim7 := { stood := { row := proofChallengesRow, standIns := [], harness := (true, "d69dfe8d0c268351ad120318df494a0723376029e902c292316b8c28872e82ab"), looks := false }, kinds := [], alts := [], laidByText := true, laidKinds := [.data, .data, .data], laidTests := true, laidLooks := .later }
def ProofChallengesCardSaid : Prop := Claim7.holds Tryd.pinned (.plain (OpenSpec.ofChange proofChallengesSpec)) proofChallengesCard

/-- THE TIED CARD OF 'identitylaw28.ProofAccepts'. -/
def proofAcceptsCard : Claim7 := { stood := { row := proofAcceptsRow, standIns := [], harness := (true, "d69dfe8d0c268351ad120318df494a0723376029e902c292316b8c28872e82ab"), looks := false }, kinds := [], alts := [], laidByText := true, laidKinds := [.data, .data, .data], laidTests := true, laidLooks := .later }
def ProofAcceptsCardSaid : Prop := Claim7.holds Tryd.pinned (.plain (OpenSpec.ofChange proofAcceptsSpec)) proofAcceptsCard

/-- THE TIED CARD OF 'identitylaw28.ProofUnique'. -/
def proofUniqueCard : Claim7 := { stood := { row := proofUniqueRow, standIns := [], harness := (true, "d69dfe8d0c268351ad120318df494a0723376029e902c292316b8c28872e82ab"), looks := false }, kinds := [], alts := [], laidByText := true, laidKinds := [.data, .data, .data], laidTests := true, laidLooks := .later }
def ProofUniqueCardSaid : Prop := Claim7.holds Tryd.pinned (.plain (OpenSpec.ofChange proofUniqueSpec)) proofUniqueCard

/-- THE TIED CARD OF 'identitylaw28.ProofBinds'. -/
def proofBindsCard : Claim7 := { stood := { row := proofBindsRow, standIns := [], harness := (true, "d69dfe8d0c268351ad120318df494a0723376029e902c292316b8c28872e82ab"), looks := false }, kinds := [], alts := [], laidByText := true, laidKinds := [.data, .data, .data], laidTests := true, laidLooks := .later }
def ProofBindsCardSaid : Prop := Claim7.holds Tryd.pinned (.plain (OpenSpec.ofChange proofBindsSpec)) proofBindsCard

/-- THE TIED CARD OF 'identitylaw28.ProofSessions'. -/
def proofSessionsCard : Claim7 := { stood := { row := proofSessionsRow, standIns := [], harness := (true, "d69dfe8d0c268351ad120318df494a0723376029e902c292316b8c28872e82ab"), looks := false }, kinds := [], alts := [], laidByText := true, laidKinds := [.data, .data, .data], laidTests := true, laidLooks := .later }
def ProofSessionsCardSaid : Prop := Claim7.holds Tryd.pinned (.plain (OpenSpec.ofChange proofSessionsSpec)) proofSessionsCard

/-- THE TIED CARD OF 'identitylaw28.ProofSpoilt'. -/
def proofSpoiltCard : Claim7 := { stood := { row := proofSpoiltRow, standIns := [], harness := (true, "d69dfe8d0c268351ad120318df494a0723376029e902c292316b8c28872e82ab"), looks := false }, kinds := [], alts := [], laidByText := true, laidKinds := [.data, .data, .data], laidTests := true, laidLooks := .later }
def ProofSpoiltCardSaid : Prop := Claim7.holds Tryd.pinned (.plain (OpenSpec.ofChange proofSpoiltSpec)) proofSpoiltCard

/-- THE SECOND FORM's CARD OF 'identitylaw28.ProofChallenges'. -/
def proofChallengesUptoCard : Claim7 := { stood := { row := proofChallengesUptoRow, standIns := [], harness := (true, "d69dfe8d0c268351ad120318df494a0723376029e902c292316b8c28872e82ab"), looks := false }, kinds := [], alts := [], laidByText := true, laidKinds := [.data, .data, .data], laidTests := true, laidLooks := .later }
def ProofChallengesUptoCardSaid : Prop := Claim7.holds Tryd.pinned (.plain (OpenSpec.upto proofChallengesSpec)) proofChallengesUptoCard

/-- THE SECOND FORM's CARD OF 'identitylaw28.ProofAccepts'. -/
def proofAcceptsUptoCard : Claim7 := { stood := { row := proofAcceptsUptoRow, standIns := [], harness := (true, "d69dfe8d0c268351ad120318df494a0723376029e902c292316b8c28872e82ab"), looks := false }, kinds := [], alts := [], laidByText := true, laidKinds := [.data, .data, .data], laidTests := true, laidLooks := .later }
def ProofAcceptsUptoCardSaid : Prop := Claim7.holds Tryd.pinned (.plain (OpenSpec.upto proofAcceptsSpec)) proofAcceptsUptoCard

/-- THE SECOND FORM's CARD OF 'identitylaw28.ProofUnique'. -/
def proofUniqueUptoCard : Claim7 := { stood := { row := proofUniqueUptoRow, standIns := [], harness := (true, "d69dfe8d0c268351ad120318df494a0723376029e902c292316b8c28872e82ab"), looks := false }, kinds := [], alts := [], laidByText := true, laidKinds := [.data, .data, .data], laidTests := true, laidLooks := .later }
def ProofUniqueUptoCardSaid : Prop := Claim7.holds Tryd.pinned (.plain (OpenSpec.upto proofUniqueSpec)) proofUniqueUptoCard

/-- THE SECOND FORM's CARD OF 'identitylaw28.ProofBinds'. -/
def proofBindsUptoCard : Claim7 := { stood := { row := proofBindsUptoRow, standIns := [], harness := (true, "d69dfe8d0c268351ad120318df494a0723376029e902c292316b8c28872e82ab"), looks := false }, kinds := [], alts := [], laidByText := true, laidKinds := [.data, .data, .data], laidTests := true, laidLooks := .later }
def ProofBindsUptoCardSaid : Prop := Claim7.holds Tryd.pinned (.plain (OpenSpec.upto proofBindsSpec)) proofBindsUptoCard

/-- THE SECOND FORM's CARD OF 'identitylaw28.ProofSessions'. -/
def proofSessionsUptoCard : Claim7 := { stood := { row := proofSessionsUptoRow, standIns := [], harness := (true, "d69dfe8d0c268351ad120318df494a0723376029e902c292316b8c28872e82ab"), looks := false }, kinds := [], alts := [], laidByText := true, laidKinds := [.data, .data, .data], laidTests := true, laidLooks := .later }
def ProofSessionsUptoCardSaid : Prop := Claim7.holds Tryd.pinned (.plain (OpenSpec.upto proofSessionsSpec)) proofSessionsUptoCard

/-- THE SECOND FORM's CARD OF 'identitylaw28.ProofSpoilt'. -/
def proofSpoiltUptoCard : Claim7 := { stood := { row := proofSpoiltUptoRow, standIns := [], harness := (true, "d69dfe8d0c268351ad120318df494a0723376029e902c292316b8c28872e82ab"), looks := false }, kinds := [], alts := [], laidByText := true, laidKinds := [.data, .data, .data], laidTests := true, laidLooks := .later }
def ProofSpoiltUptoCardSaid : Prop := Claim7.holds Tryd.pinned (.plain (OpenSpec.upto proofSpoiltSpec)) proofSpoiltUptoCard
end Rows
end Go.Proofs.YtbogmmdmfbcbnaaDoor
