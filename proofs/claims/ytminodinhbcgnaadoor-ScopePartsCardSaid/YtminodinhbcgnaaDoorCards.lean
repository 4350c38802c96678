/-
  DERIVED. GIVEN WITH THE SEED: THE CARDS: each row of YtminodinhbcgnaaDoorRows.lean that lists a variable, with what it lists TIED to the program's text (the seventh form; the later family's looks); each row that meets fmt, with fmt's text TOLD by the authors' own Lean function (tested against real Go, not proved from fmt's source: count such statements apart). THE CARD IS WHAT COUNTS. Prove the row's statement (the work); the ties are given (YtminodinhbcgnaaDoorTie.lean); close each card by the builder's one call (the guide's Derived/Test/ToyasCard.lean, 'card_holds'). Laid BY PROGRAM, IN A SANDBOX (cutbox-door.mjs). By AI agents, Wed Nov 11 2026. No macro, syntax, notation, axiom, sorry.
-/
import Derived.Test.YtminodinhbcgnaaDoorRows
import GoSem.ClaimSeven
namespace Go.Proofs.YtminodinhbcgnaaDoor
namespace Rows

/-- THE TIED CARD OF 'identitylaw29.ScopeChecks'. -/
def scopeChecksCard : Claim7 := { stood := { row := scopeChecksRow, standIns := [], harness := (true, "eda3e8b1b83028c9e17511856ff06d5847650219a4ee1ba2e525bb9a24a1e53c"), looks := false }, kinds := [], alts := [], laidByText := true, laidKinds := [.data, .pinned], laidTests := true, laidLooks := .later }
def ScopeChecksCardSaid : Prop := Claim7.holds Tryd.pinned (.plain (OpenSpec.ofChange scopeChecksSpec)) scopeChecksCard

/-- THE TIED CARD OF 'identitylaw29.ScopeSorts'. -/
def scopeSortsCard : Claim7 := { stood := { row := scopeSortsRow, standIns := [], harness := (true, "eda3e8b1b83028c9e17511856ff06d5847650219a4ee1ba2e525bb9a24a1e53c"), looks := false }, kinds := [], alts := [], laidByText := true, laidKinds := [.data, .pinned], laidTests := true, laidLooks := .later }
def ScopeSortsCardSaid : Prop := Claim7.holds Tryd.pinned (.plain (OpenSpec.ofChange scopeSortsSpec)) scopeSortsCard

/-- THE TIED CARD OF 'identitylaw29.ScopeCombines'. -/
def scopeCombinesCard : Claim7 := { stood := { row := scopeCombinesRow, standIns := [], harness := (true, "eda3e8b1b83028c9e17511856ff06d5847650219a4ee1ba2e525bb9a24a1e53c"), looks := false }, kinds := [], alts := [], laidByText := true, laidKinds := [.data, .pinned], laidTests := true, laidLooks := .later }
def ScopeCombinesCardSaid : Prop := Claim7.holds Tryd.pinned (.plain (OpenSpec.ofChange scopeCombinesSpec)) scopeCombinesCard

/-- THE TIED CARD OF 'identitylaw29.ScopeBack'. -/
def scopeBackCard : Claim7 := { stood := { row := scopeBackRow, standIns := [], harness := (true, "eda3e8b1b83028c9e17511856ff06d5847650219a4ee1ba2e525bb9a24a1e53c"), looks := false }, kinds := [], alts := [], laidByText := true, laidKinds := [.data, .pinned], laidTests := true, laidLooks := .later }
def ScopeBackCardSaid : Prop := Claim7.holds Tryd.pinned (.plain (OpenSpec.ofChange scopeBackSpec)) scopeBackCard

/-- THE TIED CARD OF 'identitylaw29.ScopeOrder'. -/
def scopeOrderCard : Claim7 := { stood := { row := scopeOrderRow, standIns := [], harness := (true, "eda3e8b1b83028c9e17511856ff06d5847650219a4ee1ba2e525bb9a24a1e53c"), looks := false }, kinds := [], alts := [], laidByText := true, laidKinds := [.data, .pinned], laidTests := true, laidLooks := .later }
def ScopeOrderCardSaid : Prop := Claim7.holds Tryd.pinned (.plain (OpenSpec.ofChange scopeOrderSpec)) scopeOrderCard

/-- THE TIED CARD OF 'identitylaw29.ScopeCovered'. -/
def scopeCoveredCard : Claim7 := { stood := { row := scopeCoveredRow, standIns := [], harness := (true, "eda3e8b1b83028c9e17511856ff06d5847650219a4ee1ba2e525bb9a24a1e53c"), looks := false }, kinds := [], alts := [], laidByText := true, laidKinds := [.data, .pinned], laidTests := true, laidLooks := .later }
def ScopeCoveredCardSaid : Prop := Claim7.holds Tryd.pinned (.plain (OpenSpec.ofChange scopeCoveredSpec)) scopeCoveredCard

/-- THE TIED CARD OF 'identitylaw29.ScopeParts'. -/
def scopePartsCard : Claim7 := { stood := { row := scopePartsRow, standIns := [], harness := (true, "eda3e8b1b83028c9e17511856ff06d5847650219a4ee1ba2e525bb9a24a1e53c"), looks := false }, kinds := [], alts := [], laidByText := true, laidKinds := [.data, .pinned], laidTests := true, laidLooks := .later }
def ScopePartsCardSaid : Prop := Claim7.holds Tryd.pinned (.plain (OpenSpec.ofChange scopePartsSpec)) scopePartsCard

/-- THE SECOND FORM's CARD OF 'identitylaw29.ScopeChecks'. -/
def scopeChecksUptoCard : Claim7 := { stood := { row := scopeChecksUptoRow, standIns := [], harness := (true, "eda3e8b1b83028c9e17511856ff06d5847650219a4ee1ba2e525bb9a24a1e53c"), looks := false }, kinds := [], alts := [], laidByText := true, laidKinds := [.data, .pinned], laidTests := true, laidLooks := .later }
def ScopeChecksUptoCardSaid : Prop := Claim7.holds Tryd.pinned (.plain (OpenSpec.upto scopeChecksSpec)) scopeChecksUptoCard

/-- THE SECOND FORM's CARD OF 'identitylaw29.ScopeSorts'. -/
def scopeSortsUptoCard : Claim7 := { stood := { row := scopeSortsUptoRow, standIns := [], harness := (true, "eda3e8b1b83028c9e17511856ff06d5847650219a4ee1ba2e525bb9a24a1e53c"), looks := false }, kinds := [], alts := [], laidByText := true, laidKinds := [.data, .pinned], laidTests := true, laidLooks := .later }
def ScopeSortsUptoCardSaid : Prop := Claim7.holds Tryd.pinned (.plain (OpenSpec.upto scopeSortsSpec)) scopeSortsUptoCard

/-- THE SECOND FORM's CARD OF 'identitylaw29.ScopeCombines'. -/
def scopeCombinesUptoCard : Claim7 := { stood := { row := scopeCombinesUptoRow, standIns := [], harness := (true, "eda3e8b1b83028c9e17511856ff06d5847650219a4ee1ba2e525bb9a24a1e53c"), looks := false }, kinds := [], alts := [], laidByText := true, laidKinds := [.data, .pinned], laidTests := true, laidLooks := .later }
def ScopeCombinesUptoCardSaid : Prop := Claim7.holds Tryd.pinned (.plain (OpenSpec.upto scopeCombinesSpec)) scopeCombinesUptoCard

/-- THE SECOND FORM's CARD OF 'identitylaw29.ScopeBack'. -/
def scopeBackUptoCard : Claim7 := { stood := { row := scopeBackUptoRow, standIns := [], harness := (true, "eda3e8b1b83028c9e17511856ff06d5847650219a4ee1ba2e525bb9a24a1e53c"), looks := false }, kinds := [], alts := [], laidByText := true, laidKinds := [.data, .pinned], laidTests := true, laidLooks := .later }
def ScopeBackUptoCardSaid : Prop := Claim7.holds Tryd.pinned (.plain (OpenSpec.upto scopeBackSpec)) scopeBackUptoCard

/-- THE SECOND FORM's CARD OF 'identitylaw29.ScopeOrder'. -/
def scopeOrderUptoCard : Claim7 := { stood := { row := scopeOrderUptoRow, standIns := [], harness := (true, "eda3e8b1b83028c9e17511856ff06d5847650219a4ee1ba2e525bb9a24a1e53c"), looks := false }, kinds := [], alts := [], laidByText := true, laidKinds := [.data, .pinned], laidTests := true, laidLooks := .later }
def ScopeOrderUptoCardSaid : Prop := Claim7.holds Tryd.pinned (.plain (OpenSpec.upto scopeOrderSpec)) scopeOrderUptoCard

/-- THE SECOND FORM's CARD OF 'identitylaw29.ScopeCovered'. -/
def scopeCoveredUptoCard : Claim7 := { stood := { row := scopeCoveredUptoRow, standIns := [], harness := (true, "eda3e8b1b83028c9e17511856ff06d5847650219a4ee1ba2e525bb9a24a1e53c"), looks := false }, kinds := [], alts := [], laidByText := true, laidKinds := [.data, .pinned], laidTests := true, laidLooks := .later }
def ScopeCoveredUptoCardSaid : Prop := Claim7.holds Tryd.pinned (.plain (OpenSpec.upto scopeCoveredSpec)) scopeCoveredUptoCard

/-- THE SECOND FORM's CARD OF 'identitylaw29.ScopeParts'. -/
def scopePartsUptoCard : Claim7 := { stood := { row := scopePartsUptoRow, standIns := [], harness := (true, "eda3e8b1b83028c9e17511856ff06d5847650219a4ee1ba2e525bb9a24a1e53c"), looks := false }, kinds := [], alts := [], laidByText := true, laidKinds := [.data, .pinned], laidTests := true, laidLooks := .later }
def ScopePartsUptoCardSaid : Prop := Claim7.holds Tryd.pinned (.plain (OpenSpec.upto scopePartsSpec)) scopePartsUptoCard
end Rows
end Go.Proofs.YtminodinhbcgnaaDoor
