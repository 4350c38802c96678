/-
  DERIVED. GIVEN WITH THE SEED: THE CARDS: each row of YtdjhhofmlefaaaaDoorRows.lean that lists a variable, with what it lists TIED to the program's text (the seventh form; the later family's looks); each row that meets fmt, with fmt's text TOLD by the authors' own Lean function (tested against real Go, not proved from fmt's source: count such statements apart). THE CARD IS WHAT COUNTS. Prove the row's statement (the work); the ties are given (YtdjhhofmlefaaaaDoorTie.lean); close each card by the builder's one call (the guide's Derived/Test/ToyasCard.lean, 'card_holds'). Laid BY PROGRAM, IN A SANDBOX (cutbox-door.mjs). By AI agents, Wed Nov 11 2026. No macro, syntax, notation, axiom, sorry.
-/
import Derived.Test.YtdjhhofmlefaaaaDoorRows
import GoSem.ClaimSeven
namespace Go.Proofs.YtdjhhofmlefaaaaDoor
namespace Rows

/-- THE TIED CARD OF 'identitylaw05.NameParses'. -/
def nameParsesCard : Claim7 := { stood := { row := nameParsesRow, standIns := [], harness := (true, "d1f4c705ed743232089efa0ecfc963c95000080756e7e4f9e89022c86c84ff06"), looks := false }, kinds := [], alts := [], laidByText := true, laidKinds := [.data, .pinned], laidTests := true, laidLooks := .later }
def NameParsesCardSaid : Prop := Claim7.holds Tryd.pinned (.plain (OpenSpec.ofChange nameParsesSpec)) nameParsesCard

/-- THE TIED CARD OF 'identitylaw05.NameFormats'. -/
def nameFormatsCard : Claim7 := { stood := { row := nameFormatsRow, standIns := [], harness := (true, "d1f4c705ed743232089efa0ecfc963c95000080756e7e4f9e89022c86c84ff06"), looks := false }, kinds := [], alts := [], laidByText := true, laidKinds := [.data, .pinned], laidTests := true, laidLooks := .later }
def NameFormatsCardSaid : Prop := Claim7.holds Tryd.pinned (.plain (OpenSpec.ofChange nameFormatsSpec)) nameFormatsCard

/-- THE TIED CARD OF 'identitylaw05.NameCleans'. -/
def nameCleansCard : Claim7 := { stood := { row := nameCleansRow, standIns := [], harness := (true, "d1f4c705ed743232089efa0ecfc963c95000080756e7e4f9e89022c86c84ff06"), looks := false }, kinds := [], alts := [], laidByText := true, laidKinds := [.data, .pinned], laidTests := true, laidLooks := .later }
def NameCleansCardSaid : Prop := Claim7.holds Tryd.pinned (.plain (OpenSpec.ofChange nameCleansSpec)) nameCleansCard

/-- THE TIED CARD OF 'identitylaw05.NameFamily'. -/
def nameFamilyCard : Claim7 := { stood := { row := nameFamilyRow, standIns := [], harness := (true, "d1f4c705ed743232089efa0ecfc963c95000080756e7e4f9e89022c86c84ff06"), looks := false }, kinds := [], alts := [], laidByText := true, laidKinds := [.data, .pinned], laidTests := true, laidLooks := .later }
def NameFamilyCardSaid : Prop := Claim7.holds Tryd.pinned (.plain (OpenSpec.ofChange nameFamilySpec)) nameFamilyCard

/-- THE TIED CARD OF 'identitylaw05.NameUnder'. -/
def nameUnderCard : Claim7 := { stood := { row := nameUnderRow, standIns := [], harness := (true, "d1f4c705ed743232089efa0ecfc963c95000080756e7e4f9e89022c86c84ff06"), looks := false }, kinds := [], alts := [], laidByText := true, laidKinds := [.data, .pinned], laidTests := true, laidLooks := .later }
def NameUnderCardSaid : Prop := Claim7.holds Tryd.pinned (.plain (OpenSpec.ofChange nameUnderSpec)) nameUnderCard

/-- THE TIED CARD OF 'identitylaw05.NameRebases'. -/
def nameRebasesCard : Claim7 := { stood := { row := nameRebasesRow, standIns := [], harness := (true, "d1f4c705ed743232089efa0ecfc963c95000080756e7e4f9e89022c86c84ff06"), looks := false }, kinds := [], alts := [], laidByText := true, laidKinds := [.data, .pinned], laidTests := true, laidLooks := .later }
def NameRebasesCardSaid : Prop := Claim7.holds Tryd.pinned (.plain (OpenSpec.ofChange nameRebasesSpec)) nameRebasesCard

/-- THE TIED CARD OF 'identitylaw05.NameOrders'. -/
def nameOrdersCard : Claim7 := { stood := { row := nameOrdersRow, standIns := [], harness := (true, "d1f4c705ed743232089efa0ecfc963c95000080756e7e4f9e89022c86c84ff06"), looks := false }, kinds := [], alts := [], laidByText := true, laidKinds := [.data, .pinned], laidTests := true, laidLooks := .later }
def NameOrdersCardSaid : Prop := Claim7.holds Tryd.pinned (.plain (OpenSpec.ofChange nameOrdersSpec)) nameOrdersCard

/-- THE TIED CARD OF 'identitylaw05.NameGroups'. -/
def nameGroupsCard : Claim7 := { stood := { row := nameGroupsRow, standIns := [], harness := (true, "d1f4c705ed743232089efa0ecfc963c95000080756e7e4f9e89022c86c84ff06"), looks := false }, kinds := [], alts := [], laidByText := true, laidKinds := [.data, .pinned], laidTests := true, laidLooks := .later }
def NameGroupsCardSaid : Prop := Claim7.holds Tryd.pinned (.plain (OpenSpec.ofChange nameGroupsSpec)) nameGroupsCard

/-- THE SECOND FORM's CARD OF 'identitylaw05.NameParses'. -/
def nameParsesUptoCard : Claim7 := { stood := { row := nameParsesUptoRow, standIns := [], harness := (true, "d1f4c705ed743232089efa0ecfc963c95000080756e7e4f9e89022c86c84ff06"), looks := false }, kinds := [], alts := [], laidByText := true, laidKinds := [.data, .pinned], laidTests := true, laidLooks := .later }
def NameParsesUptoCardSaid : Prop := Claim7.holds Tryd.pinned (.plain (OpenSpec.upto nameParsesSpec)) nameParsesUptoCard

/-- THE SECOND FORM's CARD OF 'identitylaw05.NameFormats'. -/
def nameFormatsUptoCard : Claim7 := { stood := { row := nameFormatsUptoRow, standIns := [], harness := (true, "d1f4c705ed743232089efa0ecfc963c95000080756e7e4f9e89022c86c84ff06"), looks := false }, kinds := [], alts := [], laidByText := true, laidKinds := [.data, .pinned], laidTests := true, laidLooks := .later }
def NameFormatsUptoCardSaid : Prop := Claim7.holds Tryd.pinned (.plain (OpenSpec.upto nameFormatsSpec)) nameFormatsUptoCard

/-- THE SECOND FORM's CARD OF 'identitylaw05.NameCleans'. -/
def nameCleansUptoCard : Claim7 := { stood := { row := nameCleansUptoRow, standIns := [], harness := (true, "d1f4c705ed743232089efa0ecfc963c95000080756e7e4f9e89022c86c84ff06"), looks := false }, kinds := [], alts := [], laidByText := true, laidKinds := [.data, .pinned], laidTests := true, laidLooks := .later }
def NameCleansUptoCardSaid : Prop := Claim7.holds Tryd.pinned (.plain (OpenSpec.upto nameCleansSpec)) nameCleansUptoCard

/-- THE SECOND FORM's CARD OF 'identitylaw05.NameFamily'. -/
def nameFamilyUptoCard : Claim7 := { stood := { row := nameFamilyUptoRow, standIns := [], harness := (true, "d1f4c705ed743232089efa0ecfc963c95000080756e7e4f9e89022c86c84ff06"), looks := false }, kinds := [], alts := [], laidByText := true, laidKinds := [.data, .pinned], laidTests := true, laidLooks := .later }
def NameFamilyUptoCardSaid : Prop := Claim7.holds Tryd.pinned (.plain (OpenSpec.upto nameFamilySpec)) nameFamilyUptoCard

/-- THE SECOND FORM's CARD OF 'identitylaw05.NameUnder'. -/
def nameUnderUptoCard : Claim7 := { stood := { row := nameUnderUptoRow, standIns := [], harness := (true, "d1f4c705ed743232089efa0ecfc963c95000080756e7e4f9e89022c86c84ff06"), looks := false }, kinds := [], alts := [], laidByText := true, laidKinds := [.data, .pinned], laidTests := true, laidLooks := .later }
def NameUnderUptoCardSaid : Prop := Claim7.holds Tryd.pinned (.plain (OpenSpec.upto nameUnderSpec)) nameUnderUptoCard

/-- THE SECOND FORM's CARD OF 'identitylaw05.NameRebases'. -/
def nameRebasesUptoCard : Claim7 := { stood := { row := nameRebasesUptoRow, standIns := [], harness := (true, "d1f4c705ed743232089efa0ecfc963c95000080756e7e4f9e89022c86c84ff06"), looks := false }, kinds := [], alts := [], laidByText := true, laidKinds := [.data, .pinned], laidTests := true, laidLooks := .later }
def NameRebasesUptoCardSaid : Prop := Claim7.holds Tryd.pinned (.plain (OpenSpec.upto nameRebasesSpec)) nameRebasesUptoCard

/-- THE SECOND FORM's CARD OF 'identitylaw05.NameOrders'. -/
def nameOrdersUptoCard : Claim7 := { stood := { row := nameOrdersUptoRow, standIns := [], harness := (true, "d1f4c705ed743232089efa0ecfc963c95000080756e7e4f9e89022c86c84ff06"), looks := false }, kinds := [], alts := [], laidByText := true, laidKinds := [.data, .pinned], laidTests := true, laidLooks := .later }
def NameOrdersUptoCardSaid : Prop := Claim7.holds Tryd.pinned (.plain (OpenSpec.upto nameOrdersSpec)) nameOrdersUptoCard

/-- THE SECOND FORM's CARD OF 'identitylaw05.NameGroups'. -/
def nameGroupsUptoCard : Claim7 := { stood := { row := nameGroupsUptoRow, standIns := [], harness := (true, "d1f4c705ed743232089efa0ecfc963c95000080756e7e4f9e89022c86c84ff06"), looks := false }, kinds := [], alts := [], laidByText := true, laidKinds := [.data, .pinned], laidTests := true, laidLooks := .later }
def NameGroupsUptoCardSaid : Prop := Claim7.holds Tryd.pinned (.plain (OpenSpec.upto nameGroupsSpec)) nameGroupsUptoCard
end Rows
end Go.Proofs.YtdjhhofmlefaaaaDoor
