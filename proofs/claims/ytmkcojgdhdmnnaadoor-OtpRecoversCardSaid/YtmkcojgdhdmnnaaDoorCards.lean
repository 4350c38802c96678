/-
  DERIVED. GIVEN WITH THE SEED: THE CARDS: each row of YtmkcojgdhdmnnaaDoorRows.lean that lists a variable, with what it lists TIED to the program's text (the seventh form; the later family's looks); each row that meets fmt, with fmt's text TOLD by the authors' own Lean function (tested against real Go, not proved from fmt's source: count such statements apart). THE CARD IS WHAT COUNTS. Prove the row's statement (the work); the ties are given (YtmkcojgdhdmnnaaDoorTie.lean); close each card by the builder's one call (the guide's Derived/Test/ToyasCard.lean, 'card_holds'). Laid BY PROGRAM, IN A SANDBOX (cutbox-door.mjs). By AI agents, Wed Nov 11 2026. No macro, syntax, notation, axiom, sorry.
-/
import Derived.Test.YtmkcojgdhdmnnaaDoorRows
import GoSem.ClaimSeven
namespace Go.Proofs.YtmkcojgdhdmnnaaDoor
namespace Rows

/-- THE TIED CARD OF 'identitylaw23.OtpCodes'. -/
def otpCodesCard : Claim7 := { stood := { row := otpCodesRow, standIns := [], harness := (true, "98c995a201ce2227756f1aaddfefce762ef3dda78c4ce16b8d7d90f20047c927"), looks := false }, kinds := [], alts := [], laidByText := true, laidKinds := [.data, .data, .data], laidTests := true, laidLooks := .later }
def OtpCodesCardSaid : Prop := Claim7.holds Tryd.pinned (.plain (OpenSpec.ofChange otpCodesSpec)) otpCodesCard

/-- THE TIED CARD OF 'identitylaw23.OtpVerifies'. -/
def otpVerifiesCard : Claim7 := { stood := { row := otpVerifiesRow, standIns := [], harness := (true, "98c995a201ce2227756f1aaddfefce762ef3dda78c4ce16b8d7d90f20047c927"), looks := false }, kinds := [], alts := [], laidByText := true, laidKinds := [.data, .data, .data], laidTests := true, laidLooks := .later }
def OtpVerifiesCardSaid : Prop := Claim7.holds Tryd.pinned (.plain (OpenSpec.ofChange otpVerifiesSpec)) otpVerifiesCard

/-- THE TIED CARD OF 'identitylaw23.OtpRecovers'. -/
def otpRecoversCard : Claim7 := { stood := { row := otpRecoversRow, standIns := [], harness := (true, "98c995a201ce2227756f1aaddfefce762ef3dda78c4ce16b8d7d90f20047c927"), looks := false }, kinds := [], alts := [], laidByText := true, laidKinds := [.data, .data, .data], laidTests := true, laidLooks := .later }
def OtpRecoversCardSaid : Prop := Claim7.holds Tryd.pinned (.plain (OpenSpec.ofChange otpRecoversSpec)) otpRecoversCard

/-- THE TIED CARD OF 'identitylaw23.OtpOnce'. -/
def otpOnceCard : Claim7 := { stood := { row := otpOnceRow, standIns := [], harness := (true, "98c995a201ce2227756f1aaddfefce762ef3dda78c4ce16b8d7d90f20047c927"), looks := false }, kinds := [], alts := [], laidByText := true, laidKinds := [.data, .data, .data], laidTests := true, laidLooks := .later }
def OtpOnceCardSaid : Prop := Claim7.holds Tryd.pinned (.plain (OpenSpec.ofChange otpOnceSpec)) otpOnceCard

/-- THE TIED CARD OF 'identitylaw23.OtpWindows'. -/
def otpWindowsCard : Claim7 := { stood := { row := otpWindowsRow, standIns := [], harness := (true, "98c995a201ce2227756f1aaddfefce762ef3dda78c4ce16b8d7d90f20047c927"), looks := false }, kinds := [], alts := [], laidByText := true, laidKinds := [.data, .data, .data], laidTests := true, laidLooks := .later }
def OtpWindowsCardSaid : Prop := Claim7.holds Tryd.pinned (.plain (OpenSpec.ofChange otpWindowsSpec)) otpWindowsCard

/-- THE TIED CARD OF 'identitylaw23.OtpRedeems'. -/
def otpRedeemsCard : Claim7 := { stood := { row := otpRedeemsRow, standIns := [], harness := (true, "98c995a201ce2227756f1aaddfefce762ef3dda78c4ce16b8d7d90f20047c927"), looks := false }, kinds := [], alts := [], laidByText := true, laidKinds := [.data, .data, .data], laidTests := true, laidLooks := .later }
def OtpRedeemsCardSaid : Prop := Claim7.holds Tryd.pinned (.plain (OpenSpec.ofChange otpRedeemsSpec)) otpRedeemsCard

/-- THE SECOND FORM's CARD OF 'identitylaw23.OtpCodes'. -/
def otpCodesUptoCard : Claim7 := { stood := { row := otpCodesUptoRow, standIns := [], harness := (true, "98c995a201ce2227756f1aaddfefce762ef3dda78c4ce16b8d7d90f20047c927"), looks := false }, kinds := [], alts := [], laidByText := true, laidKinds := [.data, .data, .data], laidTests := true, laidLooks := .later }
def OtpCodesUptoCardSaid : Prop := Claim7.holds Tryd.pinned (.plain (OpenSpec.upto otpCodesSpec)) otpCodesUptoCard

/-- THE SECOND FORM's CARD OF 'identitylaw23.OtpVerifies'. -/
def otpVerifiesUptoCard : Claim7 := { stood := { row := otpVerifiesUptoRow, standIns := [], harness := (true, "98c995a201ce2227756f1aaddfefce762ef3dda78c4ce16b8d7d90f20047c927"), looks := false }, kinds := [], alts := [], laidByText := true, laidKinds := [.data, .data, .data], laidTests := true, laidLooks := .later }
def OtpVerifiesUptoCardSaid : Prop := Claim7.holds Tryd.pinned (.plain (OpenSpec.upto otpVerifiesSpec)) otpVerifiesUptoCard

/-- THE SECOND FORM's CARD OF 'identitylaw23.OtpRecovers'. -/
def otpRecoversUptoCard : Claim7 := { stood := { row := otpRecoversUptoRow, standIns := [], harness := (true, "98c995a201ce2227756f1aaddfefce762ef3dda78c4ce16b8d7d90f20047c927"), looks := false }, kinds := [], alts := [], laidByText := true, laidKinds := [.data, .data, .data], laidTests := true, laidLooks := .later }
def OtpRecoversUptoCardSaid : Prop := Claim7.holds Tryd.pinned (.plain (OpenSpec.upto otpRecoversSpec)) otpRecoversUptoCard

/-- THE SECOND FORM's CARD OF 'identitylaw23.OtpOnce'. -/
def otpOnceUptoCard : Claim7 := { stood := { row := otpOnceUptoRow, standIns := [], harness := (true, "98c995a201ce2227756f1aaddfefce762ef3dda78c4ce16b8d7d90f20047c927"), looks := false }, kinds := [], alts := [], laidByText := true, laidKinds := [.data, .data, .data], laidTests := true, laidLooks := .later }
def OtpOnceUptoCardSaid : Prop := Claim7.holds Tryd.pinned (.plain (OpenSpec.upto otpOnceSpec)) otpOnceUptoCard

/-- THE SECOND FORM's CARD OF 'identitylaw23.OtpWindows'. -/
def otpWindowsUptoCard : Claim7 := { stood := { row := otpWindowsUptoRow, standIns := [], harness := (true, "98c995a201ce2227756f1aaddfefce762ef3dda78c4ce16b8d7d90f20047c927"), looks := false }, kinds := [], alts := [], laidByText := true, laidKinds := [.data, .data, .data], laidTests := true, laidLooks := .later }
def OtpWindowsUptoCardSaid : Prop := Claim7.holds Tryd.pinned (.plain (OpenSpec.upto otpWindowsSpec)) otpWindowsUptoCard

/-- THE SECOND FORM's CARD OF 'identitylaw23.OtpRedeems'. -/
def otpRedeemsUptoCard : Claim7 := { stood := { row := otpRedeemsUptoRow, standIns := [], harness := (true, "98c995a201ce2227756f1aaddfefce762ef3dda78c4ce16b8d7d90f20047c927"), looks := false }, kinds := [], alts := [], laidByText := true, laidKinds := [.data, .data, .data], laidTests := true, laidLooks := .later }
def OtpRedeemsUptoCardSaid : Prop := Claim7.holds Tryd.pinned (.plain (OpenSpec.upto otpRedeemsSpec)) otpRedeemsUptoCard
end Rows
end Go.Proofs.YtmkcojgdhdmnnaaDoor
