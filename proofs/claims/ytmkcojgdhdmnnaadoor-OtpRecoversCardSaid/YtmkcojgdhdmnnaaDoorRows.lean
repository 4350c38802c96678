/-
  NARROWER THAN 'FOR EVERY INPUT', by the rows' own cells (each row's printed sentence says how): OtpCodes: laid · OtpVerifies: laid · OtpRecovers: laid · OtpOnce: laid · OtpWindows: laid · OtpRedeems: laid.
  DERIVED. THE GIVEN ROWS OF THIS SEAT. 6 by the template 'for every input the law returns true; each argument reads behind the call as it read before'; 0 by the template 'total and deterministic' (their statements: YtmkcojgdhdmnnaaDoorTotals.lean).
  GIVEN WITH THE SEED: the statements are not yours to turn. If you find one false, say at which input.
  Laid BY PROGRAM, IN A SANDBOX (cutbox-rows.mjs): the forced cells as the released guide's own fill.sh prints them over the translation 3d05aa14a65dbc54… (all of the seat's roots in one cut). By AI agents, Wed Nov 11 2026. No macro, syntax, notation, axiom, sorry.
-/
import Derived.Test.YtmkcojgdhdmnnaaDoorChecked
import GoSem.Claim
import GoSem.ClaimJoined
import GoSem.ClaimMapViews
import Derived.JoinedTies
import Derived.KernelRfl
namespace Go.Proofs.YtmkcojgdhdmnnaaDoor
/- THE CELL 'sum', in the pinned program and in every row, IS THE sha256 OF THE DUMP (.gsa) THAT YtmkcojgdhdmnnaaDoorProg.lean LOADS. Nothing in Lean hashes anything: it is a label: what it is worth is what the hold of that sum in a sandbox is worth. -/
noncomputable def Tryd.pinned : Pinned := { name := "ytmkcojgdhdmnnaadoor", sum := "3d05aa14a65dbc54b59207cc698209ea0adf58eb337fc6e33ec4999fe2b58192", checked := Tryd.checked }
namespace Rows
def none {H : Type} : Left H := { results := [], args := [] }

/- WHAT THE LISTED PACKAGE-LEVEL VARIABLES READ AS WHEN THE CALL BEGINS. Each datum BY PROGRAM (the guide's laid-datum.mjs) off the statement by which the dump's own 'gosem.cut.vars' lays the variable. In a bare row this is a premise. The card (YtmkcojgdhdmnnaaDoorCards.lean) ties it to the program's text. -/
def laid_math_bits_deBruijn32tab {H : Type} : DataW H := .agg [.lit (.int .u8 0), .lit (.int .u8 1), .lit (.int .u8 28), .lit (.int .u8 2), .lit (.int .u8 29), .lit (.int .u8 14), .lit (.int .u8 24), .lit (.int .u8 3), .lit (.int .u8 30), .lit (.int .u8 22), .lit (.int .u8 20), .lit (.int .u8 15), .lit (.int .u8 25), .lit (.int .u8 17), .lit (.int .u8 4), .lit (.int .u8 8), .lit (.int .u8 31), .lit (.int .u8 27), .lit (.int .u8 13), .lit (.int .u8 23), .lit (.int .u8 21), .lit (.int .u8 19), .lit (.int .u8 16), .lit (.int .u8 7), .lit (.int .u8 26), .lit (.int .u8 12), .lit (.int .u8 18), .lit (.int .u8 6), .lit (.int .u8 11), .lit (.int .u8 5), .lit (.int .u8 10), .lit (.int .u8 9)]
def laid_math_bits_deBruijn64tab {H : Type} : DataW H := .agg [.lit (.int .u8 0), .lit (.int .u8 1), .lit (.int .u8 56), .lit (.int .u8 2), .lit (.int .u8 57), .lit (.int .u8 49), .lit (.int .u8 28), .lit (.int .u8 3), .lit (.int .u8 61), .lit (.int .u8 58), .lit (.int .u8 42), .lit (.int .u8 50), .lit (.int .u8 38), .lit (.int .u8 29), .lit (.int .u8 17), .lit (.int .u8 4), .lit (.int .u8 62), .lit (.int .u8 47), .lit (.int .u8 59), .lit (.int .u8 36), .lit (.int .u8 45), .lit (.int .u8 43), .lit (.int .u8 51), .lit (.int .u8 22), .lit (.int .u8 53), .lit (.int .u8 39), .lit (.int .u8 33), .lit (.int .u8 30), .lit (.int .u8 24), .lit (.int .u8 18), .lit (.int .u8 12), .lit (.int .u8 5), .lit (.int .u8 63), .lit (.int .u8 55), .lit (.int .u8 48), .lit (.int .u8 27), .lit (.int .u8 60), .lit (.int .u8 41), .lit (.int .u8 37), .lit (.int .u8 16), .lit (.int .u8 46), .lit (.int .u8 35), .lit (.int .u8 44), .lit (.int .u8 21), .lit (.int .u8 52), .lit (.int .u8 32), .lit (.int .u8 23), .lit (.int .u8 11), .lit (.int .u8 54), .lit (.int .u8 26), .lit (.int .u8 40), .lit (.int .u8 15), .lit (.int .u8 34), .lit (.int .u8 20), .lit (.int .u8 31), .lit (.int .u8 10), .lit (.int .u8 25), .lit (.int .u8 14), .lit (.int .u8 19), .lit (.int .u8 9), .lit (.int .u8 13), .lit (.int .u8 8), .lit (.int .u8 7), .lit (.int .u8 6)]
def laid_internal_strconv_uint64pow10 {H : Type} : DataW H := .agg [.lit (.int .u64 1), .lit (.int .u64 10), .lit (.int .u64 100), .lit (.int .u64 1000), .lit (.int .u64 10000), .lit (.int .u64 100000), .lit (.int .u64 1000000), .lit (.int .u64 10000000), .lit (.int .u64 100000000), .lit (.int .u64 1000000000), .lit (.int .u64 10000000000), .lit (.int .u64 100000000000), .lit (.int .u64 1000000000000), .lit (.int .u64 10000000000000), .lit (.int .u64 100000000000000), .lit (.int .u64 1000000000000000), .lit (.int .u64 10000000000000000), .lit (.int .u64 100000000000000000), .lit (.int .u64 1000000000000000000), .lit (.int .u64 10000000000000000000)]

/-- 'identitylaw23.OtpCodes': WHATEVER THE INPUT: true; the input reads as it did. -/
def otpCodesSpec : ChangeSpec := { name := "otpCodes", fn := fun _ => fun
  | [d1, d2] => { results := [.lit (.bool true)], args := [d1, d2] }
  | _ => none }
def otpCodesRow : OpenClaim := { program := "ytmkcojgdhdmnnaadoor", sum := "3d05aa14a65dbc54b59207cc698209ea0adf58eb337fc6e33ec4999fe2b58192", func := "identity/identitylaw23.OtpCodes", spec := "otpCodes", inPlace := ["internal/abi.NoEscape", "internal/bytealg.MakeNoZero"], unfollowed := true, recurses := true, named := ["internal/strconv.uint64pow10", "math/bits.deBruijn32tab", "math/bits.deBruijn64tab"], apart := false, laid := [("math/bits.deBruijn32tab", laid_math_bits_deBruijn32tab), ("math/bits.deBruijn64tab", laid_math_bits_deBruijn64tab), ("internal/strconv.uint64pow10", laid_internal_strconv_uint64pow10)] }
def OtpCodesSaid : Prop := otpCodesRow.holds Tryd.pinned (OpenSpec.ofChange otpCodesSpec)

/-- ITS FALSE NEIGHBOUR: 'it returns false'. Refute it at one input. -/
def otpCodesWrong : ChangeSpec := { name := "otpCodes", fn := fun _ => fun
  | [d1, d2] => { results := [.lit (.bool false)], args := [d1, d2] }
  | _ => none }
def OtpCodesWrongFalsely : Prop := otpCodesRow.holds Tryd.pinned (OpenSpec.ofChange otpCodesWrong)

/-- 'identitylaw23.OtpVerifies': WHATEVER THE INPUT: true; the input reads as it did. -/
def otpVerifiesSpec : ChangeSpec := { name := "otpVerifies", fn := fun _ => fun
  | [d] => { results := [.lit (.bool true)], args := [d] }
  | _ => none }
def otpVerifiesRow : OpenClaim := { program := "ytmkcojgdhdmnnaadoor", sum := "3d05aa14a65dbc54b59207cc698209ea0adf58eb337fc6e33ec4999fe2b58192", func := "identity/identitylaw23.OtpVerifies", spec := "otpVerifies", inPlace := ["internal/abi.NoEscape", "internal/bytealg.MakeNoZero"], unfollowed := true, recurses := true, named := ["internal/strconv.uint64pow10", "math/bits.deBruijn32tab", "math/bits.deBruijn64tab"], apart := false, laid := [("math/bits.deBruijn32tab", laid_math_bits_deBruijn32tab), ("math/bits.deBruijn64tab", laid_math_bits_deBruijn64tab), ("internal/strconv.uint64pow10", laid_internal_strconv_uint64pow10)] }
def OtpVerifiesSaid : Prop := otpVerifiesRow.holds Tryd.pinned (OpenSpec.ofChange otpVerifiesSpec)

/-- ITS FALSE NEIGHBOUR: 'it returns false'. Refute it at one input. -/
def otpVerifiesWrong : ChangeSpec := { name := "otpVerifies", fn := fun _ => fun
  | [d] => { results := [.lit (.bool false)], args := [d] }
  | _ => none }
def OtpVerifiesWrongFalsely : Prop := otpVerifiesRow.holds Tryd.pinned (OpenSpec.ofChange otpVerifiesWrong)

/-- 'identitylaw23.OtpRecovers': WHATEVER THE INPUT: true; the input reads as it did. -/
def otpRecoversSpec : ChangeSpec := { name := "otpRecovers", fn := fun _ => fun
  | [d1, d2, d3] => { results := [.lit (.bool true)], args := [d1, d2, d3] }
  | _ => none }
def otpRecoversRow : OpenClaim := { program := "ytmkcojgdhdmnnaadoor", sum := "3d05aa14a65dbc54b59207cc698209ea0adf58eb337fc6e33ec4999fe2b58192", func := "identity/identitylaw23.OtpRecovers", spec := "otpRecovers", inPlace := ["internal/abi.NoEscape", "internal/bytealg.MakeNoZero"], unfollowed := true, recurses := true, named := ["internal/strconv.uint64pow10", "math/bits.deBruijn32tab", "math/bits.deBruijn64tab"], apart := false, laid := [("math/bits.deBruijn32tab", laid_math_bits_deBruijn32tab), ("math/bits.deBruijn64tab", laid_math_bits_deBruijn64tab), ("internal/strconv.uint64pow10", laid_internal_strconv_uint64pow10)] }
def OtpRecoversSaid : Prop := otpRecoversRow.holds Tryd.pinned (OpenSpec.ofChange otpRecoversSpec)

/-- ITS FALSE NEIGHBOUR: 'it returns false'. Refute it at one input. -/
def otpRecoversWrong : ChangeSpec := { name := "otpRecovers", fn := fun _ => fun
  | [d1, d2, d3] => { results := [.lit (.bool false)], args := [d1, d2, d3] }
  | _ => none }
def OtpRecoversWrongFalsely : Prop := otpRecoversRow.holds Tryd.pinned (OpenSpec.ofChange otpRecoversWrong)

/-- 'identitylaw23.OtpOnce': WHATEVER THE INPUT: true; the input reads as it did. -/
def otpOnceSpec : ChangeSpec := { name := "otpOnce", fn := fun _ => fun
  | [d] => { results := [.lit (.bool true)], args := [d] }
  | _ => none }
def otpOnceRow : OpenClaim := { program := "ytmkcojgdhdmnnaadoor", sum := "3d05aa14a65dbc54b59207cc698209ea0adf58eb337fc6e33ec4999fe2b58192", func := "identity/identitylaw23.OtpOnce", spec := "otpOnce", inPlace := ["internal/abi.NoEscape", "internal/bytealg.MakeNoZero"], unfollowed := true, recurses := true, named := ["internal/strconv.uint64pow10", "math/bits.deBruijn32tab", "math/bits.deBruijn64tab"], apart := false, laid := [("math/bits.deBruijn32tab", laid_math_bits_deBruijn32tab), ("math/bits.deBruijn64tab", laid_math_bits_deBruijn64tab), ("internal/strconv.uint64pow10", laid_internal_strconv_uint64pow10)] }
def OtpOnceSaid : Prop := otpOnceRow.holds Tryd.pinned (OpenSpec.ofChange otpOnceSpec)

/-- ITS FALSE NEIGHBOUR: 'it returns false'. Refute it at one input. -/
def otpOnceWrong : ChangeSpec := { name := "otpOnce", fn := fun _ => fun
  | [d] => { results := [.lit (.bool false)], args := [d] }
  | _ => none }
def OtpOnceWrongFalsely : Prop := otpOnceRow.holds Tryd.pinned (OpenSpec.ofChange otpOnceWrong)

/-- 'identitylaw23.OtpWindows': WHATEVER THE INPUT: true; the input reads as it did. -/
def otpWindowsSpec : ChangeSpec := { name := "otpWindows", fn := fun _ => fun
  | [d] => { results := [.lit (.bool true)], args := [d] }
  | _ => none }
def otpWindowsRow : OpenClaim := { program := "ytmkcojgdhdmnnaadoor", sum := "3d05aa14a65dbc54b59207cc698209ea0adf58eb337fc6e33ec4999fe2b58192", func := "identity/identitylaw23.OtpWindows", spec := "otpWindows", inPlace := ["internal/abi.NoEscape", "internal/bytealg.MakeNoZero"], unfollowed := true, recurses := true, named := ["internal/strconv.uint64pow10", "math/bits.deBruijn32tab", "math/bits.deBruijn64tab"], apart := false, laid := [("math/bits.deBruijn32tab", laid_math_bits_deBruijn32tab), ("math/bits.deBruijn64tab", laid_math_bits_deBruijn64tab), ("internal/strconv.uint64pow10", laid_internal_strconv_uint64pow10)] }
def OtpWindowsSaid : Prop := otpWindowsRow.holds Tryd.pinned (OpenSpec.ofChange otpWindowsSpec)

/-- ITS FALSE NEIGHBOUR: 'it returns false'. Refute it at one input. -/
def otpWindowsWrong : ChangeSpec := { name := "otpWindows", fn := fun _ => fun
  | [d] => { results := [.lit (.bool false)], args := [d] }
  | _ => none }
def OtpWindowsWrongFalsely : Prop := otpWindowsRow.holds Tryd.pinned (OpenSpec.ofChange otpWindowsWrong)

/-- 'identitylaw23.OtpRedeems': WHATEVER THE INPUT: true; the input reads as it did. -/
def otpRedeemsSpec : ChangeSpec := { name := "otpRedeems", fn := fun _ => fun
  | [d1, d2, d3] => { results := [.lit (.bool true)], args := [d1, d2, d3] }
  | _ => none }
def otpRedeemsRow : OpenClaim := { program := "ytmkcojgdhdmnnaadoor", sum := "3d05aa14a65dbc54b59207cc698209ea0adf58eb337fc6e33ec4999fe2b58192", func := "identity/identitylaw23.OtpRedeems", spec := "otpRedeems", inPlace := ["internal/abi.NoEscape", "internal/bytealg.MakeNoZero"], unfollowed := true, recurses := true, named := ["internal/strconv.uint64pow10", "math/bits.deBruijn32tab", "math/bits.deBruijn64tab"], apart := false, laid := [("math/bits.deBruijn32tab", laid_math_bits_deBruijn32tab), ("math/bits.deBruijn64tab", laid_math_bits_deBruijn64tab), ("internal/strconv.uint64pow10", laid_internal_strconv_uint64pow10)] }
def OtpRedeemsSaid : Prop := otpRedeemsRow.holds Tryd.pinned (OpenSpec.ofChange otpRedeemsSpec)

/-- ITS FALSE NEIGHBOUR: 'it returns false'. Refute it at one input. -/
def otpRedeemsWrong : ChangeSpec := { name := "otpRedeems", fn := fun _ => fun
  | [d1, d2, d3] => { results := [.lit (.bool false)], args := [d1, d2, d3] }
  | _ => none }
def OtpRedeemsWrongFalsely : Prop := otpRedeemsRow.holds Tryd.pinned (OpenSpec.ofChange otpRedeemsWrong)

/- THE SECOND FORM. 'bulk': how many values and letters a reading holds, each counted each time it is reached (what is shared counts as often as it is met; a slice's spare places count too). A statement '..UptoSaid' is the law's where the arguments, and the package variables that the reading takes, are together of bulk at most 1048576: NARROWER than '..Said'. Prove '..Said' where nothing that the law and all that it calls make is longer than what came in: it says more and counts as full. Else prove '..UptoSaid'. A law counts once. -/
mutual
def uptoBulk {H : Type} : DataW H → Nat
  | .lit (.string bytes) => bytes.length + 1
  | .lit _ => 1
  | .nil => 1
  | .ptr d => uptoBulk d + 1
  | .slice elems spare => uptoBulkAll elems + uptoBulkAll spare + 1
  | .agg parts => uptoBulkAll parts + 1
  | .iface _ d => uptoBulk d + 1
  | .map entries => uptoBulkEntries entries + 1
  | .held _ => 1
def uptoBulkAll {H : Type} : List (DataW H) → Nat
  | [] => 0
  | d :: r => uptoBulk d + uptoBulkAll r
def uptoBulkEntries {H : Type} : List (Lit × DataW H) → Nat
  | [] => 0
  | x :: r => uptoBulkEntry x + uptoBulkEntries r
def uptoBulkEntry {H : Type} : Lit × DataW H → Nat
  | (.string bytes, d) => bytes.length + uptoBulk d + 1
  | (_, d) => uptoBulk d + 1
 end
def uptoSmall : (H : Type) → List (DataW H) → Bool := fun _ ds => decide (uptoBulkAll ds ≤ 1048576)
def OpenSpec.upto (s : _root_.Go.ChangeSpec) : _root_.Go.OpenSpec := { _root_.Go.OpenSpec.ofChange s with cond := some uptoSmall }

/-- 'identitylaw23.OtpCodes', WHERE WHAT IT READS IS OF BULK AT MOST 1048576: true; the input reads as it did. -/
def otpCodesUptoRow : OpenClaim := { program := "ytmkcojgdhdmnnaadoor", sum := "3d05aa14a65dbc54b59207cc698209ea0adf58eb337fc6e33ec4999fe2b58192", func := "identity/identitylaw23.OtpCodes", spec := "otpCodes", inPlace := ["internal/abi.NoEscape", "internal/bytealg.MakeNoZero"], unfollowed := true, recurses := true, named := ["internal/strconv.uint64pow10", "math/bits.deBruijn32tab", "math/bits.deBruijn64tab"], apart := false, laid := [("math/bits.deBruijn32tab", laid_math_bits_deBruijn32tab), ("math/bits.deBruijn64tab", laid_math_bits_deBruijn64tab), ("internal/strconv.uint64pow10", laid_internal_strconv_uint64pow10)], narrowed := true }
def OtpCodesUptoSaid : Prop := otpCodesUptoRow.holds Tryd.pinned (OpenSpec.upto otpCodesSpec)

/-- 'identitylaw23.OtpVerifies', WHERE WHAT IT READS IS OF BULK AT MOST 1048576: true; the input reads as it did. -/
def otpVerifiesUptoRow : OpenClaim := { program := "ytmkcojgdhdmnnaadoor", sum := "3d05aa14a65dbc54b59207cc698209ea0adf58eb337fc6e33ec4999fe2b58192", func := "identity/identitylaw23.OtpVerifies", spec := "otpVerifies", inPlace := ["internal/abi.NoEscape", "internal/bytealg.MakeNoZero"], unfollowed := true, recurses := true, named := ["internal/strconv.uint64pow10", "math/bits.deBruijn32tab", "math/bits.deBruijn64tab"], apart := false, laid := [("math/bits.deBruijn32tab", laid_math_bits_deBruijn32tab), ("math/bits.deBruijn64tab", laid_math_bits_deBruijn64tab), ("internal/strconv.uint64pow10", laid_internal_strconv_uint64pow10)], narrowed := true }
def OtpVerifiesUptoSaid : Prop := otpVerifiesUptoRow.holds Tryd.pinned (OpenSpec.upto otpVerifiesSpec)

/-- 'identitylaw23.OtpRecovers', WHERE WHAT IT READS IS OF BULK AT MOST 1048576: true; the input reads as it did. -/
def otpRecoversUptoRow : OpenClaim := { program := "ytmkcojgdhdmnnaadoor", sum := "3d05aa14a65dbc54b59207cc698209ea0adf58eb337fc6e33ec4999fe2b58192", func := "identity/identitylaw23.OtpRecovers", spec := "otpRecovers", inPlace := ["internal/abi.NoEscape", "internal/bytealg.MakeNoZero"], unfollowed := true, recurses := true, named := ["internal/strconv.uint64pow10", "math/bits.deBruijn32tab", "math/bits.deBruijn64tab"], apart := false, laid := [("math/bits.deBruijn32tab", laid_math_bits_deBruijn32tab), ("math/bits.deBruijn64tab", laid_math_bits_deBruijn64tab), ("internal/strconv.uint64pow10", laid_internal_strconv_uint64pow10)], narrowed := true }
def OtpRecoversUptoSaid : Prop := otpRecoversUptoRow.holds Tryd.pinned (OpenSpec.upto otpRecoversSpec)

/-- 'identitylaw23.OtpOnce', WHERE WHAT IT READS IS OF BULK AT MOST 1048576: true; the input reads as it did. -/
def otpOnceUptoRow : OpenClaim := { program := "ytmkcojgdhdmnnaadoor", sum := "3d05aa14a65dbc54b59207cc698209ea0adf58eb337fc6e33ec4999fe2b58192", func := "identity/identitylaw23.OtpOnce", spec := "otpOnce", inPlace := ["internal/abi.NoEscape", "internal/bytealg.MakeNoZero"], unfollowed := true, recurses := true, named := ["internal/strconv.uint64pow10", "math/bits.deBruijn32tab", "math/bits.deBruijn64tab"], apart := false, laid := [("math/bits.deBruijn32tab", laid_math_bits_deBruijn32tab), ("math/bits.deBruijn64tab", laid_math_bits_deBruijn64tab), ("internal/strconv.uint64pow10", laid_internal_strconv_uint64pow10)], narrowed := true }
def OtpOnceUptoSaid : Prop := otpOnceUptoRow.holds Tryd.pinned (OpenSpec.upto otpOnceSpec)

/-- 'identitylaw23.OtpWindows', WHERE WHAT IT READS IS OF BULK AT MOST 1048576: true; the input reads as it did. -/
def otpWindowsUptoRow : OpenClaim := { program := "ytmkcojgdhdmnnaadoor", sum := "3d05aa14a65dbc54b59207cc698209ea0adf58eb337fc6e33ec4999fe2b58192", func := "identity/identitylaw23.OtpWindows", spec := "otpWindows", inPlace := ["internal/abi.NoEscape", "internal/bytealg.MakeNoZero"], unfollowed := true, recurses := true, named := ["internal/strconv.uint64pow10", "math/bits.deBruijn32tab", "math/bits.deBruijn64tab"], apart := false, laid := [("math/bits.deBruijn32tab", laid_math_bits_deBruijn32tab), ("math/bits.deBruijn64tab", laid_math_bits_deBruijn64tab), ("internal/strconv.uint64pow10", laid_internal_strconv_uint64pow10)], narrowed := true }
def OtpWindowsUptoSaid : Prop := otpWindowsUptoRow.holds Tryd.pinned (OpenSpec.upto otpWindowsSpec)

/-- 'identitylaw23.OtpRedeems', WHERE WHAT IT READS IS OF BULK AT MOST 1048576: true; the input reads as it did. -/
def otpRedeemsUptoRow : OpenClaim := { program := "ytmkcojgdhdmnnaadoor", sum := "3d05aa14a65dbc54b59207cc698209ea0adf58eb337fc6e33ec4999fe2b58192", func := "identity/identitylaw23.OtpRedeems", spec := "otpRedeems", inPlace := ["internal/abi.NoEscape", "internal/bytealg.MakeNoZero"], unfollowed := true, recurses := true, named := ["internal/strconv.uint64pow10", "math/bits.deBruijn32tab", "math/bits.deBruijn64tab"], apart := false, laid := [("math/bits.deBruijn32tab", laid_math_bits_deBruijn32tab), ("math/bits.deBruijn64tab", laid_math_bits_deBruijn64tab), ("internal/strconv.uint64pow10", laid_internal_strconv_uint64pow10)], narrowed := true }
def OtpRedeemsUptoSaid : Prop := otpRedeemsUptoRow.holds Tryd.pinned (OpenSpec.upto otpRedeemsSpec)

end Rows
end Go.Proofs.YtmkcojgdhdmnnaaDoor
