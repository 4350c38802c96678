/-
  No cell of these rows narrows 'for every input' (looked for: loops, veiled, ifaces, maps, wideKeys, modest, calm, conditions, laid).
  DERIVED. THE GIVEN ROWS OF THIS SEAT. 6 by the template 'for every input the law returns true; each argument reads behind the call as it read before'; 0 by the template 'total and deterministic' (their statements: YteoaekjhicphlaaTotals.lean).
  GIVEN WITH THE SEED: the statements are not yours to turn. If you find one false, say at which input.
  Laid BY PROGRAM, IN A SANDBOX (cutbox-rows.mjs): the forced cells as the released guide's own fill.sh prints them over the translation 0f07a4e9c1cfc931… (all of the seat's roots in one cut). By AI agents, Wed Nov 11 2026. No macro, syntax, notation, axiom, sorry.
-/
import Derived.Test.YteoaekjhicphlaaChecked
import GoSem.Claim
import GoSem.ClaimJoined
import GoSem.ClaimMapViews
import Derived.JoinedTies
import Derived.KernelRfl
namespace Go.Proofs.Yteoaekjhicphlaa
/- THE CELL 'sum', in the pinned program and in every row, IS THE sha256 OF THE DUMP (.gsa) THAT YteoaekjhicphlaaProg.lean LOADS. Nothing in Lean hashes anything: it is a label: what it is worth is what the hold of that sum in a sandbox is worth. -/
noncomputable def Try.pinned : Pinned := { name := "yteoaekjhicphlaa", sum := "0f07a4e9c1cfc9318889e5a974d7c8795e464779aa24a92787bfedd61fb0496c", checked := Try.checked }
namespace Rows
def none {H : Type} : Left H := { results := [], args := [] }

/-- 'identitylaw27.OncePlays': WHATEVER THE INPUT: true; the input reads as it did. -/
def oncePlaysSpec : ChangeSpec := { name := "oncePlays", fn := fun _ => fun
  | [d1, d2] => { results := [.lit (.bool true)], args := [d1, d2] }
  | _ => none }
def oncePlaysRow : OpenClaim := { program := "yteoaekjhicphlaa", sum := "0f07a4e9c1cfc9318889e5a974d7c8795e464779aa24a92787bfedd61fb0496c", func := "identity/identitylaw27.OncePlays", spec := "oncePlays", apart := false }
def OncePlaysSaid : Prop := oncePlaysRow.holds Try.pinned (OpenSpec.ofChange oncePlaysSpec)

/-- ITS FALSE NEIGHBOUR: 'it returns false'. Refute it at one input. -/
def oncePlaysWrong : ChangeSpec := { name := "oncePlays", fn := fun _ => fun
  | [d1, d2] => { results := [.lit (.bool false)], args := [d1, d2] }
  | _ => none }
def OncePlaysWrongFalsely : Prop := oncePlaysRow.holds Try.pinned (OpenSpec.ofChange oncePlaysWrong)

/-- 'identitylaw27.OnceSingle': WHATEVER THE INPUT: true; the input reads as it did. -/
def onceSingleSpec : ChangeSpec := { name := "onceSingle", fn := fun _ => fun
  | [d1, d2, d3] => { results := [.lit (.bool true)], args := [d1, d2, d3] }
  | _ => none }
def onceSingleRow : OpenClaim := { program := "yteoaekjhicphlaa", sum := "0f07a4e9c1cfc9318889e5a974d7c8795e464779aa24a92787bfedd61fb0496c", func := "identity/identitylaw27.OnceSingle", spec := "onceSingle", apart := false }
def OnceSingleSaid : Prop := onceSingleRow.holds Try.pinned (OpenSpec.ofChange onceSingleSpec)

/-- ITS FALSE NEIGHBOUR: 'it returns false'. Refute it at one input. -/
def onceSingleWrong : ChangeSpec := { name := "onceSingle", fn := fun _ => fun
  | [d1, d2, d3] => { results := [.lit (.bool false)], args := [d1, d2, d3] }
  | _ => none }
def OnceSingleWrongFalsely : Prop := onceSingleRow.holds Try.pinned (OpenSpec.ofChange onceSingleWrong)

/-- 'identitylaw27.OncePurges': WHATEVER THE INPUT: true; the input reads as it did. -/
def oncePurgesSpec : ChangeSpec := { name := "oncePurges", fn := fun _ => fun
  | [d1, d2, d3] => { results := [.lit (.bool true)], args := [d1, d2, d3] }
  | _ => none }
def oncePurgesRow : OpenClaim := { program := "yteoaekjhicphlaa", sum := "0f07a4e9c1cfc9318889e5a974d7c8795e464779aa24a92787bfedd61fb0496c", func := "identity/identitylaw27.OncePurges", spec := "oncePurges", apart := false }
def OncePurgesSaid : Prop := oncePurgesRow.holds Try.pinned (OpenSpec.ofChange oncePurgesSpec)

/-- ITS FALSE NEIGHBOUR: 'it returns false'. Refute it at one input. -/
def oncePurgesWrong : ChangeSpec := { name := "oncePurges", fn := fun _ => fun
  | [d1, d2, d3] => { results := [.lit (.bool false)], args := [d1, d2, d3] }
  | _ => none }
def OncePurgesWrongFalsely : Prop := oncePurgesRow.holds Try.pinned (OpenSpec.ofChange oncePurgesWrong)

/-- 'identitylaw27.OnceApart': WHATEVER THE INPUT: true; the input reads as it did. -/
def onceApartSpec : ChangeSpec := { name := "onceApart", fn := fun _ => fun
  | [d1, d2, d3] => { results := [.lit (.bool true)], args := [d1, d2, d3] }
  | _ => none }
def onceApartRow : OpenClaim := { program := "yteoaekjhicphlaa", sum := "0f07a4e9c1cfc9318889e5a974d7c8795e464779aa24a92787bfedd61fb0496c", func := "identity/identitylaw27.OnceApart", spec := "onceApart", apart := false }
def OnceApartSaid : Prop := onceApartRow.holds Try.pinned (OpenSpec.ofChange onceApartSpec)

/-- ITS FALSE NEIGHBOUR: 'it returns false'. Refute it at one input. -/
def onceApartWrong : ChangeSpec := { name := "onceApart", fn := fun _ => fun
  | [d1, d2, d3] => { results := [.lit (.bool false)], args := [d1, d2, d3] }
  | _ => none }
def OnceApartWrongFalsely : Prop := onceApartRow.holds Try.pinned (OpenSpec.ofChange onceApartWrong)

/-- 'identitylaw27.OnceFills': WHATEVER THE INPUT: true; the input reads as it did. -/
def onceFillsSpec : ChangeSpec := { name := "onceFills", fn := fun _ => fun
  | [d1, d2, d3] => { results := [.lit (.bool true)], args := [d1, d2, d3] }
  | _ => none }
def onceFillsRow : OpenClaim := { program := "yteoaekjhicphlaa", sum := "0f07a4e9c1cfc9318889e5a974d7c8795e464779aa24a92787bfedd61fb0496c", func := "identity/identitylaw27.OnceFills", spec := "onceFills", apart := false }
def OnceFillsSaid : Prop := onceFillsRow.holds Try.pinned (OpenSpec.ofChange onceFillsSpec)

/-- ITS FALSE NEIGHBOUR: 'it returns false'. Refute it at one input. -/
def onceFillsWrong : ChangeSpec := { name := "onceFills", fn := fun _ => fun
  | [d1, d2, d3] => { results := [.lit (.bool false)], args := [d1, d2, d3] }
  | _ => none }
def OnceFillsWrongFalsely : Prop := onceFillsRow.holds Try.pinned (OpenSpec.ofChange onceFillsWrong)

/-- 'identitylaw27.OnceNil': WHATEVER THE INPUT: true; the input reads as it did. -/
def onceNilSpec : ChangeSpec := { name := "onceNil", fn := fun _ => fun
  | [d1, d2, d3] => { results := [.lit (.bool true)], args := [d1, d2, d3] }
  | _ => none }
def onceNilRow : OpenClaim := { program := "yteoaekjhicphlaa", sum := "0f07a4e9c1cfc9318889e5a974d7c8795e464779aa24a92787bfedd61fb0496c", func := "identity/identitylaw27.OnceNil", spec := "onceNil", apart := false }
def OnceNilSaid : Prop := onceNilRow.holds Try.pinned (OpenSpec.ofChange onceNilSpec)

/-- ITS FALSE NEIGHBOUR: 'it returns false'. Refute it at one input. -/
def onceNilWrong : ChangeSpec := { name := "onceNil", fn := fun _ => fun
  | [d1, d2, d3] => { results := [.lit (.bool false)], args := [d1, d2, d3] }
  | _ => none }
def OnceNilWrongFalsely : Prop := onceNilRow.holds Try.pinned (OpenSpec.ofChange onceNilWrong)

/- THE SECOND FORM. 'bulk': how many values and letters a reading holds, each counted each time it is reached (what is shared counts as often as it is met; a slice's spare places count too). A statement '..UptoSaid' is the law's where the arguments, and the package variables that the reading takes, are together of bulk at most 1048576: NARROWER than '..Said'. Prove '..Said' where nothing that the law and all that it calls make is longer than what came in: it says more and counts as full. Else prove '..UptoSaid'. A law counts once. -/
mutual
def uptoBulk {H : Type} : DataW H → Nat
  | .lit (.string bytes) => bytes.length + 1
  | .lit _ => 1
  | .nil => 1
  | .ptr d => uptoBulk d + 1
  | .slice elems spare => uptoBulkAll elems + uptoBulkAll spare + 1
  | .agg parts => uptoBulkAll parts + 1
  | .iface _ d => uptoBulk d + 1
  | .map entries => uptoBulkEntries entries + 1
  | .held _ => 1
def uptoBulkAll {H : Type} : List (DataW H) → Nat
  | [] => 0
  | d :: r => uptoBulk d + uptoBulkAll r
def uptoBulkEntries {H : Type} : List (Lit × DataW H) → Nat
  | [] => 0
  | x :: r => uptoBulkEntry x + uptoBulkEntries r
def uptoBulkEntry {H : Type} : Lit × DataW H → Nat
  | (.string bytes, d) => bytes.length + uptoBulk d + 1
  | (_, d) => uptoBulk d + 1
 end
def uptoSmall : (H : Type) → List (DataW H) → Bool := fun _ ds => decide (uptoBulkAll ds ≤ 1048576)
def OpenSpec.upto (s : _root_.Go.ChangeSpec) : _root_.Go.OpenSpec := { _root_.Go.OpenSpec.ofChange s with cond := some uptoSmall }

/-- 'identitylaw27.OncePlays', WHERE WHAT IT READS IS OF BULK AT MOST 1048576: true; the input reads as it did. -/
def oncePlaysUptoRow : OpenClaim := { program := "yteoaekjhicphlaa", sum := "0f07a4e9c1cfc9318889e5a974d7c8795e464779aa24a92787bfedd61fb0496c", func := "identity/identitylaw27.OncePlays", spec := "oncePlays", apart := false, narrowed := true }
def OncePlaysUptoSaid : Prop := oncePlaysUptoRow.holds Try.pinned (OpenSpec.upto oncePlaysSpec)

/-- 'identitylaw27.OnceSingle', WHERE WHAT IT READS IS OF BULK AT MOST 1048576: true; the input reads as it did. -/
def onceSingleUptoRow : OpenClaim := { program := "yteoaekjhicphlaa", sum := "0f07a4e9c1cfc9318889e5a974d7c8795e464779aa24a92787bfedd61fb0496c", func := "identity/identitylaw27.OnceSingle", spec := "onceSingle", apart := false, narrowed := true }
def OnceSingleUptoSaid : Prop := onceSingleUptoRow.holds Try.pinned (OpenSpec.upto onceSingleSpec)

/-- 'identitylaw27.OncePurges', WHERE WHAT IT READS IS OF BULK AT MOST 1048576: true; the input reads as it did. -/
def oncePurgesUptoRow : OpenClaim := { program := "yteoaekjhicphlaa", sum := "0f07a4e9c1cfc9318889e5a974d7c8795e464779aa24a92787bfedd61fb0496c", func := "identity/identitylaw27.OncePurges", spec := "oncePurges", apart := false, narrowed := true }
def OncePurgesUptoSaid : Prop := oncePurgesUptoRow.holds Try.pinned (OpenSpec.upto oncePurgesSpec)

/-- 'identitylaw27.OnceApart', WHERE WHAT IT READS IS OF BULK AT MOST 1048576: true; the input reads as it did. -/
def onceApartUptoRow : OpenClaim := { program := "yteoaekjhicphlaa", sum := "0f07a4e9c1cfc9318889e5a974d7c8795e464779aa24a92787bfedd61fb0496c", func := "identity/identitylaw27.OnceApart", spec := "onceApart", apart := false, narrowed := true }
def OnceApartUptoSaid : Prop := onceApartUptoRow.holds Try.pinned (OpenSpec.upto onceApartSpec)

/-- 'identitylaw27.OnceFills', WHERE WHAT IT READS IS OF BULK AT MOST 1048576: true; the input reads as it did. -/
def onceFillsUptoRow : OpenClaim := { program := "yteoaekjhicphlaa", sum := "0f07a4e9c1cfc9318889e5a974d7c8795e464779aa24a92787bfedd61fb0496c", func := "identity/identitylaw27.OnceFills", spec := "onceFills", apart := false, narrowed := true }
def OnceFillsUptoSaid : Prop := onceFillsUptoRow.holds Try.pinned (OpenSpec.upto onceFillsSpec)

/-- 'identitylaw27.OnceNil', WHERE WHAT IT READS IS OF BULK AT MOST 1048576: true; the input reads as it did. -/
def onceNilUptoRow : OpenClaim := { program := "yteoaekjhicphlaa", sum := "0f07a4e9c1cfc9318889e5a974d7c8795e464779aa24a92787bfedd61fb0496c", func := "identity/identitylaw27.OnceNil", spec := "onceNil", apart := false, narrowed := true }
def OnceNilUptoSaid : Prop := onceNilUptoRow.holds Try.pinned (OpenSpec.upto onceNilSpec)

end Rows
end Go.Proofs.Yteoaekjhicphlaa
