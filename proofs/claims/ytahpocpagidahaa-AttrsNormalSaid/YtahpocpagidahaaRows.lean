/-
  No cell of these rows narrows 'for every input' (looked for: loops, veiled, ifaces, maps, wideKeys, modest, calm, conditions, laid).
  DERIVED. THE GIVEN ROWS OF THIS SEAT. 7 by the template 'for every input the law returns true; each argument reads behind the call as it read before'; 0 by the template 'total and deterministic' (their statements: YtahpocpagidahaaTotals.lean).
  GIVEN WITH THE SEED: the statements are not yours to turn. If you find one false, say at which input.
  Laid BY PROGRAM, IN A SANDBOX (cutbox-rows.mjs): the forced cells as the released guide's own fill.sh prints them over the translation 3e41e7953432a917… (all of the seat's roots in one cut). By AI agents, Wed Nov 11 2026. No macro, syntax, notation, axiom, sorry.
-/
import Derived.Test.YtahpocpagidahaaChecked
import GoSem.Claim
import GoSem.ClaimJoined
import GoSem.ClaimMapViews
import Derived.JoinedTies
import Derived.KernelRfl
namespace Go.Proofs.Ytahpocpagidahaa
/- THE CELL 'sum', in the pinned program and in every row, IS THE sha256 OF THE DUMP (.gsa) THAT YtahpocpagidahaaProg.lean LOADS. Nothing in Lean hashes anything: it is a label: what it is worth is what the hold of that sum in a sandbox is worth. -/
noncomputable def Try.pinned : Pinned := { name := "ytahpocpagidahaa", sum := "3e41e7953432a917c94e5d358c1e78a25f910c169764b8bd962b4eb1054c2a58", checked := Try.checked }
namespace Rows
def none {H : Type} : Left H := { results := [], args := [] }

/-- 'identitylaw06.AttrsChecks': WHATEVER THE INPUT: true; the input reads as it did. -/
def attrsChecksSpec : ChangeSpec := { name := "attrsChecks", fn := fun _ => fun
  | [d] => { results := [.lit (.bool true)], args := [d] }
  | _ => none }
def attrsChecksRow : OpenClaim := { program := "ytahpocpagidahaa", sum := "3e41e7953432a917c94e5d358c1e78a25f910c169764b8bd962b4eb1054c2a58", func := "identity/identitylaw06.AttrsChecks", spec := "attrsChecks", inPlace := ["internal/bytealg.abigen_runtime_cmpstring"], unfollowed := true, recurses := true, apart := false }
def AttrsChecksSaid : Prop := attrsChecksRow.holds Try.pinned (OpenSpec.ofChange attrsChecksSpec)

/-- ITS FALSE NEIGHBOUR: 'it returns false'. Refute it at one input. -/
def attrsChecksWrong : ChangeSpec := { name := "attrsChecks", fn := fun _ => fun
  | [d] => { results := [.lit (.bool false)], args := [d] }
  | _ => none }
def AttrsChecksWrongFalsely : Prop := attrsChecksRow.holds Try.pinned (OpenSpec.ofChange attrsChecksWrong)

/-- 'identitylaw06.AttrsSorts': WHATEVER THE INPUT: true; the input reads as it did. -/
def attrsSortsSpec : ChangeSpec := { name := "attrsSorts", fn := fun _ => fun
  | [d1, d2] => { results := [.lit (.bool true)], args := [d1, d2] }
  | _ => none }
def attrsSortsRow : OpenClaim := { program := "ytahpocpagidahaa", sum := "3e41e7953432a917c94e5d358c1e78a25f910c169764b8bd962b4eb1054c2a58", func := "identity/identitylaw06.AttrsSorts", spec := "attrsSorts", inPlace := ["internal/bytealg.abigen_runtime_cmpstring"], unfollowed := true, recurses := true, apart := false }
def AttrsSortsSaid : Prop := attrsSortsRow.holds Try.pinned (OpenSpec.ofChange attrsSortsSpec)

/-- ITS FALSE NEIGHBOUR: 'it returns false'. Refute it at one input. -/
def attrsSortsWrong : ChangeSpec := { name := "attrsSorts", fn := fun _ => fun
  | [d1, d2] => { results := [.lit (.bool false)], args := [d1, d2] }
  | _ => none }
def AttrsSortsWrongFalsely : Prop := attrsSortsRow.holds Try.pinned (OpenSpec.ofChange attrsSortsWrong)

/-- 'identitylaw06.AttrsPicks': WHATEVER THE INPUT: true; the input reads as it did. -/
def attrsPicksSpec : ChangeSpec := { name := "attrsPicks", fn := fun _ => fun
  | [d1, d2, d3, d4] => { results := [.lit (.bool true)], args := [d1, d2, d3, d4] }
  | _ => none }
def attrsPicksRow : OpenClaim := { program := "ytahpocpagidahaa", sum := "3e41e7953432a917c94e5d358c1e78a25f910c169764b8bd962b4eb1054c2a58", func := "identity/identitylaw06.AttrsPicks", spec := "attrsPicks", inPlace := ["internal/bytealg.abigen_runtime_cmpstring"], unfollowed := true, recurses := true, apart := false }
def AttrsPicksSaid : Prop := attrsPicksRow.holds Try.pinned (OpenSpec.ofChange attrsPicksSpec)

/-- ITS FALSE NEIGHBOUR: 'it returns false'. Refute it at one input. -/
def attrsPicksWrong : ChangeSpec := { name := "attrsPicks", fn := fun _ => fun
  | [d1, d2, d3, d4] => { results := [.lit (.bool false)], args := [d1, d2, d3, d4] }
  | _ => none }
def AttrsPicksWrongFalsely : Prop := attrsPicksRow.holds Try.pinned (OpenSpec.ofChange attrsPicksWrong)

/-- 'identitylaw06.AttrsEdits': WHATEVER THE INPUT: true; the input reads as it did. -/
def attrsEditsSpec : ChangeSpec := { name := "attrsEdits", fn := fun _ => fun
  | [d1, d2, d3] => { results := [.lit (.bool true)], args := [d1, d2, d3] }
  | _ => none }
def attrsEditsRow : OpenClaim := { program := "ytahpocpagidahaa", sum := "3e41e7953432a917c94e5d358c1e78a25f910c169764b8bd962b4eb1054c2a58", func := "identity/identitylaw06.AttrsEdits", spec := "attrsEdits", inPlace := ["internal/bytealg.abigen_runtime_cmpstring"], unfollowed := true, recurses := true, apart := false }
def AttrsEditsSaid : Prop := attrsEditsRow.holds Try.pinned (OpenSpec.ofChange attrsEditsSpec)

/-- ITS FALSE NEIGHBOUR: 'it returns false'. Refute it at one input. -/
def attrsEditsWrong : ChangeSpec := { name := "attrsEdits", fn := fun _ => fun
  | [d1, d2, d3] => { results := [.lit (.bool false)], args := [d1, d2, d3] }
  | _ => none }
def AttrsEditsWrongFalsely : Prop := attrsEditsRow.holds Try.pinned (OpenSpec.ofChange attrsEditsWrong)

/-- 'identitylaw06.AttrsNormal': WHATEVER THE INPUT: true; the input reads as it did. -/
def attrsNormalSpec : ChangeSpec := { name := "attrsNormal", fn := fun _ => fun
  | [d1, d2, d3] => { results := [.lit (.bool true)], args := [d1, d2, d3] }
  | _ => none }
def attrsNormalRow : OpenClaim := { program := "ytahpocpagidahaa", sum := "3e41e7953432a917c94e5d358c1e78a25f910c169764b8bd962b4eb1054c2a58", func := "identity/identitylaw06.AttrsNormal", spec := "attrsNormal", inPlace := ["internal/bytealg.abigen_runtime_cmpstring"], unfollowed := true, recurses := true, apart := false }
def AttrsNormalSaid : Prop := attrsNormalRow.holds Try.pinned (OpenSpec.ofChange attrsNormalSpec)

/-- ITS FALSE NEIGHBOUR: 'it returns false'. Refute it at one input. -/
def attrsNormalWrong : ChangeSpec := { name := "attrsNormal", fn := fun _ => fun
  | [d1, d2, d3] => { results := [.lit (.bool false)], args := [d1, d2, d3] }
  | _ => none }
def AttrsNormalWrongFalsely : Prop := attrsNormalRow.holds Try.pinned (OpenSpec.ofChange attrsNormalWrong)

/-- 'identitylaw06.AttrsUndone': WHATEVER THE INPUT: true; the input reads as it did. -/
def attrsUndoneSpec : ChangeSpec := { name := "attrsUndone", fn := fun _ => fun
  | [d1, d2, d3] => { results := [.lit (.bool true)], args := [d1, d2, d3] }
  | _ => none }
def attrsUndoneRow : OpenClaim := { program := "ytahpocpagidahaa", sum := "3e41e7953432a917c94e5d358c1e78a25f910c169764b8bd962b4eb1054c2a58", func := "identity/identitylaw06.AttrsUndone", spec := "attrsUndone", inPlace := ["internal/bytealg.abigen_runtime_cmpstring"], unfollowed := true, recurses := true, apart := false }
def AttrsUndoneSaid : Prop := attrsUndoneRow.holds Try.pinned (OpenSpec.ofChange attrsUndoneSpec)

/-- ITS FALSE NEIGHBOUR: 'it returns false'. Refute it at one input. -/
def attrsUndoneWrong : ChangeSpec := { name := "attrsUndone", fn := fun _ => fun
  | [d1, d2, d3] => { results := [.lit (.bool false)], args := [d1, d2, d3] }
  | _ => none }
def AttrsUndoneWrongFalsely : Prop := attrsUndoneRow.holds Try.pinned (OpenSpec.ofChange attrsUndoneWrong)

/-- 'identitylaw06.AttrsOthers': WHATEVER THE INPUT: true; the input reads as it did. -/
def attrsOthersSpec : ChangeSpec := { name := "attrsOthers", fn := fun _ => fun
  | [d1, d2, d3, d4] => { results := [.lit (.bool true)], args := [d1, d2, d3, d4] }
  | _ => none }
def attrsOthersRow : OpenClaim := { program := "ytahpocpagidahaa", sum := "3e41e7953432a917c94e5d358c1e78a25f910c169764b8bd962b4eb1054c2a58", func := "identity/identitylaw06.AttrsOthers", spec := "attrsOthers", inPlace := ["internal/bytealg.abigen_runtime_cmpstring"], unfollowed := true, recurses := true, apart := false }
def AttrsOthersSaid : Prop := attrsOthersRow.holds Try.pinned (OpenSpec.ofChange attrsOthersSpec)

/-- ITS FALSE NEIGHBOUR: 'it returns false'. Refute it at one input. -/
def attrsOthersWrong : ChangeSpec := { name := "attrsOthers", fn := fun _ => fun
  | [d1, d2, d3, d4] => { results := [.lit (.bool false)], args := [d1, d2, d3, d4] }
  | _ => none }
def AttrsOthersWrongFalsely : Prop := attrsOthersRow.holds Try.pinned (OpenSpec.ofChange attrsOthersWrong)

/- THE SECOND FORM. 'bulk': how many values and letters a reading holds, each counted each time it is reached (what is shared counts as often as it is met; a slice's spare places count too). A statement '..UptoSaid' is the law's where the arguments, and the package variables that the reading takes, are together of bulk at most 1048576: NARROWER than '..Said'. Prove '..Said' where nothing that the law and all that it calls make is longer than what came in: it says more and counts as full. Else prove '..UptoSaid'. A law counts once. -/
mutual
def uptoBulk {H : Type} : DataW H → Nat
  | .lit (.string bytes) => bytes.length + 1
  | .lit _ => 1
  | .nil => 1
  | .ptr d => uptoBulk d + 1
  | .slice elems spare => uptoBulkAll elems + uptoBulkAll spare + 1
  | .agg parts => uptoBulkAll parts + 1
  | .iface _ d => uptoBulk d + 1
  | .map entries => uptoBulkEntries entries + 1
  | .held _ => 1
def uptoBulkAll {H : Type} : List (DataW H) → Nat
  | [] => 0
  | d :: r => uptoBulk d + uptoBulkAll r
def uptoBulkEntries {H : Type} : List (Lit × DataW H) → Nat
  | [] => 0
  | x :: r => uptoBulkEntry x + uptoBulkEntries r
def uptoBulkEntry {H : Type} : Lit × DataW H → Nat
  | (.string bytes, d) => bytes.length + uptoBulk d + 1
  | (_, d) => uptoBulk d + 1
 end
def uptoSmall : (H : Type) → List (DataW H) → Bool := fun _ ds => decide (uptoBulkAll ds ≤ 1048576)
def OpenSpec.upto (s : _root_.Go.ChangeSpec) : _root_.Go.OpenSpec := { _root_.Go.OpenSpec.ofChange s with cond := some uptoSmall }

/-- 'identitylaw06.AttrsChecks', WHERE WHAT IT READS IS OF BULK AT MOST 1048576: true; the input reads as it did. -/
def attrsChecksUptoRow : OpenClaim := { program := "ytahpocpagidahaa", sum := "3e41e7953432a917c94e5d358c1e78a25f910c169764b8bd962b4eb1054c2a58", func := "identity/identitylaw06.AttrsChecks", spec := "attrsChecks", inPlace := ["internal/bytealg.abigen_runtime_cmpstring"], unfollowed := true, recurses := true, apart := false, narrowed := true }
def AttrsChecksUptoSaid : Prop := attrsChecksUptoRow.holds Try.pinned (OpenSpec.upto attrsChecksSpec)

/-- 'identitylaw06.AttrsSorts', WHERE WHAT IT READS IS OF BULK AT MOST 1048576: true; the input reads as it did. -/
def attrsSortsUptoRow : OpenClaim := { program := "ytahpocpagidahaa", sum := "3e41e7953432a917c94e5d358c1e78a25f910c169764b8bd962b4eb1054c2a58", func := "identity/identitylaw06.AttrsSorts", spec := "attrsSorts", inPlace := ["internal/bytealg.abigen_runtime_cmpstring"], unfollowed := true, recurses := true, apart := false, narrowed := true }
def AttrsSortsUptoSaid : Prop := attrsSortsUptoRow.holds Try.pinned (OpenSpec.upto attrsSortsSpec)

/-- 'identitylaw06.AttrsPicks', WHERE WHAT IT READS IS OF BULK AT MOST 1048576: true; the input reads as it did. -/
def attrsPicksUptoRow : OpenClaim := { program := "ytahpocpagidahaa", sum := "3e41e7953432a917c94e5d358c1e78a25f910c169764b8bd962b4eb1054c2a58", func := "identity/identitylaw06.AttrsPicks", spec := "attrsPicks", inPlace := ["internal/bytealg.abigen_runtime_cmpstring"], unfollowed := true, recurses := true, apart := false, narrowed := true }
def AttrsPicksUptoSaid : Prop := attrsPicksUptoRow.holds Try.pinned (OpenSpec.upto attrsPicksSpec)

/-- 'identitylaw06.AttrsEdits', WHERE WHAT IT READS IS OF BULK AT MOST 1048576: true; the input reads as it did. -/
def attrsEditsUptoRow : OpenClaim := { program := "ytahpocpagidahaa", sum := "3e41e7953432a917c94e5d358c1e78a25f910c169764b8bd962b4eb1054c2a58", func := "identity/identitylaw06.AttrsEdits", spec := "attrsEdits", inPlace := ["internal/bytealg.abigen_runtime_cmpstring"], unfollowed := true, recurses := true, apart := false, narrowed := true }
def AttrsEditsUptoSaid : Prop := attrsEditsUptoRow.holds Try.pinned (OpenSpec.upto attrsEditsSpec)

/-- 'identitylaw06.AttrsNormal', WHERE WHAT IT READS IS OF BULK AT MOST 1048576: true; the input reads as it did. -/
def attrsNormalUptoRow : OpenClaim := { program := "ytahpocpagidahaa", sum := "3e41e7953432a917c94e5d358c1e78a25f910c169764b8bd962b4eb1054c2a58", func := "identity/identitylaw06.AttrsNormal", spec := "attrsNormal", inPlace := ["internal/bytealg.abigen_runtime_cmpstring"], unfollowed := true, recurses := true, apart := false, narrowed := true }
def AttrsNormalUptoSaid : Prop := attrsNormalUptoRow.holds Try.pinned (OpenSpec.upto attrsNormalSpec)

/-- 'identitylaw06.AttrsUndone', WHERE WHAT IT READS IS OF BULK AT MOST 1048576: true; the input reads as it did. -/
def attrsUndoneUptoRow : OpenClaim := { program := "ytahpocpagidahaa", sum := "3e41e7953432a917c94e5d358c1e78a25f910c169764b8bd962b4eb1054c2a58", func := "identity/identitylaw06.AttrsUndone", spec := "attrsUndone", inPlace := ["internal/bytealg.abigen_runtime_cmpstring"], unfollowed := true, recurses := true, apart := false, narrowed := true }
def AttrsUndoneUptoSaid : Prop := attrsUndoneUptoRow.holds Try.pinned (OpenSpec.upto attrsUndoneSpec)

/-- 'identitylaw06.AttrsOthers', WHERE WHAT IT READS IS OF BULK AT MOST 1048576: true; the input reads as it did. -/
def attrsOthersUptoRow : OpenClaim := { program := "ytahpocpagidahaa", sum := "3e41e7953432a917c94e5d358c1e78a25f910c169764b8bd962b4eb1054c2a58", func := "identity/identitylaw06.AttrsOthers", spec := "attrsOthers", inPlace := ["internal/bytealg.abigen_runtime_cmpstring"], unfollowed := true, recurses := true, apart := false, narrowed := true }
def AttrsOthersUptoSaid : Prop := attrsOthersUptoRow.holds Try.pinned (OpenSpec.upto attrsOthersSpec)

end Rows
end Go.Proofs.Ytahpocpagidahaa
