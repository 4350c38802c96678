/-
  No cell of these rows narrows 'for every input' (looked for: loops, veiled, ifaces, maps, wideKeys, modest, calm, conditions, laid).
  DERIVED. THE GIVEN ROWS OF THIS SEAT. 6 by the template 'for every input the law returns true; each argument reads behind the call as it read before'; 0 by the template 'total and deterministic' (their statements: YtnmcncnphfgpiaaTotals.lean).
  GIVEN WITH THE SEED: the statements are not yours to turn. If you find one false, say at which input.
  Laid BY PROGRAM, IN A SANDBOX (cutbox-rows.mjs): the forced cells as the released guide's own fill.sh prints them over the translation b3d3385662da0c86… (all of the seat's roots in one cut). By AI agents, Wed Nov 11 2026. No macro, syntax, notation, axiom, sorry.
-/
import Derived.Test.YtnmcncnphfgpiaaChecked
import GoSem.Claim
import GoSem.ClaimJoined
import GoSem.ClaimMapViews
import Derived.JoinedTies
import Derived.KernelRfl
namespace Go.Proofs.Ytnmcncnphfgpiaa
/- THE CELL 'sum', in the pinned program and in every row, IS THE sha256 OF THE DUMP (.gsa) THAT YtnmcncnphfgpiaaProg.lean LOADS. Nothing in Lean hashes anything: it is a label: what it is worth is what the hold of that sum in a sandbox is worth. -/
noncomputable def Try.pinned : Pinned := { name := "ytnmcncnphfgpiaa", sum := "b3d3385662da0c86674c164354a8b8bfff5916742b2e4d38bd5969c993ade1b3", checked := Try.checked }
namespace Rows
def none {H : Type} : Left H := { results := [], args := [] }

/-- 'identitylaw22.SecretMakes': WHATEVER THE INPUT: true; the input reads as it did. -/
def secretMakesSpec : ChangeSpec := { name := "secretMakes", fn := fun _ => fun
  | [d1, d2, d3, d4] => { results := [.lit (.bool true)], args := [d1, d2, d3, d4] }
  | _ => none }
def secretMakesRow : OpenClaim := { program := "ytnmcncnphfgpiaa", sum := "b3d3385662da0c86674c164354a8b8bfff5916742b2e4d38bd5969c993ade1b3", func := "identity/identitylaw22.SecretMakes", spec := "secretMakes", inPlace := ["internal/bytealg.IndexByteString", "internal/bytealg.IndexString"], unfollowed := true, recurses := true, named := ["internal/bytealg.MaxLen"], apart := false }
def SecretMakesSaid : Prop := secretMakesRow.holds Try.pinned (OpenSpec.ofChange secretMakesSpec)

/-- ITS FALSE NEIGHBOUR: 'it returns false'. Refute it at one input. -/
def secretMakesWrong : ChangeSpec := { name := "secretMakes", fn := fun _ => fun
  | [d1, d2, d3, d4] => { results := [.lit (.bool false)], args := [d1, d2, d3, d4] }
  | _ => none }
def SecretMakesWrongFalsely : Prop := secretMakesRow.holds Try.pinned (OpenSpec.ofChange secretMakesWrong)

/-- 'identitylaw22.SecretQuality': WHATEVER THE INPUT: true; the input reads as it did. -/
def secretQualitySpec : ChangeSpec := { name := "secretQuality", fn := fun _ => fun
  | [d1, d2] => { results := [.lit (.bool true)], args := [d1, d2] }
  | _ => none }
def secretQualityRow : OpenClaim := { program := "ytnmcncnphfgpiaa", sum := "b3d3385662da0c86674c164354a8b8bfff5916742b2e4d38bd5969c993ade1b3", func := "identity/identitylaw22.SecretQuality", spec := "secretQuality", inPlace := ["internal/bytealg.IndexByteString", "internal/bytealg.IndexString"], unfollowed := true, recurses := true, named := ["internal/bytealg.MaxLen"], apart := false }
def SecretQualitySaid : Prop := secretQualityRow.holds Try.pinned (OpenSpec.ofChange secretQualitySpec)

/-- ITS FALSE NEIGHBOUR: 'it returns false'. Refute it at one input. -/
def secretQualityWrong : ChangeSpec := { name := "secretQuality", fn := fun _ => fun
  | [d1, d2] => { results := [.lit (.bool false)], args := [d1, d2] }
  | _ => none }
def SecretQualityWrongFalsely : Prop := secretQualityRow.holds Try.pinned (OpenSpec.ofChange secretQualityWrong)

/-- 'identitylaw22.SecretLocks': WHATEVER THE INPUT: true; the input reads as it did. -/
def secretLocksSpec : ChangeSpec := { name := "secretLocks", fn := fun _ => fun
  | [d1, d2, d3, d4] => { results := [.lit (.bool true)], args := [d1, d2, d3, d4] }
  | _ => none }
def secretLocksRow : OpenClaim := { program := "ytnmcncnphfgpiaa", sum := "b3d3385662da0c86674c164354a8b8bfff5916742b2e4d38bd5969c993ade1b3", func := "identity/identitylaw22.SecretLocks", spec := "secretLocks", inPlace := ["internal/bytealg.IndexByteString", "internal/bytealg.IndexString"], unfollowed := true, recurses := true, named := ["internal/bytealg.MaxLen"], apart := false }
def SecretLocksSaid : Prop := secretLocksRow.holds Try.pinned (OpenSpec.ofChange secretLocksSpec)

/-- ITS FALSE NEIGHBOUR: 'it returns false'. Refute it at one input. -/
def secretLocksWrong : ChangeSpec := { name := "secretLocks", fn := fun _ => fun
  | [d1, d2, d3, d4] => { results := [.lit (.bool false)], args := [d1, d2, d3, d4] }
  | _ => none }
def SecretLocksWrongFalsely : Prop := secretLocksRow.holds Try.pinned (OpenSpec.ofChange secretLocksWrong)

/-- 'identitylaw22.SecretMany': WHATEVER THE INPUT: true; the input reads as it did. -/
def secretManySpec : ChangeSpec := { name := "secretMany", fn := fun _ => fun
  | [d1, d2] => { results := [.lit (.bool true)], args := [d1, d2] }
  | _ => none }
def secretManyRow : OpenClaim := { program := "ytnmcncnphfgpiaa", sum := "b3d3385662da0c86674c164354a8b8bfff5916742b2e4d38bd5969c993ade1b3", func := "identity/identitylaw22.SecretMany", spec := "secretMany", inPlace := ["internal/bytealg.IndexByteString", "internal/bytealg.IndexString"], unfollowed := true, recurses := true, named := ["internal/bytealg.MaxLen"], apart := false }
def SecretManySaid : Prop := secretManyRow.holds Try.pinned (OpenSpec.ofChange secretManySpec)

/-- ITS FALSE NEIGHBOUR: 'it returns false'. Refute it at one input. -/
def secretManyWrong : ChangeSpec := { name := "secretMany", fn := fun _ => fun
  | [d1, d2] => { results := [.lit (.bool false)], args := [d1, d2] }
  | _ => none }
def SecretManyWrongFalsely : Prop := secretManyRow.holds Try.pinned (OpenSpec.ofChange secretManyWrong)

/-- 'identitylaw22.SecretOnly': WHATEVER THE INPUT: true; the input reads as it did. -/
def secretOnlySpec : ChangeSpec := { name := "secretOnly", fn := fun _ => fun
  | [d1, d2, d3, d4] => { results := [.lit (.bool true)], args := [d1, d2, d3, d4] }
  | _ => none }
def secretOnlyRow : OpenClaim := { program := "ytnmcncnphfgpiaa", sum := "b3d3385662da0c86674c164354a8b8bfff5916742b2e4d38bd5969c993ade1b3", func := "identity/identitylaw22.SecretOnly", spec := "secretOnly", inPlace := ["internal/bytealg.IndexByteString", "internal/bytealg.IndexString"], unfollowed := true, recurses := true, named := ["internal/bytealg.MaxLen"], apart := false }
def SecretOnlySaid : Prop := secretOnlyRow.holds Try.pinned (OpenSpec.ofChange secretOnlySpec)

/-- ITS FALSE NEIGHBOUR: 'it returns false'. Refute it at one input. -/
def secretOnlyWrong : ChangeSpec := { name := "secretOnly", fn := fun _ => fun
  | [d1, d2, d3, d4] => { results := [.lit (.bool false)], args := [d1, d2, d3, d4] }
  | _ => none }
def SecretOnlyWrongFalsely : Prop := secretOnlyRow.holds Try.pinned (OpenSpec.ofChange secretOnlyWrong)

/-- 'identitylaw22.SecretLocked': WHATEVER THE INPUT: true; the input reads as it did. -/
def secretLockedSpec : ChangeSpec := { name := "secretLocked", fn := fun _ => fun
  | [d1, d2, d3, d4, d5] => { results := [.lit (.bool true)], args := [d1, d2, d3, d4, d5] }
  | _ => none }
def secretLockedRow : OpenClaim := { program := "ytnmcncnphfgpiaa", sum := "b3d3385662da0c86674c164354a8b8bfff5916742b2e4d38bd5969c993ade1b3", func := "identity/identitylaw22.SecretLocked", spec := "secretLocked", inPlace := ["internal/bytealg.IndexByteString", "internal/bytealg.IndexString"], unfollowed := true, recurses := true, named := ["internal/bytealg.MaxLen"], apart := false }
def SecretLockedSaid : Prop := secretLockedRow.holds Try.pinned (OpenSpec.ofChange secretLockedSpec)

/-- ITS FALSE NEIGHBOUR: 'it returns false'. Refute it at one input. -/
def secretLockedWrong : ChangeSpec := { name := "secretLocked", fn := fun _ => fun
  | [d1, d2, d3, d4, d5] => { results := [.lit (.bool false)], args := [d1, d2, d3, d4, d5] }
  | _ => none }
def SecretLockedWrongFalsely : Prop := secretLockedRow.holds Try.pinned (OpenSpec.ofChange secretLockedWrong)

/- THE SECOND FORM. 'bulk': how many values and letters a reading holds, each counted each time it is reached (what is shared counts as often as it is met; a slice's spare places count too). A statement '..UptoSaid' is the law's where the arguments, and the package variables that the reading takes, are together of bulk at most 1048576: NARROWER than '..Said'. Prove '..Said' where nothing that the law and all that it calls make is longer than what came in: it says more and counts as full. Else prove '..UptoSaid'. A law counts once. -/
mutual
def uptoBulk {H : Type} : DataW H → Nat
  | .lit (.string bytes) => bytes.length + 1
  | .lit _ => 1
  | .nil => 1
  | .ptr d => uptoBulk d + 1
  | .slice elems spare => uptoBulkAll elems + uptoBulkAll spare + 1
  | .agg parts => uptoBulkAll parts + 1
  | .iface _ d => uptoBulk d + 1
  | .map entries => uptoBulkEntries entries + 1
  | .held _ => 1
def uptoBulkAll {H : Type} : List (DataW H) → Nat
  | [] => 0
  | d :: r => uptoBulk d + uptoBulkAll r
def uptoBulkEntries {H : Type} : List (Lit × DataW H) → Nat
  | [] => 0
  | x :: r => uptoBulkEntry x + uptoBulkEntries r
def uptoBulkEntry {H : Type} : Lit × DataW H → Nat
  | (.string bytes, d) => bytes.length + uptoBulk d + 1
  | (_, d) => uptoBulk d + 1
 end
def uptoSmall : (H : Type) → List (DataW H) → Bool := fun _ ds => decide (uptoBulkAll ds ≤ 1048576)
def OpenSpec.upto (s : _root_.Go.ChangeSpec) : _root_.Go.OpenSpec := { _root_.Go.OpenSpec.ofChange s with cond := some uptoSmall }

/-- 'identitylaw22.SecretMakes', WHERE WHAT IT READS IS OF BULK AT MOST 1048576: true; the input reads as it did. -/
def secretMakesUptoRow : OpenClaim := { program := "ytnmcncnphfgpiaa", sum := "b3d3385662da0c86674c164354a8b8bfff5916742b2e4d38bd5969c993ade1b3", func := "identity/identitylaw22.SecretMakes", spec := "secretMakes", inPlace := ["internal/bytealg.IndexByteString", "internal/bytealg.IndexString"], unfollowed := true, recurses := true, named := ["internal/bytealg.MaxLen"], apart := false, narrowed := true }
def SecretMakesUptoSaid : Prop := secretMakesUptoRow.holds Try.pinned (OpenSpec.upto secretMakesSpec)

/-- 'identitylaw22.SecretQuality', WHERE WHAT IT READS IS OF BULK AT MOST 1048576: true; the input reads as it did. -/
def secretQualityUptoRow : OpenClaim := { program := "ytnmcncnphfgpiaa", sum := "b3d3385662da0c86674c164354a8b8bfff5916742b2e4d38bd5969c993ade1b3", func := "identity/identitylaw22.SecretQuality", spec := "secretQuality", inPlace := ["internal/bytealg.IndexByteString", "internal/bytealg.IndexString"], unfollowed := true, recurses := true, named := ["internal/bytealg.MaxLen"], apart := false, narrowed := true }
def SecretQualityUptoSaid : Prop := secretQualityUptoRow.holds Try.pinned (OpenSpec.upto secretQualitySpec)

/-- 'identitylaw22.SecretLocks', WHERE WHAT IT READS IS OF BULK AT MOST 1048576: true; the input reads as it did. -/
def secretLocksUptoRow : OpenClaim := { program := "ytnmcncnphfgpiaa", sum := "b3d3385662da0c86674c164354a8b8bfff5916742b2e4d38bd5969c993ade1b3", func := "identity/identitylaw22.SecretLocks", spec := "secretLocks", inPlace := ["internal/bytealg.IndexByteString", "internal/bytealg.IndexString"], unfollowed := true, recurses := true, named := ["internal/bytealg.MaxLen"], apart := false, narrowed := true }
def SecretLocksUptoSaid : Prop := secretLocksUptoRow.holds Try.pinned (OpenSpec.upto secretLocksSpec)

/-- 'identitylaw22.SecretMany', WHERE WHAT IT READS IS OF BULK AT MOST 1048576: true; the input reads as it did. -/
def secretManyUptoRow : OpenClaim := { program := "ytnmcncnphfgpiaa", sum := "b3d3385662da0c86674c164354a8b8bfff5916742b2e4d38bd5969c993ade1b3", func := "identity/identitylaw22.SecretMany", spec := "secretMany", inPlace := ["internal/bytealg.IndexByteString", "internal/bytealg.IndexString"], unfollowed := true, recurses := true, named := ["internal/bytealg.MaxLen"], apart := false, narrowed := true }
def SecretManyUptoSaid : Prop := secretManyUptoRow.holds Try.pinned (OpenSpec.upto secretManySpec)

/-- 'identitylaw22.SecretOnly', WHERE WHAT IT READS IS OF BULK AT MOST 1048576: true; the input reads as it did. -/
def secretOnlyUptoRow : OpenClaim := { program := "ytnmcncnphfgpiaa", sum := "b3d3385662da0c86674c164354a8b8bfff5916742b2e4d38bd5969c993ade1b3", func := "identity/identitylaw22.SecretOnly", spec := "secretOnly", inPlace := ["internal/bytealg.IndexByteString", "internal/bytealg.IndexString"], unfollowed := true, recurses := true, named := ["internal/bytealg.MaxLen"], apart := false, narrowed := true }
def SecretOnlyUptoSaid : Prop := secretOnlyUptoRow.holds Try.pinned (OpenSpec.upto secretOnlySpec)

/-- 'identitylaw22.SecretLocked', WHERE WHAT IT READS IS OF BULK AT MOST 1048576: true; the input reads as it did. -/
def secretLockedUptoRow : OpenClaim := { program := "ytnmcncnphfgpiaa", sum := "b3d3385662da0c86674c164354a8b8bfff5916742b2e4d38bd5969c993ade1b3", func := "identity/identitylaw22.SecretLocked", spec := "secretLocked", inPlace := ["internal/bytealg.IndexByteString", "internal/bytealg.IndexString"], unfollowed := true, recurses := true, named := ["internal/bytealg.MaxLen"], apart := false, narrowed := true }
def SecretLockedUptoSaid : Prop := secretLockedUptoRow.holds Try.pinned (OpenSpec.upto secretLockedSpec)

end Rows
end Go.Proofs.Ytnmcncnphfgpiaa
