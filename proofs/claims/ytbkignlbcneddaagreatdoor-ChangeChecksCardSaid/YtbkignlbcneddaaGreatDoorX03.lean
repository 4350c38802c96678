/-
  Texts of the schema layer and of those beneath it, joined: AttIns, AttMem, AttTw, AttChk, ShelfK, AttKeys, AttMap, AttGrp, AttApp, AttT, ShelfE, AttAsc. Conditions stand at each contract.
-/
import Derived.Deep.SlicePairs
import Derived.Shelf.SlIter.Nil
import Derived.Shelf.SortM.Plain
import Derived.Shelf.SortM.SortNone
import Derived.Maps.OwnSet
import Derived.Sort.KeysCollected
import Derived.Maps.AppendAt
import Derived.Deep.Upon
import Derived.Laws.AppendOwnNone
import Derived.ArgAppend
import Derived.Deep.AppendSrc
import Derived.Shelf.SlicesG.Turned
import Derived.Shelf.SlicesG.CompactS
import Derived.Sort.OwnSorted
import Derived.Test.YtbkignlbcneddaaGreatDoorProg
import Derived.Test.YtbkignlbcneddaaGreatDoorX02
set_option linter.unusedVariables false
set_option linter.unusedSimpArgs false
set_option linter.unnecessarySimpa false

section
/-
  Contracts of the specification's has and Insert. Insert at an ascending list without doubles. No condition beyond sizes.
-/
set_option maxRecDepth 100000
namespace Go.Proofs.YtbkignlbcneddaaGreatDoor
open Go.RowKit Go.PlainAid
theorem str_eq (a b : ByteArray) : (a.toList == b.toList) = decide (a = b) := by
  rw [Lib.toList_data, Lib.toList_data, Bool.eq_iff_iff, beq_iff_eq, decide_eq_true_eq]
  exact ⟨fun h => by rw [← Lib.mk_data a, ← Lib.mk_data b, h], fun h => by rw [h]⟩
theorem str_ne (a b : ByteArray) : (a.toList != b.toList) = decide (a ≠ b) := by
  rw [bne, str_eq]; by_cases h : a = b <;> simp [h]
theorem less_cmp : ∀ a b : List UInt8, Op.bytesLess a b = decide (Lib.compareBytes a b < 0)
  | [], [] => by simp [Op.bytesLess, Lib.compareBytes]
  | [], _ :: _ => by simp [Op.bytesLess, Lib.compareBytes]
  | _ :: _, [] => by simp [Op.bytesLess, Lib.compareBytes]
  | x :: a, y :: b => by
    unfold Op.bytesLess Lib.compareBytes
    rw [less_cmp a b]
    by_cases h : x < y
    · simp [h]
    · by_cases g : y < x
      · have hne : ¬ x = y := fun e => by subst e; exact h g
        simp [h, g, hne]
      · have he : x = y := by
          have h1 : ¬ x.toNat < y.toNat := fun k => h (UInt8.lt_iff_toNat_lt.2 k)
          have h2 : ¬ y.toNat < x.toNat := fun k => g (UInt8.lt_iff_toNat_lt.2 k)
          exact UInt8.toNat_inj.1 (by omega)
        simp [h, g, he]
def memB (l : List ByteArray) (s : ByteArray) : Bool := l.any fun x => decide (x = s)
theorem memB_iff {l : List ByteArray} {s : ByteArray} : memB l s = true ↔ s ∈ l := by
  unfold memB
  rw [List.any_eq_true]
  exact ⟨fun ⟨x, h, e⟩ => by rw [← of_decide_eq_true e]; exact h, fun h => ⟨s, h, decide_eq_true rfl⟩⟩
set_option maxRecDepth 100000 in
set_option maxHeartbeats 2000000 in
theorem has_s (ao : Option Addr) (n cap : Nat) (ps : List ByteArray) (s : ByteArray) (w : World) (h : StrsAt w ao n cap ps) :
    Calls Tryz.prog 155 #[.slice ao n cap, .string s] w fun e w' => e = .returned (.bool (memB ps s)) ∧ w = w' := by
  obtain ⟨h1, h2, h3, h4⟩ := h
  subst h1
  unfold maxLen at h3
  have H4 := Lib.hid h4; clear h4
  go_enter Tryz.func155, Tryz.ntmps155
  go_wp2
  go_loop [5] (fun i => ∃ k : Nat, k ≤ ps.length ∧ i = .int .i64 k ∧ Hid (∀ j, j < k → partAt ps j ≠ s)) (fun i => ps.length - (intOf i).toNat)
  case atStart => exact ⟨0, Nat.zero_le _, rfl, Lib.hid (fun j hj => absurd hj (Nat.not_lt_zero _))⟩
  case round =>
    obtain ⟨k, hk, rfl, HA⟩ := hrel
    by_cases hlt : k < ps.length
    · obtain ⟨b, off, rfl, hs⟩ := H4.out (by omega)
      have hcell := hs.2 k hlt
      clear hs
      obtain ⟨p, hpe⟩ : ∃ p, p = partAt ps k := ⟨_, rfl⟩
      rw [← hpe] at hcell
      have HP := Lib.hid hpe; clear hpe
      have d1 : (k : Int) < (ps.length : Int) := by omega
      by_cases hps : p = s
      · have q1 : (p.toList == s.toList) = true := by rw [str_eq]; exact decide_eq_true hps
        have HE := Lib.hid (show memB ps s = true from memB_iff.2 (by
          rw [← hps, HP.out]; unfold partAt
          rw [List.getD_eq_getElem?_getD, List.getElem?_eq_getElem hlt]; exact List.getElem_mem hlt))
        clear hps
        go_wp2_with fail
        go_ret
        exact ⟨by rw [HE.out]; rfl, rfl⟩
      · have q1 : (p.toList == s.toList) = false := by rw [str_eq]; exact decide_eq_false hps
        have HN := Lib.hid hps
        clear hps
        go_wp2_with fail
        go_round
        case rel =>
          refine ⟨k + 1, by omega, by go_num, Lib.hid fun j hj => ?_⟩
          by_cases e : j = k
          · rw [e, ← HP.out]; exact HN.out
          · exact HA.out j (by omega)
        case measure => simp [intOf]; omega
    · have HE := Lib.hid (show memB ps s = false from Bool.eq_false_iff.2 fun hm0 => by
        obtain ⟨j, hj, e⟩ := List.getElem_of_mem (memB_iff.1 hm0)
        refine HA.out j (by omega) ?_
        unfold partAt
        rw [List.getD_eq_getElem?_getD, List.getElem?_eq_getElem hj]; exact e)
      go_wp2_with fail
      go_ret
      exact ⟨by rw [HE.out]; rfl, rfl⟩
/-! ### Insert -/
theorem take_snoc (l : List ByteArray) (k : Nat) (h : k < l.length) : l.take (k + 1) = l.take k ++ [partAt l k] := by
  unfold partAt
  rw [List.take_succ_eq_append_getElem h, List.getD_eq_getElem?_getD, List.getElem?_eq_getElem h]; rfl
theorem part_mem (l : List ByteArray) (k : Nat) (h : k < l.length) : partAt l k ∈ l := by
  unfold partAt
  rw [List.getD_eq_getElem?_getD, List.getElem?_eq_getElem h]; exact List.getElem_mem h
end Go.Proofs.YtbkignlbcneddaaGreatDoor
end

section
/-
  Attributes in memory: a slice of attributes that came in, read out of memory. No condition.
-/
set_option maxRecDepth 100000
namespace Go.Proofs.YtbkignlbcneddaaGreatDoor
open Go.ChangeShapes Go.WideShapes Go.ChangeAt Go.RowKit
def atD (l : List At) (j : Nat) : At := l.getD j (⟨#[]⟩, [])
theorem at_get (l : List At) (j : Nat) (h : j < l.length) : atD l j = l[j] := by
  unfold atD; rw [List.getD_eq_getElem?_getD, List.getElem?_eq_getElem h]; rfl
theorem at_mem (l : List At) (j : Nat) (h : j < l.length) : atD l j ∈ l := by rw [at_get l j h]; exact List.getElem_mem h
theorem at_take (l : List At) (k : Nat) (h : k < l.length) : l.take (k + 1) = l.take k ++ [atD l k] := by
  rw [at_get l k h]; exact List.take_succ_eq_append_getElem h
/-- an attribute in memory: its name and its values -/
def AttAt (w : World) (b off : Nat) (a : At) : Prop :=
  w.cell? ⟨b, off, none⟩ = some (.string a.1) ∧ ∃ vo vn vc, w.cell? ⟨b, off + 1, none⟩ = some (.slice vo vn vc) ∧ StrsAt w vo vn vc a.2
theorem AttAt.below {w w' : World} {b off : Nat} {a : At} (h : AttAt w b off a) (hb : Below w.heap.size w w') : AttAt w' b off a := by
  obtain ⟨h0, vo, vn, vc, h1, h2⟩ := h
  exact ⟨cell_later hb h0, vo, vn, vc, cell_later hb h1, h2.below hb⟩
/-- a slice of attributes in memory -/
def AttrsAt (w : World) (ao : Option Addr) (n cap : Nat) (l : List At) : Prop :=
  l.length = n ∧ n ≤ cap ∧ cap ≤ maxLen ∧ (0 < n → ∃ b off, ao = some ⟨b, off, none⟩ ∧ b < w.heap.size ∧ ∀ j, j < n → AttAt w b (off + j * 2) (atD l j))
theorem AttrsAt.below {w w' : World} {ao : Option Addr} {n cap : Nat} {l : List At} (h : AttrsAt w ao n cap l) (hb : Below w.heap.size w w') : AttrsAt w' ao n cap l :=
  ⟨h.1, h.2.1, h.2.2.1, fun hn => by
    obtain ⟨b, off, e, hi, ha⟩ := h.2.2.2 hn
    exact ⟨b, off, e, Nat.lt_of_lt_of_le hi hb.size, fun j hj => (ha j hj).below hb⟩⟩
end Go.Proofs.YtbkignlbcneddaaGreatDoor
end

section
/-
  Contracts of the specification's twice and checkValues. Condition: strings of at most 1100000 bytes.
-/
set_option maxRecDepth 100000
namespace Go.Proofs.YtbkignlbcneddaaGreatDoor
open Go.RowKit Go.PlainAid
/-- names and values are short -/
def SmallS (l : List ByteArray) : Prop := ∀ v ∈ l, v.size ≤ 1100000
def SmallA (l : List At) : Prop := ∀ a ∈ l, a.1.size ≤ 1100000 ∧ SmallS a.2
/-- an attribute before number i has the same name -/
def twiceB (l : List At) (i : Nat) : Bool := (l.take i).any fun a => decide (lowS a.1 = lowS (atD l i).1)
end Go.Proofs.YtbkignlbcneddaaGreatDoor
end

section
/-
  The first error of values, as a function. No condition.
-/
set_option maxRecDepth 100000
namespace Go.Proofs.YtbkignlbcneddaaGreatDoor
open Go.RowKit Go.PlainAid
/-- the first of n errors that is one -/
def firstE (f : Nat → Int) : Nat → Int
  | 0 => 0
  | n + 1 => if firstE f n = 0 then f n else firstE f n
theorem firstE_zero {f : Nat → Int} : ∀ {n : Nat}, (∀ j, j < n → f j = 0) → firstE f n = 0
  | 0, _ => rfl
  | n + 1, h => by
    unfold firstE
    rw [if_pos (firstE_zero fun j hj => h j (by omega))]
    exact h n (by omega)
theorem firstE_hit {f : Nat → Int} {k : Nat} (h : ∀ j, j < k → f j = 0) (hk : f k ≠ 0) : ∀ {n : Nat}, k < n → firstE f n = f k
  | 0, hn => absurd hn (Nat.not_lt_zero _)
  | n + 1, hn => by
    unfold firstE
    by_cases e : k = n
    · subst e; rw [if_pos (firstE_zero h)]
    · have := firstE_hit h hk (n := n) (by omega)
      rw [if_neg (by rw [this]; exact hk)]; exact this
/-- the error of value j: no value; among the old ones or the ones before it -/
def errV (vs old : List ByteArray) (j : Nat) : Int := if cleanB (partAt vs j) = false then 4 else if memB old (partAt vs j) = true ∨ memB (vs.take j) (partAt vs j) = true then 7 else 0
def chkV (vs old : List ByteArray) : Int := firstE (errV vs old) vs.length
theorem StrsAt.cut {w : World} {ao : Option Addr} {n cap : Nat} {ps : List ByteArray} (h : StrsAt w ao n cap ps) (i : Nat) (hi : i ≤ n) : StrsAt w ao i cap (ps.take i) := by
  obtain ⟨h1, h2, h3, h4⟩ := h
  refine ⟨by rw [List.length_take]; omega, by omega, h3, fun hn => ?_⟩
  obtain ⟨b, off, e, hb, hs⟩ := h4 (by omega)
  refine ⟨b, off, e, hb, fun j hj => ?_⟩
  rw [List.length_take] at hj
  rw [hs j (by omega)]
  unfold partAt
  rw [List.getD_eq_getElem?_getD, List.getD_eq_getElem?_getD, List.getElem?_take, if_pos (by omega)]
end Go.Proofs.YtbkignlbcneddaaGreatDoor
end

section
/-
  DERIVED: THE SHELF's CONTRACTS AT THIS DUMP, IN PLAIN WORDS (tools/lay-plain.mjs out of 'TryzShelfKSrc.lean', which tools/lay-shelf.mjs wrote): THE SAME DECLARATIONS UNDER THE SAME NAMES: 'import', 'namespace', 'open', 'def', 'theorem' AND NOTHING ELSE: no command of the shelf's: FOR A HAND-IN. Each laying: the table of numbers ('.._ren') and one theorem, a field a fact of the dump's own or the kernel's comparison; each contract: ONE APPLICATION.
-/
namespace Go.Proofs
open Go.Shelf
def Tryz.keys_ren : Go.Shelf.Ren := ⟨fun | 7 => 81 | 10 => 123 | n => n, fun | 23 => 106 | 26 => 9 | 3 => 58 | 28 => 109 | 0 => 0 | 27 => 108 | 33 => 75 | 4 => 4 | n => n, fun | n => n⟩
theorem Tryz.keys : Go.Proofs.SlLaysZ.n7 Tryz.prog Tryz.keys_ren := {
  mixed := by kernel_rfl
  f7 := ⟨Tryz.f81.name, by decide, Tryz.func81.trans (congrArg some (by kernel_rfl))⟩
  f10 := ⟨Tryz.f123.name, by decide, Tryz.func123.trans (congrArg some (by kernel_rfl))⟩
  t0 := Tryz.underlying0
  a0 := Tryz.isAgg0
  z0 := Tryz.sizeOf0
  v0 := Tryz.zeroValue0
  t4 := Tryz.underlying4
  a4 := Tryz.isAgg4
  z4 := Tryz.sizeOf4
  v4 := Tryz.zeroValue4
  t23 := Tryz.underlying106
  a23 := Tryz.isAgg106
  z23 := Tryz.sizeOf106
  v23 := Tryz.zeroValue106
  t26 := Tryz.underlying9
  a26 := Tryz.isAgg9
  z26 := Tryz.sizeOf9
  v26 := Tryz.zeroValue9
  t27 := Tryz.underlying108
  a27 := Tryz.isAgg108
  z27 := Tryz.sizeOf108
  v27 := Tryz.zeroValue108
  t28 := Tryz.underlying109
  a28 := Tryz.isAgg109
  z28 := Tryz.sizeOf109
  v28 := Tryz.zeroValue109
  t33 := Tryz.underlying75
  a33 := Tryz.isAgg75
  z33 := Tryz.sizeOf75
  v33 := Tryz.zeroValue75 }
def Tryz.sorted_ren : Go.Shelf.Ren := ⟨fun | 6 => 80 | 8 => 121 | 9 => 122 | 11 => 157 | 13 => 147 | 12 => 158 | 23 => 197 | 24 => 198 | 14 => 201 | 15 => 202 | 16 => 203 | 17 => 204 | 18 => 205 | 19 => 206 | 20 => 207 | 21 => 208 | 22 => 209 | 25 => 233 | 26 => 229 | 27 => 230 | 28 => 234 | 29 => 235 | 30 => 236 | 31 => 244 | n => n, fun | 26 => 9 | 28 => 109 | 24 => 58 | 0 => 0 | 3 => 3 | 37 => 151 | 48 => 202 | 50 => 204 | 4 => 4 | 40 => 196 | 39 => 195 | 45 => 153 | 5 => 5 | 9 => 9 | 51 => 228 | 55 => 232 | 57 => 244 | 58 => 245 | 33 => 75 | n => n, fun | n => n⟩
theorem Tryz.sorted : Go.Proofs.SlLaysZ.n6 Tryz.prog Tryz.sorted_ren := {
  mixed := by kernel_rfl
  f6 := ⟨Tryz.f80.name, by decide, Tryz.func80.trans (congrArg some (by kernel_rfl))⟩
  f8 := ⟨Tryz.f121.name, by decide, Tryz.func121.trans (congrArg some (by kernel_rfl))⟩
  f11 := ⟨Tryz.f157.name, by decide, Tryz.func157.trans (congrArg some (by kernel_rfl))⟩
  t0 := Tryz.underlying0
  a0 := Tryz.isAgg0
  z0 := Tryz.sizeOf0
  v0 := Tryz.zeroValue0
  t24 := Tryz.underlying58
  a24 := Tryz.isAgg58
  z24 := Tryz.sizeOf58
  v24 := Tryz.zeroValue58
  t26 := Tryz.underlying9
  a26 := Tryz.isAgg9
  z26 := Tryz.sizeOf9
  v26 := Tryz.zeroValue9
  t28 := Tryz.underlying109
  a28 := Tryz.isAgg109
  z28 := Tryz.sizeOf109
  v28 := Tryz.zeroValue109
  i26 := by kernel_rfl }
def Tryz.sort_ren : Go.Shelf.Ren := ⟨fun | 6 => 122 | 8 => 147 | 9 => 158 | 19 => 197 | 20 => 198 | 21 => 201 | 22 => 202 | 23 => 203 | 24 => 204 | 25 => 205 | 26 => 206 | 27 => 207 | 28 => 208 | 29 => 209 | 36 => 233 | 31 => 229 | 32 => 230 | 37 => 234 | 38 => 235 | 39 => 236 | 41 => 244 | n => n, fun | 27 => 58 | 29 => 9 | 3 => 3 | 32 => 151 | 26 => 58 | 0 => 0 | 44 => 202 | 46 => 204 | 4 => 4 | 36 => 196 | 35 => 195 | 41 => 153 | 5 => 5 | 9 => 9 | 53 => 228 | 57 => 232 | 63 => 244 | 64 => 245 | n => n, fun | n => n⟩
theorem Tryz.sort : Go.Proofs.SlLaysM.n6 Tryz.prog Tryz.sort_ren := {
  mixed := by kernel_rfl
  f6 := ⟨Tryz.f122.name, by decide, Tryz.func122.trans (congrArg some (by kernel_rfl))⟩
  f8 := Tryz.func147.trans (congrArg some (by kernel_rfl))
  f9 := ⟨Tryz.f158.name, by decide, Tryz.func158.trans (congrArg some (by kernel_rfl))⟩
  f19 := Tryz.func197.trans (congrArg some (by kernel_rfl))
  f20 := Tryz.func198.trans (congrArg some (by kernel_rfl))
  f21 := ⟨Tryz.f201.name, by decide, Tryz.func201.trans (congrArg some (by kernel_rfl))⟩
  f22 := ⟨Tryz.f202.name, by decide, Tryz.func202.trans (congrArg some (by kernel_rfl))⟩
  f23 := ⟨Tryz.f203.name, by decide, Tryz.func203.trans (congrArg some (by kernel_rfl))⟩
  f24 := ⟨Tryz.f204.name, by decide, Tryz.func204.trans (congrArg some (by kernel_rfl))⟩
  f25 := ⟨Tryz.f205.name, by decide, Tryz.func205.trans (congrArg some (by kernel_rfl))⟩
  f26 := ⟨Tryz.f206.name, by decide, Tryz.func206.trans (congrArg some (by kernel_rfl))⟩
  f27 := ⟨Tryz.f207.name, by decide, Tryz.func207.trans (congrArg some (by kernel_rfl))⟩
  f28 := ⟨Tryz.f208.name, by decide, Tryz.func208.trans (congrArg some (by kernel_rfl))⟩
  f29 := ⟨Tryz.f209.name, by decide, Tryz.func209.trans (congrArg some (by kernel_rfl))⟩
  f31 := Tryz.func229.trans (congrArg some (by kernel_rfl))
  f32 := Tryz.func230.trans (congrArg some (by kernel_rfl))
  f36 := ⟨Tryz.f233.name, by decide, Tryz.func233.trans (congrArg some (by kernel_rfl))⟩
  f37 := ⟨Tryz.f234.name, by decide, Tryz.func234.trans (congrArg some (by kernel_rfl))⟩
  f38 := ⟨Tryz.f235.name, by decide, Tryz.func235.trans (congrArg some (by kernel_rfl))⟩
  f39 := ⟨Tryz.f236.name, by decide, Tryz.func236.trans (congrArg some (by kernel_rfl))⟩
  f41 := ⟨Tryz.f244.name, by decide, Tryz.func244.trans (congrArg some (by kernel_rfl))⟩
  t0 := Tryz.underlying0
  a0 := Tryz.isAgg0
  z0 := Tryz.sizeOf0
  v0 := Tryz.zeroValue0
  t3 := Tryz.underlying3
  a3 := Tryz.isAgg3
  z3 := Tryz.sizeOf3
  v3 := Tryz.zeroValue3
  t4 := Tryz.underlying4
  a4 := Tryz.isAgg4
  z4 := Tryz.sizeOf4
  v4 := Tryz.zeroValue4
  t5 := Tryz.underlying5
  a5 := Tryz.isAgg5
  z5 := Tryz.sizeOf5
  v5 := Tryz.zeroValue5
  t9 := Tryz.underlying9
  a9 := Tryz.isAgg9
  z9 := Tryz.sizeOf9
  v9 := Tryz.zeroValue9
  t26 := Tryz.underlying58
  a26 := Tryz.isAgg58
  z26 := Tryz.sizeOf58
  v26 := Tryz.zeroValue58
  t27 := Tryz.underlying58
  a27 := Tryz.isAgg58
  z27 := Tryz.sizeOf58
  v27 := Tryz.zeroValue58
  t29 := Tryz.underlying9
  a29 := Tryz.isAgg9
  z29 := Tryz.sizeOf9
  v29 := Tryz.zeroValue9
  t32 := Tryz.underlying151
  a32 := Tryz.isAgg151
  z32 := Tryz.sizeOf151
  v32 := Tryz.zeroValue151
  t35 := Tryz.underlying195
  a35 := Tryz.isAgg195
  z35 := Tryz.sizeOf195
  v35 := Tryz.zeroValue195
  t36 := Tryz.underlying196
  a36 := Tryz.isAgg196
  z36 := Tryz.sizeOf196
  v36 := Tryz.zeroValue196
  t41 := Tryz.underlying153
  a41 := Tryz.isAgg153
  z41 := Tryz.sizeOf153
  v41 := Tryz.zeroValue153
  t44 := Tryz.underlying202
  a44 := Tryz.isAgg202
  z44 := Tryz.sizeOf202
  v44 := Tryz.zeroValue202
  t46 := Tryz.underlying204
  a46 := Tryz.isAgg204
  z46 := Tryz.sizeOf204
  v46 := Tryz.zeroValue204
  t53 := Tryz.underlying228
  a53 := Tryz.isAgg228
  z53 := Tryz.sizeOf228
  v53 := Tryz.zeroValue228
  t57 := Tryz.underlying232
  a57 := Tryz.isAgg232
  z57 := Tryz.sizeOf232
  v57 := Tryz.zeroValue232
  t63 := Tryz.underlying244
  a63 := Tryz.isAgg244
  z63 := Tryz.sizeOf244
  v63 := Tryz.zeroValue244
  t64 := Tryz.underlying245
  a64 := Tryz.isAgg245
  z64 := Tryz.sizeOf245
  v64 := Tryz.zeroValue245 }
end Go.Proofs
end

section
/-
  The keys of a map from strings to slices of strings, in order: maps.Keys and slices.Sorted at this program. Condition: fewer than 1100000 keys.
-/
set_option maxRecDepth 100000
namespace Go.Proofs.YtbkignlbcneddaaGreatDoor
open Go.RowKit Go.PlainAid Go.Maps Go.Sort Go.Shelf
theorem sorts_in (m : Nat) : AnyZ.SortsIn Tryz.prog Tryz.sorted_ren Fence.wide m :=
  ⟨fun blk off cap ss W hH hblk hsz => callsIn_wide.2 (AnyM.slices_Sort_string Tryz.sort blk off cap ss W hH hblk hsz),
   fun p cap W => callsIn_wide.2 (AnyM.slices_Sort_string_none Tryz.sort p cap W)⟩
theorem keys_s (mb : Option Nat) (W : World) :
    Calls Tryz.prog 81 #[.map mb] W fun e w' =>
      e = .returned (.func (.func 123) #[] #[.pointer (some ⟨W.heap.size, 0, none⟩)]) ∧ w' = W.alloc (.cells #[.map mb] 106) :=
  (callsIn_wide (n := 5)).1 (AnyZ.keys_in Tryz.keys Fence.wide 5 trivial rfl mb W)
set_option maxHeartbeats 1000000 in
theorem sorted_keys {H : Type} (b nn : Nat) (D0 : DataW H) (R : Value → Option (DataW H × List MemPlace)) (w : World) (hown : w.ownsMap Tryz.prog 9 R b nn D0) (hmax : Maps.size D0 ≤ 1100000) :
    Calls Tryz.prog 80 #[.func (.func 123) #[] #[.pointer (some ⟨w.heap.size, 0, none⟩)]] (w.alloc (.cells #[.map (some b)] 106)) fun e w' =>
      ∃ (v : Value) (ss : List (List UInt8)), e = .returned v ∧ ss.Perm (strKeys D0) ∧
      w'.ownsRow (w.heap.size + 1) 9 1 v ss.length (scells ((ss.mergeSort (fun x y => decide (x ≤ y))).map fun x => ⟨x.toArray⟩)) ∧ Below (w.heap.size + 1) (w.alloc (.cells #[.map (some b)] 106)) w' := by
  have hbl := hown.lt
  have hseq : SeqGives Fence.wide 2 Tryz.prog 123 #[.pointer (some ⟨w.heap.size, 0, none⟩)] encStr (fun ss => ss.Perm (strKeys D0)) (Maps.size D0) (w.alloc (.cells #[.map (some b)] 106)) :=
    AnyZ.keys_gives (ρ := Tryz.keys_ren) { Tryz.keys with } Fence.wide _ trivial rfl (by omega) w.heap.size b nn D0 _ (by simp) (by simp) (by
      obtain ⟨es, clock, hb, Ft, hs, hD⟩ := hown
      exact ⟨es, clock, (Below.heap_alloc _ _ b hbl).trans hb, Ft, hs, hD⟩)
  refine ((callsIn_wide (n := 5)).1 (AnyZ.sorted_in Tryz.sorted Fence.wide 5 trivial trivial trivial trivial rfl (by omega) (sorts_in _) (enters_of Tryz.func122 (by kernel_rfl) rfl) 123 #[.pointer (some ⟨w.heap.size, 0, none⟩)] trivial
    (enters_of Tryz.func123 (by kernel_rfl) rfl) _ _ (by unfold maxLen; omega) (by omega) _ hseq)).mono ?_
  rintro e w' ⟨v, ss, he, hS, hrow, hnil, hb⟩
  rw [World.size_alloc] at hrow hb
  refine ⟨v, ss, he, hS, ?_, hb⟩
  have e1 : scells ((ss.mergeSort (fun x y => decide (x ≤ y))).map fun x => ⟨x.toArray⟩) = (ss.mergeSort (fun x y => decide (x ≤ y))).map encStr := by
    unfold scells; rw [List.map_map]; rfl
  rw [e1]; exact hrow
end Go.Proofs.YtbkignlbcneddaaGreatDoor
end

section
/-
  A map from strings to slices of strings that the call has made: each key's slice lies in a row of its own. Also: the keys in order are the ascending list of them.
-/
set_option maxRecDepth 100000
namespace Go.Proofs.YtbkignlbcneddaaGreatDoor
open Go.RowKit Go.PlainAid Go.Maps
variable {H : Type}
/-- how the head of a slice of the call's own reads, in whatever world: its block, length and capacity -/
def hdrE (v : Value) : Option (DataW H × List MemPlace) :=
  match v with
  | .slice none 0 0 => some (.nil, [])
  | .slice (some ⟨g, 0, none⟩) n c => some (.agg [.lit (.int .i64 g), .lit (.int .i64 n), .lit (.int .i64 c)], [])
  | _ => none
theorem hdrE_nil : hdrE (H := H) (.slice none 0 0) = some (.nil, []) := rfl
theorem hdrE_some (g n c : Nat) : hdrE (H := H) (.slice (some ⟨g, 0, none⟩) n c) = some (.agg [.lit (.int .i64 g), .lit (.int .i64 n), .lit (.int .i64 c)], []) := rfl
theorem hdrE_one {u v : Value} {d : DataW H} {ps qs : List MemPlace} (h : hdrE u = some (d, ps)) (k : hdrE v = some (d, qs)) : u = v := by
  unfold hdrE at h k
  split at h <;> split at k <;> simp only [Option.some.injEq, Prod.mk.injEq, reduceCtorEq] at h k
  · rfl
  · obtain ⟨rfl, _⟩ := h; simp at k
  · obtain ⟨rfl, _⟩ := h; simp at k
  · obtain ⟨rfl, _⟩ := h
    simp only [DataW.agg.injEq, List.cons.injEq, DataW.lit.injEq, Lit.int.injEq, Int.ofNat.injEq, and_true, true_and, Int.ofNat_inj] at k
    obtain ⟨⟨h1, h2, h3⟩, _⟩ := k
    subst h1; subst h2; subst h3; rfl
theorem lt_cmp : ∀ a b : List UInt8, a < b ↔ Lib.compareBytes a b < 0
  | [], [] => by simp [Lib.compareBytes]
  | [], _ :: _ => by simp [Lib.compareBytes]
  | _ :: _, [] => by simp [Lib.compareBytes]
  | x :: a, y :: b => by
    rw [List.cons_lt_cons_iff, lt_cmp a b]
    show _ ↔ (if x < y then (-1 : Int) else if y < x then 1 else Lib.compareBytes a b) < 0
    by_cases h : x < y
    · simp [h]
    · by_cases g : y < x
      · have hne : ¬ x = y := fun e => by subst e; exact h g
        simp [h, g, hne]
      · have he : x = y := by
          have h1 : ¬ x.toNat < y.toNat := fun k => h (UInt8.lt_iff_toNat_lt.2 k)
          have h2 : ¬ y.toNat < x.toNat := fun k => g (UInt8.lt_iff_toNat_lt.2 k)
          exact UInt8.toNat_inj.1 (by omega)
        simp [h, g, he]
theorem sort_keys {ss : List (List UInt8)} {ks : List ByteArray} (hn : ss.Nodup) (h : ∀ x : ByteArray, x.data.toList ∈ ss ↔ x ∈ ks) :
    (ss.mergeSort (fun x y => decide (x ≤ y))).map (fun x => (⟨x.toArray⟩ : ByteArray)) = sortU ks := by
  have hs := List.pairwise_mergeSort (le := fun (x y : List UInt8) => decide (x ≤ y)) (fun a b c h1 h2 => decide_eq_true (List.le_trans (of_decide_eq_true h1) (of_decide_eq_true h2))) (fun a b => by
    rcases List.le_total a b with k | k
    · simp [k]
    · simp [k]) ss
  have hp := List.mergeSort_perm ss (fun x y => decide (x ≤ y))
  refine asc_ext ?_ (sortU_asc ks) fun x => ?_
  · unfold Asc
    rw [List.pairwise_map]
    have hd := hp.symm.nodup hn
    refine (hs.and hd).imp fun {a b} k => ?_
    have k1 : ¬ b < a := List.not_lt.2 (of_decide_eq_true k.1)
    rw [lt_cmp] at k1
    rcases cs_tri ⟨a.toArray⟩ ⟨b.toArray⟩ with j | j | j
    · exact j
    · exact absurd (by simpa using congrArg (fun s : ByteArray => s.data.toList) j) k.2
    · exact absurd (by simpa [cmpS] using j) k1
  · rw [sortU_mem, ← h x, List.mem_map]
    constructor
    · rintro ⟨y, hy, rfl⟩
      exact hp.mem_iff.1 (by simpa using hy)
    · intro hx
      exact ⟨x.data.toList, hp.mem_iff.2 hx, by simp⟩
end Go.Proofs.YtbkignlbcneddaaGreatDoor
end

section
/-
  A map from strings to slices of strings that the call has made, each key's slice in a row of its own: what it holds, looked up and stored.
-/
set_option maxRecDepth 100000
namespace Go.Proofs.YtbkignlbcneddaaGreatDoor
open Go.RowKit Go.PlainAid Go.Maps Go.ChangeMaps
variable {H : Type}
def klit (k : ByteArray) : Lit := .string k.data.toList
theorem klit_one {a b : ByteArray} (h : klit a = klit b) : a = b := by
  unfold klit at h
  injection h with h
  exact ba_ext h
theorem klit_key (k : ByteArray) (h : k.size ≤ maxLen) : keyOf Tryz.prog 9 (.string k) = some (klit k) := by
  simp [keyOf, Tryz.underlying9, mapKey, klit, h]
theorem hdr_own {w : World} {base n : Nat} {v : Value} {xs : List Value} (h : w.ownsRow base 9 1 v n xs) : ∃ d, hdrE (H := H) v = some (d, []) := by
  rcases h.2 with ⟨rfl, _⟩ | ⟨g, cap, cur, rfl, _⟩
  · exact ⟨_, hdrE_nil⟩
  · exact ⟨_, hdrE_some _ _ _⟩
def setK {α : Type} (f : ByteArray → α) (k : ByteArray) (x : α) (j : ByteArray) : α := if j.data.toList = k.data.toList then x else f j
theorem setK_same {α : Type} (f : ByteArray → α) (k : ByteArray) (x : α) : setK f k x k = x := if_pos rfl
theorem setK_other {α : Type} (f : ByteArray → α) {k j : ByteArray} (x : α) (h : j ≠ k) : setK f k x j = f j := if_neg fun e => h (ba_ext e)
/-- what the map holds: the values gv at each key, in the slice hv -/
structure Groups (w : World) (base b n : Nat) (D : DataW H) (gv : ByteArray → List ByteArray) (hv : ByteArray → Value) : Prop where
  map : w.ownsMap Tryz.prog 9 hdrE b n D
  low : b < base
  reads : ∀ k, hdrE (H := H) (hv k) = some (D.atKey (klit k) .nil, [])
  own : ∀ k, w.ownsRow base 9 1 (hv k) (gv k).length (scells (gv k))
  apart : ∀ k k', k ≠ k' → (hv k).ownBlock = none ∨ (hv k).ownBlock ≠ (hv k').ownBlock
theorem groups_made (w : World) : Groups (H := H) (w.alloc (.map #[] 0)) (w.heap.size + 1) w.heap.size 0 (.map []) (fun _ => []) (fun _ => .slice none 0 0) where
  map := World.ownsMap_made w _ _ _
  low := Nat.lt_succ_self _
  reads k := hdrE_nil
  own k := World.ownsRow_nil _ _ _ _
  apart _ _ _ := .inl rfl
theorem Groups.look {w : World} {base b n : Nat} {D : DataW H} {gv : ByteArray → List ByteArray} {hv : ByteArray → Value} (G : Groups w base b n D gv hv) (k : ByteArray) (hk : k.size ≤ maxLen) :
    (Instr.lookup 106 (.map (some b)) (.string k) false).run Tryz.prog w = .ok (hv k) w := by
  obtain ⟨v, ps, hrun, hv'⟩ := G.map.lookup (t := 106) (e := 58) (string_keyed Tryz.underlying9) Tryz.underlying106 (z := .slice none 0 0) (Tryz.zeroValue58 _) hdrE_nil (klit_key k hk)
  rw [hrun, hdrE_one hv' (G.reads k)]
/-- behind an append to the slice at one key, and the store of what it gave -/
theorem Groups.store {w w1 : World} {base b n : Nat} {D : DataW H} {gv : ByteArray → List ByteArray} {hv : ByteArray → Value} (G : Groups w base b n D gv hv) (k : ByteArray) (hk : k.size ≤ maxLen) (hn : n < maxLen) {v' : Value} {vs : List ByteArray}
    (hg : w.grownBy w1 (hv k).ownBlock) (hown : w1.ownsRow base 9 1 v' vs.length (scells vs)) (hl : v'.ownBlock = (hv k).ownBlock ∨ ∃ g, v'.ownBlock = some g ∧ w.heap.size ≤ g) :
    ∃ w2 d, (Instr.mapUpdate 106 (.map (some b)) (.string k) v').run Tryz.prog w1 = .ok () w2 ∧ Groups w2 base b (n + 1) (D.put (klit k) d) (setK gv k vs) (setK hv k v') ∧ w1.grownBy w2 (some b) := by
  obtain ⟨d, hd⟩ := hdr_own (H := H) hown
  have hbl := G.map.lt
  have hne : some b ≠ (hv k).ownBlock := fun e => by
    have := ((G.own k).lt b e.symm).1
    have := G.low
    omega
  have hm1 := G.map.kept hg hne
  obtain ⟨w2, hrun, hm2, hg2⟩ := hm1.update (t := 106) (e := 58) (string_keyed Tryz.underlying9) Tryz.underlying106 hn (klit_key k hk) hd
  have okept : ∀ {u : Value} {xs : List ByteArray}, w1.ownsRow base 9 1 u xs.length (scells xs) → w2.ownsRow base 9 1 u xs.length (scells xs) := fun {u xs} ho => ho.kept hg2 (by
    cases hu : u.ownBlock with
    | none => exact .inl rfl
    | some g =>
      refine .inr fun e => ?_
      have := (ho.lt g hu).1
      have := G.low
      cases e
      omega)
  have old1 : ∀ j, j ≠ k → w1.ownsRow base 9 1 (hv j) (gv j).length (scells (gv j)) := fun j hj => (G.own j).kept hg (G.apart j k hj)
  refine ⟨w2, d, hrun, ⟨hm2, G.low, fun j => ?_, fun j => ?_, fun i j hij => ?_⟩, hg2⟩
  · by_cases e : j = k
    · subst e
      rw [setK_same, atKey_put_same G.map.isMap (k := klit j) (by unfold klit; trivial)]; exact hd
    · rw [setK_other _ _ e, atKey_put_other (fun h => e (klit_one h))]; exact G.reads j
  · by_cases e : j = k
    · subst e
      rw [setK_same, setK_same]; exact okept hown
    · rw [setK_other _ _ e, setK_other _ _ e]; exact okept (old1 j e)
  · have old_new : ∀ j, j ≠ k → (hv j).ownBlock = none ∨ (hv j).ownBlock ≠ v'.ownBlock := fun j hj => by
      rcases hl with h1 | ⟨g, h1, h2⟩
      · rw [h1]; exact G.apart j k hj
      · cases hu : (hv j).ownBlock with
        | none => exact .inl rfl
        | some q =>
          refine .inr fun e => ?_
          have := ((G.own j).lt q hu).2
          rw [h1] at e
          cases e
          omega
    by_cases ei : i = k
    · subst ei
      have ej : j ≠ i := fun e => hij e.symm
      rw [setK_same, setK_other _ _ ej]
      cases hu : v'.ownBlock with
      | none => exact .inl rfl
      | some q =>
        refine .inr fun e => ?_
        rcases old_new j ej with h | h
        · rw [h] at e; cases e
        · exact h (by rw [hu, e])
    · rw [setK_other _ _ ei]
      by_cases ej : j = k
      · subst ej; rw [setK_same]; exact old_new i ei
      · rw [setK_other _ _ ej]; exact G.apart i j hij
/-- the map's keys in order are the ascending list of them -/
theorem keys_sorted {w : World} {b n : Nat} {D : DataW H} {R : Value → Option (DataW H × List MemPlace)} {ks : List ByteArray} {ss : List (List UInt8)} (hown : w.ownsMap Tryz.prog 9 R b n D)
    (hk : ∀ k : ByteArray, Maps.has D (klit k) = true ↔ k ∈ ks) (hp : ss.Perm (Go.strKeys D)) : (ss.mergeSort (fun x y => decide (x ≤ y))).map (fun x => (⟨x.toArray⟩ : ByteArray)) = sortU ks := by
  have hC : Go.Collected D (fun _ => false) ((sortU ks).map fun s => s.data.toList) := by
    refine ⟨?_, fun x => ?_⟩
    · refine List.pairwise_map.2 ((asc_nodup (sortU_asc ks)).imp fun {a b} h e => h (ba_ext e))
    · rw [List.mem_map]
      have e : (Lit.string x) = klit ⟨x.toArray⟩ := by unfold klit; simp
      constructor
      · rintro ⟨s, hs, rfl⟩
        exact ⟨(hk s).2 (sortU_mem.1 hs), rfl⟩
      · rintro ⟨h, _⟩
        rw [e] at h
        exact ⟨⟨x.toArray⟩, sortU_mem.2 ((hk _).1 h), by simp⟩
  have hS := hp.trans (hC.perm hown (string_keyed Tryz.underlying9) Tryz.underlying9 (fun _ => rfl)).symm
  refine sort_keys (hS.symm.nodup hC.1) fun x => ?_
  rw [hS.mem_iff, List.mem_map]
  constructor
  · rintro ⟨s, hs, e⟩
    rw [← ba_ext e]; exact sortU_mem.1 hs
  · intro hx
    exact ⟨x, sortU_mem.2 hx, rfl⟩
end Go.Proofs.YtbkignlbcneddaaGreatDoor
end

section
/-
  append(s, l...) at strings: s a slice of the call's own, l any slice of strings. Condition: at most 1000000000 strings together.
-/
set_option maxRecDepth 100000
namespace Go.Proofs.YtbkignlbcneddaaGreatDoor
open Go.RowKit Go.PlainAid
theorem push_strs {ops : Array Oper} {rest : List Oper} {o : Oper} {a : Act} {Q : Exit → Act → World → Prop} (wr : World) {base : Nat} {v : Value} {n : Nat} {xs : List Value} (hown : wr.ownsRow base 9 1 v n xs) (s x : Operand)
    {vo : Option Addr} {vn vc : Nat} {vs : List ByteArray} (hv : StrsAt wr vo vn vc vs) (hgd : o.guard = none)
    (ho : o.op = .call { callee := .builtin .append, args := #[s, x], argTypes := #[58, 58] })
    (hs : a.eval s = v) (hx : a.eval x = .slice vo vn vc) (hn : n + vn ≤ 1000000000) (hbase : base ≤ wr.heap.size)
    (h : ∀ v' w', w'.ownsRow base 9 1 v' (n + vn) (xs ++ scells vs) → wr.grownBy w' v.ownBlock → (v'.ownBlock = v.ownBlock ∨ v'.ownBlock = some wr.heap.size) → wpList Tryz.prog ops Q rest (a.put o.dst v') w') :
    wpList Tryz.prog ops Q (o :: rest) a wr := by
  obtain ⟨i0, hi, hz0, hz1, hz2⟩ := info_parts info_string
  obtain ⟨h1, h2, h3, h4⟩ := hv
  have key : ∀ ad : Addr, vo = some ad → (∀ j u, (scells vs)[j]? = some u → wr.cell? (ad.add j) = some u) → wpList Tryz.prog ops Q (o :: rest) a wr := fun ad e hc =>
    wpList_append_own_at _ hgd s x 58 ho base 9 i0 (.string ⟨#[]⟩) 1 16 Tryz.underlying58 hi hz0 hz1 hz2 rfl (by decide) v n xs hs hown ad vn vc (scells vs) (by rw [hx, e]) (by unfold scells; rw [List.length_map]; omega)
      hc (by intro u hu; unfold scells at hu; obtain ⟨y, _, rfl⟩ := List.mem_map.1 hu; rfl) (by unfold maxLen; omega) (by omega) hbase (fun v' w' k1 k2 _ k4 => h v' w' k1 k2 k4)
  by_cases hp : 0 < vn
  · obtain ⟨b, off, e, hb, hc⟩ := h4 hp
    refine key _ e fun j u hu => ?_
    unfold scells at hu
    rw [List.getElem?_map] at hu
    cases hj : vs[j]? with
    | none => rw [hj] at hu; cases hu
    | some y =>
      rw [hj] at hu
      obtain rfl := (Option.some.inj hu).symm
      have hjl : j < vs.length := (List.getElem?_eq_some_iff.1 hj).1
      have := hc j hjl
      rw [Go.WideShapes.add_plain]
      rw [this]; unfold partAt
      rw [List.getD_eq_getElem?_getD, hj]; rfl
  · have hvn : vn = 0 := by omega
    subst hvn
    have hvs : vs = [] := List.length_eq_zero_iff.1 h1
    subst hvs
    cases vo with
    | some ad => exact key ad rfl (fun j u hu => by simp [scells] at hu)
    | none =>
      have hrun : (Builtin.append_ #[58, 58] o.type #[v, .slice none 0 vc]).run Tryz.prog wr = .ok v wr := by
        rcases hown.2 with ⟨rfl, _⟩ | ⟨g, cap, cur, rfl, _, _, hc, _⟩
        · exact run_append_nothing wr 58 58 o.type 9 i0 Tryz.underlying58 hi none 0 0 (Nat.le_refl _) _ (Src.ofNil wr Tryz.underlying58 vc)
        · exact run_append_nothing wr 58 58 o.type 9 i0 Tryz.underlying58 hi _ _ _ hc _ (Src.ofNil wr Tryz.underlying58 vc)
      refine wpList_plain hgd fun K hK => ?_
      unfold Oper.wp execOp
      simp only [ho, resolve, invoke, builtin, Sem.run_bind, Sem.run_pure, Result.andThen_ok, List.map_toArray, List.map_cons, List.map_nil, hs, hx, hrun]
      refine hK _ _ (h v wr ?_ ⟨rfl, rfl, rfl, Nat.le_refl _, fun _ _ _ => rfl⟩ (.inl rfl))
      simpa [scells] using hown
end Go.Proofs.YtbkignlbcneddaaGreatDoor
end

section
/-
  Attributes in memory with the heads of their values' slices written out: cells, appends, what reads as a list of attributes. Condition: at most 1100000 attributes.
-/
set_option maxRecDepth 100000
namespace Go.Proofs.YtbkignlbcneddaaGreatDoor
open Go.RowKit Go.PlainAid
/-- an attribute: its name, the head of its values' slice, its values -/
abbrev Tr := ByteArray × Value × List ByteArray
def tcells (T : List Tr) : List Value := T.flatMap fun t => [.string t.1, t.2.1]
def tats (T : List Tr) : List At := T.map fun t => (t.1, t.2.2)
theorem tcells_cons (t : Tr) (T : List Tr) : tcells (t :: T) = .string t.1 :: t.2.1 :: tcells T := rfl
theorem tcells_append (T U : List Tr) : tcells (T ++ U) = tcells T ++ tcells U := by simp [tcells]
theorem tats_append (T U : List Tr) : tats (T ++ U) = tats T ++ tats U := by simp [tats]
theorem tats_len (T : List Tr) : (tats T).length = T.length := by simp [tats]
theorem tcells_len : ∀ T : List Tr, (tcells T).length = T.length * 2
  | [] => rfl
  | t :: T => by
    have h := tcells_len T
    rw [tcells_cons, List.length_cons, List.length_cons, h, List.length_cons]; omega
def trD (T : List Tr) (j : Nat) : Tr := T.getD j (⟨#[]⟩, .slice none 0 0, [])
theorem tr_get (T : List Tr) (j : Nat) (h : j < T.length) : trD T j = T[j] := by
  unfold trD; rw [List.getD_eq_getElem?_getD, List.getElem?_eq_getElem h]; rfl
theorem tr_mem (T : List Tr) (j : Nat) (h : j < T.length) : trD T j ∈ T := by rw [tr_get T j h]; exact List.getElem_mem h
theorem atD_tats (T : List Tr) (j : Nat) : atD (tats T) j = ((trD T j).1, (trD T j).2.2) := by
  unfold atD trD tats
  rw [List.getD_eq_getElem?_getD, List.getD_eq_getElem?_getD, List.getElem?_map]
  cases T[j]? <;> rfl
theorem tcells_at : ∀ (T : List Tr) (j : Nat), j < T.length → (tcells T)[j * 2]? = some (.string (trD T j).1) ∧ (tcells T)[j * 2 + 1]? = some (trD T j).2.1
  | [], j, h => absurd h (Nat.not_lt_zero _)
  | t :: T, 0, h => ⟨rfl, rfl⟩
  | t :: T, j + 1, h => by
    have := tcells_at T j (by simpa using h)
    rw [tcells_cons, show (j + 1) * 2 = j * 2 + 1 + 1 by omega, show j * 2 + 1 + 1 + 1 = (j * 2 + 1) + 1 + 1 by omega, List.getElem?_cons_succ, List.getElem?_cons_succ, List.getElem?_cons_succ, List.getElem?_cons_succ]
    exact this
/-- a slice's head that reads as strings -/
def Hdr (w : World) (v : Value) (vs : List ByteArray) : Prop := ∃ ao n cap, v = .slice ao n cap ∧ StrsAt w ao n cap vs
theorem Hdr.below {w w' : World} {v : Value} {vs : List ByteArray} (h : Hdr w v vs) (hb : Below w.heap.size w w') : Hdr w' v vs := by
  obtain ⟨ao, n, cap, e, hs⟩ := h
  exact ⟨ao, n, cap, e, hs.below hb⟩
theorem Hdr.one {w : World} {v : Value} {vs : List ByteArray} (h : Hdr w v vs) : v.oneCell' = true := by
  obtain ⟨ao, n, cap, rfl, _⟩ := h; rfl
theorem hdr_owns {w : World} {base : Nat} {v : Value} {vs : List ByteArray} (h : w.ownsRow base 9 1 v vs.length (scells vs)) : Hdr w v vs := by
  obtain ⟨ao, cap, e, hs⟩ := strs_own h rfl
  exact ⟨ao, _, cap, e, hs⟩
def TOk (w : World) (T : List Tr) : Prop := ∀ t ∈ T, Hdr w t.2.1 t.2.2
theorem TOk.below {w w' : World} {T : List Tr} (h : TOk w T) (hb : Below w.heap.size w w') : TOk w' T := fun t ht => (h t ht).below hb
theorem tcells_one {w : World} {T : List Tr} (h : TOk w T) : ∀ u ∈ tcells T, u.oneCell' = true := by
  intro u hu
  obtain ⟨p, hp, hu⟩ := List.mem_flatMap.1 hu
  simp at hu
  rcases hu with rfl | rfl
  · rfl
  · exact (h p hp).one
/-- a slice of attributes, their heads written out -/
def TsAt (w : World) (ao : Option Addr) (n cap : Nat) (T : List Tr) : Prop :=
  T.length = n ∧ n ≤ cap ∧ cap ≤ maxLen ∧ (0 < n → ∃ b off, ao = some ⟨b, off, none⟩ ∧ b < w.heap.size ∧ ∀ j u, (tcells T)[j]? = some u → w.cell? ⟨b, off + j, none⟩ = some u)
theorem TsAt.below {w w' : World} {ao : Option Addr} {n cap : Nat} {T : List Tr} (h : TsAt w ao n cap T) (hb : Below w.heap.size w w') : TsAt w' ao n cap T :=
  ⟨h.1, h.2.1, h.2.2.1, fun hn => by
    obtain ⟨b, off, e, hi, ha⟩ := h.2.2.2 hn
    exact ⟨b, off, e, Nat.lt_of_lt_of_le hi hb.size, fun j u hj => cell_later hb (ha j u hj)⟩⟩
theorem TsAt.keep {w w' : World} {ao : Option Addr} {n cap : Nat} {T : List Tr} (h : TsAt w ao n cap T) (hs : w.heap.size ≤ w'.heap.size) (hk : ∀ b off, ao = some ⟨b, off, none⟩ → b < w.heap.size → w'.heap[b]? = w.heap[b]?) : TsAt w' ao n cap T :=
  ⟨h.1, h.2.1, h.2.2.1, fun hn => by
    obtain ⟨b, off, e, hi, ha⟩ := h.2.2.2 hn
    refine ⟨b, off, e, Nat.lt_of_lt_of_le hi hs, fun j u hj => ?_⟩
    rw [← ha j u hj]
    exact World.cell?_of_block (a := ⟨b, off + j, none⟩) (hk b off e hi)⟩
theorem ts_at {w : World} {b off n cap : Nat} {T : List Tr} (h : TsAt w (some ⟨b, off, none⟩) n cap T) (j : Nat) (hj : j < n) :
    w.cell? ⟨b, off + j * 2, none⟩ = some (.string (trD T j).1) ∧ w.cell? ⟨b, off + j * 2 + 1, none⟩ = some (trD T j).2.1 := by
  obtain ⟨b', off', e, _, ha⟩ := h.2.2.2 (by omega)
  cases e
  have := tcells_at T j (by rw [h.1]; exact hj)
  exact ⟨ha _ _ this.1, by rw [Nat.add_assoc]; exact ha _ _ this.2⟩
theorem ts_ats {w : World} {ao : Option Addr} {n cap : Nat} {T : List Tr} (h : TsAt w ao n cap T) (hT : TOk w T) : AttrsAt w ao n cap (tats T) := by
  refine ⟨by rw [tats_len]; exact h.1, h.2.1, h.2.2.1, fun hn => ?_⟩
  obtain ⟨b, off, e, hi, ha⟩ := h.2.2.2 hn
  subst e
  refine ⟨b, off, rfl, hi, fun j hj => ?_⟩
  rw [atD_tats]
  obtain ⟨c0, c1⟩ := ts_at h j hj
  obtain ⟨vo, vn, vc, e, hs⟩ := hT _ (tr_mem T j (by rw [h.1]; exact hj))
  exact ⟨c0, vo, vn, vc, by rw [← e]; exact c1, hs⟩
theorem info_attr : (Tryz.prog.info? 60).map (fun i => (i.zero, i.size, i.bytes)) = some (some (.agg #[.string ⟨#[]⟩, .slice none 0 0]), 2, 40) := by kernel_rfl
theorem ts_news {w : World} {ad : Addr} {m c : Nat} {T : List Tr} (h : TsAt w (some ad) m c T) : ∀ j u, (tcells T)[j]? = some u → w.cell? (ad.add j) = some u := by
  intro j u hj
  rcases Nat.eq_zero_or_pos m with e | e
  · have hnil : T = [] := List.length_eq_zero_iff.1 (by rw [h.1]; exact e)
    subst hnil; simp [tcells] at hj
  · obtain ⟨b, off, e2, _, ha⟩ := h.2.2.2 e
    cases e2
    rw [Go.WideShapes.add_plain]; exact ha j u hj
/-- 'l = append(l, ats...)' where l is the call's own -/
theorem app_attrs {ops : Array Oper} {rest : List Oper} {o : Oper} {a : Act} {Q : Exit → Act → World → Prop} (wr : World) {base : Nat} {v : Value} {n : Nat} {xs : List Value} (hown : wr.ownsRow base 60 2 v n xs) (s x : Operand)
    (ao : Option Addr) (m c : Nat) (news : List Tr) (hgd : o.guard = none)
    (ho : o.op = .call { callee := .builtin .append, args := #[s, x], argTypes := #[48, 48] })
    (hs : a.eval s = v) (hx : a.eval x = .slice ao m c) (hw : TsAt wr ao m c news) (hT : TOk wr news) (hn : n + m ≤ 1000000000) (hbase : base ≤ wr.heap.size)
    (h : ∀ v' w', w'.ownsRow base 60 2 v' (n + m) (xs ++ tcells news) → wr.grownBy w' v.ownBlock → (v'.ownBlock = v.ownBlock ∨ v'.ownBlock = some wr.heap.size) → wpList Tryz.prog ops Q rest (a.put o.dst v') w') :
    wpList Tryz.prog ops Q (o :: rest) a wr := by
  obtain ⟨i0, hi, hz0, hz1, hz2⟩ := info_parts info_attr
  cases ao with
  | some ad =>
    refine wpList_append_own_at _ hgd s x 48 ho base 60 i0 (.agg #[.string ⟨#[]⟩, .slice none 0 0]) 2 40 Tryz.underlying48 hi hz0 hz1 hz2 rfl (by decide) v n xs hs hown ad m c (tcells news) hx (by rw [tcells_len, hw.1]) (ts_news hw)
      (tcells_one hT) (by unfold maxLen; omega) (by omega) hbase ?_
    intro v' w' k1 k2 _ k4
    exact h v' w' k1 k2 k4
  | none =>
    have hm : m = 0 := by
      rcases Nat.eq_zero_or_pos m with e | e
      · exact e
      · obtain ⟨_, _, e2, _⟩ := hw.2.2.2 e; cases e2
    subst hm
    have hnil : news = [] := List.length_eq_zero_iff.1 hw.1
    subst hnil
    have hrun : (Builtin.append_ #[48, 48] o.type #[v, .slice none 0 c]).run Tryz.prog wr = .ok v wr := by
      rcases hown.2 with ⟨rfl, _⟩ | ⟨g, cap, cur, rfl, _, _, hc, _⟩
      · exact run_append_nothing wr 48 48 o.type 60 i0 Tryz.underlying48 hi none 0 0 (Nat.le_refl _) _ (Src.ofNil wr Tryz.underlying48 c)
      · exact run_append_nothing wr 48 48 o.type 60 i0 Tryz.underlying48 hi _ _ _ hc _ (Src.ofNil wr Tryz.underlying48 c)
    refine wpList_plain hgd fun K hK => ?_
    unfold Oper.wp execOp
    simp only [ho, resolve, invoke, builtin, Sem.run_bind, Sem.run_pure, Result.andThen_ok, List.map_toArray, List.map_cons, List.map_nil, hs, hx, hrun]
    refine hK _ _ (h v wr ?_ ⟨rfl, rfl, rfl, Nat.le_refl _, fun _ _ _ => rfl⟩ (.inl rfl))
    simpa [tcells] using hown
theorem ts_owns {w : World} {base n : Nat} {v : Value} {T : List Tr} (h : w.ownsRow base 60 2 v n (tcells T)) : T.length = n ∧ ∃ ao cap, v = .slice ao n cap ∧ TsAt w ao n cap T ∧ FreshA base ao ∧ (ao = none → cap = 0) ∧ (∀ ad, ao = some ad → ad.spot = none) := by
  have h0 := h
  have hlen : T.length = n := by have := h.1; rw [tcells_len] at this; omega
  refine ⟨hlen, ?_⟩
  rcases h.2 with ⟨rfl, rfl⟩ | ⟨g, cap, cur, rfl, hb, hg, hc, hm, hcs, ht⟩
  · exact ⟨none, 0, rfl, ⟨hlen, Nat.le_refl _, by unfold maxLen; omega, fun h => absurd h (Nat.lt_irrefl _)⟩, fun _ _ e => by (cases e), fun _ => rfl, fun _ e => by cases e⟩
  · refine ⟨_, cap, rfl, ⟨hlen, hc, hm, fun h1 => ⟨g, 0, rfl, ?_, fun j u hj => ?_⟩⟩, fun b off e => by (cases e; exact hb), fun e => (by cases e), fun ad e => by cases e; rfl⟩
    · rcases Nat.lt_or_ge g w.heap.size with h' | h'
      · exact h'
      · simp [Array.getElem?_eq_none h'] at hg
    · have := h0.cells (g := g) rfl j u hj
      rw [Go.WideShapes.add_plain] at this
      exact this
/-- a slice of attributes that was just laid -/
theorem ts_new1 (w : World) (t : Tr) : TsAt (w.alloc (.cells #[.string t.1, t.2.1] 60)) (some ⟨w.heap.size, 0, none⟩) 1 1 [t] := by
  refine ⟨rfl, Nat.le_refl _, by unfold maxLen; omega, fun _ => ⟨w.heap.size, 0, rfl, by simp, fun j u hj => ?_⟩⟩
  have hb := heap_alloc_new w (.cells #[.string t.1, t.2.1] 60)
  match j, hj with
  | 0, hj => obtain rfl := Option.some.inj hj; unfold World.cell?; simp only [hb]; rfl
  | 1, hj => obtain rfl := Option.some.inj hj; unfold World.cell?; simp only [hb]; rfl
  | j + 2, hj => simp [tcells] at hj
end Go.Proofs.YtbkignlbcneddaaGreatDoor
end

section
/-
  DERIVED: THE SHELF's CONTRACTS AT THIS DUMP, IN PLAIN WORDS (tools/lay-plain.mjs out of 'TryzShelfESrc.lean', which tools/lay-shelf.mjs wrote): THE SAME DECLARATIONS UNDER THE SAME NAMES: 'import', 'namespace', 'open', 'def', 'theorem' AND NOTHING ELSE: no command of the shelf's: FOR A HAND-IN. Each laying: the table of numbers ('.._ren') and one theorem, a field a fact of the dump's own or the kernel's comparison; each contract: ONE APPLICATION.
-/
namespace Go.Proofs
open Go.Shelf
def Tryz.contains_ren : Go.Shelf.Ren := ⟨fun | 32 => 83 | 30 => 125 | n => n, fun | 25 => 58 | 26 => 9 | 4 => 4 | 3 => 3 | 0 => 0 | n => n, fun | n => n⟩
theorem Tryz.contains : Go.Proofs.SlLaysN.n32 Tryz.prog Tryz.contains_ren := {
  mixed := by kernel_rfl
  f30 := ⟨Tryz.f125.name, by decide, Tryz.func125.trans (congrArg some (by kernel_rfl))⟩
  f32 := ⟨Tryz.f83.name, by decide, Tryz.func83.trans (congrArg some (by kernel_rfl))⟩
  t0 := Tryz.underlying0
  a0 := Tryz.isAgg0
  z0 := Tryz.sizeOf0
  v0 := Tryz.zeroValue0
  t3 := Tryz.underlying3
  a3 := Tryz.isAgg3
  z3 := Tryz.sizeOf3
  v3 := Tryz.zeroValue3
  t4 := Tryz.underlying4
  a4 := Tryz.isAgg4
  z4 := Tryz.sizeOf4
  v4 := Tryz.zeroValue4
  t25 := Tryz.underlying58
  a25 := Tryz.isAgg58
  z25 := Tryz.sizeOf58
  v25 := Tryz.zeroValue58
  t26 := Tryz.underlying9
  a26 := Tryz.isAgg9
  z26 := Tryz.sizeOf9
  v26 := Tryz.zeroValue9 }
def Tryz.compact_ren : Go.Shelf.Ren := ⟨fun | 44 => 124 | n => n, fun | 25 => 58 | 26 => 9 | 3 => 3 | 4 => 4 | 0 => 0 | n => n, fun | n => n⟩
theorem Tryz.compact : Go.Proofs.SlLaysN.n44 Tryz.prog Tryz.compact_ren := {
  mixed := by kernel_rfl
  f44 := ⟨Tryz.f124.name, by decide, Tryz.func124.trans (congrArg some (by kernel_rfl))⟩
  t0 := Tryz.underlying0
  a0 := Tryz.isAgg0
  z0 := Tryz.sizeOf0
  v0 := Tryz.zeroValue0
  t3 := Tryz.underlying3
  a3 := Tryz.isAgg3
  z3 := Tryz.sizeOf3
  v3 := Tryz.zeroValue3
  t4 := Tryz.underlying4
  a4 := Tryz.isAgg4
  z4 := Tryz.sizeOf4
  v4 := Tryz.zeroValue4
  t25 := Tryz.underlying58
  a25 := Tryz.isAgg58
  z25 := Tryz.sizeOf58
  v25 := Tryz.zeroValue58
  t26 := Tryz.underlying9
  a26 := Tryz.isAgg9
  z26 := Tryz.sizeOf9
  v26 := Tryz.zeroValue9
  i26 := by kernel_rfl }
end Go.Proofs
end

section
/-
  Contract of attrs.ascending at a slice of the call's own: what is handed back holds the different strings in order, in the same row. Condition: at most 1100000 strings.
-/
set_option maxRecDepth 100000
namespace Go.Proofs.YtbkignlbcneddaaGreatDoor
open Go.RowKit Go.PlainAid Go.Sort Go.Lib
def toB (x : List UInt8) : ByteArray := ⟨x.toArray⟩
theorem toB_list (s : ByteArray) : toB s.data.toList = s := Lib.mk_data s
theorem enc_cells (ss : List (List UInt8)) : ss.map encStr = scells (ss.map toB) := by unfold scells; rw [List.map_map]; rfl
theorem cells_enc (l : List ByteArray) : scells l = (l.map fun s => s.data.toList).map encStr := by
  rw [enc_cells, List.map_map]; congr 1
  exact ((List.map_congr_left fun s _ => toB_list s).trans (List.map_id _)).symm
theorem comp_inv (d : Array (List UInt8)) (hs : ∀ i j, i ≤ j → j < d.size → d[i]! ≤ d[j]!) : ∀ m, m ≤ d.size → (compactUpTo d m).Pairwise (· < ·) ∧ ∀ x, x ∈ compactUpTo d m ↔ ∃ j, j < m ∧ d[j]! = x
  | 0, _ => ⟨by simp [compactUpTo], fun x => by simp [compactUpTo]⟩
  | m + 1, hm => by
    obtain ⟨h1, h2⟩ := comp_inv d hs m (by omega)
    rw [compactUpTo_succ]
    by_cases hk : keeps d m = true
    · rw [if_pos hk]
      have hk' : m = 0 ∨ d[m]! ≠ d[m - 1]! := of_decide_eq_true hk
      refine ⟨List.pairwise_append.2 ⟨h1, List.pairwise_singleton _ _, fun x hx y hy => ?_⟩, fun x => ?_⟩
      · rw [List.mem_singleton.1 hy]
        obtain ⟨j, hj, rfl⟩ := (h2 x).1 hx
        refine List.not_le.1 fun hle => ?_
        rcases hk' with e | e
        · omega
        · have a1 := hs j (m - 1) (by omega) (by omega)
          have a2 := hs (m - 1) m (by omega) (by omega)
          exact e (List.le_antisymm (List.le_trans hle a1) a2)
      · rw [List.mem_append, h2 x, List.mem_singleton]
        constructor
        · rintro (⟨j, hj, e⟩ | e)
          · exact ⟨j, by omega, e⟩
          · exact ⟨m, by omega, e.symm⟩
        · rintro ⟨j, hj, e⟩
          by_cases ej : j = m
          · subst ej; exact .inr e.symm
          · exact .inl ⟨j, by omega, e⟩
    · rw [if_neg hk, List.append_nil]
      refine ⟨h1, fun x => ?_⟩
      rw [h2 x]
      have hk' : ¬ (m = 0 ∨ d[m]! ≠ d[m - 1]!) := fun h => hk (decide_eq_true h)
      constructor
      · rintro ⟨j, hj, e⟩; exact ⟨j, by omega, e⟩
      · rintro ⟨j, hj, e⟩
        by_cases ej : j = m
        · subst ej
          refine ⟨j - 1, by omega, ?_⟩
          rw [← e]
          exact (Classical.not_not.1 fun h => hk' (.inr h)).symm
        · exact ⟨j, by omega, e⟩
theorem compact_sorted (l : List ByteArray) : (compact ((l.map fun s => s.data.toList).mergeSort fun x y => decide (x ≤ y))).map toB = sortU l := by
  obtain ⟨ss, hss⟩ : ∃ ss, (l.map fun s => s.data.toList) = ss := ⟨_, rfl⟩
  rw [hss]
  have hs := List.pairwise_mergeSort (le := fun (x y : List UInt8) => decide (x ≤ y)) (fun a b c h1 h2 => decide_eq_true (List.le_trans (of_decide_eq_true h1) (of_decide_eq_true h2))) (fun a b => by
    rcases List.le_total a b with k | k
    · simp [k]
    · simp [k]) ss
  have hp := List.mergeSort_perm ss (fun x y => decide (x ≤ y))
  obtain ⟨zs, hz⟩ : ∃ zs, (ss.mergeSort fun x y => decide (x ≤ y)) = zs := ⟨_, rfl⟩
  rw [hz] at hs hp ⊢
  have hg : ∀ i j, i ≤ j → j < zs.toArray.size → zs.toArray[i]! ≤ zs.toArray[j]! := fun i j hij hj => by
    have hj' : j < zs.length := by simpa using hj
    rw [getElem!_pos zs.toArray i (by omega), getElem!_pos zs.toArray j hj]
    rcases Nat.lt_or_ge i j with k | k
    · exact of_decide_eq_true (List.pairwise_iff_getElem.1 hs i j (by omega) hj' k)
    · have e : i = j := by omega
      subst e; exact List.le_refl _
  obtain ⟨h1, h2⟩ := comp_inv zs.toArray hg zs.length (by simp)
  refine asc_ext ?_ (sortU_asc l) fun x => ?_
  · unfold Asc
    rw [List.pairwise_map]
    refine h1.imp fun {a b} h => ?_
    have := (lt_cmp a b).1 h
    simpa [cmpS, toB] using this
  · rw [List.mem_map, sortU_mem]
    have hm : ∀ y, y ∈ compact zs ↔ y ∈ ss := fun y => by
      unfold compact
      rw [h2 y, ← hp.mem_iff]
      constructor
      · rintro ⟨j, hj, e⟩
        rw [getElem!_pos zs.toArray j (by simpa using hj)] at e
        rw [← e]; simp
      · intro hy
        obtain ⟨j, hj, e⟩ := List.getElem_of_mem hy
        exact ⟨j, hj, by rw [getElem!_pos zs.toArray j (by simpa using hj)]; simpa using e⟩
    constructor
    · rintro ⟨y, hy, rfl⟩
      rw [hm y, ← hss, List.mem_map] at hy
      obtain ⟨s, hs', rfl⟩ := hy
      rw [toB_list]; exact hs'
    · intro hx
      exact ⟨x.data.toList, (hm _).2 (by rw [← hss]; exact List.mem_map_of_mem hx), toB_list x⟩
theorem comp_le (zs : List (List UInt8)) : (compact zs).length ≤ zs.length := by
  unfold compact compactUpTo
  rw [List.length_map]
  exact Nat.le_trans (List.length_filter_le _ _) (by simp)
theorem grow_none (w : World) : grow w #[] = w := by unfold grow; simp
theorem grown_two {w w1 w2 : World} {row : Option Nat} (h : w.grownBy w1 row) (k : w1.grownBy w2 row) : w.grownBy w2 row :=
  ⟨k.os.trans h.os, k.tape.trans h.tape, k.output.trans h.output, Nat.le_trans h.size k.size, fun j hj hne => (k.block j (Nat.lt_of_lt_of_le hj h.size) hne).trans (h.block j hj hne)⟩
theorem sort_len (ss : List (List UInt8)) : (ss.mergeSort fun x y => decide (x ≤ y)).length = ss.length := (List.mergeSort_perm ss _).length_eq
set_option maxHeartbeats 1000000 in
theorem ascending_s (base n : Nat) (v : Value) (l : List ByteArray) (w : World) (hown : w.ownsRow base 9 1 v n (scells l)) (hl : l.length = n) (hn : n ≤ 1100000) :
    Calls Tryz.prog 82 #[v] w fun e w' => ∃ u, e = .returned u ∧ w'.ownsRow base 9 1 u (sortU l).length (scells (sortU l)) ∧ w.grownBy w' v.ownBlock ∧ u.ownBlock = v.ownBlock := by
  rcases hown.2 with ⟨rfl, h0⟩ | ⟨g, cap, cur, rfl, hg, hb, hc, hm, hcs, ht⟩
  · subst h0
    have hl0 : l = [] := List.length_eq_zero_iff.1 hl
    subst hl0
    go_enter Tryz.func82, Tryz.ntmps82
    go_wp2_with fail
    refine (AnyM.slices_Sort_string_none Tryz.sort none 0 _).mono ?_
    rintro e w1 ⟨rfl, rfl⟩
    go_wp2_with fail
    refine (AnyG.slices_Compact_string_empty Tryz.compact none 0 _).mono ?_
    rintro e w1 ⟨rfl, rfl⟩
    go_wp2_with fail
    go_ret
    exact ⟨_, rfl, World.ownsRow_nil _ _ _ _, ⟨rfl, rfl, rfl, Nat.le_refl _, fun _ _ _ => rfl⟩, rfl⟩
  · subst hl
    obtain ⟨ss, hss⟩ : ∃ ss, (l.map fun s => s.data.toList) = ss := ⟨_, rfl⟩
    have hsl : ss.length = l.length := by rw [← hss, List.length_map]
    have hgl : g < w.heap.size := by
      rcases Nat.lt_or_ge g w.heap.size with h' | h'
      · exact h'
      · simp [Array.getElem?_eq_none h'] at hb
    have hH : Holds encStr w g 0 ss.toArray := holds_of_block hb (by rw [hsl, ← hss, ← cells_enc]; simpa using ht)
    obtain ⟨ts, hts⟩ : ∃ ts, (ss.mergeSort fun x y => decide (x ≤ y)) = ts := ⟨_, rfl⟩
    have htl : ts.length = ss.length := by rw [← hts]; exact sort_len ss
    obtain ⟨cs, hcs'⟩ : ∃ cs, compact ts = cs := ⟨_, rfl⟩
    have hcl : cs.length ≤ ts.length := by rw [← hcs']; exact comp_le ts
    have HE := Lib.hid (show cs.map toB = sortU l by rw [← hcs', ← hts, ← hss]; exact compact_sorted l)
    have hS := AnyM.slices_Sort_string Tryz.sort g 0 cap ss w hH hgl (by omega)
    rw [hsl, hts] at hS
    have HS := Lib.hid hS
    have hC : ∀ (m : Nat) (os : Array Obj), Calls Tryz.prog 124 #[.slice (some ⟨g, 0, none⟩) l.length cap] (grow (putRow encStr (Sort.ahead w m) g 0 ts.toArray) os) fun e w' =>
        e = .returned (.slice (some ⟨g, 0, none⟩) cs.length cap) ∧ w'.ownsRow base 9 1 (.slice (some ⟨g, 0, none⟩) cs.length cap) cs.length (scells (cs.map toB)) ∧ w.grownBy w' (some g) := by
      intro m os
      have ho1 := ownsRow_sorted (w := w) (n := m) (os := os) (ss := ss) (ts := ts) htl hg hb (by omega) hm (by omega)
      obtain ⟨_, h2⟩ := ho1
      rcases h2 with ⟨h2, _⟩ | ⟨g', cap', cur', h2, _, hb', _, _, hcs2, ht'⟩
      · cases h2
      · simp only [Value.slice.injEq, Option.some.injEq, Addr.mk.injEq, and_true] at h2
        obtain ⟨rfl, _, rfl⟩ := h2
        have hH2 := holds_of_block (ss := ts) hb' (by rw [htl]; simpa using ht')
        have h := AnyG.slices_Compact_string Tryz.compact g 0 cap ts _ hH2 (by omega) (by omega)
        rw [hcs', show ts.length = l.length by omega] at h
        refine h.mono ?_
        rintro e w' ⟨rfl, q, rfl⟩
        refine ⟨rfl, ?_, ?_⟩
        · obtain ⟨W1, hW1⟩ : ∃ W1, grow (putRow encStr (Sort.ahead w m) g 0 ts.toArray) os = W1 := ⟨_, rfl⟩
          rw [hW1] at hb' ⊢
          have ho2 := ownsRow_sorted (n := q) (os := #[]) (ss := ts) (ts := cs ++ List.replicate (l.length - cs.length) []) (by rw [List.length_append, List.length_replicate]; omega) hg hb' (by omega) hm (by omega)
          rw [grow_none] at ho2
          rcases ho2.2 with ⟨h2, _⟩ | ⟨g', cap', cur'', h2, _, hb'', _, _, hcs3, ht''⟩
          · cases h2
          · simp only [Value.slice.injEq, Option.some.injEq, Addr.mk.injEq, and_true] at h2
            obtain ⟨rfl, _, rfl⟩ := h2
            refine ⟨by simp [scells], .inr ⟨g, cap, cur'', rfl, hg, hb'', by omega, hm, hcs3, ?_⟩⟩
            rw [← enc_cells, Nat.mul_one]
            rw [Nat.mul_one] at ht''
            have h3 := congrArg (List.take cs.length) ht''
            rw [List.take_take, Nat.min_eq_left (by omega), List.map_append, List.take_append_of_le_length (by simp), ← List.map_take, List.take_length] at h3
            exact h3
        · have h1 := grownBy_sorted (w := w) (g := g) (n := m) (os := os) ts.toArray
          have h2 := grownBy_sorted (w := grow (putRow encStr (Sort.ahead w m) g 0 ts.toArray) os) (g := g) (n := q) (os := #[]) (cs ++ List.replicate (l.length - cs.length) []).toArray
          rw [grow_none] at h2
          exact grown_two h1 h2
    go_enter Tryz.func82, Tryz.ntmps82
    go_wp2_with fail
    refine HS.out.mono ?_
    rintro e w1 ⟨rfl, m, os, rfl⟩
    go_wp2_with fail
    refine (hC m os).mono ?_
    rintro e w1 ⟨rfl, ho, hg2⟩
    go_wp2_with fail
    go_ret
    have he := HE.out
    exact ⟨_, rfl, by rw [← he, List.length_map]; exact ho, hg2, rfl⟩
end Go.Proofs.YtbkignlbcneddaaGreatDoor
end
