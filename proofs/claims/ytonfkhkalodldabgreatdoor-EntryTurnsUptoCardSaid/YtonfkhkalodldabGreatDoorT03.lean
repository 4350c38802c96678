/-
  Texts of the schema layer and of those beneath it, joined: AttTw, AttChk, OpenR, ShelfK, AttKeys, AttMap, AttGrp, AttApp, AttT, ShelfE, AttAsc. Conditions stand at each contract.
-/
import Derived.SizedLaws
import Derived.Shelf.SlIter.Nil
import Derived.Shelf.SortM.Plain
import Derived.Shelf.SortM.SortNone
import Derived.Maps.OwnSet
import Derived.Sort.KeysCollected
import Derived.Maps.AppendAt
import Derived.Deep.Upon
import Derived.Laws.AppendOwnNone
import Derived.ArgAppend
import Derived.Deep.AppendSrc
import Derived.Shelf.SlicesG.Equal
import Derived.Shelf.SlicesG.Turned
import Derived.Shelf.SlicesG.CompactS
import Derived.Shelf.SlicesE.DeleteFunc
import Derived.Shelf.SlicesE.Clone
import Derived.Sort.OwnSorted
import Derived.Test.YtonfkhkalodldabGreatDoorT02
set_option linter.unusedVariables false
set_option linter.unusedSimpArgs false
set_option linter.unnecessarySimpa false

section
set_option maxRecDepth 100000
namespace Go.Proofs.YtonfkhkalodldabGreatDoor
open Go.RowKit Go.PlainAid
def SmallS (l : List ByteArray) : Prop := ∀ v ∈ l, v.size ≤ 1100000
def SmallA (l : List At) : Prop := ∀ a ∈ l, a.1.size ≤ 1100000 ∧ SmallS a.2
def twiceB (l : List At) (i : Nat) : Bool := (l.take i).any fun a => decide (lowS a.1 = lowS (atD l i).1)
theorem twice_true {l : List At} {i k : Nat} (hi : i < l.length) (hk : k < i) (h : lowS (atD l k).1 = lowS (atD l i).1) : twiceB l i = true := by
 unfold twiceB
 rw [List.any_eq_true]
 refine ⟨atD l k, ?_, decide_eq_true h⟩
 rw [at_get l k (by omega)]
 exact List.mem_take_iff_getElem.2 ⟨k, by omega, rfl⟩
theorem twice_false {l : List At} {i : Nat} (hi : i < l.length) (h : ∀ k, k < i → lowS (atD l k).1 ≠ lowS (atD l i).1) : twiceB l i = false := by
 rw [Bool.eq_false_iff]
 intro e
 unfold twiceB at e
 rw [List.any_eq_true] at e
 obtain ⟨a, ha, e⟩ := e
 obtain ⟨k, hk, rfl⟩ := List.mem_take_iff_getElem.1 ha
 refine h k (by omega) ?_
 rw [at_get l k (by omega)]
 exact of_decide_eq_true e
def firstE (f : Nat → Int) : Nat → Int
 | 0 => 0
 | n + 1 => if firstE f n = 0 then f n else firstE f n
theorem firstE_zero {f : Nat → Int} : ∀ {n : Nat}, (∀ j, j < n → f j = 0) → firstE f n = 0
 | 0, _ => rfl
 | n + 1, h => by
  unfold firstE
  rw [if_pos (firstE_zero fun j hj => h j (by omega))]
  exact h n (by omega)
theorem firstE_hit {f : Nat → Int} {k : Nat} (h : ∀ j, j < k → f j = 0) (hk : f k ≠ 0) : ∀ {n : Nat}, k < n → firstE f n = f k
 | 0, hn => absurd hn (Nat.not_lt_zero _)
 | n + 1, hn => by
  unfold firstE
  by_cases e : k = n
  ·subst e; rw [if_pos (firstE_zero h)]
  ·have := firstE_hit h hk (n := n) (by omega)
   rw [if_neg (by rw [this]; exact hk)]; exact this
def errV (vs old : List ByteArray) (j : Nat) : Int := if cleanB (partAt vs j) = false then 4 else if memB old (partAt vs j) = true ∨ memB (vs.take j) (partAt vs j) = true then 7 else 0
def chkV (vs old : List ByteArray) : Int := firstE (errV vs old) vs.length
theorem StrsAt.cut {w : World} {ao : Option Addr} {n cap : Nat} {ps : List ByteArray} (h : StrsAt w ao n cap ps) (i : Nat) (hi : i ≤ n) : StrsAt w ao i cap (ps.take i) := by
 obtain ⟨h1, h2, h3, h4⟩ := h
 refine ⟨by rw [List.length_take]; omega, by omega, h3, fun hn => ?_⟩
 obtain ⟨b, off, e, hb, hs⟩ := h4 (by omega)
 refine ⟨b, off, e, hb, fun j hj => ?_⟩
 rw [List.length_take] at hj
 rw [hs j (by omega)]
 unfold partAt
 rw [List.getD_eq_getElem?_getD, List.getD_eq_getElem?_getD, List.getElem?_take, if_pos (by omega)]
end Go.Proofs.YtonfkhkalodldabGreatDoor
end

section
set_option maxRecDepth 100000
namespace Go.Proofs.YtonfkhkalodldabGreatDoor
open Go.ChangeShapes Go.WideShapes Go.ChangeAt Go.RowKit Go.PlainAid
theorem str_len (s : ByteArray) : s.data.toList.length = s.size := by rw [Array.length_toList]; rfl
theorem choose_attrsR {w : World} {b off len : Nat} {Q : At → Prop} (h : ∀ i, i < len → ∃ a : At, AttAt w b (off + i * 2) a ∧ Q a) : ∃ l : List At, l.length = len ∧ (∀ i, i < len → AttAt w b (off + i * 2) (atD l i)) ∧ ∀ a ∈ l, Q a := by
 induction len with
 | zero => exact ⟨[], rfl, fun i hi => absurd hi (Nat.not_lt_zero _), fun a ha => (List.not_mem_nil ha).elim⟩
 | succ n ih =>
  obtain ⟨l, hl, hp, hq⟩ := ih (fun i hi => h i (by omega))
  obtain ⟨a, ha, hqa⟩ := h n (by omega)
  refine ⟨l ++ [a], by simp [hl], fun i hi => ?_, fun x hx => (List.mem_append.1 hx).elim (hq x) fun k => by rw [List.mem_singleton.1 k]; exact hqa⟩
  by_cases e : i = n
  ·subst e
   have e2 : atD (l ++ [a]) i = a := by
    unfold atD
    rw [List.getD_eq_getElem?_getD, List.getElem?_append_right (by omega), hl]; simp
   rw [e2]; exact ha
  ·have e2 : atD (l ++ [a]) i = atD l i := by
    unfold atD
    rw [List.getD_eq_getElem?_getD, List.getD_eq_getElem?_getD, List.getElem?_append_left (by omega)]
   rw [e2]; exact hp i (by omega)
end Go.Proofs.YtonfkhkalodldabGreatDoor
end

section
set_option maxRecDepth 100000
namespace Go.Proofs
open Go.Shelf
def Tryz.keys_ren : Go.Shelf.Ren := ⟨fun | 7 => 31 | 10 => 61 | n => n, fun | 23 => 63 | 26 => 9 | 3 => 38 | 28 => 69 | 0 => 0 | 27 => 68 | 33 => 78 | 4 => 4 | n => n, fun | n => n⟩
theorem Tryz.keys : Go.Proofs.SlLaysZ.n7 Tryz.prog Tryz.keys_ren := {
 mixed := by kernel_rfl
 f7 := ⟨Tryz.f31.name, by decide, Tryz.func31.trans (congrArg some (by kernel_rfl))⟩
 f10 := ⟨Tryz.f61.name, by decide, Tryz.func61.trans (congrArg some (by kernel_rfl))⟩
 t0 := Tryz.underlying0
 a0 := Tryz.isAgg0
 z0 := Tryz.sizeOf0
 v0 := Tryz.zeroValue0
 t4 := Tryz.underlying4
 a4 := Tryz.isAgg4
 z4 := Tryz.sizeOf4
 v4 := Tryz.zeroValue4
 t23 := Tryz.underlying63
 a23 := Tryz.isAgg63
 z23 := Tryz.sizeOf63
 v23 := Tryz.zeroValue63
 t26 := Tryz.underlying9
 a26 := Tryz.isAgg9
 z26 := Tryz.sizeOf9
 v26 := Tryz.zeroValue9
 t27 := Tryz.underlying68
 a27 := Tryz.isAgg68
 z27 := Tryz.sizeOf68
 v27 := Tryz.zeroValue68
 t28 := Tryz.underlying69
 a28 := Tryz.isAgg69
 z28 := Tryz.sizeOf69
 v28 := Tryz.zeroValue69
 t33 := Tryz.underlying78
 a33 := Tryz.isAgg78
 z33 := Tryz.sizeOf78
 v33 := Tryz.zeroValue78 }
def Tryz.sorted_ren : Go.Shelf.Ren := ⟨fun | 6 => 30 | 8 => 60 | 9 => 16 | 11 => 105 | 13 => 44 | 12 => 43 | 23 => 86 | 24 => 87 | 14 => 77 | 15 => 78 | 16 => 79 | 17 => 80 | 18 => 81 | 19 => 82 | 20 => 83 | 21 => 84 | 22 => 85 | 25 => 112 | 26 => 113 | 27 => 114 | 28 => 115 | 29 => 116 | 30 => 117 | 31 => 134 | n => n, fun | 26 => 9 | 28 => 69 | 24 => 38 | 0 => 0 | 3 => 3 | 37 => 84 | 48 => 136 | 50 => 138 | 4 => 4 | 40 => 128 | 39 => 127 | 45 => 133 | 5 => 5 | 9 => 9 | 51 => 160 | 55 => 164 | 57 => 179 | 58 => 180 | 33 => 78 | n => n, fun | n => n⟩
theorem Tryz.sorted : Go.Proofs.SlLaysZ.n6 Tryz.prog Tryz.sorted_ren := {
 mixed := by kernel_rfl
 f6 := ⟨Tryz.f30.name, by decide, Tryz.func30.trans (congrArg some (by kernel_rfl))⟩
 f8 := ⟨Tryz.f60.name, by decide, Tryz.func60.trans (congrArg some (by kernel_rfl))⟩
 f11 := ⟨Tryz.f105.name, by decide, Tryz.func105.trans (congrArg some (by kernel_rfl))⟩
 t0 := Tryz.underlying0
 a0 := Tryz.isAgg0
 z0 := Tryz.sizeOf0
 v0 := Tryz.zeroValue0
 t24 := Tryz.underlying38
 a24 := Tryz.isAgg38
 z24 := Tryz.sizeOf38
 v24 := Tryz.zeroValue38
 t26 := Tryz.underlying9
 a26 := Tryz.isAgg9
 z26 := Tryz.sizeOf9
 v26 := Tryz.zeroValue9
 t28 := Tryz.underlying69
 a28 := Tryz.isAgg69
 z28 := Tryz.sizeOf69
 v28 := Tryz.zeroValue69
 i26 := by kernel_rfl }
def Tryz.sort_ren : Go.Shelf.Ren := ⟨fun | 6 => 16 | 8 => 44 | 9 => 43 | 19 => 86 | 20 => 87 | 21 => 77 | 22 => 78 | 23 => 79 | 24 => 80 | 25 => 81 | 26 => 82 | 27 => 83 | 28 => 84 | 29 => 85 | 36 => 112 | 31 => 113 | 32 => 114 | 37 => 115 | 38 => 116 | 39 => 117 | 41 => 134 | n => n, fun | 27 => 38 | 29 => 9 | 3 => 3 | 32 => 84 | 26 => 38 | 0 => 0 | 44 => 136 | 46 => 138 | 4 => 4 | 36 => 128 | 35 => 127 | 41 => 133 | 5 => 5 | 9 => 9 | 53 => 160 | 57 => 164 | 63 => 179 | 64 => 180 | n => n, fun | n => n⟩
theorem Tryz.sort : Go.Proofs.SlLaysM.n6 Tryz.prog Tryz.sort_ren := {
 mixed := by kernel_rfl
 f6 := ⟨Tryz.f16.name, by decide, Tryz.func16.trans (congrArg some (by kernel_rfl))⟩
 f8 := Tryz.func44.trans (congrArg some (by kernel_rfl))
 f9 := ⟨Tryz.f43.name, by decide, Tryz.func43.trans (congrArg some (by kernel_rfl))⟩
 f19 := Tryz.func86.trans (congrArg some (by kernel_rfl))
 f20 := Tryz.func87.trans (congrArg some (by kernel_rfl))
 f21 := ⟨Tryz.f77.name, by decide, Tryz.func77.trans (congrArg some (by kernel_rfl))⟩
 f22 := ⟨Tryz.f78.name, by decide, Tryz.func78.trans (congrArg some (by kernel_rfl))⟩
 f23 := ⟨Tryz.f79.name, by decide, Tryz.func79.trans (congrArg some (by kernel_rfl))⟩
 f24 := ⟨Tryz.f80.name, by decide, Tryz.func80.trans (congrArg some (by kernel_rfl))⟩
 f25 := ⟨Tryz.f81.name, by decide, Tryz.func81.trans (congrArg some (by kernel_rfl))⟩
 f26 := ⟨Tryz.f82.name, by decide, Tryz.func82.trans (congrArg some (by kernel_rfl))⟩
 f27 := ⟨Tryz.f83.name, by decide, Tryz.func83.trans (congrArg some (by kernel_rfl))⟩
 f28 := ⟨Tryz.f84.name, by decide, Tryz.func84.trans (congrArg some (by kernel_rfl))⟩
 f29 := ⟨Tryz.f85.name, by decide, Tryz.func85.trans (congrArg some (by kernel_rfl))⟩
 f31 := Tryz.func113.trans (congrArg some (by kernel_rfl))
 f32 := Tryz.func114.trans (congrArg some (by kernel_rfl))
 f36 := ⟨Tryz.f112.name, by decide, Tryz.func112.trans (congrArg some (by kernel_rfl))⟩
 f37 := ⟨Tryz.f115.name, by decide, Tryz.func115.trans (congrArg some (by kernel_rfl))⟩
 f38 := ⟨Tryz.f116.name, by decide, Tryz.func116.trans (congrArg some (by kernel_rfl))⟩
 f39 := ⟨Tryz.f117.name, by decide, Tryz.func117.trans (congrArg some (by kernel_rfl))⟩
 f41 := ⟨Tryz.f134.name, by decide, Tryz.func134.trans (congrArg some (by kernel_rfl))⟩
 t0 := Tryz.underlying0
 a0 := Tryz.isAgg0
 z0 := Tryz.sizeOf0
 v0 := Tryz.zeroValue0
 t3 := Tryz.underlying3
 a3 := Tryz.isAgg3
 z3 := Tryz.sizeOf3
 v3 := Tryz.zeroValue3
 t4 := Tryz.underlying4
 a4 := Tryz.isAgg4
 z4 := Tryz.sizeOf4
 v4 := Tryz.zeroValue4
 t5 := Tryz.underlying5
 a5 := Tryz.isAgg5
 z5 := Tryz.sizeOf5
 v5 := Tryz.zeroValue5
 t9 := Tryz.underlying9
 a9 := Tryz.isAgg9
 z9 := Tryz.sizeOf9
 v9 := Tryz.zeroValue9
 t26 := Tryz.underlying38
 a26 := Tryz.isAgg38
 z26 := Tryz.sizeOf38
 v26 := Tryz.zeroValue38
 t27 := Tryz.underlying38
 a27 := Tryz.isAgg38
 z27 := Tryz.sizeOf38
 v27 := Tryz.zeroValue38
 t29 := Tryz.underlying9
 a29 := Tryz.isAgg9
 z29 := Tryz.sizeOf9
 v29 := Tryz.zeroValue9
 t32 := Tryz.underlying84
 a32 := Tryz.isAgg84
 z32 := Tryz.sizeOf84
 v32 := Tryz.zeroValue84
 t35 := Tryz.underlying127
 a35 := Tryz.isAgg127
 z35 := Tryz.sizeOf127
 v35 := Tryz.zeroValue127
 t36 := Tryz.underlying128
 a36 := Tryz.isAgg128
 z36 := Tryz.sizeOf128
 v36 := Tryz.zeroValue128
 t41 := Tryz.underlying133
 a41 := Tryz.isAgg133
 z41 := Tryz.sizeOf133
 v41 := Tryz.zeroValue133
 t44 := Tryz.underlying136
 a44 := Tryz.isAgg136
 z44 := Tryz.sizeOf136
 v44 := Tryz.zeroValue136
 t46 := Tryz.underlying138
 a46 := Tryz.isAgg138
 z46 := Tryz.sizeOf138
 v46 := Tryz.zeroValue138
 t53 := Tryz.underlying160
 a53 := Tryz.isAgg160
 z53 := Tryz.sizeOf160
 v53 := Tryz.zeroValue160
 t57 := Tryz.underlying164
 a57 := Tryz.isAgg164
 z57 := Tryz.sizeOf164
 v57 := Tryz.zeroValue164
 t63 := Tryz.underlying179
 a63 := Tryz.isAgg179
 z63 := Tryz.sizeOf179
 v63 := Tryz.zeroValue179
 t64 := Tryz.underlying180
 a64 := Tryz.isAgg180
 z64 := Tryz.sizeOf180
 v64 := Tryz.zeroValue180 }
end Go.Proofs
end

section
set_option maxRecDepth 100000
namespace Go.Proofs.YtonfkhkalodldabGreatDoor
open Go.RowKit Go.PlainAid Go.Maps Go.Sort Go.Shelf
theorem sorts_in (m : Nat) : AnyZ.SortsIn Tryz.prog Tryz.sorted_ren Fence.wide m :=
  ⟨fun blk off cap ss W hH hblk hsz => callsIn_wide.2 (AnyM.slices_Sort_string Tryz.sort blk off cap ss W hH hblk hsz),
   fun p cap W => callsIn_wide.2 (AnyM.slices_Sort_string_none Tryz.sort p cap W)⟩
theorem keys_s (mb : Option Nat) (W : World) :
    Calls Tryz.prog 31 #[.map mb] W fun e w' =>
      e = .returned (.func (.func 61) #[] #[.pointer (some ⟨W.heap.size, 0, none⟩)]) ∧ w' = W.alloc (.cells #[.map mb] 63) :=
  (callsIn_wide (n := 5)).1 (AnyZ.keys_in Tryz.keys Fence.wide 5 trivial rfl mb W)
set_option maxHeartbeats 1000000 in
theorem sorted_keys {H : Type} (b nn : Nat) (D0 : DataW H) (R : Value → Option (DataW H × List MemPlace)) (w : World) (hown : w.ownsMap Tryz.prog 9 R b nn D0) (hmax : Maps.size D0 ≤ 1100000) :
    Calls Tryz.prog 30 #[.func (.func 61) #[] #[.pointer (some ⟨w.heap.size, 0, none⟩)]] (w.alloc (.cells #[.map (some b)] 63)) fun e w' =>
      ∃ (v : Value) (ss : List (List UInt8)), e = .returned v ∧ ss.Perm (strKeys D0) ∧
      w'.ownsRow (w.heap.size + 1) 9 1 v ss.length (scells ((ss.mergeSort (fun x y => decide (x ≤ y))).map fun x => ⟨x.toArray⟩)) ∧ Below (w.heap.size + 1) (w.alloc (.cells #[.map (some b)] 63)) w' := by
  have hbl := hown.lt
  have hseq : SeqGives Fence.wide 2 Tryz.prog 61 #[.pointer (some ⟨w.heap.size, 0, none⟩)] encStr (fun ss => ss.Perm (strKeys D0)) (Maps.size D0) (w.alloc (.cells #[.map (some b)] 63)) :=
    AnyZ.keys_gives (ρ := Tryz.keys_ren) { Tryz.keys with } Fence.wide _ trivial rfl (by omega) w.heap.size b nn D0 _ (by simp) (by simp) (by
      obtain ⟨es, clock, hb, Ft, hs, hD⟩ := hown
      exact ⟨es, clock, (Below.heap_alloc _ _ b hbl).trans hb, Ft, hs, hD⟩)
  refine ((callsIn_wide (n := 5)).1 (AnyZ.sorted_in Tryz.sorted Fence.wide 5 trivial trivial trivial trivial rfl (by omega) (sorts_in _) (enters_of Tryz.func16 (by kernel_rfl) rfl) 61 #[.pointer (some ⟨w.heap.size, 0, none⟩)] trivial
    (enters_of Tryz.func61 (by kernel_rfl) rfl) _ _ (by unfold maxLen; omega) (by omega) _ hseq)).mono ?_
  rintro e w' ⟨v, ss, he, hS, hrow, hnil, hb⟩
  rw [World.size_alloc] at hrow hb
  refine ⟨v, ss, he, hS, ?_, hb⟩
  have e1 : scells ((ss.mergeSort (fun x y => decide (x ≤ y))).map fun x => ⟨x.toArray⟩) = (ss.mergeSort (fun x y => decide (x ≤ y))).map encStr := by
    unfold scells; rw [List.map_map]; rfl
  rw [e1]; exact hrow
end Go.Proofs.YtonfkhkalodldabGreatDoor
end

section
set_option maxRecDepth 100000
namespace Go.Proofs.YtonfkhkalodldabGreatDoor
open Go.RowKit Go.PlainAid Go.Maps
variable {H : Type}
def hdrE (v : Value) : Option (DataW H × List MemPlace) :=
 match v with
 | .slice none 0 0 => some (.nil, [])
 | .slice (some ⟨g, 0, none⟩) n c => some (.agg [.lit (.int .i64 g), .lit (.int .i64 n), .lit (.int .i64 c)], [])
 | _ => none
theorem hdrE_nil : hdrE (H := H) (.slice none 0 0) = some (.nil, []) := rfl
theorem hdrE_some (g n c : Nat) : hdrE (H := H) (.slice (some ⟨g, 0, none⟩) n c) = some (.agg [.lit (.int .i64 g), .lit (.int .i64 n), .lit (.int .i64 c)], []) := rfl
theorem hdrE_one {u v : Value} {d : DataW H} {ps qs : List MemPlace} (h : hdrE u = some (d, ps)) (k : hdrE v = some (d, qs)) : u = v := by
 unfold hdrE at h k
 split at h <;> split at k <;> simp only [Option.some.injEq, Prod.mk.injEq, reduceCtorEq] at h k
 ·rfl
 ·obtain ⟨rfl, _⟩ := h; simp at k
 ·obtain ⟨rfl, _⟩ := h; simp at k
 ·obtain ⟨rfl, _⟩ := h
  simp only [DataW.agg.injEq, List.cons.injEq, DataW.lit.injEq, Lit.int.injEq, Int.ofNat.injEq, and_true, true_and, Int.ofNat_inj] at k
  obtain ⟨⟨h1, h2, h3⟩, _⟩ := k
  subst h1; subst h2; subst h3; rfl
theorem lt_cmp : ∀ a b : List UInt8, a < b ↔ Lib.compareBytes a b < 0
 | [], [] => by simp [Lib.compareBytes]
 | [], _ :: _ => by simp [Lib.compareBytes]
 | _ :: _, [] => by simp [Lib.compareBytes]
 | x :: a, y :: b => by
  rw [List.cons_lt_cons_iff, lt_cmp a b]
  show _ ↔ (if x < y then (-1 : Int) else if y < x then 1 else Lib.compareBytes a b) < 0
  by_cases h : x < y
  ·simp [h]
  ·by_cases g : y < x
   ·have hne : ¬ x = y := fun e => by subst e; exact h g
    simp [h, g, hne]
   ·have he : x = y := by
     have h1 : ¬ x.toNat < y.toNat := fun k => h (UInt8.lt_iff_toNat_lt.2 k)
     have h2 : ¬ y.toNat < x.toNat := fun k => g (UInt8.lt_iff_toNat_lt.2 k)
     exact UInt8.toNat_inj.1 (by omega)
    simp [h, g, he]
theorem sort_keys {ss : List (List UInt8)} {ks : List ByteArray} (hn : ss.Nodup) (h : ∀ x : ByteArray, x.data.toList ∈ ss ↔ x ∈ ks) :
  (ss.mergeSort (fun x y => decide (x ≤ y))).map (fun x => (⟨x.toArray⟩ : ByteArray)) = sortU ks := by
 have hs := List.pairwise_mergeSort (le := fun (x y : List UInt8) => decide (x ≤ y)) (fun a b c h1 h2 => decide_eq_true (List.le_trans (of_decide_eq_true h1) (of_decide_eq_true h2))) (fun a b => by
  rcases List.le_total a b with k | k
  ·simp [k]
  ·simp [k]) ss
 have hp := List.mergeSort_perm ss (fun x y => decide (x ≤ y))
 refine asc_ext ?_ (sortU_asc ks) fun x => ?_
 ·unfold Asc
  rw [List.pairwise_map]
  have hd := hp.symm.nodup hn
  refine (hs.and hd).imp fun {a b} k => ?_
  have k1 : ¬ b < a := List.not_lt.2 (of_decide_eq_true k.1)
  rw [lt_cmp] at k1
  rcases cs_tri ⟨a.toArray⟩ ⟨b.toArray⟩ with j | j | j
  ·exact j
  ·exact absurd (by simpa using congrArg (fun s : ByteArray => s.data.toList) j) k.2
  ·exact absurd (by simpa [cmpS] using j) k1
 ·rw [sortU_mem, ← h x, List.mem_map]
  constructor
  ·rintro ⟨y, hy, rfl⟩
   exact hp.mem_iff.1 (by simpa using hy)
  ·intro hx
   exact ⟨x.data.toList, hp.mem_iff.2 hx, by simp⟩
end Go.Proofs.YtonfkhkalodldabGreatDoor
end

section
set_option maxRecDepth 100000
namespace Go.Proofs.YtonfkhkalodldabGreatDoor
open Go.RowKit Go.PlainAid Go.Maps Go.ChangeMaps
variable {H : Type}
def klit (k : ByteArray) : Lit := .string k.data.toList
theorem klit_one {a b : ByteArray} (h : klit a = klit b) : a = b := by
 unfold klit at h
 injection h with h
 exact ba_ext h
theorem klit_key (k : ByteArray) (h : k.size ≤ maxLen) : keyOf Tryz.prog 9 (.string k) = some (klit k) := by
 simp [keyOf, Tryz.underlying9, mapKey, klit, h]
theorem hdr_own {w : World} {base n : Nat} {v : Value} {xs : List Value} (h : w.ownsRow base 9 1 v n xs) : ∃ d, hdrE (H := H) v = some (d, []) := by
 rcases h.2 with ⟨rfl, _⟩ | ⟨g, cap, cur, rfl, _⟩
 ·exact ⟨_, hdrE_nil⟩
 ·exact ⟨_, hdrE_some _ _ _⟩
def setK {α : Type} (f : ByteArray → α) (k : ByteArray) (x : α) (j : ByteArray) : α := if j.data.toList = k.data.toList then x else f j
theorem setK_same {α : Type} (f : ByteArray → α) (k : ByteArray) (x : α) : setK f k x k = x := if_pos rfl
theorem setK_other {α : Type} (f : ByteArray → α) {k j : ByteArray} (x : α) (h : j ≠ k) : setK f k x j = f j := if_neg fun e => h (ba_ext e)
structure Groups (w : World) (base b n : Nat) (D : DataW H) (gv : ByteArray → List ByteArray) (hv : ByteArray → Value) : Prop where
 map : w.ownsMap Tryz.prog 9 hdrE b n D
 low : b < base
 reads : ∀ k, hdrE (H := H) (hv k) = some (D.atKey (klit k) .nil, [])
 own : ∀ k, w.ownsRow base 9 1 (hv k) (gv k).length (scells (gv k))
 apart : ∀ k k', k ≠ k' → (hv k).ownBlock = none ∨ (hv k).ownBlock ≠ (hv k').ownBlock
theorem groups_made (w : World) : Groups (H := H) (w.alloc (.map #[] 0)) (w.heap.size + 1) w.heap.size 0 (.map []) (fun _ => []) (fun _ => .slice none 0 0) where
 map := World.ownsMap_made w _ _ _
 low := Nat.lt_succ_self _
 reads k := hdrE_nil
 own k := World.ownsRow_nil _ _ _ _
 apart _ _ _ := .inl rfl
theorem Groups.look {w : World} {base b n : Nat} {D : DataW H} {gv : ByteArray → List ByteArray} {hv : ByteArray → Value} (G : Groups w base b n D gv hv) (k : ByteArray) (hk : k.size ≤ maxLen) :
  (Instr.lookup 63 (.map (some b)) (.string k) false).run Tryz.prog w = .ok (hv k) w := by
 obtain ⟨v, ps, hrun, hv'⟩ := G.map.lookup (t := 63) (e := 38) (string_keyed Tryz.underlying9) Tryz.underlying63 (z := .slice none 0 0) (Tryz.zeroValue38 _) hdrE_nil (klit_key k hk)
 rw [hrun, hdrE_one hv' (G.reads k)]
theorem Groups.store {w w1 : World} {base b n : Nat} {D : DataW H} {gv : ByteArray → List ByteArray} {hv : ByteArray → Value} (G : Groups w base b n D gv hv) (k : ByteArray) (hk : k.size ≤ maxLen) (hn : n < maxLen) {v' : Value} {vs : List ByteArray}
  (hg : w.grownBy w1 (hv k).ownBlock) (hown : w1.ownsRow base 9 1 v' vs.length (scells vs)) (hl : v'.ownBlock = (hv k).ownBlock ∨ ∃ g, v'.ownBlock = some g ∧ w.heap.size ≤ g) :
  ∃ w2 d, (Instr.mapUpdate 63 (.map (some b)) (.string k) v').run Tryz.prog w1 = .ok () w2 ∧ Groups w2 base b (n + 1) (D.put (klit k) d) (setK gv k vs) (setK hv k v') ∧ w1.grownBy w2 (some b) := by
 obtain ⟨d, hd⟩ := hdr_own (H := H) hown
 have hbl := G.map.lt
 have hne : some b ≠ (hv k).ownBlock := fun e => by
  have := ((G.own k).lt b e.symm).1
  have := G.low
  omega
 have hm1 := G.map.kept hg hne
 obtain ⟨w2, hrun, hm2, hg2⟩ := hm1.update (t := 63) (e := 38) (string_keyed Tryz.underlying9) Tryz.underlying63 hn (klit_key k hk) hd
 have okept : ∀ {u : Value} {xs : List ByteArray}, w1.ownsRow base 9 1 u xs.length (scells xs) → w2.ownsRow base 9 1 u xs.length (scells xs) := fun {u xs} ho => ho.kept hg2 (by
  cases hu : u.ownBlock with
  | none => exact .inl rfl
  | some g =>
   refine .inr fun e => ?_
   have := (ho.lt g hu).1
   have := G.low
   cases e
   omega)
 have old1 : ∀ j, j ≠ k → w1.ownsRow base 9 1 (hv j) (gv j).length (scells (gv j)) := fun j hj => (G.own j).kept hg (G.apart j k hj)
 refine ⟨w2, d, hrun, ⟨hm2, G.low, fun j => ?_, fun j => ?_, fun i j hij => ?_⟩, hg2⟩
 ·by_cases e : j = k
  ·subst e
   rw [setK_same, atKey_put_same G.map.isMap (k := klit j) (by unfold klit; trivial)]; exact hd
  ·rw [setK_other _ _ e, atKey_put_other (fun h => e (klit_one h))]; exact G.reads j
 ·by_cases e : j = k
  ·subst e
   rw [setK_same, setK_same]; exact okept hown
  ·rw [setK_other _ _ e, setK_other _ _ e]; exact okept (old1 j e)
 ·have old_new : ∀ j, j ≠ k → (hv j).ownBlock = none ∨ (hv j).ownBlock ≠ v'.ownBlock := fun j hj => by
   rcases hl with h1 | ⟨g, h1, h2⟩
   ·rw [h1]; exact G.apart j k hj
   ·cases hu : (hv j).ownBlock with
    | none => exact .inl rfl
    | some q =>
     refine .inr fun e => ?_
     have := ((G.own j).lt q hu).2
     rw [h1] at e
     cases e
     omega
  by_cases ei : i = k
  ·subst ei
   have ej : j ≠ i := fun e => hij e.symm
   rw [setK_same, setK_other _ _ ej]
   cases hu : v'.ownBlock with
   | none => exact .inl rfl
   | some q =>
    refine .inr fun e => ?_
    rcases old_new j ej with h | h
    ·rw [h] at e; cases e
    ·exact h (by rw [hu, e])
  ·rw [setK_other _ _ ei]
   by_cases ej : j = k
   ·subst ej; rw [setK_same]; exact old_new i ei
   ·rw [setK_other _ _ ej]; exact G.apart i j hij
theorem keys_sorted {w : World} {b n : Nat} {D : DataW H} {R : Value → Option (DataW H × List MemPlace)} {ks : List ByteArray} {ss : List (List UInt8)} (hown : w.ownsMap Tryz.prog 9 R b n D)
  (hk : ∀ k : ByteArray, Maps.has D (klit k) = true ↔ k ∈ ks) (hp : ss.Perm (Go.strKeys D)) : (ss.mergeSort (fun x y => decide (x ≤ y))).map (fun x => (⟨x.toArray⟩ : ByteArray)) = sortU ks := by
 have hC : Go.Collected D (fun _ => false) ((sortU ks).map fun s => s.data.toList) := by
  refine ⟨?_, fun x => ?_⟩
  ·refine List.pairwise_map.2 ((asc_nodup (sortU_asc ks)).imp fun {a b} h e => h (ba_ext e))
  ·rw [List.mem_map]
   have e : (Lit.string x) = klit ⟨x.toArray⟩ := by unfold klit; simp
   constructor
   ·rintro ⟨s, hs, rfl⟩
    exact ⟨(hk s).2 (sortU_mem.1 hs), rfl⟩
   ·rintro ⟨h, _⟩
    rw [e] at h
    exact ⟨⟨x.toArray⟩, sortU_mem.2 ((hk _).1 h), by simp⟩
 have hS := hp.trans (hC.perm hown (string_keyed Tryz.underlying9) Tryz.underlying9 (fun _ => rfl)).symm
 refine sort_keys (hS.symm.nodup hC.1) fun x => ?_
 rw [hS.mem_iff, List.mem_map]
 constructor
 ·rintro ⟨s, hs, e⟩
  rw [← ba_ext e]; exact sortU_mem.1 hs
 ·intro hx
  exact ⟨x, sortU_mem.2 hx, rfl⟩
end Go.Proofs.YtonfkhkalodldabGreatDoor
end

section
set_option maxRecDepth 100000
namespace Go.Proofs.YtonfkhkalodldabGreatDoor
open Go.RowKit Go.PlainAid
theorem push_strs {ops : Array Oper} {rest : List Oper} {o : Oper} {a : Act} {Q : Exit → Act → World → Prop} (wr : World) {base : Nat} {v : Value} {n : Nat} {xs : List Value} (hown : wr.ownsRow base 9 1 v n xs) (s x : Operand)
  {vo : Option Addr} {vn vc : Nat} {vs : List ByteArray} (hv : StrsAt wr vo vn vc vs) (hgd : o.guard = none)
  (ho : o.op = .call { callee := .builtin .append, args := #[s, x], argTypes := #[38, 38] })
  (hs : a.eval s = v) (hx : a.eval x = .slice vo vn vc) (hn : n + vn ≤ 1000000000) (hbase : base ≤ wr.heap.size)
  (h : ∀ v' w', w'.ownsRow base 9 1 v' (n + vn) (xs ++ scells vs) → wr.grownBy w' v.ownBlock → (v'.ownBlock = v.ownBlock ∨ v'.ownBlock = some wr.heap.size) → wpList Tryz.prog ops Q rest (a.put o.dst v') w') :
  wpList Tryz.prog ops Q (o :: rest) a wr := by
 obtain ⟨i0, hi, hz0, hz1, hz2⟩ := info_parts info_string
 obtain ⟨h1, h2, h3, h4⟩ := hv
 have key : ∀ ad : Addr, vo = some ad → (∀ j u, (scells vs)[j]? = some u → wr.cell? (ad.add j) = some u) → wpList Tryz.prog ops Q (o :: rest) a wr := fun ad e hc =>
  wpList_append_own_at _ hgd s x 38 ho base 9 i0 (.string ⟨#[]⟩) 1 16 Tryz.underlying38 hi hz0 hz1 hz2 rfl (by decide) v n xs hs hown ad vn vc (scells vs) (by rw [hx, e]) (by unfold scells; rw [List.length_map]; omega)
   hc (by intro u hu; unfold scells at hu; obtain ⟨y, _, rfl⟩ := List.mem_map.1 hu; rfl) (by unfold maxLen; omega) (by omega) hbase (fun v' w' k1 k2 _ k4 => h v' w' k1 k2 k4)
 by_cases hp : 0 < vn
 ·obtain ⟨b, off, e, hb, hc⟩ := h4 hp
  refine key _ e fun j u hu => ?_
  unfold scells at hu
  rw [List.getElem?_map] at hu
  cases hj : vs[j]? with
  | none => rw [hj] at hu; cases hu
  | some y =>
   rw [hj] at hu
   obtain rfl := (Option.some.inj hu).symm
   have hjl : j < vs.length := (List.getElem?_eq_some_iff.1 hj).1
   have := hc j hjl
   rw [Go.WideShapes.add_plain]
   rw [this]; unfold partAt
   rw [List.getD_eq_getElem?_getD, hj]; rfl
 ·have hvn : vn = 0 := by omega
  subst hvn
  have hvs : vs = [] := List.length_eq_zero_iff.1 h1
  subst hvs
  cases vo with
  | some ad => exact key ad rfl (fun j u hu => by simp [scells] at hu)
  | none =>
   have hrun : (Builtin.append_ #[38, 38] o.type #[v, .slice none 0 vc]).run Tryz.prog wr = .ok v wr := by
    rcases hown.2 with ⟨rfl, _⟩ | ⟨g, cap, cur, rfl, _, _, hc, _⟩
    ·exact run_append_nothing wr 38 38 o.type 9 i0 Tryz.underlying38 hi none 0 0 (Nat.le_refl _) _ (Src.ofNil wr Tryz.underlying38 vc)
    ·exact run_append_nothing wr 38 38 o.type 9 i0 Tryz.underlying38 hi _ _ _ hc _ (Src.ofNil wr Tryz.underlying38 vc)
   refine wpList_plain hgd fun K hK => ?_
   unfold Oper.wp execOp
   simp only [ho, resolve, invoke, builtin, Sem.run_bind, Sem.run_pure, Result.andThen_ok, List.map_toArray, List.map_cons, List.map_nil, hs, hx, hrun]
   refine hK _ _ (h v wr ?_ ⟨rfl, rfl, rfl, Nat.le_refl _, fun _ _ _ => rfl⟩ (.inl rfl))
   simpa [scells] using hown
abbrev Tr := ByteArray × Value × List ByteArray
def tcells (T : List Tr) : List Value := T.flatMap fun t => [.string t.1, t.2.1]
def tats (T : List Tr) : List At := T.map fun t => (t.1, t.2.2)
theorem tcells_cons (t : Tr) (T : List Tr) : tcells (t :: T) = .string t.1 :: t.2.1 :: tcells T := rfl
theorem tcells_append (T U : List Tr) : tcells (T ++ U) = tcells T ++ tcells U := by simp [tcells]
theorem tats_append (T U : List Tr) : tats (T ++ U) = tats T ++ tats U := by simp [tats]
theorem tats_len (T : List Tr) : (tats T).length = T.length := by simp [tats]
theorem tcells_len : ∀ T : List Tr, (tcells T).length = T.length * 2
 | [] => rfl
 | t :: T => by
  have h := tcells_len T
  rw [tcells_cons, List.length_cons, List.length_cons, h, List.length_cons]; omega
def trD (T : List Tr) (j : Nat) : Tr := T.getD j (⟨#[]⟩, .slice none 0 0, [])
theorem tr_get (T : List Tr) (j : Nat) (h : j < T.length) : trD T j = T[j] := by
 unfold trD; rw [List.getD_eq_getElem?_getD, List.getElem?_eq_getElem h]; rfl
theorem tr_mem (T : List Tr) (j : Nat) (h : j < T.length) : trD T j ∈ T := by rw [tr_get T j h]; exact List.getElem_mem h
theorem tr_take (T : List Tr) (k : Nat) (h : k < T.length) : T.take (k + 1) = T.take k ++ [trD T k] := by
 rw [tr_get T k h]; exact List.take_succ_eq_append_getElem h
theorem atD_tats (T : List Tr) (j : Nat) : atD (tats T) j = ((trD T j).1, (trD T j).2.2) := by
 unfold atD trD tats
 rw [List.getD_eq_getElem?_getD, List.getD_eq_getElem?_getD, List.getElem?_map]
 cases T[j]? <;> rfl
theorem tcells_at : ∀ (T : List Tr) (j : Nat), j < T.length → (tcells T)[j * 2]? = some (.string (trD T j).1) ∧ (tcells T)[j * 2 + 1]? = some (trD T j).2.1
 | [], j, h => absurd h (Nat.not_lt_zero _)
 | t :: T, 0, h => ⟨rfl, rfl⟩
 | t :: T, j + 1, h => by
  have := tcells_at T j (by simpa using h)
  rw [tcells_cons, show (j + 1) * 2 = j * 2 + 1 + 1 by omega, show j * 2 + 1 + 1 + 1 = (j * 2 + 1) + 1 + 1 by omega, List.getElem?_cons_succ, List.getElem?_cons_succ, List.getElem?_cons_succ, List.getElem?_cons_succ]
  exact this
theorem tcells_take : ∀ (T : List Tr) (i : Nat), (tcells T).take (i * 2) = tcells (T.take i)
 | [], i => by simp [tcells]
 | x :: T, 0 => rfl
 | x :: T, i + 1 => by
  have ih := tcells_take T i
  rw [show (i + 1) * 2 = i * 2 + 1 + 1 by omega, List.take_succ_cons, tcells_cons, tcells_cons, List.take_succ_cons, List.take_succ_cons, ih]
theorem tcells_drop (T : List Tr) (i : Nat) (h : i ≤ T.length) : (tcells T).drop (i * 2) = tcells (T.drop i) := by
 have e : tcells T = tcells (T.take i) ++ tcells (T.drop i) := by rw [← tcells_append, List.take_append_drop]
 rw [e, List.drop_append_of_le_length (by rw [tcells_len, List.length_take]; omega), List.drop_of_length_le (by rw [tcells_len, List.length_take]; omega), List.nil_append]
def Hdr (w : World) (v : Value) (vs : List ByteArray) : Prop := ∃ ao n cap, v = .slice ao n cap ∧ StrsAt w ao n cap vs
theorem Hdr.below {w w' : World} {v : Value} {vs : List ByteArray} (h : Hdr w v vs) (hb : Below w.heap.size w w') : Hdr w' v vs := by
 obtain ⟨ao, n, cap, e, hs⟩ := h
 exact ⟨ao, n, cap, e, hs.below hb⟩
theorem Hdr.one {w : World} {v : Value} {vs : List ByteArray} (h : Hdr w v vs) : v.oneCell' = true := by
 obtain ⟨ao, n, cap, rfl, _⟩ := h; rfl
theorem hdr_nil (w : World) : Hdr w (.slice none 0 0) [] := ⟨none, 0, 0, rfl, rfl, Nat.le_refl _, by unfold maxLen; omega, fun h => absurd h (Nat.lt_irrefl _)⟩
theorem hdr_owns {w : World} {base : Nat} {v : Value} {vs : List ByteArray} (h : w.ownsRow base 9 1 v vs.length (scells vs)) : Hdr w v vs := by
 obtain ⟨ao, cap, e, hs⟩ := strs_own h rfl
 exact ⟨ao, _, cap, e, hs⟩
def TOk (w : World) (T : List Tr) : Prop := ∀ t ∈ T, Hdr w t.2.1 t.2.2
theorem TOk.below {w w' : World} {T : List Tr} (h : TOk w T) (hb : Below w.heap.size w w') : TOk w' T := fun t ht => (h t ht).below hb
theorem TOk.app {w : World} {T U : List Tr} (h : TOk w T) (k : TOk w U) : TOk w (T ++ U) := fun t ht => (List.mem_append.1 ht).elim (h t) (k t)
theorem tcells_one {w : World} {T : List Tr} (h : TOk w T) : ∀ u ∈ tcells T, u.oneCell' = true := by
 intro u hu
 obtain ⟨p, hp, hu⟩ := List.mem_flatMap.1 hu
 simp at hu
 rcases hu with rfl | rfl
 ·rfl
 ·exact (h p hp).one
def TsAt (w : World) (ao : Option Addr) (n cap : Nat) (T : List Tr) : Prop :=
 T.length = n ∧ n ≤ cap ∧ cap ≤ maxLen ∧ (0 < n → ∃ b off, ao = some ⟨b, off, none⟩ ∧ b < w.heap.size ∧ ∀ j u, (tcells T)[j]? = some u → w.cell? ⟨b, off + j, none⟩ = some u)
theorem TsAt.below {w w' : World} {ao : Option Addr} {n cap : Nat} {T : List Tr} (h : TsAt w ao n cap T) (hb : Below w.heap.size w w') : TsAt w' ao n cap T :=
 ⟨h.1, h.2.1, h.2.2.1, fun hn => by
  obtain ⟨b, off, e, hi, ha⟩ := h.2.2.2 hn
  exact ⟨b, off, e, Nat.lt_of_lt_of_le hi hb.size, fun j u hj => cell_later hb (ha j u hj)⟩⟩
theorem TsAt.keep {w w' : World} {ao : Option Addr} {n cap : Nat} {T : List Tr} (h : TsAt w ao n cap T) (hs : w.heap.size ≤ w'.heap.size) (hk : ∀ b off, ao = some ⟨b, off, none⟩ → b < w.heap.size → w'.heap[b]? = w.heap[b]?) : TsAt w' ao n cap T :=
 ⟨h.1, h.2.1, h.2.2.1, fun hn => by
  obtain ⟨b, off, e, hi, ha⟩ := h.2.2.2 hn
  refine ⟨b, off, e, Nat.lt_of_lt_of_le hi hs, fun j u hj => ?_⟩
  rw [← ha j u hj]
  exact World.cell?_of_block (a := ⟨b, off + j, none⟩) (hk b off e hi)⟩
theorem ts_nil (w : World) (ao : Option Addr) (cap : Nat) (h : cap ≤ maxLen) : TsAt w ao 0 cap [] := ⟨rfl, Nat.zero_le _, h, fun h => absurd h (Nat.lt_irrefl _)⟩
theorem ts_at {w : World} {b off n cap : Nat} {T : List Tr} (h : TsAt w (some ⟨b, off, none⟩) n cap T) (j : Nat) (hj : j < n) :
  w.cell? ⟨b, off + j * 2, none⟩ = some (.string (trD T j).1) ∧ w.cell? ⟨b, off + j * 2 + 1, none⟩ = some (trD T j).2.1 := by
 obtain ⟨b', off', e, _, ha⟩ := h.2.2.2 (by omega)
 cases e
 have := tcells_at T j (by rw [h.1]; exact hj)
 exact ⟨ha _ _ this.1, by rw [Nat.add_assoc]; exact ha _ _ this.2⟩
theorem ts_ats {w : World} {ao : Option Addr} {n cap : Nat} {T : List Tr} (h : TsAt w ao n cap T) (hT : TOk w T) : AttrsAt w ao n cap (tats T) := by
 refine ⟨by rw [tats_len]; exact h.1, h.2.1, h.2.2.1, fun hn => ?_⟩
 obtain ⟨b, off, e, hi, ha⟩ := h.2.2.2 hn
 subst e
 refine ⟨b, off, rfl, hi, fun j hj => ?_⟩
 rw [atD_tats]
 obtain ⟨c0, c1⟩ := ts_at h j hj
 obtain ⟨vo, vn, vc, e, hs⟩ := hT _ (tr_mem T j (by rw [h.1]; exact hj))
 exact ⟨c0, vo, vn, vc, by rw [← e]; exact c1, hs⟩
theorem ats_ts {w : World} {ao : Option Addr} {n cap : Nat} {l : List At} (h : AttrsAt w ao n cap l) : ∃ T, tats T = l ∧ TOk w T ∧ TsAt w ao n cap T := by
 obtain ⟨h1, h2, h3, h4⟩ := h
 by_cases hn : 0 < n
 ·obtain ⟨b, off, e, hi, ha⟩ := h4 hn
  have key : ∀ k, k ≤ n → ∃ T : List Tr, tats T = l.take k ∧ TOk w T ∧ ∀ j u, (tcells T)[j]? = some u → w.cell? ⟨b, off + j, none⟩ = some u := by
   intro k
   induction k with
   | zero => exact fun _ => ⟨[], by simp [tats], fun t ht => (List.not_mem_nil ht).elim, fun j u hj => by simp [tcells] at hj⟩
   | succ k ih =>
    intro hk
    obtain ⟨T, e1, hT, hc⟩ := ih (by omega)
    obtain ⟨c0, vo, vn, vc, c1, hs⟩ := ha k (by omega)
    have hTl : T.length = k := by rw [← tats_len, e1, List.length_take]; omega
    refine ⟨T ++ [((atD l k).1, .slice vo vn vc, (atD l k).2)], ?_, hT.app fun t ht => ?_, fun j u hj => ?_⟩
    ·rw [tats_append, e1, at_take l k (by omega)]; rfl
    ·rw [List.mem_singleton.1 ht]; exact ⟨vo, vn, vc, rfl, hs⟩
    ·rw [tcells_append] at hj
     by_cases hlt : j < (tcells T).length
     ·rw [List.getElem?_append_left hlt] at hj; exact hc j u hj
     ·rw [List.getElem?_append_right (by omega), tcells_len, hTl] at hj
      rw [tcells_len, hTl] at hlt
      obtain ⟨d, rfl⟩ : ∃ d, j = k * 2 + d := ⟨j - k * 2, by omega⟩
      rw [Nat.add_sub_cancel_left] at hj
      match d, hj with
      | 0, hj =>
       obtain rfl := (Option.some.inj hj)
       exact c0
      | 1, hj =>
       obtain rfl := (Option.some.inj hj)
       rw [show off + (k * 2 + 1) = off + k * 2 + 1 by omega]; exact c1
      | d + 2, hj => simp [tcells] at hj
  obtain ⟨T, e1, hT, hc⟩ := key n (Nat.le_refl _)
  rw [List.take_of_length_le (by omega)] at e1
  exact ⟨T, e1, hT, by rw [← tats_len, e1]; exact h1, h2, h3, fun _ => ⟨b, off, e, hi, hc⟩⟩
 ·have hn0 : n = 0 := by omega
  subst hn0
  have : l = [] := List.length_eq_zero_iff.1 h1
  subst this
  exact ⟨[], rfl, fun t ht => (List.not_mem_nil ht).elim, ts_nil w ao cap h3⟩
theorem info_attr : (Tryz.prog.info? 41).map (fun i => (i.zero, i.size, i.bytes)) = some (some (.agg #[.string ⟨#[]⟩, .slice none 0 0]), 2, 40) := by kernel_rfl
theorem ts_news {w : World} {ad : Addr} {m c : Nat} {T : List Tr} (h : TsAt w (some ad) m c T) : ∀ j u, (tcells T)[j]? = some u → w.cell? (ad.add j) = some u := by
 intro j u hj
 rcases Nat.eq_zero_or_pos m with e | e
 ·have hnil : T = [] := List.length_eq_zero_iff.1 (by rw [h.1]; exact e)
  subst hnil; simp [tcells] at hj
 ·obtain ⟨b, off, e2, _, ha⟩ := h.2.2.2 e
  cases e2
  rw [Go.WideShapes.add_plain]; exact ha j u hj
theorem app_attrs {ops : Array Oper} {rest : List Oper} {o : Oper} {a : Act} {Q : Exit → Act → World → Prop} (wr : World) {base : Nat} {v : Value} {n : Nat} {xs : List Value} (hown : wr.ownsRow base 41 2 v n xs) (s x : Operand)
  (ao : Option Addr) (m c : Nat) (news : List Tr) (hgd : o.guard = none)
  (ho : o.op = .call { callee := .builtin .append, args := #[s, x], argTypes := #[26, 26] })
  (hs : a.eval s = v) (hx : a.eval x = .slice ao m c) (hw : TsAt wr ao m c news) (hT : TOk wr news) (hn : n + m ≤ 1000000000) (hbase : base ≤ wr.heap.size)
  (h : ∀ v' w', w'.ownsRow base 41 2 v' (n + m) (xs ++ tcells news) → wr.grownBy w' v.ownBlock → (v'.ownBlock = v.ownBlock ∨ v'.ownBlock = some wr.heap.size) → wpList Tryz.prog ops Q rest (a.put o.dst v') w') :
  wpList Tryz.prog ops Q (o :: rest) a wr := by
 obtain ⟨i0, hi, hz0, hz1, hz2⟩ := info_parts info_attr
 cases ao with
 | some ad =>
  refine wpList_append_own_at _ hgd s x 26 ho base 41 i0 (.agg #[.string ⟨#[]⟩, .slice none 0 0]) 2 40 Tryz.underlying26 hi hz0 hz1 hz2 rfl (by decide) v n xs hs hown ad m c (tcells news) hx (by rw [tcells_len, hw.1]) (ts_news hw)
   (tcells_one hT) (by unfold maxLen; omega) (by omega) hbase ?_
  intro v' w' k1 k2 _ k4
  exact h v' w' k1 k2 k4
 | none =>
  have hm : m = 0 := by
   rcases Nat.eq_zero_or_pos m with e | e
   ·exact e
   ·obtain ⟨_, _, e2, _⟩ := hw.2.2.2 e; cases e2
  subst hm
  have hnil : news = [] := List.length_eq_zero_iff.1 hw.1
  subst hnil
  have hrun : (Builtin.append_ #[26, 26] o.type #[v, .slice none 0 c]).run Tryz.prog wr = .ok v wr := by
   rcases hown.2 with ⟨rfl, _⟩ | ⟨g, cap, cur, rfl, _, _, hc, _⟩
   ·exact run_append_nothing wr 26 26 o.type 41 i0 Tryz.underlying26 hi none 0 0 (Nat.le_refl _) _ (Src.ofNil wr Tryz.underlying26 c)
   ·exact run_append_nothing wr 26 26 o.type 41 i0 Tryz.underlying26 hi _ _ _ hc _ (Src.ofNil wr Tryz.underlying26 c)
  refine wpList_plain hgd fun K hK => ?_
  unfold Oper.wp execOp
  simp only [ho, resolve, invoke, builtin, Sem.run_bind, Sem.run_pure, Result.andThen_ok, List.map_toArray, List.map_cons, List.map_nil, hs, hx, hrun]
  refine hK _ _ (h v wr ?_ ⟨rfl, rfl, rfl, Nat.le_refl _, fun _ _ _ => rfl⟩ (.inl rfl))
  simpa [tcells] using hown
theorem ts_owns {w : World} {base n : Nat} {v : Value} {T : List Tr} (h : w.ownsRow base 41 2 v n (tcells T)) : T.length = n ∧ ∃ ao cap, v = .slice ao n cap ∧ TsAt w ao n cap T ∧ FreshA base ao ∧ (ao = none → cap = 0) ∧ (∀ ad, ao = some ad → ad.spot = none) := by
 have h0 := h
 have hlen : T.length = n := by have := h.1; rw [tcells_len] at this; omega
 refine ⟨hlen, ?_⟩
 rcases h.2 with ⟨rfl, rfl⟩ | ⟨g, cap, cur, rfl, hb, hg, hc, hm, hcs, ht⟩
 ·exact ⟨none, 0, rfl, ⟨hlen, Nat.le_refl _, by unfold maxLen; omega, fun h => absurd h (Nat.lt_irrefl _)⟩, fun _ _ e => by (cases e), fun _ => rfl, fun _ e => by cases e⟩
 ·refine ⟨_, cap, rfl, ⟨hlen, hc, hm, fun h1 => ⟨g, 0, rfl, ?_, fun j u hj => ?_⟩⟩, fun b off e => by (cases e; exact hb), fun e => (by cases e), fun ad e => by cases e; rfl⟩
  ·rcases Nat.lt_or_ge g w.heap.size with h' | h'
   ·exact h'
   ·simp [Array.getElem?_eq_none h'] at hg
  ·have := h0.cells (g := g) rfl j u hj
   rw [Go.WideShapes.add_plain] at this
   exact this
theorem ts_new1 (w : World) (t : Tr) : TsAt (w.alloc (.cells #[.string t.1, t.2.1] 41)) (some ⟨w.heap.size, 0, none⟩) 1 1 [t] := by
 refine ⟨rfl, Nat.le_refl _, by unfold maxLen; omega, fun _ => ⟨w.heap.size, 0, rfl, by simp, fun j u hj => ?_⟩⟩
 have hb := heap_alloc_new w (.cells #[.string t.1, t.2.1] 41)
 match j, hj with
 | 0, hj => obtain rfl := Option.some.inj hj; unfold World.cell?; simp only [hb]; rfl
 | 1, hj => obtain rfl := Option.some.inj hj; unfold World.cell?; simp only [hb]; rfl
 | j + 2, hj => simp [tcells] at hj
theorem app_onto {ops : Array Oper} {rest : List Oper} {o : Oper} {a : Act} {Q : Exit → Act → World → Prop} (wr : World) (s x : Operand) (ao bo : Option Addr) (n m c : Nat) (olds news : List Tr) (hgd : o.guard = none)
  (ho : o.op = .call { callee := .builtin .append, args := #[s, x], argTypes := #[26, 26] })
  (hs : a.eval s = .slice ao n n) (hx : a.eval x = .slice bo m c) (hold : TsAt wr ao n n olds) (hnone : ao = none → n = 0) (hplain : ∀ ad, ao = some ad → ad.spot = none) (hw : TsAt wr bo m c news) (hO : TOk wr olds) (hT : TOk wr news) (hn : n + m ≤ 1100000)
  (h : ∀ xo cap w', TsAt w' xo (n + m) cap (olds ++ news) → Below wr.heap.size wr w' → (∀ ad, xo = some ad → ad.spot = none) → (xo = none → cap = 0) → (FreshA wr.heap.size xo ∨ (xo = ao ∧ w' = wr ∧ cap = n)) → wpList Tryz.prog ops Q rest (a.put o.dst (.slice xo (n + m) cap)) w') :
  wpList Tryz.prog ops Q (o :: rest) a wr := by
 obtain ⟨i0, hi, hz0, hz1, hz2⟩ := info_parts info_attr
 cases ao with
 | none =>
  have e0 := hnone rfl
  subst e0
  have e1 : olds = [] := List.length_eq_zero_iff.1 hold.1
  subst e1
  refine app_attrs wr (World.ownsRow_nil wr wr.heap.size 41 2) s x bo m c news hgd ho hs hx hw hT (by omega) (Nat.le_refl _) ?_
  intro v' w' h1 h2 _
  rw [List.nil_append] at h1
  have h1' : w'.ownsRow wr.heap.size 41 2 v' (0 + m) (tcells ([] ++ news)) := h1
  obtain ⟨_, xo, cap, rfl, hat, hfr, hz, hsp⟩ := ts_owns h1'
  exact h xo cap w' hat ((Below.refl _ wr).grown h2 (Nat.le_refl _) (fun k hk => by cases hk)) hsp hz (.inl hfr)
 | some ad =>
  have hsp := hplain ad rfl
  obtain ⟨b, off, spot⟩ := ad
  simp only at hsp
  subst hsp
  rcases Nat.eq_zero_or_pos m with e | e
  ·subst e
   have e1 : news = [] := List.length_eq_zero_iff.1 hw.1
   subst e1
   have hsrc : Src Tryz.prog i0.size 26 (.slice bo 0 c) 0 [] wr := by
    cases bo with
    | none => exact Src.ofNil wr Tryz.underlying26 c
    | some a2 => exact Src.ofSlice wr Tryz.underlying26 a2 0 c [] (by simp) (fun j u hj => by simp at hj) (fun u hu => by cases hu)
   refine wpList_plain hgd fun K hK => ?_
   have hrun := run_append_room_src (P := Tryz.prog) (w := wr) 26 26 o.type 41 i0 Tryz.underlying26 hi b off n n (.slice bo 0 c) 0 [] hsrc (by omega) (fun j hj => by simp at hj) (fun j hj => by simp at hj)
   unfold Oper.wp
   simp [execOp, ho, resolve, invoke, builtin, hs, hx, hrun, Result.andThen]
   refine hK _ _ (h (some ⟨b, off, none⟩) n wr (by rw [List.append_nil]; exact hold) (Below.refl _ _) (fun ad e => by cases e; rfl) (fun e => by cases e) (.inr ⟨rfl, rfl, rfl⟩))
  ·obtain ⟨b2, off2, e2, _⟩ := hw.2.2.2 e
   subst e2
   refine wpList_append_grows wr hgd s x 26 ho 41 i0 (.agg #[.string ⟨#[]⟩, .slice none 0 0]) 2 40 Tryz.underlying26 hi hz0 hz1 hz2 rfl (by decide) (some ⟨b, off, none⟩) n n (tcells olds) hs (fun e => by cases e) (by rw [tcells_len, hold.1])
    (fun ad had j u hj => by cases had; exact ts_news hold j u hj) ⟨b2, off2, none⟩ m c (tcells news) hx (by rw [tcells_len, hw.1]) (ts_news hw) (tcells_one hT) (by omega) (by unfold maxLen; omega) (by omega) ?_
   intro v' w' h1 h2
   have h1' : w'.ownsRow wr.heap.size 41 2 v' (n + m) (tcells (olds ++ news)) := by rw [tcells_append]; exact h1
   obtain ⟨_, xo, cap, rfl, hat, hfr, hz, hsp2⟩ := ts_owns h1'
   exact h xo cap w' hat ((Below.refl _ wr).grown h2 (Nat.le_refl _) (fun k hk => by cases hk)) hsp2 hz (.inl hfr)
end Go.Proofs.YtonfkhkalodldabGreatDoor
end

section
set_option maxRecDepth 100000
namespace Go.Proofs
open Go.Shelf
def Tryz.equal_ren : Go.Shelf.Ren := ⟨fun | 34 => 54 | n => n, fun | 25 => 38 | 26 => 9 | 4 => 4 | 3 => 3 | 0 => 0 | n => n, fun | n => n⟩
theorem Tryz.equal : Go.Proofs.SlLaysN.n34 Tryz.prog Tryz.equal_ren := {
 mixed := by kernel_rfl
 f34 := ⟨Tryz.f54.name, by decide, Tryz.func54.trans (congrArg some (by kernel_rfl))⟩
 t0 := Tryz.underlying0
 a0 := Tryz.isAgg0
 z0 := Tryz.sizeOf0
 v0 := Tryz.zeroValue0
 t3 := Tryz.underlying3
 a3 := Tryz.isAgg3
 z3 := Tryz.sizeOf3
 v3 := Tryz.zeroValue3
 t4 := Tryz.underlying4
 a4 := Tryz.isAgg4
 z4 := Tryz.sizeOf4
 v4 := Tryz.zeroValue4
 t25 := Tryz.underlying38
 a25 := Tryz.isAgg38
 z25 := Tryz.sizeOf38
 v25 := Tryz.zeroValue38
 t26 := Tryz.underlying9
 a26 := Tryz.isAgg9
 z26 := Tryz.sizeOf9
 v26 := Tryz.zeroValue9 }
def Tryz.contains_ren : Go.Shelf.Ren := ⟨fun | 32 => 106 | 30 => 128 | n => n, fun | 25 => 38 | 26 => 9 | 4 => 4 | 3 => 3 | 0 => 0 | n => n, fun | n => n⟩
theorem Tryz.contains : Go.Proofs.SlLaysN.n32 Tryz.prog Tryz.contains_ren := {
 mixed := by kernel_rfl
 f30 := ⟨Tryz.f128.name, by decide, Tryz.func128.trans (congrArg some (by kernel_rfl))⟩
 f32 := ⟨Tryz.f106.name, by decide, Tryz.func106.trans (congrArg some (by kernel_rfl))⟩
 t0 := Tryz.underlying0
 a0 := Tryz.isAgg0
 z0 := Tryz.sizeOf0
 v0 := Tryz.zeroValue0
 t3 := Tryz.underlying3
 a3 := Tryz.isAgg3
 z3 := Tryz.sizeOf3
 v3 := Tryz.zeroValue3
 t4 := Tryz.underlying4
 a4 := Tryz.isAgg4
 z4 := Tryz.sizeOf4
 v4 := Tryz.zeroValue4
 t25 := Tryz.underlying38
 a25 := Tryz.isAgg38
 z25 := Tryz.sizeOf38
 v25 := Tryz.zeroValue38
 t26 := Tryz.underlying9
 a26 := Tryz.isAgg9
 z26 := Tryz.sizeOf9
 v26 := Tryz.zeroValue9 }
def Tryz.compact_ren : Go.Shelf.Ren := ⟨fun | 44 => 75 | n => n, fun | 25 => 38 | 26 => 9 | 3 => 3 | 4 => 4 | 0 => 0 | n => n, fun | n => n⟩
theorem Tryz.compact : Go.Proofs.SlLaysN.n44 Tryz.prog Tryz.compact_ren := {
 mixed := by kernel_rfl
 f44 := ⟨Tryz.f75.name, by decide, Tryz.func75.trans (congrArg some (by kernel_rfl))⟩
 t0 := Tryz.underlying0
 a0 := Tryz.isAgg0
 z0 := Tryz.sizeOf0
 v0 := Tryz.zeroValue0
 t3 := Tryz.underlying3
 a3 := Tryz.isAgg3
 z3 := Tryz.sizeOf3
 v3 := Tryz.zeroValue3
 t4 := Tryz.underlying4
 a4 := Tryz.isAgg4
 z4 := Tryz.sizeOf4
 v4 := Tryz.zeroValue4
 t25 := Tryz.underlying38
 a25 := Tryz.isAgg38
 z25 := Tryz.sizeOf38
 v25 := Tryz.zeroValue38
 t26 := Tryz.underlying9
 a26 := Tryz.isAgg9
 z26 := Tryz.sizeOf9
 v26 := Tryz.zeroValue9
 i26 := by kernel_rfl }
def Tryz.deletef_ren : Go.Shelf.Ren := ⟨fun | 10 => 101 | 6 => 127 | n => n, fun | 22 => 38 | 23 => 9 | 25 => 78 | 3 => 3 | 4 => 4 | 0 => 0 | n => n, fun | n => n⟩
theorem Tryz.deletef : Go.Proofs.SlLaysH.n10 Tryz.prog Tryz.deletef_ren := {
 mixed := by kernel_rfl
 f6 := ⟨Tryz.f127.name, by decide, Tryz.func127.trans (congrArg some (by kernel_rfl))⟩
 f10 := ⟨Tryz.f101.name, by decide, Tryz.func101.trans (congrArg some (by kernel_rfl))⟩
 t0 := Tryz.underlying0
 a0 := Tryz.isAgg0
 z0 := Tryz.sizeOf0
 v0 := Tryz.zeroValue0
 t3 := Tryz.underlying3
 a3 := Tryz.isAgg3
 z3 := Tryz.sizeOf3
 v3 := Tryz.zeroValue3
 t4 := Tryz.underlying4
 a4 := Tryz.isAgg4
 z4 := Tryz.sizeOf4
 v4 := Tryz.zeroValue4
 t22 := Tryz.underlying38
 a22 := Tryz.isAgg38
 z22 := Tryz.sizeOf38
 v22 := Tryz.zeroValue38
 a23 := Tryz.isAgg9
 z23 := Tryz.sizeOf9
 t25 := Tryz.underlying78
 a25 := Tryz.isAgg78
 z25 := Tryz.sizeOf78
 v25 := Tryz.zeroValue78 }
end Go.Proofs
end

section
set_option maxRecDepth 100000
namespace Go.Proofs.YtonfkhkalodldabGreatDoor
open Go.RowKit Go.PlainAid Go.Sort Go.Lib
def toB (x : List UInt8) : ByteArray := ⟨x.toArray⟩
theorem toB_list (s : ByteArray) : toB s.data.toList = s := Lib.mk_data s
theorem enc_cells (ss : List (List UInt8)) : ss.map encStr = scells (ss.map toB) := by unfold scells; rw [List.map_map]; rfl
theorem cells_enc (l : List ByteArray) : scells l = (l.map fun s => s.data.toList).map encStr := by
 rw [enc_cells, List.map_map]; congr 1
 exact ((List.map_congr_left fun s _ => toB_list s).trans (List.map_id _)).symm
theorem comp_inv (d : Array (List UInt8)) (hs : ∀ i j, i ≤ j → j < d.size → d[i]! ≤ d[j]!) : ∀ m, m ≤ d.size → (compactUpTo d m).Pairwise (· < ·) ∧ ∀ x, x ∈ compactUpTo d m ↔ ∃ j, j < m ∧ d[j]! = x
 | 0, _ => ⟨by simp [compactUpTo], fun x => by simp [compactUpTo]⟩
 | m + 1, hm => by
  obtain ⟨h1, h2⟩ := comp_inv d hs m (by omega)
  rw [compactUpTo_succ]
  by_cases hk : keeps d m = true
  ·rw [if_pos hk]
   have hk' : m = 0 ∨ d[m]! ≠ d[m - 1]! := of_decide_eq_true hk
   refine ⟨List.pairwise_append.2 ⟨h1, List.pairwise_singleton _ _, fun x hx y hy => ?_⟩, fun x => ?_⟩
   ·rw [List.mem_singleton.1 hy]
    obtain ⟨j, hj, rfl⟩ := (h2 x).1 hx
    refine List.not_le.1 fun hle => ?_
    rcases hk' with e | e
    ·omega
    ·have a1 := hs j (m - 1) (by omega) (by omega)
     have a2 := hs (m - 1) m (by omega) (by omega)
     exact e (List.le_antisymm (List.le_trans hle a1) a2)
   ·rw [List.mem_append, h2 x, List.mem_singleton]
    constructor
    ·rintro (⟨j, hj, e⟩ | e)
     ·exact ⟨j, by omega, e⟩
     ·exact ⟨m, by omega, e.symm⟩
    ·rintro ⟨j, hj, e⟩
     by_cases ej : j = m
     ·subst ej; exact .inr e.symm
     ·exact .inl ⟨j, by omega, e⟩
  ·rw [if_neg hk, List.append_nil]
   refine ⟨h1, fun x => ?_⟩
   rw [h2 x]
   have hk' : ¬ (m = 0 ∨ d[m]! ≠ d[m - 1]!) := fun h => hk (decide_eq_true h)
   constructor
   ·rintro ⟨j, hj, e⟩; exact ⟨j, by omega, e⟩
   ·rintro ⟨j, hj, e⟩
    by_cases ej : j = m
    ·subst ej
     refine ⟨j - 1, by omega, ?_⟩
     rw [← e]
     exact (Classical.not_not.1 fun h => hk' (.inr h)).symm
    ·exact ⟨j, by omega, e⟩
theorem compact_sorted (l : List ByteArray) : (compact ((l.map fun s => s.data.toList).mergeSort fun x y => decide (x ≤ y))).map toB = sortU l := by
 obtain ⟨ss, hss⟩ : ∃ ss, (l.map fun s => s.data.toList) = ss := ⟨_, rfl⟩
 rw [hss]
 have hs := List.pairwise_mergeSort (le := fun (x y : List UInt8) => decide (x ≤ y)) (fun a b c h1 h2 => decide_eq_true (List.le_trans (of_decide_eq_true h1) (of_decide_eq_true h2))) (fun a b => by
  rcases List.le_total a b with k | k
  ·simp [k]
  ·simp [k]) ss
 have hp := List.mergeSort_perm ss (fun x y => decide (x ≤ y))
 obtain ⟨zs, hz⟩ : ∃ zs, (ss.mergeSort fun x y => decide (x ≤ y)) = zs := ⟨_, rfl⟩
 rw [hz] at hs hp ⊢
 have hg : ∀ i j, i ≤ j → j < zs.toArray.size → zs.toArray[i]! ≤ zs.toArray[j]! := fun i j hij hj => by
  have hj' : j < zs.length := by simpa using hj
  rw [getElem!_pos zs.toArray i (by omega), getElem!_pos zs.toArray j hj]
  rcases Nat.lt_or_ge i j with k | k
  ·exact of_decide_eq_true (List.pairwise_iff_getElem.1 hs i j (by omega) hj' k)
  ·have e : i = j := by omega
   subst e; exact List.le_refl _
 obtain ⟨h1, h2⟩ := comp_inv zs.toArray hg zs.length (by simp)
 refine asc_ext ?_ (sortU_asc l) fun x => ?_
 ·unfold Asc
  rw [List.pairwise_map]
  refine h1.imp fun {a b} h => ?_
  have := (lt_cmp a b).1 h
  simpa [cmpS, toB] using this
 ·rw [List.mem_map, sortU_mem]
  have hm : ∀ y, y ∈ compact zs ↔ y ∈ ss := fun y => by
   unfold compact
   rw [h2 y, ← hp.mem_iff]
   constructor
   ·rintro ⟨j, hj, e⟩
    rw [getElem!_pos zs.toArray j (by simpa using hj)] at e
    rw [← e]; simp
   ·intro hy
    obtain ⟨j, hj, e⟩ := List.getElem_of_mem hy
    exact ⟨j, hj, by rw [getElem!_pos zs.toArray j (by simpa using hj)]; simpa using e⟩
  constructor
  ·rintro ⟨y, hy, rfl⟩
   rw [hm y, ← hss, List.mem_map] at hy
   obtain ⟨s, hs', rfl⟩ := hy
   rw [toB_list]; exact hs'
  ·intro hx
   exact ⟨x.data.toList, (hm _).2 (by rw [← hss]; exact List.mem_map_of_mem hx), toB_list x⟩
theorem comp_le (zs : List (List UInt8)) : (compact zs).length ≤ zs.length := by
 unfold compact compactUpTo
 rw [List.length_map]
 exact Nat.le_trans (List.length_filter_le _ _) (by simp)
theorem grow_none (w : World) : grow w #[] = w := by unfold grow; simp
theorem grown_two {w w1 w2 : World} {row : Option Nat} (h : w.grownBy w1 row) (k : w1.grownBy w2 row) : w.grownBy w2 row :=
 ⟨k.os.trans h.os, k.tape.trans h.tape, k.output.trans h.output, Nat.le_trans h.size k.size, fun j hj hne => (k.block j (Nat.lt_of_lt_of_le hj h.size) hne).trans (h.block j hj hne)⟩
theorem sort_len (ss : List (List UInt8)) : (ss.mergeSort fun x y => decide (x ≤ y)).length = ss.length := (List.mergeSort_perm ss _).length_eq
set_option maxHeartbeats 1000000 in
theorem ascending_s (base n : Nat) (v : Value) (l : List ByteArray) (w : World) (hown : w.ownsRow base 9 1 v n (scells l)) (hl : l.length = n) (hn : n ≤ 1100000) :
  Calls Tryz.prog 41 #[v] w fun e w' => ∃ u, e = .returned u ∧ w'.ownsRow base 9 1 u (sortU l).length (scells (sortU l)) ∧ w.grownBy w' v.ownBlock ∧ u.ownBlock = v.ownBlock := by
 rcases hown.2 with ⟨rfl, h0⟩ | ⟨g, cap, cur, rfl, hg, hb, hc, hm, hcs, ht⟩
 ·subst h0
  have hl0 : l = [] := List.length_eq_zero_iff.1 hl
  subst hl0
  go_enter Tryz.func41, Tryz.ntmps41
  go_wp2_with fail
  refine (AnyM.slices_Sort_string_none Tryz.sort none 0 _).mono ?_
  rintro e w1 ⟨rfl, rfl⟩
  go_wp2_with fail
  refine (AnyG.slices_Compact_string_empty Tryz.compact none 0 _).mono ?_
  rintro e w1 ⟨rfl, rfl⟩
  go_wp2_with fail
  go_ret
  exact ⟨_, rfl, World.ownsRow_nil _ _ _ _, ⟨rfl, rfl, rfl, Nat.le_refl _, fun _ _ _ => rfl⟩, rfl⟩
 ·subst hl
  obtain ⟨ss, hss⟩ : ∃ ss, (l.map fun s => s.data.toList) = ss := ⟨_, rfl⟩
  have hsl : ss.length = l.length := by rw [← hss, List.length_map]
  have hgl : g < w.heap.size := by
   rcases Nat.lt_or_ge g w.heap.size with h' | h'
   ·exact h'
   ·simp [Array.getElem?_eq_none h'] at hb
  have hH : Holds encStr w g 0 ss.toArray := holds_of_block hb (by rw [hsl, ← hss, ← cells_enc]; simpa using ht)
  obtain ⟨ts, hts⟩ : ∃ ts, (ss.mergeSort fun x y => decide (x ≤ y)) = ts := ⟨_, rfl⟩
  have htl : ts.length = ss.length := by rw [← hts]; exact sort_len ss
  obtain ⟨cs, hcs'⟩ : ∃ cs, compact ts = cs := ⟨_, rfl⟩
  have hcl : cs.length ≤ ts.length := by rw [← hcs']; exact comp_le ts
  have HE := Lib.hid (show cs.map toB = sortU l by rw [← hcs', ← hts, ← hss]; exact compact_sorted l)
  have hS := AnyM.slices_Sort_string Tryz.sort g 0 cap ss w hH hgl (by omega)
  rw [hsl, hts] at hS
  have HS := Lib.hid hS
  have hC : ∀ (m : Nat) (os : Array Obj), Calls Tryz.prog 75 #[.slice (some ⟨g, 0, none⟩) l.length cap] (grow (putRow encStr (Sort.ahead w m) g 0 ts.toArray) os) fun e w' =>
    e = .returned (.slice (some ⟨g, 0, none⟩) cs.length cap) ∧ w'.ownsRow base 9 1 (.slice (some ⟨g, 0, none⟩) cs.length cap) cs.length (scells (cs.map toB)) ∧ w.grownBy w' (some g) := by
   intro m os
   have ho1 := ownsRow_sorted (w := w) (n := m) (os := os) (ss := ss) (ts := ts) htl hg hb (by omega) hm (by omega)
   obtain ⟨_, h2⟩ := ho1
   rcases h2 with ⟨h2, _⟩ | ⟨g', cap', cur', h2, _, hb', _, _, hcs2, ht'⟩
   ·cases h2
   ·simp only [Value.slice.injEq, Option.some.injEq, Addr.mk.injEq, and_true] at h2
    obtain ⟨rfl, _, rfl⟩ := h2
    have hH2 := holds_of_block (ss := ts) hb' (by rw [htl]; simpa using ht')
    have h := AnyG.slices_Compact_string Tryz.compact g 0 cap ts _ hH2 (by omega) (by omega)
    rw [hcs', show ts.length = l.length by omega] at h
    refine h.mono ?_
    rintro e w' ⟨rfl, q, rfl⟩
    refine ⟨rfl, ?_, ?_⟩
    ·obtain ⟨W1, hW1⟩ : ∃ W1, grow (putRow encStr (Sort.ahead w m) g 0 ts.toArray) os = W1 := ⟨_, rfl⟩
     rw [hW1] at hb' ⊢
     have ho2 := ownsRow_sorted (n := q) (os := #[]) (ss := ts) (ts := cs ++ List.replicate (l.length - cs.length) []) (by rw [List.length_append, List.length_replicate]; omega) hg hb' (by omega) hm (by omega)
     rw [grow_none] at ho2
     rcases ho2.2 with ⟨h2, _⟩ | ⟨g', cap', cur'', h2, _, hb'', _, _, hcs3, ht''⟩
     ·cases h2
     ·simp only [Value.slice.injEq, Option.some.injEq, Addr.mk.injEq, and_true] at h2
      obtain ⟨rfl, _, rfl⟩ := h2
      refine ⟨by simp [scells], .inr ⟨g, cap, cur'', rfl, hg, hb'', by omega, hm, hcs3, ?_⟩⟩
      rw [← enc_cells, Nat.mul_one]
      rw [Nat.mul_one] at ht''
      have h3 := congrArg (List.take cs.length) ht''
      rw [List.take_take, Nat.min_eq_left (by omega), List.map_append, List.take_append_of_le_length (by simp), ← List.map_take, List.take_length] at h3
      exact h3
    ·have h1 := grownBy_sorted (w := w) (g := g) (n := m) (os := os) ts.toArray
     have h2 := grownBy_sorted (w := grow (putRow encStr (Sort.ahead w m) g 0 ts.toArray) os) (g := g) (n := q) (os := #[]) (cs ++ List.replicate (l.length - cs.length) []).toArray
     rw [grow_none] at h2
     exact grown_two h1 h2
  go_enter Tryz.func41, Tryz.ntmps41
  go_wp2_with fail
  refine HS.out.mono ?_
  rintro e w1 ⟨rfl, m, os, rfl⟩
  go_wp2_with fail
  refine (hC m os).mono ?_
  rintro e w1 ⟨rfl, ho, hg2⟩
  go_wp2_with fail
  go_ret
  have he := HE.out
  exact ⟨_, rfl, by rw [← he, List.length_map]; exact ho, hg2, rfl⟩
end Go.Proofs.YtonfkhkalodldabGreatDoor
end
