/-
  Texts of the schema layer and of those beneath it, joined: FoldA, FoldB, FoldC, BaseLow, BaseE, FoldD, FoldLow, ShelfA, FoldTrim. Conditions stand at each contract.
-/
import Derived.Lib.Strings
import Derived.Lib.TrimByte
import Derived.Lib.Small
import Derived.PlainAid
import Derived.WalkKit
import Derived.WalkSpells
import Derived.Laws.IdiomStrings
import Derived.Handy
import Derived.Lib.Hide
import Derived.Lib.IndexMore
import Derived.Lib.Bytealg
import GoSem.Op.String
import Derived.Shelf.Strings.Builder1
import Derived.Shelf.Strings.OnBuilder
import Derived.Shelf.Strings.Trim
import Derived.Shelf.Small.Strs
import Derived.Shelf.Small.Wraps
import Derived.Shelf.Strings.Cut
import Derived.Ground.GgwProg
import Derived.Shelf.Strings.Split
import Derived.Shelf.Strings.Repeat
import Derived.Ground.Names2Prog
import Derived.Ground.SlgnProg
import Derived.Ground.SlgmProg
import Derived.Test.YtbkignlbcneddaaGreatDoorRows
import Derived.Test.YtbkignlbcneddaaGreatDoorProg
set_option linter.unusedVariables false
set_option linter.unusedSimpArgs false
set_option linter.unnecessarySimpa false

section
/-
  Plain functions on lists of bytes for the layer fold (lower case, trimming, squeezing). Nothing of the program stands here. No condition.
-/
set_option maxRecDepth 100000
namespace Go.Proofs.YtbkignlbcneddaaGreatDoor
open Go.PlainAid
/-- a byte's lower-case form -/
def lowB (c : UInt8) : UInt8 := if 65 ≤ c.toNat ∧ c.toNat ≤ 90 then c + 32 else c
def lowL (l : List UInt8) : List UInt8 := l.map lowB
/-- the cells of bytes -/
def bcells (l : List UInt8) : List Value := l.map fun b => Value.int .u8 (b.toNat : Int)
theorem bcells_length (l : List UInt8) : (bcells l).length = l.length := by simp [bcells]
theorem bcells_append (l m : List UInt8) : bcells (l ++ m) = bcells l ++ bcells m := by simp [bcells]
theorem bt_at (s : ByteArray) (k : Nat) (h : k < s.size) : bt s k = ((s.data.toList[k]'(by simpa using h)).toNat : Int) := by
  unfold bt; rw [dif_pos h]; rfl
theorem lowB_hit (c : UInt8) (h1 : 65 ≤ (c.toNat : Int)) (h2 : (c.toNat : Int) ≤ 90) : ((lowB c).toNat : Int) = (c.toNat : Int) + 32 := by
  unfold lowB
  rw [if_pos ⟨by omega, by omega⟩, UInt8.toNat_add]
  have : (32 : UInt8).toNat = 32 := rfl
  omega
theorem lowB_miss (c : UInt8) (h : ¬ (65 ≤ (c.toNat : Int) ∧ (c.toNat : Int) ≤ 90)) : lowB c = c := by
  unfold lowB
  rw [if_neg (by omega)]
theorem take_succ (s : ByteArray) (k : Nat) (h : k < s.size) : s.data.toList.take (k + 1) = s.data.toList.take k ++ [s.data.toList[k]'(by simpa using h)] := by
  rw [List.take_succ_eq_append_getElem (by simpa using h)]
theorem low_step_hit (s : ByteArray) (k : Nat) (h : k < s.size) (h1 : 65 ≤ bt s k) (h2 : bt s k ≤ 90) :
    bcells (lowL (s.data.toList.take (k + 1))) = bcells (lowL (s.data.toList.take k)) ++ [Value.int .u8 (bt s k + 32)] := by
  rw [bt_at s k h] at *
  rw [take_succ s k h]
  simp only [lowL, bcells, List.map_append, List.map_cons, List.map_nil, lowB_hit _ h1 h2]
theorem low_step_miss (s : ByteArray) (k : Nat) (h : k < s.size) (h1 : ¬ (65 ≤ bt s k ∧ bt s k ≤ 90)) :
    bcells (lowL (s.data.toList.take (k + 1))) = bcells (lowL (s.data.toList.take k)) ++ [Value.int .u8 (bt s k)] := by
  rw [bt_at s k h] at *
  rw [take_succ s k h]
  simp only [lowL, bcells, List.map_append, List.map_cons, List.map_nil, lowB_miss _ h1]
theorem low_step (s : ByteArray) (k : Nat) (h : k < s.size) :
    (65 ≤ bt s k → bt s k ≤ 90 → bcells (lowL (s.data.toList.take (k + 1))) = bcells (lowL (s.data.toList.take k)) ++ [Value.int .u8 (bt s k + 97 - 65)]) ∧
    (¬ (65 ≤ bt s k ∧ bt s k ≤ 90) → bcells (lowL (s.data.toList.take (k + 1))) = bcells (lowL (s.data.toList.take k)) ++ [Value.int .u8 (bt s k)]) :=
  ⟨fun h1 h2 => by rw [low_step_hit s k h h1 h2]; congr 3; omega, fun h1 => low_step_miss s k h h1⟩
/-- byte j behind k rounds of lowering in place -/
def mixI (s : ByteArray) (k j : Nat) : Int := if j < k then (if 65 ≤ bt s j ∧ bt s j ≤ 90 then bt s j + 32 else bt s j) else bt s j
theorem mixI_zero (s : ByteArray) (j : Nat) : mixI s 0 j = bt s j := by unfold mixI; rw [if_neg (by omega)]
theorem mixI_self (s : ByteArray) (k : Nat) : mixI s k k = bt s k := by unfold mixI; rw [if_neg (by omega)]
theorem mixI_other (s : ByteArray) (k j : Nat) (h : j ≠ k) : mixI s (k + 1) j = mixI s k j := by
  unfold mixI
  by_cases h1 : j < k
  · rw [if_pos h1, if_pos (by omega)]
  · rw [if_neg h1, if_neg (by omega)]
theorem mixI_hit (s : ByteArray) (k : Nat) (h1 : 65 ≤ bt s k) (h2 : bt s k ≤ 90) : mixI s (k + 1) k = bt s k + 32 := by
  unfold mixI; rw [if_pos (by omega), if_pos ⟨h1, h2⟩]
theorem mixI_miss (s : ByteArray) (k : Nat) (h : ¬ (65 ≤ bt s k ∧ bt s k ≤ 90)) : mixI s (k + 1) k = bt s k := by
  unfold mixI; rw [if_pos (by omega), if_neg h]
theorem mixI_end (s : ByteArray) (j : Nat) (h : j < (lowL s.data.toList).length) : mixI s s.size j = (((lowL s.data.toList)[j]).toNat : Int) := by
  have hj : j < s.size := by rw [Lib.size_eq]; simpa [lowL] using h
  unfold mixI
  rw [if_pos hj, bt_at s j hj]
  simp only [lowL, List.getElem_map]
  by_cases hA : 65 ≤ ((s.data.toList[j]'(by simpa using hj)).toNat : Int) ∧ ((s.data.toList[j]'(by simpa using hj)).toNat : Int) ≤ 90
  · rw [if_pos hA, lowB_hit _ hA.1 hA.2]
  · rw [if_neg hA, lowB_miss _ hA]
theorem lowL_length (l : List UInt8) : (lowL l).length = l.length := by simp [lowL]
end Go.Proofs.YtbkignlbcneddaaGreatDoor
end

section
/-
  Plain functions for trimming and squeezing: pieces of a string from the left and from the right, what the loops of the specification leave, and the squeezed list round by round. No condition.
-/
set_option maxRecDepth 100000
namespace Go.Proofs.YtbkignlbcneddaaGreatDoor
open Go.PlainAid
def dr (s : ByteArray) (k : Nat) : ByteArray := ⟨(s.data.toList.drop k).toArray⟩
def tk (s : ByteArray) (k : Nat) : ByteArray := ⟨(s.data.toList.take k).toArray⟩
theorem dr_zero (s : ByteArray) : dr s 0 = s := by unfold dr; rw [List.drop_zero, Lib.mk_data]
theorem tk_all (s : ByteArray) : tk s s.size = s := by unfold tk; rw [Lib.size_eq, List.take_length, Lib.mk_data]
theorem dr_size (s : ByteArray) (k : Nat) : (dr s k).size = s.size - k := by unfold dr; rw [Lib.size_mk, List.length_drop, ← Lib.size_eq]
theorem tk_size (s : ByteArray) (k : Nat) (h : k ≤ s.size) : (tk s k).size = k := by unfold tk; rw [Lib.size_mk, List.length_take, ← Lib.size_eq]; omega
theorem dr_next (s : ByteArray) (k : Nat) : (dr s k).extract 1 (dr s k).size = dr s (k + 1) := by
  rw [dr_size]; unfold dr; rw [Lib.extract_mk, List.drop_drop, List.take_of_length_le (by simp [List.length_drop]; omega)]
theorem tk_next (s : ByteArray) (k : Nat) : (tk s k).extract 0 (k - 1) = tk s (k - 1) := by
  unfold tk; rw [Lib.extract_mk, List.drop_zero, List.take_take]; congr 3; omega
theorem bt_list (s : ByteArray) (k : Nat) (c : UInt8) (h : s.data.toList[k]? = some c) : bt s k = (c.toNat : Int) := by
  have hk : k < s.size := by
    rw [Lib.size_eq]; exact (List.getElem?_eq_some_iff.1 h).1
  rw [bt_at s k hk]
  have := List.getElem?_eq_getElem (l := s.data.toList) (i := k) (by simpa using hk)
  rw [this] at h
  rw [Option.some.inj h]
theorem bt_dr (s : ByteArray) (k j : Nat) : bt (dr s k) j = bt s (k + j) := by
  by_cases h : k + j < s.size
  · have h1 : (dr s k).data.toList[j]? = some (s.data.toList[k + j]'(by simpa using h)) := by
      unfold dr
      rw [List.toList_toArray, List.getElem?_drop, List.getElem?_eq_getElem]
    rw [bt_list _ _ _ h1, bt_at s _ h]
  · rw [bt_end s (by omega), bt_end (dr s k) (by rw [dr_size]; omega)]
theorem bt_tk (s : ByteArray) (k j : Nat) (h : j < k) : bt (tk s k) j = bt s j := by
  by_cases hs : j < s.size
  · have h1 : (tk s k).data.toList[j]? = some (s.data.toList[j]'(by simpa using hs)) := by
      unfold tk
      rw [List.toList_toArray, List.getElem?_take, if_pos h, List.getElem?_eq_getElem]
    rw [bt_list _ _ _ h1, bt_at s _ hs]
  · rw [bt_end s (by omega), bt_end (tk s k) (by unfold tk; rw [Lib.size_mk, List.length_take, ← Lib.size_eq]; omega)]
theorem byte_32 (c : UInt8) (h : (c.toNat : Int) = 32) : c = 32 := UInt8.toNat_inj.1 (by have : (32 : UInt8).toNat = 32 := rfl; omega)
/-- where the loop from the left stands still -/
theorem left_stop (s : ByteArray) (k : Nat) (hk : k ≤ s.size) (h1 : ∀ j, j < k → bt s j = 32) (h2 : k < s.size → bt s k ≠ 32) : Lib.trimLeftB s.data.toList 32 = (dr s k).data.toList := by
  rw [Lib.trimLeftB_drop s.data.toList 32 k (by rw [← Lib.size_eq]; exact hk) (fun j b hj hb => byte_32 b (by rw [← bt_list s j b hb]; exact h1 j hj)) (fun b hb e => ?_)]
  · rfl
  · subst e
    have hlt : k < s.size := by rw [Lib.size_eq]; exact (List.getElem?_eq_some_iff.1 hb).1
    exact h2 hlt (bt_list s k 32 hb)
/-- where the loop from the right stands still -/
theorem right_stop (s : ByteArray) (k : Nat) (hk : k ≤ s.size) (h1 : ∀ j, k ≤ j → j < s.size → bt s j = 32) (h2 : 0 < k → bt s (k - 1) ≠ 32) : Lib.trimRightB s.data.toList 32 = (tk s k).data.toList := by
  rw [Lib.trimRightB_take s.data.toList 32 k (by rw [← Lib.size_eq]; exact hk) (fun j b hj hb => byte_32 b (by
      have hlt : j < s.size := by rw [Lib.size_eq]; exact (List.getElem?_eq_some_iff.1 hb).1
      rw [← bt_list s j b hb]; exact h1 j hj hlt)) (fun b hb e => ?_)]
  · rfl
  · intro e2
    subst e2
    exact h2 hb (bt_list s (k - 1) 32 e)
theorem right_cons (x : UInt8) (l : List UInt8) : Lib.trimRightB (x :: l) 32 = if (x == 32) = true ∧ Lib.trimRightB l 32 = [] then [] else x :: Lib.trimRightB l 32 := by
  unfold Lib.trimRightB
  rw [List.reverse_cons, List.dropWhile_append]
  by_cases h : (l.reverse.dropWhile (· == 32)) = []
  · rw [h]
    by_cases hx : (x == 32) = true
    · simp [List.dropWhile, hx]
    · simp [List.dropWhile, hx]
  · have h1 : (l.reverse.dropWhile (· == 32)).isEmpty = false := by cases e : l.reverse.dropWhile (· == 32) <;> simp_all
    rw [h1, if_neg (by simp), if_neg (by simp [h]), List.reverse_append]
    simp
theorem trim_swap (l : List UInt8) : Lib.trimLeftB (Lib.trimRightB l 32) 32 = Lib.trimRightB (Lib.trimLeftB l 32) 32 := by
  induction l with
  | nil => rfl
  | cons x l ih =>
    rw [right_cons]
    by_cases hx : (x == 32) = true
    · have e : Lib.trimLeftB (x :: l) 32 = Lib.trimLeftB l 32 := by unfold Lib.trimLeftB; rw [List.dropWhile_cons, if_pos hx]
      rw [e, ← ih]
      by_cases h : Lib.trimRightB l 32 = []
      · rw [if_pos ⟨hx, h⟩, h]
      · rw [if_neg (fun h2 => h h2.2)]
        unfold Lib.trimLeftB
        rw [List.dropWhile_cons, if_pos hx]
    · have e : Lib.trimLeftB (x :: l) 32 = x :: l := by unfold Lib.trimLeftB; rw [List.dropWhile_cons, if_neg hx]
      rw [e, right_cons, if_neg (fun h2 => hx h2.1)]
      unfold Lib.trimLeftB
      rw [List.dropWhile_cons, if_neg hx]
/-- the specification's order of trimming -/
def trimR (l : List UInt8) : List UInt8 := Lib.trimRightB (Lib.trimLeftB l 32) 32
/-- the squeezed list behind k rounds -/
def sqN (l : List UInt8) : Nat → List UInt8
  | 0 => []
  | k + 1 => sqN l k ++ (if l.getD k 0 = 32 ∧ 0 < k ∧ l.getD (k - 1) 0 = 32 then [] else [l.getD k 0])
def sqL (l : List UInt8) : List UInt8 := sqN l l.length
theorem sqN_le (l : List UInt8) : ∀ k, (sqN l k).length ≤ k
  | 0 => by simp [sqN]
  | k + 1 => by
    have := sqN_le l k
    simp only [sqN, List.length_append]
    split <;> simp <;> omega
theorem bt_getD (s : ByteArray) (k : Nat) : bt s k = ((s.data.toList.getD k 0).toNat : Int) := by
  by_cases h : k < s.size
  · rw [bt_at s k h, List.getD_eq_getElem?_getD, List.getElem?_eq_getElem (by simpa using h)]; rfl
  · rw [bt_end s (by omega), List.getD_eq_getElem?_getD, List.getElem?_eq_none (by rw [← Lib.size_eq]; omega)]; rfl
theorem getD_32 (s : ByteArray) (k : Nat) : s.data.toList.getD k 0 = 32 ↔ bt s k = 32 := by
  rw [bt_getD]
  constructor
  · intro h; rw [h]; rfl
  · intro h; exact byte_32 _ h
theorem sq_skip (s : ByteArray) (k : Nat) (h1 : bt s k = 32) (h2 : 0 < k) (h3 : bt s (k - 1) = 32) : sqN s.data.toList (k + 1) = sqN s.data.toList k := by
  simp only [sqN]
  rw [if_pos ⟨(getD_32 s k).2 h1, h2, (getD_32 s (k - 1)).2 h3⟩, List.append_nil]
theorem sq_keep (s : ByteArray) (k : Nat) (h : ¬ (bt s k = 32 ∧ 0 < k ∧ bt s (k - 1) = 32)) : bcells (sqN s.data.toList (k + 1)) = bcells (sqN s.data.toList k) ++ [Value.int .u8 (bt s k)] := by
  simp only [sqN]
  rw [if_neg (by rw [getD_32, getD_32]; exact h), bcells_append, bt_getD]
  rfl
theorem sq_keep_len (s : ByteArray) (k : Nat) (h : ¬ (bt s k = 32 ∧ 0 < k ∧ bt s (k - 1) = 32)) : (sqN s.data.toList (k + 1)).length = (sqN s.data.toList k).length + 1 := by
  simp only [sqN]
  rw [if_neg (by rw [getD_32, getD_32]; exact h)]
  simp
end Go.Proofs.YtbkignlbcneddaaGreatDoor
end

section
/-
  Plain functions for the kinds of strings: values, names, words. No condition.
-/
set_option maxRecDepth 100000
namespace Go.Proofs.YtbkignlbcneddaaGreatDoor
open Go.PlainAid
def ltrI (c : Int) : Bool := (decide (65 ≤ c) && decide (c ≤ 90)) || (decide (97 ≤ c) && decide (c ≤ 122))
def dgtI (c : Int) : Bool := decide (48 ≤ c) && decide (c ≤ 57)
def nameP (c : Int) : Bool := ltrI c || dgtI c || c == 45
def cleanP (c : Int) : Bool := decide (32 ≤ c) && decide (c ≤ 126)
/-- every byte is of a kind -/
def allB (p : Int → Bool) (s : ByteArray) : Bool := (List.range s.size).all fun j => p (bt s j)
def cleanB (s : ByteArray) : Bool := decide (1 ≤ s.size) && decide (s.size ≤ 256) && !(bt s 0 == 32) && !(bt s (s.size - 1) == 32) && allB cleanP s
def nameB (s : ByteArray) : Bool := decide (1 ≤ s.size) && decide (s.size ≤ 64) && ltrI (bt s 0) && allB nameP s
theorem allB_true {p : Int → Bool} {s : ByteArray} (h : ∀ j, j < s.size → p (bt s j) = true) : allB p s = true := by
  unfold allB; rw [List.all_eq_true]; intro j hj; exact h j (List.mem_range.1 hj)
theorem allB_false {p : Int → Bool} {s : ByteArray} (k : Nat) (hk : k < s.size) (h : p (bt s k) = false) : allB p s = false := by
  unfold allB; rw [List.all_eq_false]; exact ⟨k, List.mem_range.2 hk, by simp [h]⟩
theorem allB_iff {p : Int → Bool} {s : ByteArray} : allB p s = true ↔ ∀ j, j < s.size → p (bt s j) = true := by
  unfold allB; rw [List.all_eq_true]
  exact ⟨fun h j hj => h j (List.mem_range.2 hj), fun h j hj => h j (List.mem_range.1 hj)⟩
/-- one more byte of a kind -/
theorem all_next {p : Int → Bool} {s : ByteArray} {k : Nat} (h : ∀ j, j < k → p (bt s j) = true) (hk : p (bt s k) = true) : ∀ j, j < k + 1 → p (bt s j) = true := fun j hj => by
  by_cases e : j = k
  · rw [e]; exact hk
  · exact h j (by omega)
end Go.Proofs.YtbkignlbcneddaaGreatDoor
end

section
/-
  What any text of this seat leans on: bytes in rows of the call's own, append of one byte, a string out of such a row. No condition.
-/
set_option maxRecDepth 100000
namespace Go.Proofs.YtbkignlbcneddaaGreatDoor
open Go.RowKit Go.PlainAid
theorem info5 : (Tryz.prog.info? 5).map (fun i => (i.zero, i.size, i.bytes)) = some (some (.int .u8 0), 1, 1) := by kernel_rfl
theorem bcells_at (l : List UInt8) (j : Nat) (h : j < l.length) : (bcells l)[j]? = some (.int .u8 (l[j].toNat : Int)) := by
  simp [bcells, h]
/-- 'string(b)' where b owns the bytes l -/
theorem back {w : World} {base : Nat} {v : Value} {l : List UInt8} (h : w.ownsRow base 5 1 v l.length (bcells l)) :
    (convert 79 9 v).run Tryz.prog w = .ok (.string ⟨l.toArray⟩) w := by
  have h0 := h
  rcases h with ⟨_, ⟨rfl, hl⟩ | ⟨g, cap, cur, rfl, h2, h3, h4, h5, h6⟩⟩
  · have : l = [] := by cases l <;> simp_all [bcells]
    subst this
    exact run_convert_bytes_nil w _ _ Tryz.underlying79 Tryz.underlying5 0 0 _ Tryz.underlying9
  · exact run_convert_bytes_back w _ _ _ _ cap l Tryz.underlying79 Tryz.underlying5 Tryz.underlying9
      (fun j hj => h0.cells rfl j _ (bcells_at l j hj))
/-- 'b = append(b, c)' where b is the call's own: what it owns, and that nothing below the base has changed. -/
theorem push_byte {ops : Array Oper} {rest : List Oper} {o : Oper} {a : Act} {Q : Exit → Act → World → Prop} (wr : World) {base : Nat} {v : Value} {n : Nat} {xs : List Value} (hown : wr.ownsRow base 5 1 v n xs) (s x : Operand)
    (c : Int) (hgd : o.guard = none)
    (ho : o.op = .call { callee := .builtin .append, args := #[s, x], argTypes := #[79, 79] })
    (hs : a.eval s = v) (hx : a.eval x = .slice (some ⟨wr.heap.size, 0, none⟩) 1 1) (hn : n + 1 ≤ 140737488355328) (hbase : base ≤ wr.heap.size)
    (h : ∀ v' w', w'.ownsRow base 5 1 v' (n + 1) (xs ++ [.int .u8 c]) → Below base wr w' → wpList Tryz.prog ops Q rest (a.put o.dst v') w') :
    wpList Tryz.prog ops Q (o :: rest) a (wr.alloc (.cells #[.int .u8 c] 5)) := by
  obtain ⟨i0, hi, hz0, hz1, hz2⟩ := info_parts info5
  refine wpList_append_own _ hgd s x 79 ho base 5 i0 (.int .u8 0) 1 1 Tryz.underlying79 hi hz0 hz1 hz2 rfl (by decide) v n xs hs (hown.alloc _) ⟨wr.heap.size, 0, none⟩ 1 1 [.int .u8 c] hx rfl
    (cell_one_new _ _ _) (by intro u hu; simp at hu; subst hu; rfl) (by unfold maxLen; omega) (by omega) (by simp; omega) ?_
  intro v' w' h1 h2 _
  refine h v' w' h1 ?_
  exact ((Below.refl base wr).alloc hbase _).grown h2 (by simp; omega) (fun k hk => (hown.lt k hk).1)
end Go.Proofs.YtbkignlbcneddaaGreatDoor
end

section
/-
  What any text of this seat leans on: Cut, prefixes, suffixes; a slice of strings in memory; the library's own variable MaxLen. No condition.
-/
set_option maxRecDepth 100000
namespace Go.Proofs.YtbkignlbcneddaaGreatDoor
open Go.PlainAid Go.RowKit
def cutOk (t p : ByteArray) : Bool := (Lib.cut t.data.toList p.data.toList).2.2
def cutBef (t p : ByteArray) : ByteArray := ⟨(Lib.cut t.data.toList p.data.toList).1.toArray⟩
def cutAft (t p : ByteArray) : ByteArray := ⟨(Lib.cut t.data.toList p.data.toList).2.1.toArray⟩
def partAt (ps : List ByteArray) (j : Nat) : ByteArray := ps.getD j ByteArray.empty
/-- a slice's strings, as they lie in memory -/
def IsStrs (w : World) (b off : Nat) (ps : List ByteArray) : Prop :=
  b < w.heap.size ∧ ∀ j, j < ps.length → w.cell? ⟨b, off + j, none⟩ = some (.string (partAt ps j))
theorem IsStrs.below {w w' : World} {b off : Nat} {ps : List ByteArray} (h : IsStrs w b off ps) {B : Nat} (hb : Below B w w') (hB : b < B) : IsStrs w' b off ps :=
  ⟨Nat.lt_of_lt_of_le h.1 hb.size, fun j hj => by rw [hb.cell (p := ⟨b, off + j, none⟩) hB]; exact h.2 j hj⟩
theorem cell_later {W W' : World} {a : Addr} {v : Value} (hb : Below W.heap.size W W') (h : W.cell? a = some v) : W'.cell? a = some v :=
  (hb.cell (World.block_lt_of_cell? W _ h)).trans h
/-- the library's own variable holds a number -/
def MaxOk (w : World) : Prop := ∃ m : Int, w.cell? ⟨1, 0, none⟩ = some (.int .i64 m)
theorem MaxOk.lt {w : World} (h : MaxOk w) : 1 < w.heap.size := by
  obtain ⟨m, hm⟩ := h
  exact World.block_lt_of_cell? w _ hm
theorem MaxOk.below {w w' : World} (h : MaxOk w) {B : Nat} (hb : Below B w w') (hB : 1 < B) : MaxOk w' := by
  obtain ⟨m, hm⟩ := h
  exact ⟨m, by rw [hb.cell (p := ⟨1, 0, none⟩) hB]; exact hm⟩
end Go.Proofs.YtbkignlbcneddaaGreatDoor
end

section
/-
  Plain functions for comparing and for matching. No condition.
-/
set_option maxRecDepth 100000
namespace Go.Proofs.YtbkignlbcneddaaGreatDoor
open Go.PlainAid
def cmpS (a b : ByteArray) : Int := Lib.compareBytes a.data.toList b.data.toList
end Go.Proofs.YtbkignlbcneddaaGreatDoor
end

section
/-
  Contracts of fold.Lower and of the specification's Lower: both return the list with A to Z lowered. Condition: at most 1000000000 bytes.
-/
set_option maxRecDepth 100000
namespace Go.Proofs.YtbkignlbcneddaaGreatDoor
open Go.RowKit Go.PlainAid
set_option maxRecDepth 100000 in
set_option maxHeartbeats 1000000 in
theorem rLower_any (s : ByteArray) (w : World) (hs : s.size ≤ 1000000000) :
    Calls Tryz.prog 59 #[.string s] w fun e w' => e = .returned (.string ⟨(lowL s.data.toList).toArray⟩) ∧ Below w.heap.size w w' := by
  have hb := get_bt s
  go_enter Tryz.func59, Tryz.ntmps59
  go_wp2
  go_loopw [3, 4] (fun b i wr => ∃ k : Nat, k ≤ s.size ∧ i = .int .i64 k ∧ wr.ownsRow w.heap.size 5 1 b k (bcells (lowL (s.data.toList.take k))) ∧ Below w.heap.size w wr)
    (fun _ i _ => s.size - (intOf i).toNat)
  case atStart => exact ⟨0, Nat.zero_le _, rfl, World.ownsRow_nil _ _ _ _, Below.refl _ _⟩
  case round =>
    obtain ⟨k, hk, rfl, hown, hbel⟩ := hrel
    have h0 := bt_nonneg s k
    have h255 := bt_le s k
    by_cases hlt : k < s.size
    · have hst := low_step s k hlt
      by_cases hA : 65 ≤ bt s k ∧ bt s k ≤ 90
      · obtain ⟨hA1, hA2⟩ := hA
        have HS := Lib.hid (hst.1 hA1 hA2); clear hst
        go_wp2_with (at_builtin; go_must (refine push_byte wr hown (.tmp 24) (.tmp 26) _ ?_ ?_ ?_ ?_ ?_ ?_ ?_; exact rfl; exact rfl; exact rfl; exact rfl; omega; exact hbel.size; intro v' w1 hown1 hb1))
        go_roundw
        case rel => exact ⟨k + 1, by omega, by go_num, by rw [HS.out]; exact hown1, hbel.trans hb1⟩
        case measure => simp [intOf]; omega
      · have HS := Lib.hid (hst.2 hA); clear hst
        have hA' : bt s k < 65 ∨ 90 < bt s k := by omega
        clear hA
        rcases hA' with hA | hA
        all_goals
          go_wp2_with (at_builtin; go_must (refine push_byte wr hown (.tmp 24) (.tmp 26) _ ?_ ?_ ?_ ?_ ?_ ?_ ?_; exact rfl; exact rfl; exact rfl; exact rfl; omega; exact hbel.size; intro v' w1 hown1 hb1))
          go_roundw
          case rel => exact ⟨k + 1, by omega, by go_num, by rw [HS.out]; exact hown1, hbel.trans hb1⟩
          case measure => simp [intOf]; omega
    · have hkk : k = s.size := by omega
      have HT := Lib.hid (show s.data.toList.take k = s.data.toList by rw [List.take_of_length_le]; simp; omega)
      have hbk := back (l := lowL s.data.toList) (by rw [HT.out] at hown; simpa [lowL, hkk] using hown)
      clear hkk
      go_wp2
      go_ret
      exact ⟨rfl, hbel⟩
/-- '[]byte(s)': a new row that holds the bytes of s -/
theorem toBytes (w : World) (s : ByteArray) : ∃ cap w1, (convert 9 79 (.string s)).run Tryz.prog w = .ok (.slice (some ⟨w.heap.size, 0, none⟩) s.size cap) w1 ∧
    (∀ j, j < s.size → w1.cell? ⟨w.heap.size, j, none⟩ = some (.int .u8 (bt s j))) ∧ (∀ j, j < s.size → w1.frozen? ⟨w.heap.size, j, none⟩ = false) ∧ Below w.heap.size w w1 ∧ w.heap.size < w1.heap.size := by
  refine ⟨_, _, run_bytes_of_string w 9 79 5 s Tryz.underlying9 Tryz.underlying79 Tryz.underlying5, fun j hj => ?_, fun j hj => ?_, ?_, ?_⟩
  · show (w.drew.alloc _).cell? ⟨w.drew.heap.size, j, none⟩ = _
    rw [World.cell?_alloc_mark, bytesRow_at s _ j hj, bt_at s j hj]
    rfl
  · show (w.drew.alloc _).frozen? ⟨w.drew.heap.size, j, none⟩ = _
    rw [World.frozen?_alloc_mark]
    have : s.size ≤ (bytesRow s (grownCap w s.size 0 5)).size := by simp only [bytesRow, Array.size_append, Array.size_map]; exact Nat.le_add_right _ _
    simp; omega
  · exact (Below.refl _ _).drew.alloc (Nat.le_refl _) _
  · show w.heap.size < (w.drew.alloc _).heap.size
    simp
set_option maxRecDepth 100000 in
set_option maxHeartbeats 1000000 in
theorem lower_any (s : ByteArray) (w : World) (hs : s.size ≤ 1000000000) :
    Calls Tryz.prog 79 #[.string s] w fun e w' => e = .returned (.string ⟨(lowL s.data.toList).toArray⟩) ∧ Below w.heap.size w w' := by
  obtain ⟨cap, w1, hconv, hc1, hf1, hb1, hz1⟩ := toBytes w s
  have HC1 := Lib.hid hc1; have HF1 := Lib.hid hf1; clear hc1 hf1
  go_enter Tryz.func79, Tryz.ntmps79
  go_wp2
  clear hconv
  go_loopw [9] (fun i wr => ∃ k : Nat, k ≤ s.size ∧ i = .int .i64 k ∧ Hid (∀ j, j < s.size → wr.cell? ⟨w.heap.size, j, none⟩ = some (.int .u8 (mixI s k j))) ∧
      Hid (∀ j, j < s.size → wr.frozen? ⟨w.heap.size, j, none⟩ = false) ∧ Below w.heap.size w wr)
    (fun i _ => s.size - (intOf i).toNat)
  case atStart => exact ⟨0, Nat.zero_le _, rfl, Lib.hid fun j hj => by rw [HC1.out j hj, mixI_zero], HF1, hb1⟩
  case round =>
    obtain ⟨k, hk, rfl, HC, HF, hbel⟩ := hrel
    have h0 := bt_nonneg s k
    have h255 := bt_le s k
    by_cases hlt : k < s.size
    · have hck := HC.out k hlt
      rw [mixI_self] at hck
      have hfk := HF.out k hlt
      by_cases hA : 65 ≤ bt s k ∧ bt s k ≤ 90
      · obtain ⟨hA1, hA2⟩ := hA
        go_wp2
        go_roundw
        case rel =>
          refine ⟨k + 1, by omega, by go_num, Lib.hid fun j hj => ?_, Lib.hid fun j hj => ?_, hbel.setCell (Nat.le_refl _) _⟩
          · by_cases hjk : j = k
            · subst hjk
              rw [World.cell?_setCell_same _ _ _ hck, mixI_hit s j hA1 hA2]
            · rw [World.cell?_setCell_other _ _ _ _ (by simp), HC.out j hj, mixI_other s k j hjk]
          · rw [World.frozen?_setCell]; exact HF.out j hj
        case measure => simp [intOf]; omega
      · have hA' : bt s k < 65 ∨ 90 < bt s k := by omega
        have HM := Lib.hid (mixI_miss s k hA)
        clear hA
        rcases hA' with hA | hA
        all_goals
          go_wp2
          go_roundw
          case rel =>
            refine ⟨k + 1, by omega, by go_num, Lib.hid fun j hj => ?_, HF, hbel⟩
            by_cases hjk : j = k
            · subst hjk
              rw [hck, HM.out]
            · rw [HC.out j hj, mixI_other s k j hjk]
          case measure => simp [intOf]; omega
    · have hkk : k = s.size := by omega
      subst hkk
      have hbk := run_convert_bytes_back (P := Tryz.prog) wr 79 9 5 ⟨w.heap.size, 0, none⟩ cap (lowL s.data.toList) Tryz.underlying79 Tryz.underlying5 Tryz.underlying9
        (fun j hj => by
          have hj' : j < s.size := by rw [Lib.size_eq]; simpa [lowL] using hj
          have hadd : (⟨w.heap.size, 0, none⟩ : Addr).add j = ⟨w.heap.size, j, none⟩ := by rw [WideShapes.add_plain, Nat.zero_add]
          rw [hadd, HC.out j hj', mixI_end s j hj])
      rw [lowL_length, ← Lib.size_eq] at hbk
      go_wp2
      go_ret
      exact ⟨rfl, hbel⟩
end Go.Proofs.YtbkignlbcneddaaGreatDoor
end

section
/-
  DERIVED: THE SHELF's CONTRACTS AT THIS DUMP, IN PLAIN WORDS (tools/lay-plain.mjs out of 'TryzShelfASrc.lean', which tools/lay-shelf.mjs wrote): THE SAME DECLARATIONS UNDER THE SAME NAMES: 'import', 'namespace', 'open', 'def', 'theorem' AND NOTHING ELSE: no command of the shelf's: FOR A HAND-IN. Each laying: the table of numbers ('.._ren') and one theorem, a field a fact of the dump's own or the kernel's comparison; each contract: ONE APPLICATION.
-/
namespace Go.Proofs
open Go.Shelf
def Tryz.lays169_ren : Go.Shelf.Ren := ⟨fun | 169 => 63 | n => n, fun | 70 => 78 | 9 => 9 | 0 => 0 | 72 => 81 | 37 => 79 | 127 => 133 | 3 => 3 | 5 => 5 | n => n, fun | n => n⟩
theorem Tryz.lays169 : Go.Proofs.Lays.n169 Tryz.prog Tryz.lays169_ren := {
  mixed := by kernel_rfl
  f169 := Tryz.func63.trans (congrArg some (by kernel_rfl))
  t0 := Tryz.underlying0
  a0 := Tryz.isAgg0
  z0 := Tryz.sizeOf0
  v0 := Tryz.zeroValue0
  t3 := Tryz.underlying3
  a3 := Tryz.isAgg3
  z3 := Tryz.sizeOf3
  v3 := Tryz.zeroValue3
  t9 := Tryz.underlying9
  a9 := Tryz.isAgg9
  z9 := Tryz.sizeOf9
  v9 := Tryz.zeroValue9
  t37 := Tryz.underlying79
  a37 := Tryz.isAgg79
  z37 := Tryz.sizeOf79
  v37 := Tryz.zeroValue79
  t70 := Tryz.underlying78
  a70 := Tryz.isAgg78
  z70 := Tryz.sizeOf78
  v70 := Tryz.zeroValue78
  t72 := Tryz.underlying81
  a72 := Tryz.isAgg81
  z72 := Tryz.sizeOf81
  v72 := Tryz.zeroValue81
  t127 := Tryz.underlying133
  a127 := Tryz.isAgg133
  z127 := Tryz.sizeOf133
  v127 := Tryz.zeroValue133 }
theorem Tryz.Builder_Extra_169 : Builder.Extra Tryz.prog Tryz.lays169_ren := {
  sizeBuilder := by kernel_rfl
  liesBuilder := by kernel_rfl
  t5 := Tryz.underlying5
  a5 := Tryz.isAgg5
  z5 := Tryz.sizeOf5
  v5 := Tryz.zeroValue5
  infoByte := by kernel_rfl
  cellsByte := by kernel_rfl
  sizeByte := by kernel_rfl
  neB5 := by decide }
open Go.RowKit in
/-- (*strings.Builder).String: "String returns the accumulated string.": WHATEVER THE BUILDER HOLDS. (LAID: no walk: one application.) -/
theorem Tryz.Builder_String_any (B b : Nat) (l : List UInt8) (w : World) (h : Lib.IsBuilder 81 5 B b (Lib.byteCells l) w) (hBw : B ≤ w.heap.size) :
    Calls Tryz.prog 63 #[.pointer (some ⟨b, 0, none⟩)] w fun e w' => e = .returned (.string ⟨l.toArray⟩) ∧ Below B w w' := Any.Builder_String_any Tryz.lays169 Tryz.Builder_Extra_169 B b l w h hBw
def Tryz.lays156_ren : Go.Shelf.Ren := ⟨fun | 156 => 90 | 165 => 130 | 166 => 61 | 169 => 63 | 240 => 106 | 241 => 166 | 276 => 143 | 277 => 218 | n => n, fun | 31 => 58 | 9 => 9 | 3 => 3 | 4 => 4 | 0 => 0 | 20 => 20 | 72 => 81 | 76 => 84 | 70 => 78 | 37 => 79 | 75 => 83 | 127 => 133 | 164 => 165 | 5 => 5 | 80 => 87 | n => n, fun | n => n⟩
theorem Tryz.lays156 : Go.Proofs.Lays.n156 Tryz.prog Tryz.lays156_ren := {
  mixed := by kernel_rfl
  f156 := Tryz.func90.trans (congrArg some (by kernel_rfl))
  f165 := Tryz.func130.trans (congrArg some (by kernel_rfl))
  f166 := Tryz.func61.trans (congrArg some (by kernel_rfl))
  f169 := Tryz.func63.trans (congrArg some (by kernel_rfl))
  f240 := Tryz.func106.trans (congrArg some (by kernel_rfl))
  f241 := Tryz.func166.trans (congrArg some (by kernel_rfl))
  f276 := Tryz.func143.trans (congrArg some (by kernel_rfl))
  f277 := Tryz.func218.trans (congrArg some (by kernel_rfl))
  t0 := Tryz.underlying0
  a0 := Tryz.isAgg0
  z0 := Tryz.sizeOf0
  v0 := Tryz.zeroValue0
  t3 := Tryz.underlying3
  a3 := Tryz.isAgg3
  z3 := Tryz.sizeOf3
  v3 := Tryz.zeroValue3
  t4 := Tryz.underlying4
  a4 := Tryz.isAgg4
  z4 := Tryz.sizeOf4
  v4 := Tryz.zeroValue4
  t9 := Tryz.underlying9
  a9 := Tryz.isAgg9
  z9 := Tryz.sizeOf9
  v9 := Tryz.zeroValue9
  t20 := Tryz.underlying20
  a20 := Tryz.isAgg20
  z20 := Tryz.sizeOf20
  v20 := Tryz.zeroValue20
  t31 := Tryz.underlying58
  a31 := Tryz.isAgg58
  z31 := Tryz.sizeOf58
  v31 := Tryz.zeroValue58
  t37 := Tryz.underlying79
  a37 := Tryz.isAgg79
  z37 := Tryz.sizeOf79
  v37 := Tryz.zeroValue79
  t70 := Tryz.underlying78
  a70 := Tryz.isAgg78
  z70 := Tryz.sizeOf78
  v70 := Tryz.zeroValue78
  t72 := Tryz.underlying81
  a72 := Tryz.isAgg81
  z72 := Tryz.sizeOf81
  v72 := Tryz.zeroValue81
  t75 := Tryz.underlying83
  a75 := Tryz.isAgg83
  z75 := Tryz.sizeOf83
  v75 := Tryz.zeroValue83
  t76 := Tryz.underlying84
  a76 := Tryz.isAgg84
  z76 := Tryz.sizeOf84
  v76 := Tryz.zeroValue84
  t127 := Tryz.underlying133
  a127 := Tryz.isAgg133
  z127 := Tryz.sizeOf133
  v127 := Tryz.zeroValue133
  t164 := Tryz.underlying165
  a164 := Tryz.isAgg165
  z164 := Tryz.sizeOf165
  v164 := Tryz.zeroValue165 }
theorem Tryz.Builder_Extra_156 : Builder.Extra Tryz.prog Tryz.lays156_ren := {
  sizeBuilder := by kernel_rfl
  liesBuilder := by kernel_rfl
  t5 := Tryz.underlying5
  a5 := Tryz.isAgg5
  z5 := Tryz.sizeOf5
  v5 := Tryz.zeroValue5
  infoByte := by kernel_rfl
  cellsByte := by kernel_rfl
  sizeByte := by kernel_rfl
  neB5 := by decide }
open Go.RowKit in
/-- strings.Join: "Join concatenates the elements of its first argument to create a single string. The separator string sep is placed between elements in the resulting string.": HOWEVER MANY ELEMENTS. Below the heap's end the world is as it was. (LAID: no walk: one application.) -/
theorem Tryz.strings_Join (bk o c : Nat) (xs : List ByteArray) (sep : ByteArray) (w : World) (hcells : ∀ (j : Nat) x, xs[j]? = some x → w.cell? ⟨bk, o + j, none⟩ = some (.string x)) (hbk : bk < w.heap.size) (hN : xs.length ≤ 140737488355328) (hcap : xs.length ≤ c) (hlen : (Lib.join (xs.map (·.data.toList)) sep.data.toList).length ≤ 140737488355328) :
    Calls Tryz.prog 90 #[.slice (some ⟨bk, o, none⟩) xs.length c, .string sep] w fun e w' => e = .returned (.string ⟨(Lib.join (xs.map (·.data.toList)) sep.data.toList).toArray⟩) ∧ Below w.heap.size w w' := Any.strings_Join Tryz.lays156 Tryz.Builder_Extra_156 bk o c xs sep w hcells hbk hN hcap hlen
def Tryz.lays160_ren : Go.Shelf.Ren := ⟨fun | 160 => 242 | 232 => 248 | 231 => 247 | 227 => 249 | 234 => 251 | 233 => 250 | 236 => 253 | 235 => 252 | 228 => 254 | 271 => 256 | 151 => 255 | 197 => 169 | 120 => 258 | 152 => 257 | 260 => 219 | 137 => 167 | 119 => 259 | 224 => 187 | 225 => 186 | 217 => 185 | 266 => 226 | n => n, fun | 9 => 9 | 4 => 4 | 3 => 3 | 5 => 5 | 117 => 251 | 116 => 250 | 0 => 0 | 124 => 254 | 21 => 21 | 105 => 185 | 46 => 151 | 119 => 239 | 139 => 242 | 138 => 241 | n => n, fun | 3 => 3 | 4 => 4 | n => n⟩
theorem Tryz.lays160 : Go.Proofs.Lays.n160 Tryz.prog Tryz.lays160_ren := {
  mixed := by kernel_rfl
  f119 := Tryz.func259.trans (congrArg some (by kernel_rfl))
  f120 := Tryz.func258.trans (congrArg some (by kernel_rfl))
  f137 := Tryz.func167.trans (congrArg some (by kernel_rfl))
  f151 := Tryz.func255.trans (congrArg some (by kernel_rfl))
  f152 := Tryz.func257.trans (congrArg some (by kernel_rfl))
  f160 := Tryz.func242.trans (congrArg some (by kernel_rfl))
  f197 := Tryz.func169.trans (congrArg some (by kernel_rfl))
  f217 := Tryz.func185.trans (congrArg some (by kernel_rfl))
  f224 := Tryz.func187.trans (congrArg some (by kernel_rfl))
  f225 := Tryz.func186.trans (congrArg some (by kernel_rfl))
  f227 := Tryz.func249.trans (congrArg some (by kernel_rfl))
  f228 := Tryz.func254.trans (congrArg some (by kernel_rfl))
  f231 := Tryz.func247.trans (congrArg some (by kernel_rfl))
  f232 := Tryz.func248.trans (congrArg some (by kernel_rfl))
  f233 := Tryz.func250.trans (congrArg some (by kernel_rfl))
  f234 := Tryz.func251.trans (congrArg some (by kernel_rfl))
  f235 := Tryz.func252.trans (congrArg some (by kernel_rfl))
  f236 := Tryz.func253.trans (congrArg some (by kernel_rfl))
  f260 := Tryz.func219.trans (congrArg some (by kernel_rfl))
  f266 := Tryz.func226.trans (congrArg some (by kernel_rfl))
  f271 := Tryz.func256.trans (congrArg some (by kernel_rfl))
  t0 := Tryz.underlying0
  a0 := Tryz.isAgg0
  z0 := Tryz.sizeOf0
  v0 := Tryz.zeroValue0
  t3 := Tryz.underlying3
  a3 := Tryz.isAgg3
  z3 := Tryz.sizeOf3
  v3 := Tryz.zeroValue3
  t4 := Tryz.underlying4
  a4 := Tryz.isAgg4
  z4 := Tryz.sizeOf4
  v4 := Tryz.zeroValue4
  t5 := Tryz.underlying5
  a5 := Tryz.isAgg5
  z5 := Tryz.sizeOf5
  v5 := Tryz.zeroValue5
  t9 := Tryz.underlying9
  a9 := Tryz.isAgg9
  z9 := Tryz.sizeOf9
  v9 := Tryz.zeroValue9
  t21 := Tryz.underlying21
  a21 := Tryz.isAgg21
  z21 := Tryz.sizeOf21
  v21 := Tryz.zeroValue21
  t46 := Tryz.underlying151
  a46 := Tryz.isAgg151
  z46 := Tryz.sizeOf151
  v46 := Tryz.zeroValue151
  t105 := Tryz.underlying185
  a105 := Tryz.isAgg185
  z105 := Tryz.sizeOf185
  v105 := Tryz.zeroValue185
  t116 := Tryz.underlying250
  a116 := Tryz.isAgg250
  z116 := Tryz.sizeOf250
  t117 := Tryz.underlying251
  a117 := Tryz.isAgg251
  z117 := Tryz.sizeOf251
  v117 := Tryz.zeroValue251
  t119 := Tryz.underlying239
  a119 := Tryz.isAgg239
  z119 := Tryz.sizeOf239
  t124 := Tryz.underlying254
  a124 := Tryz.isAgg254
  z124 := Tryz.sizeOf254
  v124 := Tryz.zeroValue254
  t138 := Tryz.underlying241
  a138 := Tryz.isAgg241
  z138 := Tryz.sizeOf241
  v138 := Tryz.zeroValue241
  t139 := Tryz.underlying242
  a139 := Tryz.isAgg242
  z139 := Tryz.sizeOf242
  v139 := Tryz.zeroValue242
  g3 := by kernel_rfl
  g4 := by kernel_rfl }
open Go.RowKit in
/-- strings.Trim: "Trim returns a slice of the string s with all leading and trailing Unicode code points contained in cutset removed.": AT A cutset OF ONE ASCII BYTE. THE WORLD BEHIND IT: as it was, or (where s is not empty) with ONE DRAW MORE off the tape: the statement 'return trimLeftByte(trimRightByte(s, c), c)' draws its order of evaluation. (LAID: no walk: one application.) -/
theorem Tryz.strings_Trim_one (s : ByteArray) (c : UInt8) (hc : c.toNat < 128) (w : World) (hs : s.size ≤ 9223372036854775807) :
    Calls Tryz.prog 242 #[.string s, .string ⟨#[c]⟩] w fun e w' => e = .returned (.string ⟨(Lib.trimB s.data.toList c).toArray⟩) ∧ (w' = w ∨ w' = w.drew) := Any.strings_Trim_one Tryz.lays160 s c hc w hs
def Tryz.lays137_ren : Go.Shelf.Ren := ⟨fun | 137 => 167 | 217 => 185 | 266 => 226 | n => n, fun | 9 => 9 | 5 => 5 | 3 => 3 | n => n, fun | n => n⟩
theorem Tryz.lays137 : Go.Proofs.Lays.n137 Tryz.prog Tryz.lays137_ren := {
  mixed := by kernel_rfl
  f137 := Tryz.func167.trans (congrArg some (by kernel_rfl))
  f217 := Tryz.func185.trans (congrArg some (by kernel_rfl))
  f266 := Tryz.func226.trans (congrArg some (by kernel_rfl))
  t3 := Tryz.underlying3
  a3 := Tryz.isAgg3
  z3 := Tryz.sizeOf3
  v3 := Tryz.zeroValue3
  t5 := Tryz.underlying5
  a5 := Tryz.isAgg5
  z5 := Tryz.sizeOf5
  v5 := Tryz.zeroValue5
  t9 := Tryz.underlying9
  a9 := Tryz.isAgg9
  z9 := Tryz.sizeOf9
  v9 := Tryz.zeroValue9 }
open Go.RowKit in
/-- strings.IndexByte: "IndexByte returns the index of the first instance of c in s, or -1 if c is not present in s.": IT RETURNS 'Lib.indexByte s c'; the world is as it was. (LAID: no walk: one application.) -/
theorem Tryz.strings_IndexByte (s : ByteArray) (c : Int) (w : World) :
    Calls Tryz.prog 167 #[.string s, .int .u8 c] w fun e w' => e = .returned (.int .i64 (Lib.indexByte s.data.toList c.toNat.toUInt8)) ∧ w' = w := Any.strings_IndexByte Tryz.lays137 s c w
def Tryz.lays122_ren : Go.Shelf.Ren := ⟨fun | 122 => 113 | 215 => 148 | n => n, fun | 3 => 3 | 4 => 4 | n => n, fun | n => n⟩
theorem Tryz.lays122 : Go.Proofs.Lays.n122 Tryz.prog Tryz.lays122_ren := {
  mixed := by kernel_rfl
  f122 := Tryz.func113.trans (congrArg some (by kernel_rfl))
  f215 := Tryz.func148.trans (congrArg some (by kernel_rfl))
  t3 := Tryz.underlying3
  a3 := Tryz.isAgg3
  z3 := Tryz.sizeOf3
  v3 := Tryz.zeroValue3
  t4 := Tryz.underlying4
  a4 := Tryz.isAgg4
  z4 := Tryz.sizeOf4
  v4 := Tryz.zeroValue4 }
open Go.RowKit in
/-- cmp.Compare at int: "Compare returns -1 if x is less than y, 0 if x equals y, +1 if x is greater than y.": IT RETURNS 'Lib.compareInt x y'; the world is as it was. (LAID: no walk: one application.) -/
theorem Tryz.cmp_Compare_int (x y : Int) (w : World) :
    Calls Tryz.prog 113 #[.int .i64 x, .int .i64 y] w fun e w' => e = .returned (.int .i64 (Lib.compareInt x y)) ∧ w' = w := Any.cmp_Compare_int Tryz.lays122 x y w
def Tryz.lays145_ren : Go.Shelf.Ren := ⟨fun | 145 => 64 | 220 => 107 | 219 => 144 | 217 => 185 | 225 => 186 | 224 => 187 | 267 => 188 | 266 => 226 | 314 => 227 | n => n, fun | 9 => 9 | 4 => 4 | 59 => 88 | 3 => 3 | 5 => 5 | 46 => 151 | 146 => 220 | 51 => 202 | n => n, fun | 1 => 1 | n => n⟩
theorem Tryz.lays145 : Go.Proofs.Lays.n145 Tryz.prog Tryz.lays145_ren := {
  mixed := by kernel_rfl
  f145 := Tryz.func64.trans (congrArg some (by kernel_rfl))
  f217 := Tryz.func185.trans (congrArg some (by kernel_rfl))
  f219 := Tryz.func144.trans (congrArg some (by kernel_rfl))
  f220 := Tryz.func107.trans (congrArg some (by kernel_rfl))
  f224 := Tryz.func187.trans (congrArg some (by kernel_rfl))
  f225 := Tryz.func186.trans (congrArg some (by kernel_rfl))
  f266 := Tryz.func226.trans (congrArg some (by kernel_rfl))
  f267 := Tryz.func188.trans (congrArg some (by kernel_rfl))
  f314 := Tryz.func227.trans (congrArg some (by kernel_rfl))
  t3 := Tryz.underlying3
  a3 := Tryz.isAgg3
  z3 := Tryz.sizeOf3
  v3 := Tryz.zeroValue3
  t4 := Tryz.underlying4
  a4 := Tryz.isAgg4
  z4 := Tryz.sizeOf4
  v4 := Tryz.zeroValue4
  t5 := Tryz.underlying5
  a5 := Tryz.isAgg5
  z5 := Tryz.sizeOf5
  v5 := Tryz.zeroValue5
  t9 := Tryz.underlying9
  a9 := Tryz.isAgg9
  z9 := Tryz.sizeOf9
  v9 := Tryz.zeroValue9
  t46 := Tryz.underlying151
  a46 := Tryz.isAgg151
  z46 := Tryz.sizeOf151
  v46 := Tryz.zeroValue151
  t51 := Tryz.underlying202
  a51 := Tryz.isAgg202
  z51 := Tryz.sizeOf202
  v51 := Tryz.zeroValue202
  t59 := Tryz.underlying88
  a59 := Tryz.isAgg88
  z59 := Tryz.sizeOf88
  v59 := Tryz.zeroValue88
  t146 := Tryz.underlying220
  a146 := Tryz.isAgg220
  z146 := Tryz.sizeOf220
  v146 := Tryz.zeroValue220
  g1 := by kernel_rfl }
open Go.RowKit Go.Lib in
/-- strings.Cut: "Cut slices s around the first instance of sep, returning the text before and after sep. The found result reports whether sep appears in s. If sep does not appear in s, cut returns s, "", false.": IT RETURNS 'Lib.cut s sep'; the world is as it was but for the count of draws. (LAID: no walk: one application.) -/
theorem Tryz.strings_Cut (s sep : ByteArray) (m : Int) (w : World) (hs : s.size < 4294967281) (hm : w.cell? ⟨1, 0, none⟩ = some (.int .i64 m)) :
    Calls Tryz.prog 64 #[.string s, .string sep] w fun e w' => e = .returned (.tuple #[.string ⟨(Lib.cut s.data.toList sep.data.toList).1.toArray⟩, .string ⟨(Lib.cut s.data.toList sep.data.toList).2.1.toArray⟩, .bool (Lib.cut s.data.toList sep.data.toList).2.2]) ∧ ∃ n, w' = w.drewN n := Any.strings_Cut Tryz.lays145 s sep m w hs hm
def Tryz.lays146_ren : Go.Shelf.Ren := ⟨fun | 146 => 47 | 221 => 96 | 268 => 133 | 138 => 134 | 143 => 135 | 195 => 168 | 197 => 169 | 218 => 170 | 219 => 144 | 260 => 219 | 217 => 185 | 225 => 186 | 224 => 187 | 267 => 188 | 266 => 226 | 314 => 227 | n => n, fun | 9 => 9 | 31 => 58 | 3 => 3 | 4 => 4 | 0 => 0 | 105 => 185 | 21 => 21 | 5 => 5 | 46 => 151 | 119 => 239 | 139 => 242 | 138 => 241 | 146 => 220 | 51 => 202 | n => n, fun | 1 => 1 | 3 => 3 | 4 => 4 | n => n⟩
theorem Tryz.lays146 : Go.Proofs.Lays.n146 Tryz.prog Tryz.lays146_ren := {
  mixed := by kernel_rfl
  f138 := Tryz.func134.trans (congrArg some (by kernel_rfl))
  f143 := Tryz.func135.trans (congrArg some (by kernel_rfl))
  f146 := Tryz.func47.trans (congrArg some (by kernel_rfl))
  f195 := Tryz.func168.trans (congrArg some (by kernel_rfl))
  f197 := Tryz.func169.trans (congrArg some (by kernel_rfl))
  f217 := Tryz.func185.trans (congrArg some (by kernel_rfl))
  f218 := Tryz.func170.trans (congrArg some (by kernel_rfl))
  f219 := Tryz.func144.trans (congrArg some (by kernel_rfl))
  f221 := Tryz.func96.trans (congrArg some (by kernel_rfl))
  f224 := Tryz.func187.trans (congrArg some (by kernel_rfl))
  f225 := Tryz.func186.trans (congrArg some (by kernel_rfl))
  f260 := Tryz.func219.trans (congrArg some (by kernel_rfl))
  f266 := Tryz.func226.trans (congrArg some (by kernel_rfl))
  f267 := Tryz.func188.trans (congrArg some (by kernel_rfl))
  f268 := Tryz.func133.trans (congrArg some (by kernel_rfl))
  f314 := Tryz.func227.trans (congrArg some (by kernel_rfl))
  t0 := Tryz.underlying0
  a0 := Tryz.isAgg0
  z0 := Tryz.sizeOf0
  v0 := Tryz.zeroValue0
  t3 := Tryz.underlying3
  a3 := Tryz.isAgg3
  z3 := Tryz.sizeOf3
  v3 := Tryz.zeroValue3
  t4 := Tryz.underlying4
  a4 := Tryz.isAgg4
  z4 := Tryz.sizeOf4
  v4 := Tryz.zeroValue4
  t5 := Tryz.underlying5
  a5 := Tryz.isAgg5
  z5 := Tryz.sizeOf5
  v5 := Tryz.zeroValue5
  t9 := Tryz.underlying9
  a9 := Tryz.isAgg9
  z9 := Tryz.sizeOf9
  v9 := Tryz.zeroValue9
  t21 := Tryz.underlying21
  a21 := Tryz.isAgg21
  z21 := Tryz.sizeOf21
  v21 := Tryz.zeroValue21
  t31 := Tryz.underlying58
  a31 := Tryz.isAgg58
  z31 := Tryz.sizeOf58
  v31 := Tryz.zeroValue58
  t46 := Tryz.underlying151
  a46 := Tryz.isAgg151
  z46 := Tryz.sizeOf151
  v46 := Tryz.zeroValue151
  t51 := Tryz.underlying202
  a51 := Tryz.isAgg202
  z51 := Tryz.sizeOf202
  v51 := Tryz.zeroValue202
  t105 := Tryz.underlying185
  a105 := Tryz.isAgg185
  z105 := Tryz.sizeOf185
  v105 := Tryz.zeroValue185
  t119 := Tryz.underlying239
  a119 := Tryz.isAgg239
  z119 := Tryz.sizeOf239
  t138 := Tryz.underlying241
  a138 := Tryz.isAgg241
  z138 := Tryz.sizeOf241
  v138 := Tryz.zeroValue241
  t139 := Tryz.underlying242
  a139 := Tryz.isAgg242
  z139 := Tryz.sizeOf242
  v139 := Tryz.zeroValue242
  t146 := Tryz.underlying220
  a146 := Tryz.isAgg220
  z146 := Tryz.sizeOf220
  v146 := Tryz.zeroValue220
  g1 := by kernel_rfl
  g3 := by kernel_rfl
  g4 := by kernel_rfl }
open Go.RowKit Go.Lib in
/-- strings.Split. (LAID: no walk: one application.) -/
theorem Tryz.strings_Split (s sep : ByteArray) (m : Int) (w : World) (hs : s.size < 4294967281) (hm : w.cell? ⟨1, 0, none⟩ = some (.int .i64 m)) (h1 : 1 ≤ sep.size) :
    Calls Tryz.prog 47 #[.string s, .string sep] w fun e w' =>
      e = .returned (.slice (some ⟨w.heap.size, 0, none⟩) (Lib.countB s sep + 1) (Lib.countB s sep + 1)) ∧ w' = w.alloc (.cells ((Lib.splitB sep 0 (Lib.countB s sep) s).map Value.string).toArray 9) := Any.strings_Split Tryz.lays146 (by kernel_rfl) s sep m w hs hm h1
def Tryz.lays105_ren : Go.Shelf.Ren := ⟨fun | 105 => 128 | 212 => 163 | 99 => 164 | 165 => 130 | 166 => 61 | 170 => 165 | 169 => 63 | 263 => 215 | 264 => 216 | 206 => 217 | 240 => 106 | 241 => 166 | 276 => 143 | 277 => 218 | n => n, fun | 9 => 9 | 3 => 3 | 4 => 4 | 20 => 20 | 0 => 0 | 46 => 151 | 109 => 180 | 5 => 5 | 72 => 81 | 76 => 84 | 51 => 202 | 146 => 220 | 53 => 204 | 148 => 222 | 70 => 78 | 37 => 79 | 75 => 83 | 127 => 133 | 164 => 165 | 80 => 87 | n => n, fun | n => n⟩
theorem Tryz.lays105 : Go.Proofs.Lays.n105 Tryz.prog Tryz.lays105_ren := {
  mixed := by kernel_rfl
  f99 := Tryz.func164.trans (congrArg some (by kernel_rfl))
  f105 := Tryz.func128.trans (congrArg some (by kernel_rfl))
  f165 := Tryz.func130.trans (congrArg some (by kernel_rfl))
  f166 := Tryz.func61.trans (congrArg some (by kernel_rfl))
  f169 := Tryz.func63.trans (congrArg some (by kernel_rfl))
  f170 := Tryz.func165.trans (congrArg some (by kernel_rfl))
  f206 := Tryz.func217.trans (congrArg some (by kernel_rfl))
  f212 := Tryz.func163.trans (congrArg some (by kernel_rfl))
  f240 := Tryz.func106.trans (congrArg some (by kernel_rfl))
  f241 := Tryz.func166.trans (congrArg some (by kernel_rfl))
  f263 := Tryz.func215.trans (congrArg some (by kernel_rfl))
  f264 := Tryz.func216.trans (congrArg some (by kernel_rfl))
  f276 := Tryz.func143.trans (congrArg some (by kernel_rfl))
  f277 := Tryz.func218.trans (congrArg some (by kernel_rfl))
  t0 := Tryz.underlying0
  a0 := Tryz.isAgg0
  z0 := Tryz.sizeOf0
  v0 := Tryz.zeroValue0
  t3 := Tryz.underlying3
  a3 := Tryz.isAgg3
  z3 := Tryz.sizeOf3
  v3 := Tryz.zeroValue3
  t4 := Tryz.underlying4
  a4 := Tryz.isAgg4
  z4 := Tryz.sizeOf4
  v4 := Tryz.zeroValue4
  t5 := Tryz.underlying5
  a5 := Tryz.isAgg5
  z5 := Tryz.sizeOf5
  v5 := Tryz.zeroValue5
  t9 := Tryz.underlying9
  a9 := Tryz.isAgg9
  z9 := Tryz.sizeOf9
  v9 := Tryz.zeroValue9
  t20 := Tryz.underlying20
  a20 := Tryz.isAgg20
  z20 := Tryz.sizeOf20
  v20 := Tryz.zeroValue20
  t37 := Tryz.underlying79
  a37 := Tryz.isAgg79
  z37 := Tryz.sizeOf79
  v37 := Tryz.zeroValue79
  t46 := Tryz.underlying151
  a46 := Tryz.isAgg151
  z46 := Tryz.sizeOf151
  v46 := Tryz.zeroValue151
  t51 := Tryz.underlying202
  a51 := Tryz.isAgg202
  z51 := Tryz.sizeOf202
  v51 := Tryz.zeroValue202
  t53 := Tryz.underlying204
  a53 := Tryz.isAgg204
  z53 := Tryz.sizeOf204
  v53 := Tryz.zeroValue204
  t70 := Tryz.underlying78
  a70 := Tryz.isAgg78
  z70 := Tryz.sizeOf78
  v70 := Tryz.zeroValue78
  t72 := Tryz.underlying81
  a72 := Tryz.isAgg81
  z72 := Tryz.sizeOf81
  v72 := Tryz.zeroValue81
  t75 := Tryz.underlying83
  a75 := Tryz.isAgg83
  z75 := Tryz.sizeOf83
  v75 := Tryz.zeroValue83
  t76 := Tryz.underlying84
  a76 := Tryz.isAgg84
  z76 := Tryz.sizeOf84
  v76 := Tryz.zeroValue84
  t109 := Tryz.underlying180
  a109 := Tryz.isAgg180
  z109 := Tryz.sizeOf180
  v109 := Tryz.zeroValue180
  t127 := Tryz.underlying133
  a127 := Tryz.isAgg133
  z127 := Tryz.sizeOf133
  v127 := Tryz.zeroValue133
  t146 := Tryz.underlying220
  a146 := Tryz.isAgg220
  z146 := Tryz.sizeOf220
  v146 := Tryz.zeroValue220
  t148 := Tryz.underlying222
  a148 := Tryz.isAgg222
  z148 := Tryz.sizeOf222
  v148 := Tryz.zeroValue222
  t164 := Tryz.underlying165
  a164 := Tryz.isAgg165
  z164 := Tryz.sizeOf165
  v164 := Tryz.zeroValue165 }
theorem Tryz.Builder_Extra_105 : Builder.Extra Tryz.prog Tryz.lays105_ren := {
  sizeBuilder := by kernel_rfl
  liesBuilder := by kernel_rfl
  t5 := Tryz.underlying5
  a5 := Tryz.isAgg5
  z5 := Tryz.sizeOf5
  v5 := Tryz.zeroValue5
  infoByte := by kernel_rfl
  cellsByte := by kernel_rfl
  sizeByte := by kernel_rfl
  neB5 := by decide }
open Go.RowKit Go.Lib in
/-- **strings.Repeat: count ≥ 0, the result within one allocation: count copies of s.** (LAID: no walk: one application.) -/
theorem Tryz.strings_Repeat (s : ByteArray) (c : Nat) (w : World) (hc : c ≤ 9223372036854775807) (hlen : s.size * c ≤ 140737488355328) :
    Calls Tryz.prog 128 #[.string s, .int .i64 c] w fun e w' => e = .returned (.string ⟨(Lib.repeatL s.data.toList c).toArray⟩) ∧ Below w.heap.size w w' := Any.strings_Repeat Tryz.lays105 Tryz.Builder_Extra_105 s c w hc hlen
end Go.Proofs
end

section
/-
  Contracts of the specification's Trim, of fold.squeeze and of the specification's Fold. Condition: at most 1000000000 bytes.
-/
set_option maxRecDepth 100000
namespace Go.Proofs.YtbkignlbcneddaaGreatDoor
open Go.RowKit Go.PlainAid
set_option maxRecDepth 100000 in
set_option maxHeartbeats 1000000 in
theorem rTrim_any (s : ByteArray) (w : World) (hs : s.size ≤ 1000000000) :
    Calls Tryz.prog 225 #[.string s] w fun e w' => e = .returned (.string ⟨(trimR s.data.toList).toArray⟩) ∧ w' = w := by
  go_enter Tryz.func225, Tryz.ntmps225
  go_wp2
  go_loop [0] (fun v => ∃ k : Nat, k ≤ s.size ∧ v = .string (dr s k) ∧ Hid (∀ j, j < k → bt s j = 32)) (fun v => Lib.strSize v)
  case atStart => exact ⟨0, Nat.zero_le _, by rw [dr_zero], Lib.hid fun j hj => absurd hj (Nat.not_lt_zero _)⟩
  case round =>
    obtain ⟨k, hk, rfl, H1⟩ := hrel
    have HN := Lib.hid (dr_next s k)
    have hz := dr_size s k
    have hb0 := bt_dr s k 0
    generalize ht : dr s k = t at hz hb0 HN ⊢
    have HT := Lib.hid ht; clear ht
    have HZ := Lib.hid hz; clear hz
    have HB := Lib.hid hb0; clear hb0
    have hb := get_bt t
    have hex : (0 < t.size ∧ (bt t 0 == 32) = true) ∨ (Hid (Lib.trimLeftB s.data.toList 32 = t.data.toList) ∧ ((0 < t.size ∧ (bt t 0 == 32) = false) ∨ ¬ 0 < t.size)) := by
      have h1 := HZ.out
      have h2 := HB.out
      by_cases h0 : 0 < t.size
      · by_cases hq : bt t 0 = 32
        · exact .inl ⟨h0, by simp [hq]⟩
        · refine .inr ⟨?_, .inl ⟨h0, by simp [hq]⟩⟩
          have := left_stop s k hk H1.out (fun _ => by rw [h2, Nat.add_zero] at hq; exact hq)
          rw [this, HT.out]; rfl
      · refine .inr ⟨?_, .inr h0⟩
        have := left_stop s k hk H1.out (fun h => absurd h (by omega))
        rw [this, HT.out]; rfl
    rcases hex with ⟨h0, hq⟩ | ⟨HL, hex⟩
    · go_wp2
      refine ⟨⟨k + 1, ?_, ?_, ?_⟩, ?_⟩
      · have := HZ.out; omega
      · rw [HN.out]
      · refine Lib.hid fun j hj => ?_
        by_cases e : j = k
        · have h2 := HB.out
          subst e
          rw [Nat.add_zero] at h2
          rw [← h2]; simpa using hq
        · exact H1.out j (by omega)
      · rw [Lib.strSize_string, Lib.strSize_string, HN.out, dr_size]
        have := HZ.out; omega
    · clear HN HT HB H1
      have hts : t.size ≤ 1000000000 := by have := HZ.out; omega
      clear HZ hs
      rcases hex with ⟨h0, hq⟩ | h0
      all_goals
        go_wp2
        clear h0
        go_loop [0] (fun v => ∃ m : Nat, m ≤ t.size ∧ v = .string (tk t m) ∧ Hid (∀ j, m ≤ j → j < t.size → bt t j = 32)) (fun v => Lib.strSize v)
        case atStart => exact ⟨t.size, Nat.le_refl _, by rw [tk_all], Lib.hid fun j h1 h2 => absurd h1 (by omega)⟩
        case round =>
          obtain ⟨m, hm, rfl, H2⟩ := hrel
          have HN := Lib.hid (tk_next t m)
          have hz := tk_size t m hm
          have HB := Lib.hid (fun (h : 0 < m) => bt_tk t m (m - 1) (by omega))
          generalize hu : tk t m = u at hz HN HB ⊢
          have HU := Lib.hid hu; clear hu
          have hbu := get_bt u
          clear hb
          have hex : (0 < m ∧ (bt u (m - 1) == 32) = true) ∨ (Hid (trimR s.data.toList = u.data.toList) ∧ ((0 < m ∧ (bt u (m - 1) == 32) = false) ∨ m = 0)) := by
            by_cases h0 : 0 < m
            · by_cases hq : bt u (m - 1) = 32
              · exact .inl ⟨h0, by simp [hq]⟩
              · refine .inr ⟨?_, .inl ⟨h0, by simp [hq]⟩⟩
                have := right_stop t m hm H2.out (fun h => by rw [HB.out h] at hq; exact hq)
                unfold Hid trimR
                rw [HL.out, this, HU.out]
            · refine .inr ⟨?_, .inr (by omega)⟩
              have := right_stop t m hm H2.out (fun h => absurd h h0)
              unfold Hid trimR
              rw [HL.out, this, HU.out]
          rcases hex with ⟨h0, hq⟩ | ⟨HR, ⟨h0, hq⟩ | h0⟩
          · have hsub : IntKind.i64.wrap ((m : Int) - 1) = ((m - 1 : Nat) : Int) := by rw [IntWalk.i64_in _ ⟨by omega, by omega⟩]; omega
            go_wp2
            refine ⟨⟨m - 1, by omega, by rw [HN.out], Lib.hid fun j h1 h2 => ?_⟩, ?_⟩
            · by_cases e : j = m - 1
              · have h3 := HB.out h0
                subst e
                rw [← h3]; simpa using hq
              · exact H2.out j (by omega) h2
            · rw [Lib.strSize_string, Lib.strSize_string, HN.out, tk_size t (m - 1) (by omega), hz]
              omega
          · have hsub : IntKind.i64.wrap ((m : Int) - 1) = ((m - 1 : Nat) : Int) := by rw [IntWalk.i64_in _ ⟨by omega, by omega⟩]; omega
            go_wp2
            go_ret
            exact ⟨by rw [HR.out, Lib.mk_data]; rfl, rfl⟩
          · subst h0
            go_wp2
            go_ret
            exact ⟨by rw [HR.out, Lib.mk_data]; rfl, rfl⟩
theorem trimR_le (l : List UInt8) : (trimR l).length ≤ l.length := by
  have h1 : (Lib.trimLeftB l 32).length ≤ l.length := (List.dropWhile_sublist _).length_le
  have h2 : ∀ m : List UInt8, (Lib.trimRightB m 32).length ≤ m.length := fun m => by
    unfold Lib.trimRightB
    rw [List.length_reverse]
    have := (List.dropWhile_sublist (fun x : UInt8 => x == 32) (l := m.reverse)).length_le
    simpa using this
  exact Nat.le_trans (h2 _) h1
set_option maxRecDepth 100000 in
set_option maxHeartbeats 1000000 in
theorem squeeze_any (s : ByteArray) (w : World) (hs : s.size ≤ 1000000000) :
    Calls Tryz.prog 223 #[.string s] w fun e w' => e = .returned (.string ⟨(sqL s.data.toList).toArray⟩) ∧ Below w.heap.size w w' := by
  obtain ⟨i0, hi, hz0, hz1, hz2⟩ := info_parts info5
  have hb := get_bt s
  go_enter Tryz.func223, Tryz.ntmps223
  go_wp2_with (at_make; refine wpList_make_own _ rfl _ _ 79 rfl w.heap.size 5 i0 (.int .u8 0) 1 Tryz.underlying79 hi hz0 hz1 .i64 .i64 (s.size : Int) s.size rfl rfl rfl (by rw [hz2]; omega) (by unfold maxLen; omega) (Nat.le_refl _) ?_; intro w1 hown hgr)
  have hb1 := (Below.refl w.heap.size w).grown hgr (Nat.le_refl _) (fun k hk => by cases hk)
  clear hgr
  go_loopw [3, 10] (fun b i wr => ∃ k : Nat, k ≤ s.size ∧ i = .int .i64 k ∧ wr.ownsRow w.heap.size 5 1 b (sqN s.data.toList k).length (bcells (sqN s.data.toList k)) ∧ Below w.heap.size w wr)
    (fun _ i _ => s.size - (intOf i).toNat)
  case atStart => exact ⟨0, Nat.zero_le _, rfl, hown, hb1⟩
  case round =>
    obtain ⟨k, hk, rfl, hown, hbel⟩ := hrel
    clear hb1
    have hle := sqN_le s.data.toList k
    by_cases hlt : k < s.size
    · have hex : (Hid (sqN s.data.toList (k + 1) = sqN s.data.toList k) ∧ (bt s k == 32) = true ∧ 0 < k ∧ (bt s (k - 1) == 32) = true) ∨
          (Hid (bcells (sqN s.data.toList (k + 1)) = bcells (sqN s.data.toList k) ++ [Value.int .u8 (bt s k)]) ∧ Hid ((sqN s.data.toList (k + 1)).length = (sqN s.data.toList k).length + 1) ∧
            ((bt s k == 32) = false ∨ ((bt s k == 32) = true ∧ k = 0) ∨ ((bt s k == 32) = true ∧ 0 < k ∧ (bt s (k - 1) == 32) = false))) := by
        by_cases h : bt s k = 32 ∧ 0 < k ∧ bt s (k - 1) = 32
        · exact .inl ⟨sq_skip s k h.1 h.2.1 h.2.2, by simp [h.1], h.2.1, by simp [h.2.2]⟩
        · refine .inr ⟨sq_keep s k h, sq_keep_len s k h, ?_⟩
          by_cases h1 : bt s k = 32
          · by_cases h2 : 0 < k
            · exact .inr (.inr ⟨by simp [h1], h2, by simp; exact fun h3 => h ⟨h1, h2, h3⟩⟩)
            · exact .inr (.inl ⟨by simp [h1], by omega⟩)
          · exact .inl (by simp [h1])
      rcases hex with ⟨HS, hq, hpos, hq2⟩ | ⟨HS, HL, hq | ⟨hq, h0⟩ | ⟨hq, hpos, hq2⟩⟩
      · have hsub : IntKind.i64.wrap ((k : Int) - 1) = ((k - 1 : Nat) : Int) := by rw [IntWalk.i64_in _ ⟨by omega, by omega⟩]; omega
        go_wp2
        go_roundw
        case rel => exact ⟨k + 1, by omega, by go_num, by rw [HS.out]; exact hown, hbel⟩
        case measure => simp [intOf]; omega
      · go_wp2_with (at_builtin; refine push_byte wr hown (.tmp 28) (.tmp 32) _ ?_ ?_ ?_ ?_ ?_ ?_ ?_; exact rfl; exact rfl; exact rfl; exact rfl; omega; exact hbel.size; intro v' w1 hown1 hb1)
        go_roundw
        case rel => exact ⟨k + 1, by omega, by go_num, by rw [HS.out, HL.out]; exact hown1, hbel.trans hb1⟩
        case measure => simp [intOf]; omega
      · subst h0
        go_wp2_with (at_builtin; refine push_byte wr hown (.tmp 28) (.tmp 32) _ ?_ ?_ ?_ ?_ ?_ ?_ ?_; exact rfl; exact rfl; exact rfl; exact rfl; omega; exact hbel.size; intro v' w1 hown1 hb1)
        go_roundw
        case rel => exact ⟨0 + 1, by omega, rfl, by rw [HS.out, HL.out]; exact hown1, hbel.trans hb1⟩
        case measure => simp [intOf]; omega
      · have hsub : IntKind.i64.wrap ((k : Int) - 1) = ((k - 1 : Nat) : Int) := by rw [IntWalk.i64_in _ ⟨by omega, by omega⟩]; omega
        go_wp2_with (at_builtin; refine push_byte wr hown (.tmp 28) (.tmp 32) _ ?_ ?_ ?_ ?_ ?_ ?_ ?_; exact rfl; exact rfl; exact rfl; exact rfl; omega; exact hbel.size; intro v' w1 hown1 hb1)
        go_roundw
        case rel => exact ⟨k + 1, by omega, by go_num, by rw [HS.out, HL.out]; exact hown1, hbel.trans hb1⟩
        case measure => simp [intOf]; omega
    · have hkk : k = s.size := by omega
      have hbk := back (l := sqL s.data.toList) (by rw [hkk] at hown; unfold sqL; rw [← Lib.size_eq]; exact hown)
      have HK := Lib.hid hkk
      clear hkk
      go_wp2
      go_ret
      exact ⟨rfl, hbel⟩
end Go.Proofs.YtbkignlbcneddaaGreatDoor
end
