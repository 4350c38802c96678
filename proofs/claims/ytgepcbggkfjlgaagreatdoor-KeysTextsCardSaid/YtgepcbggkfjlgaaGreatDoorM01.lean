/-
  Texts of the schema layer and of those beneath it, joined: FoldA, FoldB, FoldC, BaseLow, BaseE, FoldLow, ShelfA, AttKind, AttName. Conditions stand at each contract.
-/
import Derived.Lib.Strings
import Derived.Lib.TrimByte
import Derived.Lib.Small
import Derived.PlainAid
import Derived.WalkKit
import Derived.WalkSpells
import Derived.Laws.IdiomStrings
import Derived.Handy
import Derived.Lib.Hide
import Derived.Lib.IndexMore
import Derived.Shelf.Strings.Builder1
import Derived.Shelf.Small.Strs
import Derived.Shelf.LaysM
import Derived.Shelf.Strconv.Itoa3
import Derived.Shelf.LaysC
import Derived.Shelf.Strconv.AtoiAll
import Derived.Shelf.Strconv.ErrVarAll
import Derived.Shelf.Strings.Cut
import Derived.Shelf.Strings.Prefix
import Derived.Test.YtgepcbggkfjlgaaGreatDoorRows
import Derived.Test.YtgepcbggkfjlgaaGreatDoorProg

section
/-
  Plain functions on lists of bytes for the layer fold (lower case, trimming, squeezing). Nothing of the program stands here. No condition.
-/
set_option maxRecDepth 100000
set_option linter.unusedVariables false
set_option linter.unusedSimpArgs false
set_option linter.unnecessarySimpa false
namespace Go.Proofs.YtgepcbggkfjlgaaGreatDoor
open Go.PlainAid

/-- a byte's lower-case form -/
def lowB (c : UInt8) : UInt8 := if 65 ≤ c.toNat ∧ c.toNat ≤ 90 then c + 32 else c
def lowL (l : List UInt8) : List UInt8 := l.map lowB
/-- the cells of bytes -/
def bcells (l : List UInt8) : List Value := l.map fun b => Value.int .u8 (b.toNat : Int)

theorem bcells_length (l : List UInt8) : (bcells l).length = l.length := by simp [bcells]
theorem bcells_append (l m : List UInt8) : bcells (l ++ m) = bcells l ++ bcells m := by simp [bcells]

theorem bt_at (s : ByteArray) (k : Nat) (h : k < s.size) : bt s k = ((s.data.toList[k]'(by simpa using h)).toNat : Int) := by
  unfold bt; rw [dif_pos h]; rfl

theorem lowB_hit (c : UInt8) (h1 : 65 ≤ (c.toNat : Int)) (h2 : (c.toNat : Int) ≤ 90) : ((lowB c).toNat : Int) = (c.toNat : Int) + 32 := by
  unfold lowB
  rw [if_pos ⟨by omega, by omega⟩, UInt8.toNat_add]
  have : (32 : UInt8).toNat = 32 := rfl
  omega
theorem lowB_miss (c : UInt8) (h : ¬ (65 ≤ (c.toNat : Int) ∧ (c.toNat : Int) ≤ 90)) : lowB c = c := by
  unfold lowB
  rw [if_neg (by omega)]

theorem take_succ (s : ByteArray) (k : Nat) (h : k < s.size) : s.data.toList.take (k + 1) = s.data.toList.take k ++ [s.data.toList[k]'(by simpa using h)] := by
  rw [List.take_succ_eq_append_getElem (by simpa using h)]

theorem low_step_hit (s : ByteArray) (k : Nat) (h : k < s.size) (h1 : 65 ≤ bt s k) (h2 : bt s k ≤ 90) :
    bcells (lowL (s.data.toList.take (k + 1))) = bcells (lowL (s.data.toList.take k)) ++ [Value.int .u8 (bt s k + 32)] := by
  rw [bt_at s k h] at *
  rw [take_succ s k h]
  simp only [lowL, bcells, List.map_append, List.map_cons, List.map_nil, lowB_hit _ h1 h2]
theorem low_step_miss (s : ByteArray) (k : Nat) (h : k < s.size) (h1 : ¬ (65 ≤ bt s k ∧ bt s k ≤ 90)) :
    bcells (lowL (s.data.toList.take (k + 1))) = bcells (lowL (s.data.toList.take k)) ++ [Value.int .u8 (bt s k)] := by
  rw [bt_at s k h] at *
  rw [take_succ s k h]
  simp only [lowL, bcells, List.map_append, List.map_cons, List.map_nil, lowB_miss _ h1]

theorem low_step (s : ByteArray) (k : Nat) (h : k < s.size) :
    (65 ≤ bt s k → bt s k ≤ 90 → bcells (lowL (s.data.toList.take (k + 1))) = bcells (lowL (s.data.toList.take k)) ++ [Value.int .u8 (bt s k + 97 - 65)]) ∧
    (¬ (65 ≤ bt s k ∧ bt s k ≤ 90) → bcells (lowL (s.data.toList.take (k + 1))) = bcells (lowL (s.data.toList.take k)) ++ [Value.int .u8 (bt s k)]) :=
  ⟨fun h1 h2 => by rw [low_step_hit s k h h1 h2]; congr 3; omega, fun h1 => low_step_miss s k h h1⟩

/-- byte j behind k rounds of lowering in place -/
def mixI (s : ByteArray) (k j : Nat) : Int := if j < k then (if 65 ≤ bt s j ∧ bt s j ≤ 90 then bt s j + 32 else bt s j) else bt s j
theorem mixI_zero (s : ByteArray) (j : Nat) : mixI s 0 j = bt s j := by unfold mixI; rw [if_neg (by omega)]
theorem mixI_self (s : ByteArray) (k : Nat) : mixI s k k = bt s k := by unfold mixI; rw [if_neg (by omega)]
theorem mixI_other (s : ByteArray) (k j : Nat) (h : j ≠ k) : mixI s (k + 1) j = mixI s k j := by
  unfold mixI
  by_cases h1 : j < k
  · rw [if_pos h1, if_pos (by omega)]
  · rw [if_neg h1, if_neg (by omega)]
theorem mixI_hit (s : ByteArray) (k : Nat) (h1 : 65 ≤ bt s k) (h2 : bt s k ≤ 90) : mixI s (k + 1) k = bt s k + 32 := by
  unfold mixI; rw [if_pos (by omega), if_pos ⟨h1, h2⟩]
theorem mixI_miss (s : ByteArray) (k : Nat) (h : ¬ (65 ≤ bt s k ∧ bt s k ≤ 90)) : mixI s (k + 1) k = bt s k := by
  unfold mixI; rw [if_pos (by omega), if_neg h]
theorem mixI_end (s : ByteArray) (j : Nat) (h : j < (lowL s.data.toList).length) : mixI s s.size j = (((lowL s.data.toList)[j]).toNat : Int) := by
  have hj : j < s.size := by rw [Lib.size_eq]; simpa [lowL] using h
  unfold mixI
  rw [if_pos hj, bt_at s j hj]
  simp only [lowL, List.getElem_map]
  by_cases hA : 65 ≤ ((s.data.toList[j]'(by simpa using hj)).toNat : Int) ∧ ((s.data.toList[j]'(by simpa using hj)).toNat : Int) ≤ 90
  · rw [if_pos hA, lowB_hit _ hA.1 hA.2]
  · rw [if_neg hA, lowB_miss _ hA]
theorem lowL_length (l : List UInt8) : (lowL l).length = l.length := by simp [lowL]

end Go.Proofs.YtgepcbggkfjlgaaGreatDoor
end

section
/-
  Plain functions for trimming and squeezing: pieces of a string from the left and from the right, what the loops of the specification leave, and the squeezed list round by round. No condition.
-/
set_option maxRecDepth 100000
set_option linter.unusedVariables false
set_option linter.unusedSimpArgs false
set_option linter.unnecessarySimpa false
namespace Go.Proofs.YtgepcbggkfjlgaaGreatDoor
open Go.PlainAid

def dr (s : ByteArray) (k : Nat) : ByteArray := ⟨(s.data.toList.drop k).toArray⟩
def tk (s : ByteArray) (k : Nat) : ByteArray := ⟨(s.data.toList.take k).toArray⟩
theorem dr_zero (s : ByteArray) : dr s 0 = s := by unfold dr; rw [List.drop_zero, Lib.mk_data]
theorem tk_all (s : ByteArray) : tk s s.size = s := by unfold tk; rw [Lib.size_eq, List.take_length, Lib.mk_data]
theorem dr_size (s : ByteArray) (k : Nat) : (dr s k).size = s.size - k := by unfold dr; rw [Lib.size_mk, List.length_drop, ← Lib.size_eq]
theorem tk_size (s : ByteArray) (k : Nat) (h : k ≤ s.size) : (tk s k).size = k := by unfold tk; rw [Lib.size_mk, List.length_take, ← Lib.size_eq]; omega
theorem dr_next (s : ByteArray) (k : Nat) : (dr s k).extract 1 (dr s k).size = dr s (k + 1) := by
  rw [dr_size]; unfold dr; rw [Lib.extract_mk, List.drop_drop, List.take_of_length_le (by simp [List.length_drop]; omega)]
theorem tk_next (s : ByteArray) (k : Nat) : (tk s k).extract 0 (k - 1) = tk s (k - 1) := by
  unfold tk; rw [Lib.extract_mk, List.drop_zero, List.take_take]; congr 3; omega
theorem bt_list (s : ByteArray) (k : Nat) (c : UInt8) (h : s.data.toList[k]? = some c) : bt s k = (c.toNat : Int) := by
  have hk : k < s.size := by
    rw [Lib.size_eq]; exact (List.getElem?_eq_some_iff.1 h).1
  rw [bt_at s k hk]
  have := List.getElem?_eq_getElem (l := s.data.toList) (i := k) (by simpa using hk)
  rw [this] at h
  rw [Option.some.inj h]
theorem bt_dr (s : ByteArray) (k j : Nat) : bt (dr s k) j = bt s (k + j) := by
  by_cases h : k + j < s.size
  · have h1 : (dr s k).data.toList[j]? = some (s.data.toList[k + j]'(by simpa using h)) := by
      unfold dr
      rw [List.toList_toArray, List.getElem?_drop, List.getElem?_eq_getElem]
    rw [bt_list _ _ _ h1, bt_at s _ h]
  · rw [bt_end s (by omega), bt_end (dr s k) (by rw [dr_size]; omega)]
theorem bt_tk (s : ByteArray) (k j : Nat) (h : j < k) : bt (tk s k) j = bt s j := by
  by_cases hs : j < s.size
  · have h1 : (tk s k).data.toList[j]? = some (s.data.toList[j]'(by simpa using hs)) := by
      unfold tk
      rw [List.toList_toArray, List.getElem?_take, if_pos h, List.getElem?_eq_getElem]
    rw [bt_list _ _ _ h1, bt_at s _ hs]
  · rw [bt_end s (by omega), bt_end (tk s k) (by unfold tk; rw [Lib.size_mk, List.length_take, ← Lib.size_eq]; omega)]

theorem byte_32 (c : UInt8) (h : (c.toNat : Int) = 32) : c = 32 := UInt8.toNat_inj.1 (by have : (32 : UInt8).toNat = 32 := rfl; omega)

/-- where the loop from the left stands still -/
theorem left_stop (s : ByteArray) (k : Nat) (hk : k ≤ s.size) (h1 : ∀ j, j < k → bt s j = 32) (h2 : k < s.size → bt s k ≠ 32) : Lib.trimLeftB s.data.toList 32 = (dr s k).data.toList := by
  rw [Lib.trimLeftB_drop s.data.toList 32 k (by rw [← Lib.size_eq]; exact hk) (fun j b hj hb => byte_32 b (by rw [← bt_list s j b hb]; exact h1 j hj)) (fun b hb e => ?_)]
  · rfl
  · subst e
    have hlt : k < s.size := by rw [Lib.size_eq]; exact (List.getElem?_eq_some_iff.1 hb).1
    exact h2 hlt (bt_list s k 32 hb)
/-- where the loop from the right stands still -/
theorem right_stop (s : ByteArray) (k : Nat) (hk : k ≤ s.size) (h1 : ∀ j, k ≤ j → j < s.size → bt s j = 32) (h2 : 0 < k → bt s (k - 1) ≠ 32) : Lib.trimRightB s.data.toList 32 = (tk s k).data.toList := by
  rw [Lib.trimRightB_take s.data.toList 32 k (by rw [← Lib.size_eq]; exact hk) (fun j b hj hb => byte_32 b (by
      have hlt : j < s.size := by rw [Lib.size_eq]; exact (List.getElem?_eq_some_iff.1 hb).1
      rw [← bt_list s j b hb]; exact h1 j hj hlt)) (fun b hb e => ?_)]
  · rfl
  · intro e2
    subst e2
    exact h2 hb (bt_list s (k - 1) 32 e)

theorem right_cons (x : UInt8) (l : List UInt8) : Lib.trimRightB (x :: l) 32 = if (x == 32) = true ∧ Lib.trimRightB l 32 = [] then [] else x :: Lib.trimRightB l 32 := by
  unfold Lib.trimRightB
  rw [List.reverse_cons, List.dropWhile_append]
  by_cases h : (l.reverse.dropWhile (· == 32)) = []
  · rw [h]
    by_cases hx : (x == 32) = true
    · simp [List.dropWhile, hx]
    · simp [List.dropWhile, hx]
  · have h1 : (l.reverse.dropWhile (· == 32)).isEmpty = false := by cases e : l.reverse.dropWhile (· == 32) <;> simp_all
    rw [h1, if_neg (by simp), if_neg (by simp [h]), List.reverse_append]
    simp
theorem trim_swap (l : List UInt8) : Lib.trimLeftB (Lib.trimRightB l 32) 32 = Lib.trimRightB (Lib.trimLeftB l 32) 32 := by
  induction l with
  | nil => rfl
  | cons x l ih =>
    rw [right_cons]
    by_cases hx : (x == 32) = true
    · have e : Lib.trimLeftB (x :: l) 32 = Lib.trimLeftB l 32 := by unfold Lib.trimLeftB; rw [List.dropWhile_cons, if_pos hx]
      rw [e, ← ih]
      by_cases h : Lib.trimRightB l 32 = []
      · rw [if_pos ⟨hx, h⟩, h]
      · rw [if_neg (fun h2 => h h2.2)]
        unfold Lib.trimLeftB
        rw [List.dropWhile_cons, if_pos hx]
    · have e : Lib.trimLeftB (x :: l) 32 = x :: l := by unfold Lib.trimLeftB; rw [List.dropWhile_cons, if_neg hx]
      rw [e, right_cons, if_neg (fun h2 => hx h2.1)]
      unfold Lib.trimLeftB
      rw [List.dropWhile_cons, if_neg hx]

/-- the specification's order of trimming -/
def trimR (l : List UInt8) : List UInt8 := Lib.trimRightB (Lib.trimLeftB l 32) 32

/-- the squeezed list behind k rounds -/
def sqN (l : List UInt8) : Nat → List UInt8
  | 0 => []
  | k + 1 => sqN l k ++ (if l.getD k 0 = 32 ∧ 0 < k ∧ l.getD (k - 1) 0 = 32 then [] else [l.getD k 0])
def sqL (l : List UInt8) : List UInt8 := sqN l l.length

theorem sqN_le (l : List UInt8) : ∀ k, (sqN l k).length ≤ k
  | 0 => by simp [sqN]
  | k + 1 => by
    have := sqN_le l k
    simp only [sqN, List.length_append]
    split <;> simp <;> omega

theorem bt_getD (s : ByteArray) (k : Nat) : bt s k = ((s.data.toList.getD k 0).toNat : Int) := by
  by_cases h : k < s.size
  · rw [bt_at s k h, List.getD_eq_getElem?_getD, List.getElem?_eq_getElem (by simpa using h)]; rfl
  · rw [bt_end s (by omega), List.getD_eq_getElem?_getD, List.getElem?_eq_none (by rw [← Lib.size_eq]; omega)]; rfl
theorem getD_32 (s : ByteArray) (k : Nat) : s.data.toList.getD k 0 = 32 ↔ bt s k = 32 := by
  rw [bt_getD]
  constructor
  · intro h; rw [h]; rfl
  · intro h; exact byte_32 _ h
theorem sq_skip (s : ByteArray) (k : Nat) (h1 : bt s k = 32) (h2 : 0 < k) (h3 : bt s (k - 1) = 32) : sqN s.data.toList (k + 1) = sqN s.data.toList k := by
  simp only [sqN]
  rw [if_pos ⟨(getD_32 s k).2 h1, h2, (getD_32 s (k - 1)).2 h3⟩, List.append_nil]
theorem sq_keep (s : ByteArray) (k : Nat) (h : ¬ (bt s k = 32 ∧ 0 < k ∧ bt s (k - 1) = 32)) : bcells (sqN s.data.toList (k + 1)) = bcells (sqN s.data.toList k) ++ [Value.int .u8 (bt s k)] := by
  simp only [sqN]
  rw [if_neg (by rw [getD_32, getD_32]; exact h), bcells_append, bt_getD]
  rfl
theorem sq_keep_len (s : ByteArray) (k : Nat) (h : ¬ (bt s k = 32 ∧ 0 < k ∧ bt s (k - 1) = 32)) : (sqN s.data.toList (k + 1)).length = (sqN s.data.toList k).length + 1 := by
  simp only [sqN]
  rw [if_neg (by rw [getD_32, getD_32]; exact h)]
  simp

end Go.Proofs.YtgepcbggkfjlgaaGreatDoor
end

section
/-
  Plain functions for the kinds of strings: values, names, words. No condition.
-/
set_option maxRecDepth 100000
set_option linter.unusedVariables false
set_option linter.unusedSimpArgs false
set_option linter.unnecessarySimpa false
namespace Go.Proofs.YtgepcbggkfjlgaaGreatDoor
open Go.PlainAid

def ltrI (c : Int) : Bool := (decide (65 ≤ c) && decide (c ≤ 90)) || (decide (97 ≤ c) && decide (c ≤ 122))
def dgtI (c : Int) : Bool := decide (48 ≤ c) && decide (c ≤ 57)
def nameP (c : Int) : Bool := ltrI c || dgtI c || c == 45
def wordP (c : Int) : Bool := ltrI c || dgtI c || c == 45 || c == 95 || c == 46 || c == 58
def cleanP (c : Int) : Bool := decide (32 ≤ c) && decide (c ≤ 126)
/-- every byte is of a kind -/
def allB (p : Int → Bool) (s : ByteArray) : Bool := (List.range s.size).all fun j => p (bt s j)
def cleanB (s : ByteArray) : Bool := decide (1 ≤ s.size) && decide (s.size ≤ 256) && !(bt s 0 == 32) && !(bt s (s.size - 1) == 32) && allB cleanP s
def nameB (s : ByteArray) : Bool := decide (1 ≤ s.size) && decide (s.size ≤ 64) && ltrI (bt s 0) && allB nameP s
def wordB (s : ByteArray) : Bool := decide (1 ≤ s.size) && decide (s.size ≤ 64) && allB wordP s

theorem allB_true {p : Int → Bool} {s : ByteArray} (h : ∀ j, j < s.size → p (bt s j) = true) : allB p s = true := by
  unfold allB; rw [List.all_eq_true]; intro j hj; exact h j (List.mem_range.1 hj)
theorem allB_false {p : Int → Bool} {s : ByteArray} (k : Nat) (hk : k < s.size) (h : p (bt s k) = false) : allB p s = false := by
  unfold allB; rw [List.all_eq_false]; exact ⟨k, List.mem_range.2 hk, by simp [h]⟩
theorem allB_iff {p : Int → Bool} {s : ByteArray} : allB p s = true ↔ ∀ j, j < s.size → p (bt s j) = true := by
  unfold allB; rw [List.all_eq_true]
  exact ⟨fun h j hj => h j (List.mem_range.2 hj), fun h j hj => h j (List.mem_range.1 hj)⟩
/-- one more byte of a kind -/
theorem all_next {p : Int → Bool} {s : ByteArray} {k : Nat} (h : ∀ j, j < k → p (bt s j) = true) (hk : p (bt s k) = true) : ∀ j, j < k + 1 → p (bt s j) = true := fun j hj => by
  by_cases e : j = k
  · rw [e]; exact hk
  · exact h j (by omega)

end Go.Proofs.YtgepcbggkfjlgaaGreatDoor
end

section
/-
  What any text of this seat leans on: bytes in rows of the call's own, append of one byte, a string out of such a row. No condition.
-/
set_option maxRecDepth 100000
set_option linter.unusedVariables false
set_option linter.unusedSimpArgs false
set_option linter.unnecessarySimpa false
namespace Go.Proofs.YtgepcbggkfjlgaaGreatDoor
open Go.RowKit Go.PlainAid

theorem info5 : (Tryz.prog.info? 5).map (fun i => (i.zero, i.size, i.bytes)) = some (some (.int .u8 0), 1, 1) := by kernel_rfl

theorem bcells_at (l : List UInt8) (j : Nat) (h : j < l.length) : (bcells l)[j]? = some (.int .u8 (l[j].toNat : Int)) := by
  simp [bcells, h]
theorem bcells_one (l : List UInt8) : ∀ u ∈ bcells l, u.oneCell' = true := by
  intro u hu
  simp only [bcells, List.mem_map] at hu
  obtain ⟨b, _, rfl⟩ := hu
  rfl

/-- 'string(b)' where b owns the bytes l -/
theorem back {w : World} {base : Nat} {v : Value} {l : List UInt8} (h : w.ownsRow base 5 1 v l.length (bcells l)) :
    (convert 65 9 v).run Tryz.prog w = .ok (.string ⟨l.toArray⟩) w := by
  have h0 := h
  rcases h with ⟨_, ⟨rfl, hl⟩ | ⟨g, cap, cur, rfl, h2, h3, h4, h5, h6⟩⟩
  · have : l = [] := by cases l <;> simp_all [bcells]
    subst this
    exact run_convert_bytes_nil w _ _ Tryz.underlying65 Tryz.underlying5 0 0 _ Tryz.underlying9
  · exact run_convert_bytes_back w _ _ _ _ cap l Tryz.underlying65 Tryz.underlying5 Tryz.underlying9
      (fun j hj => h0.cells rfl j _ (bcells_at l j hj))

/-- 'b = append(b, c)' where b is the call's own: what it owns, and that nothing below the base has changed. -/
theorem push_byte {ops : Array Oper} {rest : List Oper} {o : Oper} {a : Act} {Q : Exit → Act → World → Prop} (wr : World) {base : Nat} {v : Value} {n : Nat} {xs : List Value} (hown : wr.ownsRow base 5 1 v n xs) (s x : Operand)
    (c : Int) (hgd : o.guard = none)
    (ho : o.op = .call { callee := .builtin .append, args := #[s, x], argTypes := #[65, 65] })
    (hs : a.eval s = v) (hx : a.eval x = .slice (some ⟨wr.heap.size, 0, none⟩) 1 1) (hn : n + 1 ≤ 140737488355328) (hbase : base ≤ wr.heap.size)
    (h : ∀ v' w', w'.ownsRow base 5 1 v' (n + 1) (xs ++ [.int .u8 c]) → Below base wr w' → wpList Tryz.prog ops Q rest (a.put o.dst v') w') :
    wpList Tryz.prog ops Q (o :: rest) a (wr.alloc (.cells #[.int .u8 c] 5)) := by
  obtain ⟨i0, hi, hz0, hz1, hz2⟩ := info_parts info5
  refine wpList_append_own _ hgd s x 65 ho base 5 i0 (.int .u8 0) 1 1 Tryz.underlying65 hi hz0 hz1 hz2 rfl (by decide) v n xs hs (hown.alloc _) ⟨wr.heap.size, 0, none⟩ 1 1 [.int .u8 c] hx rfl
    (cell_one_new _ _ _) (by intro u hu; simp at hu; subst hu; rfl) (by unfold maxLen; omega) (by omega) (by simp; omega) ?_
  intro v' w' h1 h2 _
  refine h v' w' h1 ?_
  exact ((Below.refl base wr).alloc hbase _).grown h2 (by simp; omega) (fun k hk => (hown.lt k hk).1)

end Go.Proofs.YtgepcbggkfjlgaaGreatDoor
end

section
/-
  What any text of this seat leans on: Cut, prefixes, suffixes; a slice of strings in memory; the library's own variable MaxLen. No condition.
-/
set_option maxRecDepth 100000
set_option linter.unusedVariables false
set_option linter.unusedSimpArgs false
set_option linter.unnecessarySimpa false
namespace Go.Proofs.YtgepcbggkfjlgaaGreatDoor
open Go.PlainAid Go.RowKit

def cutOk (t p : ByteArray) : Bool := (Lib.cut t.data.toList p.data.toList).2.2
def cutBef (t p : ByteArray) : ByteArray := ⟨(Lib.cut t.data.toList p.data.toList).1.toArray⟩
def cutAft (t p : ByteArray) : ByteArray := ⟨(Lib.cut t.data.toList p.data.toList).2.1.toArray⟩
def preOk (t p : ByteArray) : Bool := Lib.hasPrefix t.data.toList p.data.toList
def preCut (t p : ByteArray) : ByteArray := ⟨(Lib.trimPrefix t.data.toList p.data.toList).toArray⟩
def sufOk (t p : ByteArray) : Bool := Lib.hasSuffix t.data.toList p.data.toList
def sufCut (t p : ByteArray) : ByteArray := ⟨(Lib.trimSuffix t.data.toList p.data.toList).toArray⟩
def partAt (ps : List ByteArray) (j : Nat) : ByteArray := ps.getD j ByteArray.empty
theorem cutAft_size (t p : ByteArray) : (cutAft t p).size ≤ t.size := by
  unfold cutAft Lib.cut
  rw [Lib.size_mk, Lib.size_eq]
  split <;> simp
theorem preCut_size (t p : ByteArray) : (preCut t p).size ≤ t.size := by
  unfold preCut Lib.trimPrefix
  rw [Lib.size_mk, Lib.size_eq]
  split <;> simp
theorem sufCut_size (t p : ByteArray) : (sufCut t p).size ≤ t.size := by
  unfold sufCut Lib.trimSuffix
  rw [Lib.size_mk, Lib.size_eq]
  split <;> simp
theorem drop_at (ps : List ByteArray) (k : Nat) (h : k < ps.length) : ps.drop k = partAt ps k :: ps.drop (k + 1) := by
  unfold partAt
  rw [List.getD_eq_getElem?_getD, List.getElem?_eq_getElem h, Option.getD_some]
  exact List.drop_eq_getElem_cons h
/-- a slice's strings, as they lie in memory -/
def IsStrs (w : World) (b off : Nat) (ps : List ByteArray) : Prop :=
  b < w.heap.size ∧ ∀ j, j < ps.length → w.cell? ⟨b, off + j, none⟩ = some (.string (partAt ps j))
theorem IsStrs.below {w w' : World} {b off : Nat} {ps : List ByteArray} (h : IsStrs w b off ps) {B : Nat} (hb : Below B w w') (hB : b < B) : IsStrs w' b off ps :=
  ⟨Nat.lt_of_lt_of_le h.1 hb.size, fun j hj => by rw [hb.cell (p := ⟨b, off + j, none⟩) hB]; exact h.2 j hj⟩
theorem cell_later {W W' : World} {a : Addr} {v : Value} (hb : Below W.heap.size W W') (h : W.cell? a = some v) : W'.cell? a = some v :=
  (hb.cell (World.block_lt_of_cell? W _ h)).trans h
/-- the library's own variable holds a number -/
def MaxOk (w : World) : Prop := ∃ m : Int, w.cell? ⟨0, 0, none⟩ = some (.int .i64 m)
theorem MaxOk.lt {w : World} (h : MaxOk w) : 0 < w.heap.size := by
  obtain ⟨m, hm⟩ := h
  exact World.block_lt_of_cell? w _ hm
theorem MaxOk.below {w w' : World} (h : MaxOk w) {B : Nat} (hb : Below B w w') (hB : 0 < B) : MaxOk w' := by
  obtain ⟨m, hm⟩ := h
  exact ⟨m, by rw [hb.cell (p := ⟨0, 0, none⟩) hB]; exact hm⟩

end Go.Proofs.YtgepcbggkfjlgaaGreatDoor
end

section
/-
  Contracts of fold.Lower and of the specification's Lower: both return the list with A to Z lowered. Condition: at most 1000000000 bytes.
-/
set_option maxRecDepth 100000
set_option linter.unusedVariables false
set_option linter.unusedSimpArgs false
set_option linter.unnecessarySimpa false
namespace Go.Proofs.YtgepcbggkfjlgaaGreatDoor
open Go.RowKit Go.PlainAid

/-- '[]byte(s)': a new row that holds the bytes of s -/
theorem toBytes (w : World) (s : ByteArray) : ∃ cap w1, (convert 9 65 (.string s)).run Tryz.prog w = .ok (.slice (some ⟨w.heap.size, 0, none⟩) s.size cap) w1 ∧
    (∀ j, j < s.size → w1.cell? ⟨w.heap.size, j, none⟩ = some (.int .u8 (bt s j))) ∧ (∀ j, j < s.size → w1.frozen? ⟨w.heap.size, j, none⟩ = false) ∧ Below w.heap.size w w1 ∧ w.heap.size < w1.heap.size := by
  refine ⟨_, _, run_bytes_of_string w 9 65 5 s Tryz.underlying9 Tryz.underlying65 Tryz.underlying5, fun j hj => ?_, fun j hj => ?_, ?_, ?_⟩
  · show (w.drew.alloc _).cell? ⟨w.drew.heap.size, j, none⟩ = _
    rw [World.cell?_alloc_mark, bytesRow_at s _ j hj, bt_at s j hj]
    rfl
  · show (w.drew.alloc _).frozen? ⟨w.drew.heap.size, j, none⟩ = _
    rw [World.frozen?_alloc_mark]
    have : s.size ≤ (bytesRow s (grownCap w s.size 0 5)).size := by simp only [bytesRow, Array.size_append, Array.size_map]; exact Nat.le_add_right _ _
    simp; omega
  · exact (Below.refl _ _).drew.alloc (Nat.le_refl _) _
  · show w.heap.size < (w.drew.alloc _).heap.size
    simp

end Go.Proofs.YtgepcbggkfjlgaaGreatDoor
end

section
/-
  DERIVED: THE SHELF's CONTRACTS AT THIS DUMP, IN PLAIN WORDS (tools/lay-plain.mjs out of 'TryzShelfASrc.lean', which tools/lay-shelf.mjs wrote): THE SAME DECLARATIONS UNDER THE SAME NAMES: 'import', 'namespace', 'open', 'def', 'theorem' AND NOTHING ELSE: no command of the shelf's: FOR A HAND-IN. Each laying: the table of numbers ('.._ren') and one theorem, a field a fact of the dump's own or the kernel's comparison; each contract: ONE APPLICATION.
-/
namespace Go.Proofs
open Go.Shelf
def Tryz.lays169_ren : Go.Shelf.Ren := ⟨fun | 169 => 51 | n => n, fun | 70 => 64 | 9 => 9 | 0 => 0 | 72 => 67 | 37 => 65 | 127 => 95 | 3 => 3 | 5 => 5 | n => n, fun | n => n⟩
theorem Tryz.lays169 : Go.Proofs.Lays.n169 Tryz.prog Tryz.lays169_ren := {
  mixed := by kernel_rfl
  f169 := Tryz.func51.trans (congrArg some (by kernel_rfl))
  t0 := Tryz.underlying0
  a0 := Tryz.isAgg0
  z0 := Tryz.sizeOf0
  v0 := Tryz.zeroValue0
  t3 := Tryz.underlying3
  a3 := Tryz.isAgg3
  z3 := Tryz.sizeOf3
  v3 := Tryz.zeroValue3
  t9 := Tryz.underlying9
  a9 := Tryz.isAgg9
  z9 := Tryz.sizeOf9
  v9 := Tryz.zeroValue9
  t37 := Tryz.underlying65
  a37 := Tryz.isAgg65
  z37 := Tryz.sizeOf65
  v37 := Tryz.zeroValue65
  t70 := Tryz.underlying64
  a70 := Tryz.isAgg64
  z70 := Tryz.sizeOf64
  v70 := Tryz.zeroValue64
  t72 := Tryz.underlying67
  a72 := Tryz.isAgg67
  z72 := Tryz.sizeOf67
  v72 := Tryz.zeroValue67
  t127 := Tryz.underlying95
  a127 := Tryz.isAgg95
  z127 := Tryz.sizeOf95
  v127 := Tryz.zeroValue95 }
theorem Tryz.Builder_Extra_169 : Builder.Extra Tryz.prog Tryz.lays169_ren := {
  sizeBuilder := by kernel_rfl
  liesBuilder := by kernel_rfl
  t5 := Tryz.underlying5
  a5 := Tryz.isAgg5
  z5 := Tryz.sizeOf5
  v5 := Tryz.zeroValue5
  infoByte := by kernel_rfl
  cellsByte := by kernel_rfl
  sizeByte := by kernel_rfl
  neB5 := by decide }
open Go.RowKit in
/-- (*strings.Builder).String: "String returns the accumulated string.": WHATEVER THE BUILDER HOLDS. (LAID: no walk: one application.) -/
theorem Tryz.Builder_String_any (B b : Nat) (l : List UInt8) (w : World) (h : Lib.IsBuilder 67 5 B b (Lib.byteCells l) w) (hBw : B ≤ w.heap.size) :
    Calls Tryz.prog 51 #[.pointer (some ⟨b, 0, none⟩)] w fun e w' => e = .returned (.string ⟨l.toArray⟩) ∧ Below B w w' := Any.Builder_String_any Tryz.lays169 Tryz.Builder_Extra_169 B b l w h hBw
def Tryz.lays106_ren : Go.Shelf.Ren := ⟨fun | 106 => 64 | 213 => 90 | 265 => 109 | n => n, fun | 9 => 9 | 3 => 3 | n => n, fun | n => n⟩
theorem Tryz.lays106 : Go.Proofs.Lays.n106 Tryz.prog Tryz.lays106_ren := {
  mixed := by kernel_rfl
  f106 := Tryz.func64.trans (congrArg some (by kernel_rfl))
  f213 := Tryz.func90.trans (congrArg some (by kernel_rfl))
  f265 := Tryz.func109.trans (congrArg some (by kernel_rfl))
  t3 := Tryz.underlying3
  a3 := Tryz.isAgg3
  z3 := Tryz.sizeOf3
  v3 := Tryz.zeroValue3
  t9 := Tryz.underlying9
  a9 := Tryz.isAgg9
  z9 := Tryz.sizeOf9
  v9 := Tryz.zeroValue9 }
open Go.RowKit in
/-- strings.Compare: "Compare returns an integer comparing two strings lexicographically. The result will be 0 if a == b, -1 if a < b, and +1 if a > b.": IT RETURNS 'Lib.compareBytes a b'; the world is as it was. (LAID: no walk: one application.) -/
theorem Tryz.strings_Compare (a b : ByteArray) (w : World) :
    Calls Tryz.prog 64 #[.string a, .string b] w fun e w' => e = .returned (.int .i64 (Lib.compareBytes a.data.toList b.data.toList)) ∧ w' = w := Any.strings_Compare Tryz.lays106 a b w
def Tryz.lays137_ren : Go.Shelf.Ren := ⟨fun | 137 => 121 | 217 => 114 | 266 => 129 | n => n, fun | 9 => 9 | 5 => 5 | 3 => 3 | n => n, fun | n => n⟩
theorem Tryz.lays137 : Go.Proofs.Lays.n137 Tryz.prog Tryz.lays137_ren := {
  mixed := by kernel_rfl
  f137 := Tryz.func121.trans (congrArg some (by kernel_rfl))
  f217 := Tryz.func114.trans (congrArg some (by kernel_rfl))
  f266 := Tryz.func129.trans (congrArg some (by kernel_rfl))
  t3 := Tryz.underlying3
  a3 := Tryz.isAgg3
  z3 := Tryz.sizeOf3
  v3 := Tryz.zeroValue3
  t5 := Tryz.underlying5
  a5 := Tryz.isAgg5
  z5 := Tryz.sizeOf5
  v5 := Tryz.zeroValue5
  t9 := Tryz.underlying9
  a9 := Tryz.isAgg9
  z9 := Tryz.sizeOf9
  v9 := Tryz.zeroValue9 }
open Go.RowKit in
/-- strings.IndexByte: "IndexByte returns the index of the first instance of c in s, or -1 if c is not present in s.": IT RETURNS 'Lib.indexByte s c'; the world is as it was. (LAID: no walk: one application.) -/
theorem Tryz.strings_IndexByte (s : ByteArray) (c : Int) (w : World) :
    Calls Tryz.prog 121 #[.string s, .int .u8 c] w fun e w' => e = .returned (.int .i64 (Lib.indexByte s.data.toList c.toNat.toUInt8)) ∧ w' = w := Any.strings_IndexByte Tryz.lays137 s c w
def Tryz.laysM171_ren : Go.Shelf.Ren := ⟨fun | 171 => 95 | 243 => 112 | 246 => 127 | 283 => 147 | 284 => 148 | 285 => 149 | 286 => 150 | 129 => 146 | 317 => 163 | 318 => 164 | 319 => 165 | 320 => 166 | 337 => 172 | 338 => 173 | n => n, fun | 3 => 3 | 9 => 9 | 2 => 2 | 4 => 4 | 171 => 146 | 0 => 0 | 53 => 145 | 37 => 65 | 5 => 5 | 173 => 148 | 212 => 162 | 51 => 127 | 20 => 20 | 213 => 163 | 46 => 110 | 232 => 181 | 233 => 182 | n => n, fun | 17 => 1 | 18 => 6 | 19 => 7 | n => n⟩
theorem Tryz.laysM171 : Go.Proofs.LaysM.n171 Tryz.prog Tryz.laysM171_ren := {
  mixed := by kernel_rfl
  f129 := Tryz.func146.trans (congrArg some (by kernel_rfl))
  f171 := Tryz.func95.trans (congrArg some (by kernel_rfl))
  f243 := Tryz.func112.trans (congrArg some (by kernel_rfl))
  f246 := Tryz.func127.trans (congrArg some (by kernel_rfl))
  f283 := Tryz.func147.trans (congrArg some (by kernel_rfl))
  f284 := Tryz.func148.trans (congrArg some (by kernel_rfl))
  f285 := Tryz.func149.trans (congrArg some (by kernel_rfl))
  f286 := Tryz.func150.trans (congrArg some (by kernel_rfl))
  f317 := Tryz.func163.trans (congrArg some (by kernel_rfl))
  f318 := Tryz.func164.trans (congrArg some (by kernel_rfl))
  f319 := Tryz.func165.trans (congrArg some (by kernel_rfl))
  f320 := Tryz.func166.trans (congrArg some (by kernel_rfl))
  f337 := Tryz.func172.trans (congrArg some (by kernel_rfl))
  f338 := Tryz.func173.trans (congrArg some (by kernel_rfl))
  t0 := Tryz.underlying0
  a0 := Tryz.isAgg0
  z0 := Tryz.sizeOf0
  v0 := Tryz.zeroValue0
  t2 := Tryz.underlying2
  a2 := Tryz.isAgg2
  z2 := Tryz.sizeOf2
  v2 := Tryz.zeroValue2
  t3 := Tryz.underlying3
  a3 := Tryz.isAgg3
  z3 := Tryz.sizeOf3
  v3 := Tryz.zeroValue3
  t4 := Tryz.underlying4
  a4 := Tryz.isAgg4
  z4 := Tryz.sizeOf4
  v4 := Tryz.zeroValue4
  t5 := Tryz.underlying5
  a5 := Tryz.isAgg5
  z5 := Tryz.sizeOf5
  v5 := Tryz.zeroValue5
  t9 := Tryz.underlying9
  a9 := Tryz.isAgg9
  z9 := Tryz.sizeOf9
  v9 := Tryz.zeroValue9
  t20 := Tryz.underlying20
  a20 := Tryz.isAgg20
  z20 := Tryz.sizeOf20
  v20 := Tryz.zeroValue20
  t37 := Tryz.underlying65
  a37 := Tryz.isAgg65
  z37 := Tryz.sizeOf65
  v37 := Tryz.zeroValue65
  t46 := Tryz.underlying110
  a46 := Tryz.isAgg110
  z46 := Tryz.sizeOf110
  v46 := Tryz.zeroValue110
  t51 := Tryz.underlying127
  a51 := Tryz.isAgg127
  z51 := Tryz.sizeOf127
  v51 := Tryz.zeroValue127
  t53 := Tryz.underlying145
  a53 := Tryz.isAgg145
  z53 := Tryz.sizeOf145
  v53 := Tryz.zeroValue145
  t171 := Tryz.underlying146
  a171 := Tryz.isAgg146
  z171 := Tryz.sizeOf146
  v171 := Tryz.zeroValue146
  t173 := Tryz.underlying148
  a173 := Tryz.isAgg148
  z173 := Tryz.sizeOf148
  v173 := Tryz.zeroValue148
  t212 := Tryz.underlying162
  a212 := Tryz.isAgg162
  z212 := Tryz.sizeOf162
  v212 := Tryz.zeroValue162
  t213 := Tryz.underlying163
  a213 := Tryz.isAgg163
  z213 := Tryz.sizeOf163
  t232 := Tryz.underlying181
  a232 := Tryz.isAgg181
  z232 := Tryz.sizeOf181
  v232 := Tryz.zeroValue181
  t233 := Tryz.underlying182
  a233 := Tryz.isAgg182
  z233 := Tryz.sizeOf182
  v233 := Tryz.zeroValue182
  g17 := by kernel_rfl
  g18 := by kernel_rfl
  g19 := by kernel_rfl
  i0 := by kernel_rfl
  i2 := by kernel_rfl
  i3 := by kernel_rfl
  i4 := by kernel_rfl
  i5 := by kernel_rfl
  i9 := by kernel_rfl
  i20 := by kernel_rfl
  i37 := by kernel_rfl
  i46 := by kernel_rfl
  i51 := by kernel_rfl
  i53 := by kernel_rfl
  i171 := by kernel_rfl
  i173 := by kernel_rfl
  i212 := by kernel_rfl
  i232 := by kernel_rfl
  i233 := by kernel_rfl
  m17 := by kernel_rfl
  m18 := by kernel_rfl
  m19 := by kernel_rfl }
open Go.RowKit Go.Sort Go.Lib in
/-- strconv.Itoa: "Itoa is equivalent to FormatInt(int64(i), 10).": i's DECIMAL NUMERAL ('Lib.itoa': a '-' where i is negative, then the digits), FOR EVERY int. The world behind the call: the world before it, new blocks behind the heap (the library's 'var a [24]byte'), draws. (LAID: no walk: one application.) -/
theorem Tryz.strconv_Itoa (n : Int) (h0 : -9223372036854775808 ≤ n) (h1 : n ≤ 9223372036854775807) (w : World) (htab : Lib.TabIs Tryz.prog w "internal/strconv.uint64pow10" .u64 Lib.pow10Tab) :
    Calls Tryz.prog 95 #[.int .i64 n] w fun e w' => e = .returned (.string ⟨(Lib.itoa n).toArray⟩) ∧ ∃ k os, w' = grow (w.drewN k) os := Any.strconv_Itoa Tryz.laysM171 n h0 h1 w htab
def Tryz.laysC172_ren : Go.Shelf.Ren := ⟨fun | 172 => 123 | 244 => 135 | 245 => 136 | 247 => 153 | 279 => 154 | 280 => 155 | 281 => 156 | 282 => 157 | 287 => 168 | 316 => 169 | 171 => 95 | 205 => 170 | 321 => 174 | 322 => 175 | 243 => 112 | 246 => 127 | 283 => 147 | 284 => 148 | 285 => 149 | 286 => 150 | 129 => 146 | 317 => 163 | 318 => 164 | 319 => 165 | 320 => 166 | 337 => 172 | 338 => 173 | n => n, fun | 9 => 9 | 3 => 3 | 75 => 69 | 76 => 70 | 4 => 4 | 5 => 5 | 167 => 150 | 37 => 65 | 0 => 0 | 85 => 151 | 2 => 2 | 168 => 153 | 53 => 145 | 175 => 169 | 46 => 110 | 210 => 172 | 127 => 95 | 145 => 180 | 143 => 178 | 21 => 21 | 171 => 146 | 173 => 148 | 212 => 162 | 51 => 127 | 20 => 20 | 213 => 163 | 232 => 181 | 233 => 182 | 80 => 74 | n => n, fun | 15 => 4 | 16 => 5 | 17 => 1 | 18 => 6 | 19 => 7 | n => n⟩
theorem Tryz.laysC172 : Go.Proofs.LaysC.n172 Tryz.prog Tryz.laysC172_ren := {
  mixed := by kernel_rfl
  f129 := Tryz.func146.trans (congrArg some (by kernel_rfl))
  f171 := Tryz.func95.trans (congrArg some (by kernel_rfl))
  f172 := Tryz.func123.trans (congrArg some (by kernel_rfl))
  f205 := Tryz.func170.trans (congrArg some (by kernel_rfl))
  f243 := Tryz.func112.trans (congrArg some (by kernel_rfl))
  f244 := Tryz.func135.trans (congrArg some (by kernel_rfl))
  f245 := Tryz.func136.trans (congrArg some (by kernel_rfl))
  f246 := Tryz.func127.trans (congrArg some (by kernel_rfl))
  f247 := Tryz.func153.trans (congrArg some (by kernel_rfl))
  f279 := Tryz.func154.trans (congrArg some (by kernel_rfl))
  f280 := Tryz.func155.trans (congrArg some (by kernel_rfl))
  f281 := Tryz.func156.trans (congrArg some (by kernel_rfl))
  f282 := Tryz.func157.trans (congrArg some (by kernel_rfl))
  f283 := Tryz.func147.trans (congrArg some (by kernel_rfl))
  f284 := Tryz.func148.trans (congrArg some (by kernel_rfl))
  f285 := Tryz.func149.trans (congrArg some (by kernel_rfl))
  f286 := Tryz.func150.trans (congrArg some (by kernel_rfl))
  f287 := Tryz.func168.trans (congrArg some (by kernel_rfl))
  f316 := Tryz.func169.trans (congrArg some (by kernel_rfl))
  f317 := Tryz.func163.trans (congrArg some (by kernel_rfl))
  f318 := Tryz.func164.trans (congrArg some (by kernel_rfl))
  f319 := Tryz.func165.trans (congrArg some (by kernel_rfl))
  f320 := Tryz.func166.trans (congrArg some (by kernel_rfl))
  f321 := Tryz.func174.trans (congrArg some (by kernel_rfl))
  f322 := Tryz.func175.trans (congrArg some (by kernel_rfl))
  f337 := Tryz.func172.trans (congrArg some (by kernel_rfl))
  f338 := Tryz.func173.trans (congrArg some (by kernel_rfl))
  t0 := Tryz.underlying0
  a0 := Tryz.isAgg0
  z0 := Tryz.sizeOf0
  v0 := Tryz.zeroValue0
  t2 := Tryz.underlying2
  a2 := Tryz.isAgg2
  z2 := Tryz.sizeOf2
  v2 := Tryz.zeroValue2
  t3 := Tryz.underlying3
  a3 := Tryz.isAgg3
  z3 := Tryz.sizeOf3
  v3 := Tryz.zeroValue3
  t4 := Tryz.underlying4
  a4 := Tryz.isAgg4
  z4 := Tryz.sizeOf4
  v4 := Tryz.zeroValue4
  t5 := Tryz.underlying5
  a5 := Tryz.isAgg5
  z5 := Tryz.sizeOf5
  v5 := Tryz.zeroValue5
  t9 := Tryz.underlying9
  a9 := Tryz.isAgg9
  z9 := Tryz.sizeOf9
  v9 := Tryz.zeroValue9
  t20 := Tryz.underlying20
  a20 := Tryz.isAgg20
  z20 := Tryz.sizeOf20
  v20 := Tryz.zeroValue20
  t21 := Tryz.underlying21
  a21 := Tryz.isAgg21
  z21 := Tryz.sizeOf21
  v21 := Tryz.zeroValue21
  t37 := Tryz.underlying65
  a37 := Tryz.isAgg65
  z37 := Tryz.sizeOf65
  v37 := Tryz.zeroValue65
  t46 := Tryz.underlying110
  a46 := Tryz.isAgg110
  z46 := Tryz.sizeOf110
  v46 := Tryz.zeroValue110
  t51 := Tryz.underlying127
  a51 := Tryz.isAgg127
  z51 := Tryz.sizeOf127
  v51 := Tryz.zeroValue127
  t53 := Tryz.underlying145
  a53 := Tryz.isAgg145
  z53 := Tryz.sizeOf145
  v53 := Tryz.zeroValue145
  t75 := Tryz.underlying69
  a75 := Tryz.isAgg69
  z75 := Tryz.sizeOf69
  v75 := Tryz.zeroValue69
  t76 := Tryz.underlying70
  a76 := Tryz.isAgg70
  z76 := Tryz.sizeOf70
  v76 := Tryz.zeroValue70
  t85 := Tryz.underlying151
  a85 := Tryz.isAgg151
  z85 := Tryz.sizeOf151
  v85 := Tryz.zeroValue151
  t127 := Tryz.underlying95
  a127 := Tryz.isAgg95
  z127 := Tryz.sizeOf95
  v127 := Tryz.zeroValue95
  t143 := Tryz.underlying178
  a143 := Tryz.isAgg178
  z143 := Tryz.sizeOf178
  v143 := Tryz.zeroValue178
  t145 := Tryz.underlying180
  a145 := Tryz.isAgg180
  z145 := Tryz.sizeOf180
  v145 := Tryz.zeroValue180
  t167 := Tryz.underlying150
  a167 := Tryz.isAgg150
  z167 := Tryz.sizeOf150
  v167 := Tryz.zeroValue150
  t168 := Tryz.underlying153
  a168 := Tryz.isAgg153
  z168 := Tryz.sizeOf153
  v168 := Tryz.zeroValue153
  t171 := Tryz.underlying146
  a171 := Tryz.isAgg146
  z171 := Tryz.sizeOf146
  v171 := Tryz.zeroValue146
  t173 := Tryz.underlying148
  a173 := Tryz.isAgg148
  z173 := Tryz.sizeOf148
  v173 := Tryz.zeroValue148
  t175 := Tryz.underlying169
  a175 := Tryz.isAgg169
  z175 := Tryz.sizeOf169
  v175 := Tryz.zeroValue169
  t210 := Tryz.underlying172
  a210 := Tryz.isAgg172
  z210 := Tryz.sizeOf172
  v210 := Tryz.zeroValue172
  t212 := Tryz.underlying162
  a212 := Tryz.isAgg162
  z212 := Tryz.sizeOf162
  v212 := Tryz.zeroValue162
  t213 := Tryz.underlying163
  a213 := Tryz.isAgg163
  z213 := Tryz.sizeOf163
  t232 := Tryz.underlying181
  a232 := Tryz.isAgg181
  z232 := Tryz.sizeOf181
  v232 := Tryz.zeroValue181
  t233 := Tryz.underlying182
  a233 := Tryz.isAgg182
  z233 := Tryz.sizeOf182
  v233 := Tryz.zeroValue182
  g15 := by kernel_rfl
  g16 := by kernel_rfl
  g17 := by kernel_rfl
  g18 := by kernel_rfl
  g19 := by kernel_rfl
  t80 := Tryz.underlying74
  a80 := Tryz.isAgg74
  z80 := Tryz.sizeOf74
  v80 := Tryz.zeroValue74
  i0 := by kernel_rfl
  i2 := by kernel_rfl
  i3 := by kernel_rfl
  i4 := by kernel_rfl
  i5 := by kernel_rfl
  i9 := by kernel_rfl
  i20 := by kernel_rfl
  i21 := by kernel_rfl
  i37 := by kernel_rfl
  i46 := by kernel_rfl
  i51 := by kernel_rfl
  i53 := by kernel_rfl
  i75 := by kernel_rfl
  i76 := by kernel_rfl
  i80 := by kernel_rfl
  i85 := by kernel_rfl
  i127 := by kernel_rfl
  i143 := by kernel_rfl
  i145 := by kernel_rfl
  i167 := by kernel_rfl
  i168 := by kernel_rfl
  i171 := by kernel_rfl
  i173 := by kernel_rfl
  i175 := by kernel_rfl
  i210 := by kernel_rfl
  i212 := by kernel_rfl
  i232 := by kernel_rfl
  i233 := by kernel_rfl
  m15 := by kernel_rfl
  m16 := by kernel_rfl
  m17 := by kernel_rfl
  m18 := by kernel_rfl
  m19 := by kernel_rfl
  c0 := by kernel_rfl
  c2 := by kernel_rfl
  c3 := by kernel_rfl
  c4 := by kernel_rfl
  c5 := by kernel_rfl
  c9 := by kernel_rfl
  c20 := by kernel_rfl
  c21 := by kernel_rfl
  c37 := by kernel_rfl
  c46 := by kernel_rfl
  c51 := by kernel_rfl
  c53 := by kernel_rfl
  c75 := by kernel_rfl
  c76 := by kernel_rfl
  c80 := by kernel_rfl
  c85 := by kernel_rfl
  c127 := by kernel_rfl
  c143 := by kernel_rfl
  c145 := by kernel_rfl
  c167 := by kernel_rfl
  c168 := by kernel_rfl
  c171 := by kernel_rfl
  c173 := by kernel_rfl
  c175 := by kernel_rfl
  c210 := by kernel_rfl
  c212 := by kernel_rfl
  c213 := by kernel_rfl
  c232 := by kernel_rfl
  c233 := by kernel_rfl }
open Go.RowKit in
/-- strconv.Atoi, AT EVERY STRING THAT SPELLS AN int ('Lib.atoiAll .. = .ok v'; of whatever length: leading zeros count): v, AND NO ERROR. The world: as it was, or with the one new row that '[]byte(..)' lays. (LAID: no walk: one application.) -/
theorem Tryz.strconv_Atoi_ok (s : ByteArray) (hmax : s.size ≤ 9223372036854775806) (v : Int) (h : Lib.atoiAll s.data.toList = .ok v) (w : World) :
    Calls Tryz.prog 123 #[.string s] w fun e w' => e = .returned (.tuple #[.int .i64 v, .nilIface]) ∧ (w' = w ∨ ∃ t, w' = Lib.bytesWorld w 5 t) := Any.strconv_Atoi_ok Tryz.laysC172 s hmax v h w
open Go.RowKit in
theorem Tryz.strconv_Atoi_range_var (s : ByteArray) (hlim : s.size ≤ 281474976710656) (h : Lib.atoiAll s.data.toList = .range) (tp : TypeId) (p : Value) (w : World) (hvar : w.var? Tryz.prog "strconv.ErrRange" = some #[.iface tp p]) :
    Calls Tryz.prog 123 #[.string s] w fun e w' => ∃ N, e = .returned (.tuple #[.int .i64 (Lib.atoiSat s.data.toList), .iface 153 (.pointer (some ⟨N, 0, none⟩))]) ∧ w.heap.size ≤ N ∧ w'.heap[N]? = some (.cells #[.string ⟨#[65, 116, 111, 105]⟩, .string s, .iface tp p] 172 (0, 0)) ∧ Below w.heap.size w w' := Any.strconv_Atoi_range_var Tryz.laysC172 s hlim h tp p w hvar
def Tryz.lays145_ren : Go.Shelf.Ren := ⟨fun | 145 => 53 | 220 => 79 | 219 => 98 | 217 => 114 | 225 => 115 | 224 => 116 | 267 => 117 | 266 => 129 | 314 => 130 | n => n, fun | 9 => 9 | 4 => 4 | 59 => 75 | 3 => 3 | 5 => 5 | 46 => 110 | 146 => 128 | 51 => 127 | n => n, fun | 1 => 0 | n => n⟩
theorem Tryz.lays145 : Go.Proofs.Lays.n145 Tryz.prog Tryz.lays145_ren := {
  mixed := by kernel_rfl
  f145 := Tryz.func53.trans (congrArg some (by kernel_rfl))
  f217 := Tryz.func114.trans (congrArg some (by kernel_rfl))
  f219 := Tryz.func98.trans (congrArg some (by kernel_rfl))
  f220 := Tryz.func79.trans (congrArg some (by kernel_rfl))
  f224 := Tryz.func116.trans (congrArg some (by kernel_rfl))
  f225 := Tryz.func115.trans (congrArg some (by kernel_rfl))
  f266 := Tryz.func129.trans (congrArg some (by kernel_rfl))
  f267 := Tryz.func117.trans (congrArg some (by kernel_rfl))
  f314 := Tryz.func130.trans (congrArg some (by kernel_rfl))
  t3 := Tryz.underlying3
  a3 := Tryz.isAgg3
  z3 := Tryz.sizeOf3
  v3 := Tryz.zeroValue3
  t4 := Tryz.underlying4
  a4 := Tryz.isAgg4
  z4 := Tryz.sizeOf4
  v4 := Tryz.zeroValue4
  t5 := Tryz.underlying5
  a5 := Tryz.isAgg5
  z5 := Tryz.sizeOf5
  v5 := Tryz.zeroValue5
  t9 := Tryz.underlying9
  a9 := Tryz.isAgg9
  z9 := Tryz.sizeOf9
  v9 := Tryz.zeroValue9
  t46 := Tryz.underlying110
  a46 := Tryz.isAgg110
  z46 := Tryz.sizeOf110
  v46 := Tryz.zeroValue110
  t51 := Tryz.underlying127
  a51 := Tryz.isAgg127
  z51 := Tryz.sizeOf127
  v51 := Tryz.zeroValue127
  t59 := Tryz.underlying75
  a59 := Tryz.isAgg75
  z59 := Tryz.sizeOf75
  v59 := Tryz.zeroValue75
  t146 := Tryz.underlying128
  a146 := Tryz.isAgg128
  z146 := Tryz.sizeOf128
  v146 := Tryz.zeroValue128
  g1 := by kernel_rfl }
open Go.RowKit Go.Lib in
/-- strings.Cut: "Cut slices s around the first instance of sep, returning the text before and after sep. The found result reports whether sep appears in s. If sep does not appear in s, cut returns s, "", false.": IT RETURNS 'Lib.cut s sep'; the world is as it was but for the count of draws. (LAID: no walk: one application.) -/
theorem Tryz.strings_Cut (s sep : ByteArray) (m : Int) (w : World) (hs : s.size < 4294967281) (hm : w.cell? ⟨0, 0, none⟩ = some (.int .i64 m)) :
    Calls Tryz.prog 53 #[.string s, .string sep] w fun e w' => e = .returned (.tuple #[.string ⟨(Lib.cut s.data.toList sep.data.toList).1.toArray⟩, .string ⟨(Lib.cut s.data.toList sep.data.toList).2.1.toArray⟩, .bool (Lib.cut s.data.toList sep.data.toList).2.2]) ∧ ∃ n, w' = w.drewN n := Any.strings_Cut Tryz.lays145 s sep m w hs hm
def Tryz.lays101_ren : Go.Shelf.Ren := ⟨fun | 101 => 134 | 208 => 152 | 206 => 167 | n => n, fun | 9 => 9 | 4 => 4 | 3 => 3 | n => n, fun | n => n⟩
theorem Tryz.lays101 : Go.Proofs.Lays.n101 Tryz.prog Tryz.lays101_ren := {
  mixed := by kernel_rfl
  f101 := Tryz.func134.trans (congrArg some (by kernel_rfl))
  f206 := Tryz.func167.trans (congrArg some (by kernel_rfl))
  f208 := Tryz.func152.trans (congrArg some (by kernel_rfl))
  t3 := Tryz.underlying3
  a3 := Tryz.isAgg3
  z3 := Tryz.sizeOf3
  v3 := Tryz.zeroValue3
  t4 := Tryz.underlying4
  a4 := Tryz.isAgg4
  z4 := Tryz.sizeOf4
  v4 := Tryz.zeroValue4
  t9 := Tryz.underlying9
  a9 := Tryz.isAgg9
  z9 := Tryz.sizeOf9
  v9 := Tryz.zeroValue9 }
open Go.RowKit Go.Lib in
/-- strings.TrimPrefix: "TrimPrefix returns s without the provided leading prefix string. If s doesn't start with prefix, s is returned unchanged.": IT RETURNS 'Lib.trimPrefix s prefix'; the world is as it was. (LAID: no walk: one application.) -/
theorem Tryz.strings_TrimPrefix (s p : ByteArray) (w : World) :
    Calls Tryz.prog 134 #[.string s, .string p] w fun e w' => e = .returned (.string ⟨(Lib.trimPrefix s.data.toList p.data.toList).toArray⟩) ∧ w' = w := Any.strings_TrimPrefix Tryz.lays101 s p w
end Go.Proofs
end

section
/-
  Contracts of Lower, letter, digit and Clean (program and specification). Condition: at most 1000000000 bytes.
-/
set_option maxRecDepth 100000
set_option linter.unusedVariables false
set_option linter.unusedSimpArgs false
set_option linter.unnecessarySimpa false
namespace Go.Proofs.YtgepcbggkfjlgaaGreatDoor
open Go.RowKit Go.PlainAid



def lowS (s : ByteArray) : ByteArray := ⟨(lowL s.data.toList).toArray⟩
theorem lowS_size (s : ByteArray) : (lowS s).size = s.size := by unfold lowS; rw [Lib.size_mk, lowL_length, ← Lib.size_eq]
theorem letter_any (c : Int) (w : World) (h0 : 0 ≤ c) (h1 : c ≤ 255) :
    Calls Tryz.prog 110 #[.int .u8 c] w fun e w' => e = .returned (.bool (ltrI c)) ∧ w = w' := by
  by_cases a1 : 65 ≤ c <;> by_cases a2 : c ≤ 90 <;> by_cases a3 : 97 ≤ c <;> by_cases a4 : c ≤ 122 <;> try omega
  all_goals
    have HE := Lib.hid (show ltrI c = _ by unfold ltrI; simp only [a1, a2, a3, a4, decide_true, decide_false, Bool.and_true, Bool.and_false, Bool.or_true, Bool.or_false]; rfl)
    go_enter Tryz.func110, Tryz.ntmps110
    go_wp2
    go_ret
    exact ⟨by rw [HE.out]; rfl, rfl⟩

theorem rLetter_any (c : Int) (w : World) (h0 : 0 ≤ c) (h1 : c ≤ 255) :
    Calls Tryz.prog 60 #[.int .u8 c] w fun e w' => e = .returned (.bool (ltrI c)) ∧ w = w' := by
  by_cases a1 : 65 ≤ c <;> by_cases a2 : c ≤ 90 <;> by_cases a3 : 97 ≤ c <;> by_cases a4 : c ≤ 122 <;> try omega
  all_goals
    have HE := Lib.hid (show ltrI c = _ by unfold ltrI; simp only [a1, a2, a3, a4, decide_true, decide_false, Bool.and_true, Bool.and_false, Bool.or_true, Bool.or_false]; rfl)
    go_enter Tryz.func60, Tryz.ntmps60
    go_wp2
    go_ret
    exact ⟨by rw [HE.out]; rfl, rfl⟩

theorem digit_any (c : Int) (w : World) (h0 : 0 ≤ c) (h1 : c ≤ 255) :
    Calls Tryz.prog 111 #[.int .u8 c] w fun e w' => e = .returned (.bool (dgtI c)) ∧ w = w' := by
  by_cases a1 : 48 ≤ c <;> by_cases a2 : c ≤ 57
  all_goals
    have HE := Lib.hid (show dgtI c = _ by unfold dgtI; simp only [a1, a2, decide_true, decide_false, Bool.and_true, Bool.and_false]; rfl)
    go_enter Tryz.func111, Tryz.ntmps111
    go_wp2
    go_ret
    exact ⟨by rw [HE.out]; rfl, rfl⟩

theorem rDigit_any (c : Int) (w : World) (h0 : 0 ≤ c) (h1 : c ≤ 255) :
    Calls Tryz.prog 61 #[.int .u8 c] w fun e w' => e = .returned (.bool (dgtI c)) ∧ w = w' := by
  by_cases a1 : 48 ≤ c <;> by_cases a2 : c ≤ 57
  all_goals
    have HE := Lib.hid (show dgtI c = _ by unfold dgtI; simp only [a1, a2, decide_true, decide_false, Bool.and_true, Bool.and_false]; rfl)
    go_enter Tryz.func61, Tryz.ntmps61
    go_wp2
    go_ret
    exact ⟨by rw [HE.out]; rfl, rfl⟩

set_option maxRecDepth 100000 in
set_option maxHeartbeats 1000000 in
theorem clean_s (s : ByteArray) (w : World) (hs : s.size ≤ 1000000000) :
    Calls Tryz.prog 70 #[.string s] w fun e w' => e = .returned (.bool (cleanB s)) ∧ w = w' := by
  have hb := get_bt s
  by_cases hz : 1 ≤ s.size
  · by_cases hz2 : s.size ≤ 256
    · go_enter Tryz.func70, Tryz.ntmps70
      go_wp2
      go_loop [14] (fun i => ∃ k : Nat, k ≤ s.size ∧ i = .int .i64 k ∧ Hid (∀ j, j < k → cleanP (bt s j) = true)) (fun i => s.size - (intOf i).toNat)
      case atStart => exact ⟨0, Nat.zero_le _, rfl, Lib.hid fun j hj => absurd hj (Nat.not_lt_zero _)⟩
      case round =>
        obtain ⟨k, hk, rfl, HA⟩ := hrel
        have h0 := bt_nonneg s k
        have h255 := bt_le s k
        by_cases hlt : k < s.size
        · by_cases a1 : bt s k < 32
          · have HE := Lib.hid (show cleanB s = false by unfold cleanB; rw [allB_false k hlt (by unfold cleanP; simp; omega), Bool.and_false])
            go_wp2
            go_ret
            exact ⟨by rw [HE.out]; rfl, rfl⟩
          · by_cases a2 : 126 < bt s k
            · have HE := Lib.hid (show cleanB s = false by unfold cleanB; rw [allB_false k hlt (by unfold cleanP; simp; omega), Bool.and_false])
              go_wp2
              go_ret
              exact ⟨by rw [HE.out]; rfl, rfl⟩
            · go_wp2
              go_round
              case rel => exact ⟨k + 1, by omega, by go_num, Lib.hid (all_next HA.out (by unfold cleanP; simp; omega))⟩
              case measure => simp [intOf]; omega
        · have hkk : k = s.size := by omega
          have HB := Lib.hid (allB_true (p := cleanP) (s := s) fun j hj => HA.out j (by omega))
          clear hkk
          by_cases b1 : (bt s 0 == 32) = true
          · have HE := Lib.hid (show cleanB s = false by unfold cleanB; simp [b1])
            have b2 : (bt s 0 != 32) = false := by rw [bne, b1]; rfl
            clear b1
            go_wp2
            go_ret
            exact ⟨by rw [HE.out]; rfl, rfl⟩
          · have b2 : (bt s 0 != 32) = true := by rw [bne]; simp [b1]
            have hsub : IntKind.i64.wrap ((s.size : Int) - 1) = ((s.size - 1 : Nat) : Int) := by rw [IntWalk.i64_in _ ⟨by omega, by omega⟩]; omega
            by_cases b3 : (bt s (s.size - 1) == 32) = true
            · have HE := Lib.hid (show cleanB s = false by unfold cleanB; simp [b3])
              have b4 : (bt s (s.size - 1) != 32) = false := by rw [bne, b3]; rfl
              clear b1 b3
              go_wp2
              go_ret
              exact ⟨by rw [HE.out]; rfl, rfl⟩
            · have HE := Lib.hid (show cleanB s = true by unfold cleanB; rw [HB.out]; simp [hz, hz2]; exact ⟨by simpa using b1, by simpa using b3⟩)
              have b4 : (bt s (s.size - 1) != 32) = true := by rw [bne]; simp [b3]
              clear b1 b3
              go_wp2
              go_ret
              exact ⟨by rw [HE.out]; rfl, rfl⟩
    · have HE := Lib.hid (show cleanB s = false by unfold cleanB; simp [hz2])
      go_enter Tryz.func70, Tryz.ntmps70
      go_wp2
      go_ret
      exact ⟨by rw [HE.out]; rfl, rfl⟩
  · have HE := Lib.hid (show cleanB s = false by unfold cleanB; simp [hz])
    go_enter Tryz.func70, Tryz.ntmps70
    go_wp2
    go_ret
    exact ⟨by rw [HE.out]; rfl, rfl⟩


end Go.Proofs.YtgepcbggkfjlgaaGreatDoor
end

section
/-
  Contracts of the specification's Clean, of Name and of the specification's Name. Condition: at most 1000000000 bytes.
-/
set_option maxRecDepth 100000
set_option linter.unusedVariables false
set_option linter.unusedSimpArgs false
set_option linter.unnecessarySimpa false
namespace Go.Proofs.YtgepcbggkfjlgaaGreatDoor
open Go.RowKit Go.PlainAid



set_option maxRecDepth 100000 in
set_option maxHeartbeats 1000000 in
theorem rClean_s (s : ByteArray) (w : World) (hs : s.size ≤ 1000000000) :
    Calls Tryz.prog 35 #[.string s] w fun e w' => e = .returned (.bool (cleanB s)) ∧ w = w' := by
  have hb := get_bt s
  by_cases hz : 1 ≤ s.size
  · by_cases hz2 : s.size ≤ 256
    · by_cases b1 : (bt s 0 == 32) = true
      · have HE := Lib.hid (show cleanB s = false by unfold cleanB; simp [b1])
        go_enter Tryz.func35, Tryz.ntmps35
        go_wp2
        go_ret
        exact ⟨by rw [HE.out]; rfl, rfl⟩
      · have b2 : (bt s 0 == 32) = false := by simpa using b1
        clear b1
        have hsub : IntKind.i64.wrap ((s.size : Int) - 1) = ((s.size - 1 : Nat) : Int) := by rw [IntWalk.i64_in _ ⟨by omega, by omega⟩]; omega
        by_cases b3 : (bt s (s.size - 1) == 32) = true
        · have HE := Lib.hid (show cleanB s = false by unfold cleanB; simp [b3])
          go_enter Tryz.func35, Tryz.ntmps35
          go_wp2
          go_ret
          exact ⟨by rw [HE.out]; rfl, rfl⟩
        · have b4 : (bt s (s.size - 1) == 32) = false := by simpa using b3
          clear b3
          go_enter Tryz.func35, Tryz.ntmps35
          go_wp2
          have B2 := Lib.hid b2
          have B4 := Lib.hid b4
          clear b2 b4 hsub
          go_loop [3] (fun i => ∃ k : Nat, k ≤ s.size ∧ i = .int .i64 k ∧ Hid (∀ j, j < k → cleanP (bt s j) = true)) (fun i => s.size - (intOf i).toNat)
          case atStart => exact ⟨0, Nat.zero_le _, rfl, Lib.hid fun j hj => absurd hj (Nat.not_lt_zero _)⟩
          case round =>
            obtain ⟨k, hk, rfl, HA⟩ := hrel
            have h0 := bt_nonneg s k
            have h255 := bt_le s k
            by_cases hlt : k < s.size
            · by_cases a1 : bt s k < 32
              · have HE := Lib.hid (show cleanB s = false by unfold cleanB; rw [allB_false k hlt (by unfold cleanP; simp; omega), Bool.and_false])
                go_wp2
                go_ret
                exact ⟨by rw [HE.out]; rfl, rfl⟩
              · by_cases a2 : 126 < bt s k
                · have HE := Lib.hid (show cleanB s = false by unfold cleanB; rw [allB_false k hlt (by unfold cleanP; simp; omega), Bool.and_false])
                  go_wp2
                  go_ret
                  exact ⟨by rw [HE.out]; rfl, rfl⟩
                · go_wp2
                  go_round
                  case rel => exact ⟨k + 1, by omega, by go_num, Lib.hid (all_next HA.out (by unfold cleanP; simp; omega))⟩
                  case measure => simp [intOf]; omega
            · have HE := Lib.hid (show cleanB s = true by
                unfold cleanB; rw [allB_true (p := cleanP) (s := s) fun j hj => HA.out j (by omega), B2.out, B4.out]; simp [hz, hz2])
              go_wp2
              go_ret
              exact ⟨by rw [HE.out]; rfl, rfl⟩
    · have HE := Lib.hid (show cleanB s = false by unfold cleanB; simp [hz2])
      go_enter Tryz.func35, Tryz.ntmps35
      go_wp2
      go_ret
      exact ⟨by rw [HE.out]; rfl, rfl⟩
  · have HE := Lib.hid (show cleanB s = false by unfold cleanB; simp [hz])
    go_enter Tryz.func35, Tryz.ntmps35
    go_wp2
    go_ret
    exact ⟨by rw [HE.out]; rfl, rfl⟩

end Go.Proofs.YtgepcbggkfjlgaaGreatDoor
end
