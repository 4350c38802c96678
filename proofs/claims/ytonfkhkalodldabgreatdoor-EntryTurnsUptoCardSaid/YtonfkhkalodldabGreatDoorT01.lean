/-
  Texts of the schema layer and of those beneath it, joined: FoldA, FoldB, FoldC, BaseLow, BaseE, FoldD, FoldLow, ShelfA, FoldTrim, FoldFold, FoldE, FoldF. Conditions stand at each contract.
-/
import Derived.Lib.Strings
import Derived.Lib.TrimByte
import Derived.Lib.Small
import Derived.PlainAid
import Derived.WalkKit
import Derived.WalkSpells
import Derived.Laws.IdiomStrings
import Derived.Handy
import Derived.Lib.Hide
import Derived.Lib.IndexMore
import Derived.Lib.Bytealg
import GoSem.Op.String
import Derived.Shelf.Strings.Builder1
import Derived.Shelf.Strings.Trim
import Derived.Shelf.Small.Strs
import Derived.Shelf.LaysM
import Derived.Shelf.Strconv.Itoa3
import Derived.Shelf.LaysC
import Derived.Shelf.Strconv.AtoiAll
import Derived.Shelf.Strconv.ErrVarAll
import Derived.Shelf.Strings.Prefix
import Derived.Ground.SlgnProg
import Derived.Ground.SlgfProg
import Derived.Ground.SlgmProg
import Derived.Test.YtonfkhkalodldabGreatDoorRows
import Derived.Test.YtonfkhkalodldabGreatDoorProg
set_option linter.unusedVariables false
set_option linter.unusedSimpArgs false
set_option linter.unnecessarySimpa false

section
set_option maxRecDepth 100000
namespace Go.Proofs.YtonfkhkalodldabGreatDoor
open Go.PlainAid
def lowB (c : UInt8) : UInt8 := if 65 ≤ c.toNat ∧ c.toNat ≤ 90 then c + 32 else c
def lowL (l : List UInt8) : List UInt8 := l.map lowB
def bcells (l : List UInt8) : List Value := l.map fun b => Value.int .u8 (b.toNat : Int)
theorem bcells_length (l : List UInt8) : (bcells l).length = l.length := by simp [bcells]
theorem bcells_append (l m : List UInt8) : bcells (l ++ m) = bcells l ++ bcells m := by simp [bcells]
theorem bt_at (s : ByteArray) (k : Nat) (h : k < s.size) : bt s k = ((s.data.toList[k]'(by simpa using h)).toNat : Int) := by
 unfold bt; rw [dif_pos h]; rfl
theorem lowB_hit (c : UInt8) (h1 : 65 ≤ (c.toNat : Int)) (h2 : (c.toNat : Int) ≤ 90) : ((lowB c).toNat : Int) = (c.toNat : Int) + 32 := by
 unfold lowB
 rw [if_pos ⟨by omega, by omega⟩, UInt8.toNat_add]
 have : (32 : UInt8).toNat = 32 := rfl
 omega
theorem lowB_miss (c : UInt8) (h : ¬ (65 ≤ (c.toNat : Int) ∧ (c.toNat : Int) ≤ 90)) : lowB c = c := by
 unfold lowB
 rw [if_neg (by omega)]
theorem take_succ (s : ByteArray) (k : Nat) (h : k < s.size) : s.data.toList.take (k + 1) = s.data.toList.take k ++ [s.data.toList[k]'(by simpa using h)] := by
 rw [List.take_succ_eq_append_getElem (by simpa using h)]
theorem low_step_hit (s : ByteArray) (k : Nat) (h : k < s.size) (h1 : 65 ≤ bt s k) (h2 : bt s k ≤ 90) :
  bcells (lowL (s.data.toList.take (k + 1))) = bcells (lowL (s.data.toList.take k)) ++ [Value.int .u8 (bt s k + 32)] := by
 rw [bt_at s k h] at *
 rw [take_succ s k h]
 simp only [lowL, bcells, List.map_append, List.map_cons, List.map_nil, lowB_hit _ h1 h2]
theorem low_step_miss (s : ByteArray) (k : Nat) (h : k < s.size) (h1 : ¬ (65 ≤ bt s k ∧ bt s k ≤ 90)) :
  bcells (lowL (s.data.toList.take (k + 1))) = bcells (lowL (s.data.toList.take k)) ++ [Value.int .u8 (bt s k)] := by
 rw [bt_at s k h] at *
 rw [take_succ s k h]
 simp only [lowL, bcells, List.map_append, List.map_cons, List.map_nil, lowB_miss _ h1]
theorem low_step (s : ByteArray) (k : Nat) (h : k < s.size) :
  (65 ≤ bt s k → bt s k ≤ 90 → bcells (lowL (s.data.toList.take (k + 1))) = bcells (lowL (s.data.toList.take k)) ++ [Value.int .u8 (bt s k + 97 - 65)]) ∧
  (¬ (65 ≤ bt s k ∧ bt s k ≤ 90) → bcells (lowL (s.data.toList.take (k + 1))) = bcells (lowL (s.data.toList.take k)) ++ [Value.int .u8 (bt s k)]) :=
 ⟨fun h1 h2 => by rw [low_step_hit s k h h1 h2]; congr 3; omega, fun h1 => low_step_miss s k h h1⟩
def mixI (s : ByteArray) (k j : Nat) : Int := if j < k then (if 65 ≤ bt s j ∧ bt s j ≤ 90 then bt s j + 32 else bt s j) else bt s j
theorem mixI_zero (s : ByteArray) (j : Nat) : mixI s 0 j = bt s j := by unfold mixI; rw [if_neg (by omega)]
theorem mixI_self (s : ByteArray) (k : Nat) : mixI s k k = bt s k := by unfold mixI; rw [if_neg (by omega)]
theorem mixI_other (s : ByteArray) (k j : Nat) (h : j ≠ k) : mixI s (k + 1) j = mixI s k j := by
 unfold mixI
 by_cases h1 : j < k
 ·rw [if_pos h1, if_pos (by omega)]
 ·rw [if_neg h1, if_neg (by omega)]
theorem mixI_hit (s : ByteArray) (k : Nat) (h1 : 65 ≤ bt s k) (h2 : bt s k ≤ 90) : mixI s (k + 1) k = bt s k + 32 := by
 unfold mixI; rw [if_pos (by omega), if_pos ⟨h1, h2⟩]
theorem mixI_miss (s : ByteArray) (k : Nat) (h : ¬ (65 ≤ bt s k ∧ bt s k ≤ 90)) : mixI s (k + 1) k = bt s k := by
 unfold mixI; rw [if_pos (by omega), if_neg h]
theorem mixI_end (s : ByteArray) (j : Nat) (h : j < (lowL s.data.toList).length) : mixI s s.size j = (((lowL s.data.toList)[j]).toNat : Int) := by
 have hj : j < s.size := by rw [Lib.size_eq]; simpa [lowL] using h
 unfold mixI
 rw [if_pos hj, bt_at s j hj]
 simp only [lowL, List.getElem_map]
 by_cases hA : 65 ≤ ((s.data.toList[j]'(by simpa using hj)).toNat : Int) ∧ ((s.data.toList[j]'(by simpa using hj)).toNat : Int) ≤ 90
 ·rw [if_pos hA, lowB_hit _ hA.1 hA.2]
 ·rw [if_neg hA, lowB_miss _ hA]
theorem lowL_length (l : List UInt8) : (lowL l).length = l.length := by simp [lowL]
def dr (s : ByteArray) (k : Nat) : ByteArray := ⟨(s.data.toList.drop k).toArray⟩
def tk (s : ByteArray) (k : Nat) : ByteArray := ⟨(s.data.toList.take k).toArray⟩
theorem tk_all (s : ByteArray) : tk s s.size = s := by unfold tk; rw [Lib.size_eq, List.take_length, Lib.mk_data]
theorem dr_size (s : ByteArray) (k : Nat) : (dr s k).size = s.size - k := by unfold dr; rw [Lib.size_mk, List.length_drop, ← Lib.size_eq]
theorem bt_list (s : ByteArray) (k : Nat) (c : UInt8) (h : s.data.toList[k]? = some c) : bt s k = (c.toNat : Int) := by
 have hk : k < s.size := by
  rw [Lib.size_eq]; exact (List.getElem?_eq_some_iff.1 h).1
 rw [bt_at s k hk]
 have := List.getElem?_eq_getElem (l := s.data.toList) (i := k) (by simpa using hk)
 rw [this] at h
 rw [Option.some.inj h]
theorem byte_32 (c : UInt8) (h : (c.toNat : Int) = 32) : c = 32 := UInt8.toNat_inj.1 (by have : (32 : UInt8).toNat = 32 := rfl; omega)
theorem right_cons (x : UInt8) (l : List UInt8) : Lib.trimRightB (x :: l) 32 = if (x == 32) = true ∧ Lib.trimRightB l 32 = [] then [] else x :: Lib.trimRightB l 32 := by
 unfold Lib.trimRightB
 rw [List.reverse_cons, List.dropWhile_append]
 by_cases h : (l.reverse.dropWhile (· == 32)) = []
 ·rw [h]
  by_cases hx : (x == 32) = true
  ·simp [List.dropWhile, hx]
  ·simp [List.dropWhile, hx]
 ·have h1 : (l.reverse.dropWhile (· == 32)).isEmpty = false := by cases e : l.reverse.dropWhile (· == 32) <;> simp_all
  rw [h1, if_neg (by simp), if_neg (by simp [h]), List.reverse_append]
  simp
theorem trim_swap (l : List UInt8) : Lib.trimLeftB (Lib.trimRightB l 32) 32 = Lib.trimRightB (Lib.trimLeftB l 32) 32 := by
 induction l with
 | nil => rfl
 | cons x l ih =>
  rw [right_cons]
  by_cases hx : (x == 32) = true
  ·have e : Lib.trimLeftB (x :: l) 32 = Lib.trimLeftB l 32 := by unfold Lib.trimLeftB; rw [List.dropWhile_cons, if_pos hx]
   rw [e, ← ih]
   by_cases h : Lib.trimRightB l 32 = []
   ·rw [if_pos ⟨hx, h⟩, h]
   ·rw [if_neg (fun h2 => h h2.2)]
    unfold Lib.trimLeftB
    rw [List.dropWhile_cons, if_pos hx]
  ·have e : Lib.trimLeftB (x :: l) 32 = x :: l := by unfold Lib.trimLeftB; rw [List.dropWhile_cons, if_neg hx]
   rw [e, right_cons, if_neg (fun h2 => hx h2.1)]
   unfold Lib.trimLeftB
   rw [List.dropWhile_cons, if_neg hx]
def trimR (l : List UInt8) : List UInt8 := Lib.trimRightB (Lib.trimLeftB l 32) 32
def sqN (l : List UInt8) : Nat → List UInt8
 | 0 => []
 | k + 1 => sqN l k ++ (if l.getD k 0 = 32 ∧ 0 < k ∧ l.getD (k - 1) 0 = 32 then [] else [l.getD k 0])
def sqL (l : List UInt8) : List UInt8 := sqN l l.length
theorem sqN_le (l : List UInt8) : ∀ k, (sqN l k).length ≤ k
 | 0 => by simp [sqN]
 | k + 1 => by
  have := sqN_le l k
  simp only [sqN, List.length_append]
  split <;> simp <;> omega
theorem bt_getD (s : ByteArray) (k : Nat) : bt s k = ((s.data.toList.getD k 0).toNat : Int) := by
 by_cases h : k < s.size
 ·rw [bt_at s k h, List.getD_eq_getElem?_getD, List.getElem?_eq_getElem (by simpa using h)]; rfl
 ·rw [bt_end s (by omega), List.getD_eq_getElem?_getD, List.getElem?_eq_none (by rw [← Lib.size_eq]; omega)]; rfl
theorem getD_32 (s : ByteArray) (k : Nat) : s.data.toList.getD k 0 = 32 ↔ bt s k = 32 := by
 rw [bt_getD]
 constructor
 ·intro h; rw [h]; rfl
 ·intro h; exact byte_32 _ h
theorem sq_skip (s : ByteArray) (k : Nat) (h1 : bt s k = 32) (h2 : 0 < k) (h3 : bt s (k - 1) = 32) : sqN s.data.toList (k + 1) = sqN s.data.toList k := by
 simp only [sqN]
 rw [if_pos ⟨(getD_32 s k).2 h1, h2, (getD_32 s (k - 1)).2 h3⟩, List.append_nil]
theorem sq_keep (s : ByteArray) (k : Nat) (h : ¬ (bt s k = 32 ∧ 0 < k ∧ bt s (k - 1) = 32)) : bcells (sqN s.data.toList (k + 1)) = bcells (sqN s.data.toList k) ++ [Value.int .u8 (bt s k)] := by
 simp only [sqN]
 rw [if_neg (by rw [getD_32, getD_32]; exact h), bcells_append, bt_getD]
 rfl
theorem sq_keep_len (s : ByteArray) (k : Nat) (h : ¬ (bt s k = 32 ∧ 0 < k ∧ bt s (k - 1) = 32)) : (sqN s.data.toList (k + 1)).length = (sqN s.data.toList k).length + 1 := by
 simp only [sqN]
 rw [if_neg (by rw [getD_32, getD_32]; exact h)]
 simp
def ltrI (c : Int) : Bool := (decide (65 ≤ c) && decide (c ≤ 90)) || (decide (97 ≤ c) && decide (c ≤ 122))
def dgtI (c : Int) : Bool := decide (48 ≤ c) && decide (c ≤ 57)
def nameP (c : Int) : Bool := ltrI c || dgtI c || c == 45
def cleanP (c : Int) : Bool := decide (32 ≤ c) && decide (c ≤ 126)
def allB (p : Int → Bool) (s : ByteArray) : Bool := (List.range s.size).all fun j => p (bt s j)
def cleanB (s : ByteArray) : Bool := decide (1 ≤ s.size) && decide (s.size ≤ 256) && !(bt s 0 == 32) && !(bt s (s.size - 1) == 32) && allB cleanP s
def nameB (s : ByteArray) : Bool := decide (1 ≤ s.size) && decide (s.size ≤ 64) && ltrI (bt s 0) && allB nameP s
theorem allB_true {p : Int → Bool} {s : ByteArray} (h : ∀ j, j < s.size → p (bt s j) = true) : allB p s = true := by
 unfold allB; rw [List.all_eq_true]; intro j hj; exact h j (List.mem_range.1 hj)
theorem allB_false {p : Int → Bool} {s : ByteArray} (k : Nat) (hk : k < s.size) (h : p (bt s k) = false) : allB p s = false := by
 unfold allB; rw [List.all_eq_false]; exact ⟨k, List.mem_range.2 hk, by simp [h]⟩
theorem allB_iff {p : Int → Bool} {s : ByteArray} : allB p s = true ↔ ∀ j, j < s.size → p (bt s j) = true := by
 unfold allB; rw [List.all_eq_true]
 exact ⟨fun h j hj => h j (List.mem_range.2 hj), fun h j hj => h j (List.mem_range.1 hj)⟩
theorem all_next {p : Int → Bool} {s : ByteArray} {k : Nat} (h : ∀ j, j < k → p (bt s j) = true) (hk : p (bt s k) = true) : ∀ j, j < k + 1 → p (bt s j) = true := fun j hj => by
 by_cases e : j = k
 ·rw [e]; exact hk
 ·exact h j (by omega)
end Go.Proofs.YtonfkhkalodldabGreatDoor
end

section
set_option maxRecDepth 100000
namespace Go.Proofs.YtonfkhkalodldabGreatDoor
open Go.RowKit Go.PlainAid
theorem info5 : (Tryz.prog.info? 5).map (fun i => (i.zero, i.size, i.bytes)) = some (some (.int .u8 0), 1, 1) := by kernel_rfl
theorem bcells_at (l : List UInt8) (j : Nat) (h : j < l.length) : (bcells l)[j]? = some (.int .u8 (l[j].toNat : Int)) := by
 simp [bcells, h]
theorem back {w : World} {base : Nat} {v : Value} {l : List UInt8} (h : w.ownsRow base 5 1 v l.length (bcells l)) :
  (convert 93 9 v).run Tryz.prog w = .ok (.string ⟨l.toArray⟩) w := by
 have h0 := h
 rcases h with ⟨_, ⟨rfl, hl⟩ | ⟨g, cap, cur, rfl, h2, h3, h4, h5, h6⟩⟩
 ·have : l = [] := by cases l <;> simp_all [bcells]
  subst this
  exact run_convert_bytes_nil w _ _ Tryz.underlying93 Tryz.underlying5 0 0 _ Tryz.underlying9
 ·exact run_convert_bytes_back w _ _ _ _ cap l Tryz.underlying93 Tryz.underlying5 Tryz.underlying9
   (fun j hj => h0.cells rfl j _ (bcells_at l j hj))
theorem push_byte {ops : Array Oper} {rest : List Oper} {o : Oper} {a : Act} {Q : Exit → Act → World → Prop} (wr : World) {base : Nat} {v : Value} {n : Nat} {xs : List Value} (hown : wr.ownsRow base 5 1 v n xs) (s x : Operand)
  (c : Int) (hgd : o.guard = none)
  (ho : o.op = .call { callee := .builtin .append, args := #[s, x], argTypes := #[93, 93] })
  (hs : a.eval s = v) (hx : a.eval x = .slice (some ⟨wr.heap.size, 0, none⟩) 1 1) (hn : n + 1 ≤ 140737488355328) (hbase : base ≤ wr.heap.size)
  (h : ∀ v' w', w'.ownsRow base 5 1 v' (n + 1) (xs ++ [.int .u8 c]) → Below base wr w' → wpList Tryz.prog ops Q rest (a.put o.dst v') w') :
  wpList Tryz.prog ops Q (o :: rest) a (wr.alloc (.cells #[.int .u8 c] 5)) := by
 obtain ⟨i0, hi, hz0, hz1, hz2⟩ := info_parts info5
 refine wpList_append_own _ hgd s x 93 ho base 5 i0 (.int .u8 0) 1 1 Tryz.underlying93 hi hz0 hz1 hz2 rfl (by decide) v n xs hs (hown.alloc _) ⟨wr.heap.size, 0, none⟩ 1 1 [.int .u8 c] hx rfl
  (cell_one_new _ _ _) (by intro u hu; simp at hu; subst hu; rfl) (by unfold maxLen; omega) (by omega) (by simp; omega) ?_
 intro v' w' h1 h2 _
 refine h v' w' h1 ?_
 exact ((Below.refl base wr).alloc hbase _).grown h2 (by simp; omega) (fun k hk => (hown.lt k hk).1)
end Go.Proofs.YtonfkhkalodldabGreatDoor
end

section
set_option maxRecDepth 100000
namespace Go.Proofs.YtonfkhkalodldabGreatDoor
open Go.PlainAid Go.RowKit
def partAt (ps : List ByteArray) (j : Nat) : ByteArray := ps.getD j ByteArray.empty
def IsStrs (w : World) (b off : Nat) (ps : List ByteArray) : Prop :=
 b < w.heap.size ∧ ∀ j, j < ps.length → w.cell? ⟨b, off + j, none⟩ = some (.string (partAt ps j))
theorem IsStrs.below {w w' : World} {b off : Nat} {ps : List ByteArray} (h : IsStrs w b off ps) {B : Nat} (hb : Below B w w') (hB : b < B) : IsStrs w' b off ps :=
 ⟨Nat.lt_of_lt_of_le h.1 hb.size, fun j hj => by rw [hb.cell (p := ⟨b, off + j, none⟩) hB]; exact h.2 j hj⟩
theorem cell_later {W W' : World} {a : Addr} {v : Value} (hb : Below W.heap.size W W') (h : W.cell? a = some v) : W'.cell? a = some v :=
 (hb.cell (World.block_lt_of_cell? W _ h)).trans h
def MaxOk (w : World) : Prop := ∃ m : Int, w.cell? ⟨0, 0, none⟩ = some (.int .i64 m)
theorem MaxOk.lt {w : World} (h : MaxOk w) : 0 < w.heap.size := by
 obtain ⟨m, hm⟩ := h
 exact World.block_lt_of_cell? w _ hm
theorem MaxOk.below {w w' : World} (h : MaxOk w) {B : Nat} (hb : Below B w w') (hB : 0 < B) : MaxOk w' := by
 obtain ⟨m, hm⟩ := h
 exact ⟨m, by rw [hb.cell (p := ⟨0, 0, none⟩) hB]; exact hm⟩
end Go.Proofs.YtonfkhkalodldabGreatDoor
end

section
set_option maxRecDepth 100000
namespace Go.Proofs.YtonfkhkalodldabGreatDoor
open Go.PlainAid
def cmpS (a b : ByteArray) : Int := Lib.compareBytes a.data.toList b.data.toList
end Go.Proofs.YtonfkhkalodldabGreatDoor
end

section
set_option maxRecDepth 100000
namespace Go.Proofs.YtonfkhkalodldabGreatDoor
open Go.RowKit Go.PlainAid
set_option maxRecDepth 100000 in
set_option maxHeartbeats 1000000 in
theorem rLower_any (s : ByteArray) (w : World) (hs : s.size ≤ 1000000000) :
  Calls Tryz.prog 34 #[.string s] w fun e w' => e = .returned (.string ⟨(lowL s.data.toList).toArray⟩) ∧ Below w.heap.size w w' := by
 have hb := get_bt s
 go_enter Tryz.func34, Tryz.ntmps34
 go_wp2
 go_loopw [3, 4] (fun b i wr => ∃ k : Nat, k ≤ s.size ∧ i = .int .i64 k ∧ wr.ownsRow w.heap.size 5 1 b k (bcells (lowL (s.data.toList.take k))) ∧ Below w.heap.size w wr)
  (fun _ i _ => s.size - (intOf i).toNat)
 case atStart => exact ⟨0, Nat.zero_le _, rfl, World.ownsRow_nil _ _ _ _, Below.refl _ _⟩
 case round =>
  obtain ⟨k, hk, rfl, hown, hbel⟩ := hrel
  have h0 := bt_nonneg s k
  have h255 := bt_le s k
  by_cases hlt : k < s.size
  ·have hst := low_step s k hlt
   by_cases hA : 65 ≤ bt s k ∧ bt s k ≤ 90
   ·obtain ⟨hA1, hA2⟩ := hA
    have HS := Lib.hid (hst.1 hA1 hA2); clear hst
    go_wp2_with (at_builtin; go_must (refine push_byte wr hown (.tmp 24) (.tmp 26) _ ?_ ?_ ?_ ?_ ?_ ?_ ?_; exact rfl; exact rfl; exact rfl; exact rfl; omega; exact hbel.size; intro v' w1 hown1 hb1))
    go_roundw
    case rel => exact ⟨k + 1, by omega, by go_num, by rw [HS.out]; exact hown1, hbel.trans hb1⟩
    case measure => simp [intOf]; omega
   ·have HS := Lib.hid (hst.2 hA); clear hst
    have hA' : bt s k < 65 ∨ 90 < bt s k := by omega
    clear hA
    rcases hA' with hA | hA
    all_goals
     go_wp2_with (at_builtin; go_must (refine push_byte wr hown (.tmp 24) (.tmp 26) _ ?_ ?_ ?_ ?_ ?_ ?_ ?_; exact rfl; exact rfl; exact rfl; exact rfl; omega; exact hbel.size; intro v' w1 hown1 hb1))
     go_roundw
     case rel => exact ⟨k + 1, by omega, by go_num, by rw [HS.out]; exact hown1, hbel.trans hb1⟩
     case measure => simp [intOf]; omega
  ·have hkk : k = s.size := by omega
   have HT := Lib.hid (show s.data.toList.take k = s.data.toList by rw [List.take_of_length_le]; simp; omega)
   have hbk := back (l := lowL s.data.toList) (by rw [HT.out] at hown; simpa [lowL, hkk] using hown)
   clear hkk
   go_wp2
   go_ret
   exact ⟨rfl, hbel⟩
theorem toBytes (w : World) (s : ByteArray) : ∃ cap w1, (convert 9 93 (.string s)).run Tryz.prog w = .ok (.slice (some ⟨w.heap.size, 0, none⟩) s.size cap) w1 ∧
  (∀ j, j < s.size → w1.cell? ⟨w.heap.size, j, none⟩ = some (.int .u8 (bt s j))) ∧ (∀ j, j < s.size → w1.frozen? ⟨w.heap.size, j, none⟩ = false) ∧ Below w.heap.size w w1 ∧ w.heap.size < w1.heap.size := by
 refine ⟨_, _, run_bytes_of_string w 9 93 5 s Tryz.underlying9 Tryz.underlying93 Tryz.underlying5, fun j hj => ?_, fun j hj => ?_, ?_, ?_⟩
 ·show (w.drew.alloc _).cell? ⟨w.drew.heap.size, j, none⟩ = _
  rw [World.cell?_alloc_mark, bytesRow_at s _ j hj, bt_at s j hj]
  rfl
 ·show (w.drew.alloc _).frozen? ⟨w.drew.heap.size, j, none⟩ = _
  rw [World.frozen?_alloc_mark]
  have : s.size ≤ (bytesRow s (grownCap w s.size 0 5)).size := by simp only [bytesRow, Array.size_append, Array.size_map]; exact Nat.le_add_right _ _
  simp; omega
 ·exact (Below.refl _ _).drew.alloc (Nat.le_refl _) _
 ·show w.heap.size < (w.drew.alloc _).heap.size
  simp
set_option maxRecDepth 100000 in
set_option maxHeartbeats 1000000 in
theorem lower_any (s : ByteArray) (w : World) (hs : s.size ≤ 1000000000) :
  Calls Tryz.prog 38 #[.string s] w fun e w' => e = .returned (.string ⟨(lowL s.data.toList).toArray⟩) ∧ Below w.heap.size w w' := by
 obtain ⟨cap, w1, hconv, hc1, hf1, hb1, hz1⟩ := toBytes w s
 have HC1 := Lib.hid hc1; have HF1 := Lib.hid hf1; clear hc1 hf1
 go_enter Tryz.func38, Tryz.ntmps38
 go_wp2
 clear hconv
 go_loopw [9] (fun i wr => ∃ k : Nat, k ≤ s.size ∧ i = .int .i64 k ∧ Hid (∀ j, j < s.size → wr.cell? ⟨w.heap.size, j, none⟩ = some (.int .u8 (mixI s k j))) ∧
   Hid (∀ j, j < s.size → wr.frozen? ⟨w.heap.size, j, none⟩ = false) ∧ Below w.heap.size w wr)
  (fun i _ => s.size - (intOf i).toNat)
 case atStart => exact ⟨0, Nat.zero_le _, rfl, Lib.hid fun j hj => by rw [HC1.out j hj, mixI_zero], HF1, hb1⟩
 case round =>
  obtain ⟨k, hk, rfl, HC, HF, hbel⟩ := hrel
  have h0 := bt_nonneg s k
  have h255 := bt_le s k
  by_cases hlt : k < s.size
  ·have hck := HC.out k hlt
   rw [mixI_self] at hck
   have hfk := HF.out k hlt
   by_cases hA : 65 ≤ bt s k ∧ bt s k ≤ 90
   ·obtain ⟨hA1, hA2⟩ := hA
    go_wp2
    go_roundw
    case rel =>
     refine ⟨k + 1, by omega, by go_num, Lib.hid fun j hj => ?_, Lib.hid fun j hj => ?_, hbel.setCell (Nat.le_refl _) _⟩
     ·by_cases hjk : j = k
      ·subst hjk
       rw [World.cell?_setCell_same _ _ _ hck, mixI_hit s j hA1 hA2]
      ·rw [World.cell?_setCell_other _ _ _ _ (by simp), HC.out j hj, mixI_other s k j hjk]
     ·rw [World.frozen?_setCell]; exact HF.out j hj
    case measure => simp [intOf]; omega
   ·have hA' : bt s k < 65 ∨ 90 < bt s k := by omega
    have HM := Lib.hid (mixI_miss s k hA)
    clear hA
    rcases hA' with hA | hA
    all_goals
     go_wp2
     go_roundw
     case rel =>
      refine ⟨k + 1, by omega, by go_num, Lib.hid fun j hj => ?_, HF, hbel⟩
      by_cases hjk : j = k
      ·subst hjk
       rw [hck, HM.out]
      ·rw [HC.out j hj, mixI_other s k j hjk]
     case measure => simp [intOf]; omega
  ·have hkk : k = s.size := by omega
   subst hkk
   have hbk := run_convert_bytes_back (P := Tryz.prog) wr 93 9 5 ⟨w.heap.size, 0, none⟩ cap (lowL s.data.toList) Tryz.underlying93 Tryz.underlying5 Tryz.underlying9
    (fun j hj => by
     have hj' : j < s.size := by rw [Lib.size_eq]; simpa [lowL] using hj
     have hadd : (⟨w.heap.size, 0, none⟩ : Addr).add j = ⟨w.heap.size, j, none⟩ := by rw [WideShapes.add_plain, Nat.zero_add]
     rw [hadd, HC.out j hj', mixI_end s j hj])
   rw [lowL_length, ← Lib.size_eq] at hbk
   go_wp2
   go_ret
   exact ⟨rfl, hbel⟩
end Go.Proofs.YtonfkhkalodldabGreatDoor
end

section
set_option maxRecDepth 100000
namespace Go.Proofs
open Go.Shelf
def Tryz.lays169_ren : Go.Shelf.Ren := ⟨fun | 169 => 51 | n => n, fun | 70 => 92 | 9 => 9 | 0 => 0 | 72 => 95 | 37 => 93 | 127 => 149 | 3 => 3 | 5 => 5 | n => n, fun | n => n⟩
theorem Tryz.lays169 : Go.Proofs.Lays.n169 Tryz.prog Tryz.lays169_ren := {
 mixed := by kernel_rfl
 f169 := Tryz.func51.trans (congrArg some (by kernel_rfl))
 t0 := Tryz.underlying0
 a0 := Tryz.isAgg0
 z0 := Tryz.sizeOf0
 v0 := Tryz.zeroValue0
 t3 := Tryz.underlying3
 a3 := Tryz.isAgg3
 z3 := Tryz.sizeOf3
 v3 := Tryz.zeroValue3
 t9 := Tryz.underlying9
 a9 := Tryz.isAgg9
 z9 := Tryz.sizeOf9
 v9 := Tryz.zeroValue9
 t37 := Tryz.underlying93
 a37 := Tryz.isAgg93
 z37 := Tryz.sizeOf93
 v37 := Tryz.zeroValue93
 t70 := Tryz.underlying92
 a70 := Tryz.isAgg92
 z70 := Tryz.sizeOf92
 v70 := Tryz.zeroValue92
 t72 := Tryz.underlying95
 a72 := Tryz.isAgg95
 z72 := Tryz.sizeOf95
 v72 := Tryz.zeroValue95
 t127 := Tryz.underlying149
 a127 := Tryz.isAgg149
 z127 := Tryz.sizeOf149
 v127 := Tryz.zeroValue149 }
theorem Tryz.Builder_Extra_169 : Builder.Extra Tryz.prog Tryz.lays169_ren := {
 sizeBuilder := by kernel_rfl
 liesBuilder := by kernel_rfl
 t5 := Tryz.underlying5
 a5 := Tryz.isAgg5
 z5 := Tryz.sizeOf5
 v5 := Tryz.zeroValue5
 infoByte := by kernel_rfl
 cellsByte := by kernel_rfl
 sizeByte := by kernel_rfl
 neB5 := by decide }
open Go.RowKit in
theorem Tryz.Builder_String_any (B b : Nat) (l : List UInt8) (w : World) (h : Lib.IsBuilder 95 5 B b (Lib.byteCells l) w) (hBw : B ≤ w.heap.size) :
  Calls Tryz.prog 51 #[.pointer (some ⟨b, 0, none⟩)] w fun e w' => e = .returned (.string ⟨l.toArray⟩) ∧ Below B w w' := Any.Builder_String_any Tryz.lays169 Tryz.Builder_Extra_169 B b l w h hBw
def Tryz.lays160_ren : Go.Shelf.Ren := ⟨fun | 160 => 129 | 232 => 138 | 231 => 137 | 227 => 139 | 234 => 141 | 233 => 140 | 236 => 143 | 235 => 142 | 228 => 150 | 271 => 153 | 151 => 152 | 197 => 151 | 120 => 161 | 152 => 160 | 260 => 159 | 137 => 130 | 119 => 169 | 224 => 170 | 225 => 171 | 217 => 144 | 266 => 154 | n => n, fun | 9 => 9 | 4 => 4 | 3 => 3 | 5 => 5 | 117 => 186 | 116 => 185 | 0 => 0 | 124 => 189 | 21 => 21 | 105 => 190 | 46 => 84 | 119 => 202 | 139 => 205 | 138 => 204 | n => n, fun | 3 => 1 | 4 => 2 | n => n⟩
theorem Tryz.lays160 : Go.Proofs.Lays.n160 Tryz.prog Tryz.lays160_ren := {
 mixed := by kernel_rfl
 f119 := Tryz.func169.trans (congrArg some (by kernel_rfl))
 f120 := Tryz.func161.trans (congrArg some (by kernel_rfl))
 f137 := Tryz.func130.trans (congrArg some (by kernel_rfl))
 f151 := Tryz.func152.trans (congrArg some (by kernel_rfl))
 f152 := Tryz.func160.trans (congrArg some (by kernel_rfl))
 f160 := Tryz.func129.trans (congrArg some (by kernel_rfl))
 f197 := Tryz.func151.trans (congrArg some (by kernel_rfl))
 f217 := Tryz.func144.trans (congrArg some (by kernel_rfl))
 f224 := Tryz.func170.trans (congrArg some (by kernel_rfl))
 f225 := Tryz.func171.trans (congrArg some (by kernel_rfl))
 f227 := Tryz.func139.trans (congrArg some (by kernel_rfl))
 f228 := Tryz.func150.trans (congrArg some (by kernel_rfl))
 f231 := Tryz.func137.trans (congrArg some (by kernel_rfl))
 f232 := Tryz.func138.trans (congrArg some (by kernel_rfl))
 f233 := Tryz.func140.trans (congrArg some (by kernel_rfl))
 f234 := Tryz.func141.trans (congrArg some (by kernel_rfl))
 f235 := Tryz.func142.trans (congrArg some (by kernel_rfl))
 f236 := Tryz.func143.trans (congrArg some (by kernel_rfl))
 f260 := Tryz.func159.trans (congrArg some (by kernel_rfl))
 f266 := Tryz.func154.trans (congrArg some (by kernel_rfl))
 f271 := Tryz.func153.trans (congrArg some (by kernel_rfl))
 t0 := Tryz.underlying0
 a0 := Tryz.isAgg0
 z0 := Tryz.sizeOf0
 v0 := Tryz.zeroValue0
 t3 := Tryz.underlying3
 a3 := Tryz.isAgg3
 z3 := Tryz.sizeOf3
 v3 := Tryz.zeroValue3
 t4 := Tryz.underlying4
 a4 := Tryz.isAgg4
 z4 := Tryz.sizeOf4
 v4 := Tryz.zeroValue4
 t5 := Tryz.underlying5
 a5 := Tryz.isAgg5
 z5 := Tryz.sizeOf5
 v5 := Tryz.zeroValue5
 t9 := Tryz.underlying9
 a9 := Tryz.isAgg9
 z9 := Tryz.sizeOf9
 v9 := Tryz.zeroValue9
 t21 := Tryz.underlying21
 a21 := Tryz.isAgg21
 z21 := Tryz.sizeOf21
 v21 := Tryz.zeroValue21
 t46 := Tryz.underlying84
 a46 := Tryz.isAgg84
 z46 := Tryz.sizeOf84
 v46 := Tryz.zeroValue84
 t105 := Tryz.underlying190
 a105 := Tryz.isAgg190
 z105 := Tryz.sizeOf190
 v105 := Tryz.zeroValue190
 t116 := Tryz.underlying185
 a116 := Tryz.isAgg185
 z116 := Tryz.sizeOf185
 t117 := Tryz.underlying186
 a117 := Tryz.isAgg186
 z117 := Tryz.sizeOf186
 v117 := Tryz.zeroValue186
 t119 := Tryz.underlying202
 a119 := Tryz.isAgg202
 z119 := Tryz.sizeOf202
 t124 := Tryz.underlying189
 a124 := Tryz.isAgg189
 z124 := Tryz.sizeOf189
 v124 := Tryz.zeroValue189
 t138 := Tryz.underlying204
 a138 := Tryz.isAgg204
 z138 := Tryz.sizeOf204
 v138 := Tryz.zeroValue204
 t139 := Tryz.underlying205
 a139 := Tryz.isAgg205
 z139 := Tryz.sizeOf205
 v139 := Tryz.zeroValue205
 g3 := by kernel_rfl
 g4 := by kernel_rfl }
open Go.RowKit in
theorem Tryz.strings_Trim_one (s : ByteArray) (c : UInt8) (hc : c.toNat < 128) (w : World) (hs : s.size ≤ 9223372036854775807) :
  Calls Tryz.prog 129 #[.string s, .string ⟨#[c]⟩] w fun e w' => e = .returned (.string ⟨(Lib.trimB s.data.toList c).toArray⟩) ∧ (w' = w ∨ w' = w.drew) := Any.strings_Trim_one Tryz.lays160 s c hc w hs
def Tryz.lays106_ren : Go.Shelf.Ren := ⟨fun | 106 => 126 | 213 => 136 | 265 => 149 | n => n, fun | 9 => 9 | 3 => 3 | n => n, fun | n => n⟩
theorem Tryz.lays106 : Go.Proofs.Lays.n106 Tryz.prog Tryz.lays106_ren := {
 mixed := by kernel_rfl
 f106 := Tryz.func126.trans (congrArg some (by kernel_rfl))
 f213 := Tryz.func136.trans (congrArg some (by kernel_rfl))
 f265 := Tryz.func149.trans (congrArg some (by kernel_rfl))
 t3 := Tryz.underlying3
 a3 := Tryz.isAgg3
 z3 := Tryz.sizeOf3
 v3 := Tryz.zeroValue3
 t9 := Tryz.underlying9
 a9 := Tryz.isAgg9
 z9 := Tryz.sizeOf9
 v9 := Tryz.zeroValue9 }
open Go.RowKit in
theorem Tryz.strings_Compare (a b : ByteArray) (w : World) :
  Calls Tryz.prog 126 #[.string a, .string b] w fun e w' => e = .returned (.int .i64 (Lib.compareBytes a.data.toList b.data.toList)) ∧ w' = w := Any.strings_Compare Tryz.lays106 a b w
def Tryz.lays137_ren : Go.Shelf.Ren := ⟨fun | 137 => 130 | 217 => 144 | 266 => 154 | n => n, fun | 9 => 9 | 5 => 5 | 3 => 3 | n => n, fun | n => n⟩
theorem Tryz.lays137 : Go.Proofs.Lays.n137 Tryz.prog Tryz.lays137_ren := {
 mixed := by kernel_rfl
 f137 := Tryz.func130.trans (congrArg some (by kernel_rfl))
 f217 := Tryz.func144.trans (congrArg some (by kernel_rfl))
 f266 := Tryz.func154.trans (congrArg some (by kernel_rfl))
 t3 := Tryz.underlying3
 a3 := Tryz.isAgg3
 z3 := Tryz.sizeOf3
 v3 := Tryz.zeroValue3
 t5 := Tryz.underlying5
 a5 := Tryz.isAgg5
 z5 := Tryz.sizeOf5
 v5 := Tryz.zeroValue5
 t9 := Tryz.underlying9
 a9 := Tryz.isAgg9
 z9 := Tryz.sizeOf9
 v9 := Tryz.zeroValue9 }
open Go.RowKit in
theorem Tryz.strings_IndexByte (s : ByteArray) (c : Int) (w : World) :
  Calls Tryz.prog 130 #[.string s, .int .u8 c] w fun e w' => e = .returned (.int .i64 (Lib.indexByte s.data.toList c.toNat.toUInt8)) ∧ w' = w := Any.strings_IndexByte Tryz.lays137 s c w
def Tryz.laysM171_ren : Go.Shelf.Ren := ⟨fun | 171 => 148 | 243 => 158 | 246 => 168 | 283 => 175 | 284 => 176 | 285 => 177 | 286 => 178 | 129 => 87 | 317 => 181 | 318 => 182 | 319 => 183 | 320 => 184 | 337 => 185 | 338 => 186 | n => n, fun | 3 => 3 | 9 => 9 | 2 => 2 | 4 => 4 | 171 => 213 | 0 => 0 | 53 => 138 | 37 => 93 | 5 => 5 | 173 => 215 | 212 => 222 | 51 => 136 | 20 => 20 | 213 => 223 | 46 => 84 | 232 => 225 | 233 => 226 | n => n, fun | 17 => 5 | 18 => 6 | 19 => 7 | n => n⟩
theorem Tryz.laysM171 : Go.Proofs.LaysM.n171 Tryz.prog Tryz.laysM171_ren := {
 mixed := by kernel_rfl
 f129 := Tryz.func87.trans (congrArg some (by kernel_rfl))
 f171 := Tryz.func148.trans (congrArg some (by kernel_rfl))
 f243 := Tryz.func158.trans (congrArg some (by kernel_rfl))
 f246 := Tryz.func168.trans (congrArg some (by kernel_rfl))
 f283 := Tryz.func175.trans (congrArg some (by kernel_rfl))
 f284 := Tryz.func176.trans (congrArg some (by kernel_rfl))
 f285 := Tryz.func177.trans (congrArg some (by kernel_rfl))
 f286 := Tryz.func178.trans (congrArg some (by kernel_rfl))
 f317 := Tryz.func181.trans (congrArg some (by kernel_rfl))
 f318 := Tryz.func182.trans (congrArg some (by kernel_rfl))
 f319 := Tryz.func183.trans (congrArg some (by kernel_rfl))
 f320 := Tryz.func184.trans (congrArg some (by kernel_rfl))
 f337 := Tryz.func185.trans (congrArg some (by kernel_rfl))
 f338 := Tryz.func186.trans (congrArg some (by kernel_rfl))
 t0 := Tryz.underlying0
 a0 := Tryz.isAgg0
 z0 := Tryz.sizeOf0
 v0 := Tryz.zeroValue0
 t2 := Tryz.underlying2
 a2 := Tryz.isAgg2
 z2 := Tryz.sizeOf2
 v2 := Tryz.zeroValue2
 t3 := Tryz.underlying3
 a3 := Tryz.isAgg3
 z3 := Tryz.sizeOf3
 v3 := Tryz.zeroValue3
 t4 := Tryz.underlying4
 a4 := Tryz.isAgg4
 z4 := Tryz.sizeOf4
 v4 := Tryz.zeroValue4
 t5 := Tryz.underlying5
 a5 := Tryz.isAgg5
 z5 := Tryz.sizeOf5
 v5 := Tryz.zeroValue5
 t9 := Tryz.underlying9
 a9 := Tryz.isAgg9
 z9 := Tryz.sizeOf9
 v9 := Tryz.zeroValue9
 t20 := Tryz.underlying20
 a20 := Tryz.isAgg20
 z20 := Tryz.sizeOf20
 v20 := Tryz.zeroValue20
 t37 := Tryz.underlying93
 a37 := Tryz.isAgg93
 z37 := Tryz.sizeOf93
 v37 := Tryz.zeroValue93
 t46 := Tryz.underlying84
 a46 := Tryz.isAgg84
 z46 := Tryz.sizeOf84
 v46 := Tryz.zeroValue84
 t51 := Tryz.underlying136
 a51 := Tryz.isAgg136
 z51 := Tryz.sizeOf136
 v51 := Tryz.zeroValue136
 t53 := Tryz.underlying138
 a53 := Tryz.isAgg138
 z53 := Tryz.sizeOf138
 v53 := Tryz.zeroValue138
 t171 := Tryz.underlying213
 a171 := Tryz.isAgg213
 z171 := Tryz.sizeOf213
 v171 := Tryz.zeroValue213
 t173 := Tryz.underlying215
 a173 := Tryz.isAgg215
 z173 := Tryz.sizeOf215
 v173 := Tryz.zeroValue215
 t212 := Tryz.underlying222
 a212 := Tryz.isAgg222
 z212 := Tryz.sizeOf222
 v212 := Tryz.zeroValue222
 t213 := Tryz.underlying223
 a213 := Tryz.isAgg223
 z213 := Tryz.sizeOf223
 t232 := Tryz.underlying225
 a232 := Tryz.isAgg225
 z232 := Tryz.sizeOf225
 v232 := Tryz.zeroValue225
 t233 := Tryz.underlying226
 a233 := Tryz.isAgg226
 z233 := Tryz.sizeOf226
 v233 := Tryz.zeroValue226
 g17 := by kernel_rfl
 g18 := by kernel_rfl
 g19 := by kernel_rfl
 i0 := by kernel_rfl
 i2 := by kernel_rfl
 i3 := by kernel_rfl
 i4 := by kernel_rfl
 i5 := by kernel_rfl
 i9 := by kernel_rfl
 i20 := by kernel_rfl
 i37 := by kernel_rfl
 i46 := by kernel_rfl
 i51 := by kernel_rfl
 i53 := by kernel_rfl
 i171 := by kernel_rfl
 i173 := by kernel_rfl
 i212 := by kernel_rfl
 i232 := by kernel_rfl
 i233 := by kernel_rfl
 m17 := by kernel_rfl
 m18 := by kernel_rfl
 m19 := by kernel_rfl }
open Go.RowKit Go.Sort Go.Lib in
theorem Tryz.strconv_Itoa (n : Int) (h0 : -9223372036854775808 ≤ n) (h1 : n ≤ 9223372036854775807) (w : World) (htab : Lib.TabIs Tryz.prog w "internal/strconv.uint64pow10" .u64 Lib.pow10Tab) :
  Calls Tryz.prog 148 #[.int .i64 n] w fun e w' => e = .returned (.string ⟨(Lib.itoa n).toArray⟩) ∧ ∃ k os, w' = grow (w.drewN k) os := Any.strconv_Itoa Tryz.laysM171 n h0 h1 w htab
def Tryz.laysC172_ren : Go.Shelf.Ren := ⟨fun | 172 => 147 | 244 => 156 | 245 => 157 | 247 => 163 | 279 => 164 | 280 => 165 | 281 => 166 | 282 => 167 | 287 => 172 | 316 => 173 | 171 => 148 | 205 => 174 | 321 => 179 | 322 => 180 | 243 => 158 | 246 => 168 | 283 => 175 | 284 => 176 | 285 => 177 | 286 => 178 | 129 => 87 | 317 => 181 | 318 => 182 | 319 => 183 | 320 => 184 | 337 => 185 | 338 => 186 | n => n, fun | 9 => 9 | 3 => 3 | 75 => 97 | 76 => 98 | 4 => 4 | 5 => 5 | 167 => 195 | 37 => 93 | 0 => 0 | 85 => 196 | 2 => 2 | 168 => 198 | 53 => 138 | 175 => 208 | 46 => 84 | 210 => 211 | 127 => 149 | 145 => 220 | 143 => 218 | 21 => 21 | 171 => 213 | 173 => 215 | 212 => 222 | 51 => 136 | 20 => 20 | 213 => 223 | 232 => 225 | 233 => 226 | 80 => 101 | n => n, fun | 15 => 3 | 16 => 4 | 17 => 5 | 18 => 6 | 19 => 7 | n => n⟩
theorem Tryz.laysC172 : Go.Proofs.LaysC.n172 Tryz.prog Tryz.laysC172_ren := {
 mixed := by kernel_rfl
 f129 := Tryz.func87.trans (congrArg some (by kernel_rfl))
 f171 := Tryz.func148.trans (congrArg some (by kernel_rfl))
 f172 := Tryz.func147.trans (congrArg some (by kernel_rfl))
 f205 := Tryz.func174.trans (congrArg some (by kernel_rfl))
 f243 := Tryz.func158.trans (congrArg some (by kernel_rfl))
 f244 := Tryz.func156.trans (congrArg some (by kernel_rfl))
 f245 := Tryz.func157.trans (congrArg some (by kernel_rfl))
 f246 := Tryz.func168.trans (congrArg some (by kernel_rfl))
 f247 := Tryz.func163.trans (congrArg some (by kernel_rfl))
 f279 := Tryz.func164.trans (congrArg some (by kernel_rfl))
 f280 := Tryz.func165.trans (congrArg some (by kernel_rfl))
 f281 := Tryz.func166.trans (congrArg some (by kernel_rfl))
 f282 := Tryz.func167.trans (congrArg some (by kernel_rfl))
 f283 := Tryz.func175.trans (congrArg some (by kernel_rfl))
 f284 := Tryz.func176.trans (congrArg some (by kernel_rfl))
 f285 := Tryz.func177.trans (congrArg some (by kernel_rfl))
 f286 := Tryz.func178.trans (congrArg some (by kernel_rfl))
 f287 := Tryz.func172.trans (congrArg some (by kernel_rfl))
 f316 := Tryz.func173.trans (congrArg some (by kernel_rfl))
 f317 := Tryz.func181.trans (congrArg some (by kernel_rfl))
 f318 := Tryz.func182.trans (congrArg some (by kernel_rfl))
 f319 := Tryz.func183.trans (congrArg some (by kernel_rfl))
 f320 := Tryz.func184.trans (congrArg some (by kernel_rfl))
 f321 := Tryz.func179.trans (congrArg some (by kernel_rfl))
 f322 := Tryz.func180.trans (congrArg some (by kernel_rfl))
 f337 := Tryz.func185.trans (congrArg some (by kernel_rfl))
 f338 := Tryz.func186.trans (congrArg some (by kernel_rfl))
 t0 := Tryz.underlying0
 a0 := Tryz.isAgg0
 z0 := Tryz.sizeOf0
 v0 := Tryz.zeroValue0
 t2 := Tryz.underlying2
 a2 := Tryz.isAgg2
 z2 := Tryz.sizeOf2
 v2 := Tryz.zeroValue2
 t3 := Tryz.underlying3
 a3 := Tryz.isAgg3
 z3 := Tryz.sizeOf3
 v3 := Tryz.zeroValue3
 t4 := Tryz.underlying4
 a4 := Tryz.isAgg4
 z4 := Tryz.sizeOf4
 v4 := Tryz.zeroValue4
 t5 := Tryz.underlying5
 a5 := Tryz.isAgg5
 z5 := Tryz.sizeOf5
 v5 := Tryz.zeroValue5
 t9 := Tryz.underlying9
 a9 := Tryz.isAgg9
 z9 := Tryz.sizeOf9
 v9 := Tryz.zeroValue9
 t20 := Tryz.underlying20
 a20 := Tryz.isAgg20
 z20 := Tryz.sizeOf20
 v20 := Tryz.zeroValue20
 t21 := Tryz.underlying21
 a21 := Tryz.isAgg21
 z21 := Tryz.sizeOf21
 v21 := Tryz.zeroValue21
 t37 := Tryz.underlying93
 a37 := Tryz.isAgg93
 z37 := Tryz.sizeOf93
 v37 := Tryz.zeroValue93
 t46 := Tryz.underlying84
 a46 := Tryz.isAgg84
 z46 := Tryz.sizeOf84
 v46 := Tryz.zeroValue84
 t51 := Tryz.underlying136
 a51 := Tryz.isAgg136
 z51 := Tryz.sizeOf136
 v51 := Tryz.zeroValue136
 t53 := Tryz.underlying138
 a53 := Tryz.isAgg138
 z53 := Tryz.sizeOf138
 v53 := Tryz.zeroValue138
 t75 := Tryz.underlying97
 a75 := Tryz.isAgg97
 z75 := Tryz.sizeOf97
 v75 := Tryz.zeroValue97
 t76 := Tryz.underlying98
 a76 := Tryz.isAgg98
 z76 := Tryz.sizeOf98
 v76 := Tryz.zeroValue98
 t85 := Tryz.underlying196
 a85 := Tryz.isAgg196
 z85 := Tryz.sizeOf196
 v85 := Tryz.zeroValue196
 t127 := Tryz.underlying149
 a127 := Tryz.isAgg149
 z127 := Tryz.sizeOf149
 v127 := Tryz.zeroValue149
 t143 := Tryz.underlying218
 a143 := Tryz.isAgg218
 z143 := Tryz.sizeOf218
 v143 := Tryz.zeroValue218
 t145 := Tryz.underlying220
 a145 := Tryz.isAgg220
 z145 := Tryz.sizeOf220
 v145 := Tryz.zeroValue220
 t167 := Tryz.underlying195
 a167 := Tryz.isAgg195
 z167 := Tryz.sizeOf195
 v167 := Tryz.zeroValue195
 t168 := Tryz.underlying198
 a168 := Tryz.isAgg198
 z168 := Tryz.sizeOf198
 v168 := Tryz.zeroValue198
 t171 := Tryz.underlying213
 a171 := Tryz.isAgg213
 z171 := Tryz.sizeOf213
 v171 := Tryz.zeroValue213
 t173 := Tryz.underlying215
 a173 := Tryz.isAgg215
 z173 := Tryz.sizeOf215
 v173 := Tryz.zeroValue215
 t175 := Tryz.underlying208
 a175 := Tryz.isAgg208
 z175 := Tryz.sizeOf208
 v175 := Tryz.zeroValue208
 t210 := Tryz.underlying211
 a210 := Tryz.isAgg211
 z210 := Tryz.sizeOf211
 v210 := Tryz.zeroValue211
 t212 := Tryz.underlying222
 a212 := Tryz.isAgg222
 z212 := Tryz.sizeOf222
 v212 := Tryz.zeroValue222
 t213 := Tryz.underlying223
 a213 := Tryz.isAgg223
 z213 := Tryz.sizeOf223
 t232 := Tryz.underlying225
 a232 := Tryz.isAgg225
 z232 := Tryz.sizeOf225
 v232 := Tryz.zeroValue225
 t233 := Tryz.underlying226
 a233 := Tryz.isAgg226
 z233 := Tryz.sizeOf226
 v233 := Tryz.zeroValue226
 g15 := by kernel_rfl
 g16 := by kernel_rfl
 g17 := by kernel_rfl
 g18 := by kernel_rfl
 g19 := by kernel_rfl
 t80 := Tryz.underlying101
 a80 := Tryz.isAgg101
 z80 := Tryz.sizeOf101
 v80 := Tryz.zeroValue101
 i0 := by kernel_rfl
 i2 := by kernel_rfl
 i3 := by kernel_rfl
 i4 := by kernel_rfl
 i5 := by kernel_rfl
 i9 := by kernel_rfl
 i20 := by kernel_rfl
 i21 := by kernel_rfl
 i37 := by kernel_rfl
 i46 := by kernel_rfl
 i51 := by kernel_rfl
 i53 := by kernel_rfl
 i75 := by kernel_rfl
 i76 := by kernel_rfl
 i80 := by kernel_rfl
 i85 := by kernel_rfl
 i127 := by kernel_rfl
 i143 := by kernel_rfl
 i145 := by kernel_rfl
 i167 := by kernel_rfl
 i168 := by kernel_rfl
 i171 := by kernel_rfl
 i173 := by kernel_rfl
 i175 := by kernel_rfl
 i210 := by kernel_rfl
 i212 := by kernel_rfl
 i232 := by kernel_rfl
 i233 := by kernel_rfl
 m15 := by kernel_rfl
 m16 := by kernel_rfl
 m17 := by kernel_rfl
 m18 := by kernel_rfl
 m19 := by kernel_rfl
 c0 := by kernel_rfl
 c2 := by kernel_rfl
 c3 := by kernel_rfl
 c4 := by kernel_rfl
 c5 := by kernel_rfl
 c9 := by kernel_rfl
 c20 := by kernel_rfl
 c21 := by kernel_rfl
 c37 := by kernel_rfl
 c46 := by kernel_rfl
 c51 := by kernel_rfl
 c53 := by kernel_rfl
 c75 := by kernel_rfl
 c76 := by kernel_rfl
 c80 := by kernel_rfl
 c85 := by kernel_rfl
 c127 := by kernel_rfl
 c143 := by kernel_rfl
 c145 := by kernel_rfl
 c167 := by kernel_rfl
 c168 := by kernel_rfl
 c171 := by kernel_rfl
 c173 := by kernel_rfl
 c175 := by kernel_rfl
 c210 := by kernel_rfl
 c212 := by kernel_rfl
 c213 := by kernel_rfl
 c232 := by kernel_rfl
 c233 := by kernel_rfl }
open Go.RowKit in
theorem Tryz.strconv_Atoi_ok (s : ByteArray) (hmax : s.size ≤ 9223372036854775806) (v : Int) (h : Lib.atoiAll s.data.toList = .ok v) (w : World) :
  Calls Tryz.prog 147 #[.string s] w fun e w' => e = .returned (.tuple #[.int .i64 v, .nilIface]) ∧ (w' = w ∨ ∃ t, w' = Lib.bytesWorld w 5 t) := Any.strconv_Atoi_ok Tryz.laysC172 s hmax v h w
open Go.RowKit in
theorem Tryz.strconv_Atoi_range_var (s : ByteArray) (hlim : s.size ≤ 281474976710656) (h : Lib.atoiAll s.data.toList = .range) (tp : TypeId) (p : Value) (w : World) (hvar : w.var? Tryz.prog "strconv.ErrRange" = some #[.iface tp p]) :
  Calls Tryz.prog 147 #[.string s] w fun e w' => ∃ N, e = .returned (.tuple #[.int .i64 (Lib.atoiSat s.data.toList), .iface 198 (.pointer (some ⟨N, 0, none⟩))]) ∧ w.heap.size ≤ N ∧ w'.heap[N]? = some (.cells #[.string ⟨#[65, 116, 111, 105]⟩, .string s, .iface tp p] 211 (0, 0)) ∧ Below w.heap.size w w' := Any.strconv_Atoi_range_var Tryz.laysC172 s hlim h tp p w hvar
def Tryz.lays101_ren : Go.Shelf.Ren := ⟨fun | 101 => 146 | 208 => 155 | 206 => 162 | n => n, fun | 9 => 9 | 4 => 4 | 3 => 3 | n => n, fun | n => n⟩
theorem Tryz.lays101 : Go.Proofs.Lays.n101 Tryz.prog Tryz.lays101_ren := {
 mixed := by kernel_rfl
 f101 := Tryz.func146.trans (congrArg some (by kernel_rfl))
 f206 := Tryz.func162.trans (congrArg some (by kernel_rfl))
 f208 := Tryz.func155.trans (congrArg some (by kernel_rfl))
 t3 := Tryz.underlying3
 a3 := Tryz.isAgg3
 z3 := Tryz.sizeOf3
 v3 := Tryz.zeroValue3
 t4 := Tryz.underlying4
 a4 := Tryz.isAgg4
 z4 := Tryz.sizeOf4
 v4 := Tryz.zeroValue4
 t9 := Tryz.underlying9
 a9 := Tryz.isAgg9
 z9 := Tryz.sizeOf9
 v9 := Tryz.zeroValue9 }
open Go.RowKit Go.Lib in
theorem Tryz.strings_TrimPrefix (s p : ByteArray) (w : World) :
  Calls Tryz.prog 146 #[.string s, .string p] w fun e w' => e = .returned (.string ⟨(Lib.trimPrefix s.data.toList p.data.toList).toArray⟩) ∧ w' = w := Any.strings_TrimPrefix Tryz.lays101 s p w
end Go.Proofs
end

section
set_option maxRecDepth 100000
namespace Go.Proofs.YtonfkhkalodldabGreatDoor
open Go.RowKit Go.PlainAid
theorem trimR_le (l : List UInt8) : (trimR l).length ≤ l.length := by
 have h1 : (Lib.trimLeftB l 32).length ≤ l.length := (List.dropWhile_sublist _).length_le
 have h2 : ∀ m : List UInt8, (Lib.trimRightB m 32).length ≤ m.length := fun m => by
  unfold Lib.trimRightB
  rw [List.length_reverse]
  have := (List.dropWhile_sublist (fun x : UInt8 => x == 32) (l := m.reverse)).length_le
  simpa using this
 exact Nat.le_trans (h2 _) h1
set_option maxRecDepth 100000 in
set_option maxHeartbeats 1000000 in
theorem squeeze_any (s : ByteArray) (w : World) (hs : s.size ≤ 1000000000) :
  Calls Tryz.prog 110 #[.string s] w fun e w' => e = .returned (.string ⟨(sqL s.data.toList).toArray⟩) ∧ Below w.heap.size w w' := by
 obtain ⟨i0, hi, hz0, hz1, hz2⟩ := info_parts info5
 have hb := get_bt s
 go_enter Tryz.func110, Tryz.ntmps110
 go_wp2_with (at_make; refine wpList_make_own _ rfl _ _ 93 rfl w.heap.size 5 i0 (.int .u8 0) 1 Tryz.underlying93 hi hz0 hz1 .i64 .i64 (s.size : Int) s.size rfl rfl rfl (by rw [hz2]; omega) (by unfold maxLen; omega) (Nat.le_refl _) ?_; intro w1 hown hgr)
 have hb1 := (Below.refl w.heap.size w).grown hgr (Nat.le_refl _) (fun k hk => by cases hk)
 clear hgr
 go_loopw [3, 10] (fun b i wr => ∃ k : Nat, k ≤ s.size ∧ i = .int .i64 k ∧ wr.ownsRow w.heap.size 5 1 b (sqN s.data.toList k).length (bcells (sqN s.data.toList k)) ∧ Below w.heap.size w wr)
  (fun _ i _ => s.size - (intOf i).toNat)
 case atStart => exact ⟨0, Nat.zero_le _, rfl, hown, hb1⟩
 case round =>
  obtain ⟨k, hk, rfl, hown, hbel⟩ := hrel
  clear hb1
  have hle := sqN_le s.data.toList k
  by_cases hlt : k < s.size
  ·have hex : (Hid (sqN s.data.toList (k + 1) = sqN s.data.toList k) ∧ (bt s k == 32) = true ∧ 0 < k ∧ (bt s (k - 1) == 32) = true) ∨
     (Hid (bcells (sqN s.data.toList (k + 1)) = bcells (sqN s.data.toList k) ++ [Value.int .u8 (bt s k)]) ∧ Hid ((sqN s.data.toList (k + 1)).length = (sqN s.data.toList k).length + 1) ∧
      ((bt s k == 32) = false ∨ ((bt s k == 32) = true ∧ k = 0) ∨ ((bt s k == 32) = true ∧ 0 < k ∧ (bt s (k - 1) == 32) = false))) := by
    by_cases h : bt s k = 32 ∧ 0 < k ∧ bt s (k - 1) = 32
    ·exact .inl ⟨sq_skip s k h.1 h.2.1 h.2.2, by simp [h.1], h.2.1, by simp [h.2.2]⟩
    ·refine .inr ⟨sq_keep s k h, sq_keep_len s k h, ?_⟩
     by_cases h1 : bt s k = 32
     ·by_cases h2 : 0 < k
      ·exact .inr (.inr ⟨by simp [h1], h2, by simp; exact fun h3 => h ⟨h1, h2, h3⟩⟩)
      ·exact .inr (.inl ⟨by simp [h1], by omega⟩)
     ·exact .inl (by simp [h1])
   rcases hex with ⟨HS, hq, hpos, hq2⟩ | ⟨HS, HL, hq | ⟨hq, h0⟩ | ⟨hq, hpos, hq2⟩⟩
   ·have hsub : IntKind.i64.wrap ((k : Int) - 1) = ((k - 1 : Nat) : Int) := by rw [IntWalk.i64_in _ ⟨by omega, by omega⟩]; omega
    go_wp2
    go_roundw
    case rel => exact ⟨k + 1, by omega, by go_num, by rw [HS.out]; exact hown, hbel⟩
    case measure => simp [intOf]; omega
   ·go_wp2_with (at_builtin; refine push_byte wr hown (.tmp 28) (.tmp 32) _ ?_ ?_ ?_ ?_ ?_ ?_ ?_; exact rfl; exact rfl; exact rfl; exact rfl; omega; exact hbel.size; intro v' w1 hown1 hb1)
    go_roundw
    case rel => exact ⟨k + 1, by omega, by go_num, by rw [HS.out, HL.out]; exact hown1, hbel.trans hb1⟩
    case measure => simp [intOf]; omega
   ·subst h0
    go_wp2_with (at_builtin; refine push_byte wr hown (.tmp 28) (.tmp 32) _ ?_ ?_ ?_ ?_ ?_ ?_ ?_; exact rfl; exact rfl; exact rfl; exact rfl; omega; exact hbel.size; intro v' w1 hown1 hb1)
    go_roundw
    case rel => exact ⟨0 + 1, by omega, rfl, by rw [HS.out, HL.out]; exact hown1, hbel.trans hb1⟩
    case measure => simp [intOf]; omega
   ·have hsub : IntKind.i64.wrap ((k : Int) - 1) = ((k - 1 : Nat) : Int) := by rw [IntWalk.i64_in _ ⟨by omega, by omega⟩]; omega
    go_wp2_with (at_builtin; refine push_byte wr hown (.tmp 28) (.tmp 32) _ ?_ ?_ ?_ ?_ ?_ ?_ ?_; exact rfl; exact rfl; exact rfl; exact rfl; omega; exact hbel.size; intro v' w1 hown1 hb1)
    go_roundw
    case rel => exact ⟨k + 1, by omega, by go_num, by rw [HS.out, HL.out]; exact hown1, hbel.trans hb1⟩
    case measure => simp [intOf]; omega
  ·have hkk : k = s.size := by omega
   have hbk := back (l := sqL s.data.toList) (by rw [hkk] at hown; unfold sqL; rw [← Lib.size_eq]; exact hown)
   have HK := Lib.hid hkk
   clear hkk
   go_wp2
   go_ret
   exact ⟨rfl, hbel⟩
def lowS (s : ByteArray) : ByteArray := ⟨(lowL s.data.toList).toArray⟩
def trimS (s : ByteArray) : ByteArray := ⟨(trimR s.data.toList).toArray⟩
def sqS (s : ByteArray) : ByteArray := ⟨(sqL s.data.toList).toArray⟩
def foldS (s : ByteArray) : ByteArray := sqS (lowS (trimS s))
theorem lowS_size (s : ByteArray) : (lowS s).size = s.size := by unfold lowS; rw [Lib.size_mk, lowL_length, ← Lib.size_eq]
theorem trimS_size (s : ByteArray) : (trimS s).size ≤ s.size := by unfold trimS; rw [Lib.size_mk, Lib.size_eq]; exact trimR_le _
theorem sqS_size (s : ByteArray) : (sqS s).size ≤ s.size := by unfold sqS; rw [Lib.size_mk, Lib.size_eq]; exact sqN_le _ _
theorem foldS_size (s : ByteArray) : (foldS s).size ≤ s.size := by
 unfold foldS
 have h1 := sqS_size (lowS (trimS s)); have h2 := lowS_size (trimS s); have h3 := trimS_size s
 omega
theorem rLower_s (s : ByteArray) (w : World) (hs : s.size ≤ 1000000000) :
  Calls Tryz.prog 34 #[.string s] w fun e w' => e = .returned (.string (lowS s)) ∧ Below w.heap.size w w' := rLower_any s w hs
theorem lower_s (s : ByteArray) (w : World) (hs : s.size ≤ 1000000000) :
  Calls Tryz.prog 38 #[.string s] w fun e w' => e = .returned (.string (lowS s)) ∧ Below w.heap.size w w' := lower_any s w hs
theorem squeeze_s (s : ByteArray) (w : World) (hs : s.size ≤ 1000000000) :
  Calls Tryz.prog 110 #[.string s] w fun e w' => e = .returned (.string (sqS s)) ∧ Below w.heap.size w w' := squeeze_any s w hs
end Go.Proofs.YtonfkhkalodldabGreatDoor
end

section
set_option maxRecDepth 100000
namespace Go.Proofs.YtonfkhkalodldabGreatDoor
open Go.PlainAid Go.RowKit
def between (ps : List ByteArray) : List ByteArray := (ps.drop 1).take (ps.length - 2)
theorem between_length (ps : List ByteArray) : (between ps).length = ps.length - 2 := by
 unfold between; rw [List.length_take, List.length_drop]; omega
theorem between_at (ps : List ByteArray) (j : Nat) (h : j < ps.length - 2) : partAt (between ps) j = partAt ps (j + 1) := by
 unfold partAt between
 rw [List.getD_eq_getElem?_getD, List.getD_eq_getElem?_getD, List.getElem?_take, if_pos h, List.getElem?_drop, Nat.add_comm]
theorem IsStrs.between {w : World} {b off : Nat} {ps : List ByteArray} (h : IsStrs w b off ps) : IsStrs w b (off + 1) (between ps) :=
 ⟨h.1, fun j hj => by
  rw [between_length] at hj
  rw [between_at ps j hj, ← h.2 (j + 1) (by omega)]
  congr 2; omega⟩
end Go.Proofs.YtonfkhkalodldabGreatDoor
end

section
set_option maxRecDepth 100000
namespace Go.Proofs.YtonfkhkalodldabGreatDoor
open Go.PlainAid
/-! ### the order -/
theorem cb_range : ∀ a b : List UInt8, Lib.compareBytes a b = -1 ∨ Lib.compareBytes a b = 0 ∨ Lib.compareBytes a b = 1
 | [], [] => by simp [Lib.compareBytes]
 | [], _ :: _ => by simp [Lib.compareBytes]
 | _ :: _, [] => by simp [Lib.compareBytes]
 | a :: x, b :: y => by
  unfold Lib.compareBytes
  split
  ·exact .inl rfl
  ·split
   ·exact .inr (.inr rfl)
   ·exact cb_range x y
theorem cb_anti : ∀ a b : List UInt8, Lib.compareBytes b a = - Lib.compareBytes a b
 | [], [] => by simp [Lib.compareBytes]
 | [], _ :: _ => by simp [Lib.compareBytes]
 | _ :: _, [] => by simp [Lib.compareBytes]
 | a :: x, b :: y => by
  unfold Lib.compareBytes
  by_cases h1 : a < b
  ·have h2 : ¬ b < a := by rw [UInt8.lt_iff_toNat_lt] at *; omega
   simp [h1, h2]
  ·by_cases h2 : b < a
   ·simp [h1, h2]
   ·simp only [h1, h2, if_false]
    exact cb_anti x y
theorem cb_zero : ∀ a b : List UInt8, Lib.compareBytes a b = 0 ↔ a = b
 | [], [] => by simp [Lib.compareBytes]
 | [], _ :: _ => by simp [Lib.compareBytes]
 | _ :: _, [] => by simp [Lib.compareBytes]
 | a :: x, b :: y => by
  unfold Lib.compareBytes
  by_cases h1 : a < b
  ·have : a ≠ b := fun e => by subst e; rw [UInt8.lt_iff_toNat_lt] at h1; omega
   simp [h1, this]
  ·by_cases h2 : b < a
   ·have : a ≠ b := fun e => by subst e; rw [UInt8.lt_iff_toNat_lt] at h2; omega
    simp [h1, h2, this]
   ·have h3 : a = b := by apply UInt8.toNat_inj.1; rw [UInt8.lt_iff_toNat_lt] at h1 h2; omega
    simp only [h1, h2, if_false]
    rw [cb_zero x y]
    simp [h3]
theorem cb_trans : ∀ a b c : List UInt8, Lib.compareBytes a b ≤ 0 → Lib.compareBytes b c ≤ 0 → Lib.compareBytes a c ≤ 0
 | [], _, [] => by simp [Lib.compareBytes]
 | [], _, _ :: _ => by simp [Lib.compareBytes]
 | _ :: _, [], _ => by simp [Lib.compareBytes]
 | _ :: _, _ :: _, [] => by simp [Lib.compareBytes]
 | a :: x, b :: y, c :: z => by
  unfold Lib.compareBytes
  intro h1 h2
  by_cases ab : a < b
  ·by_cases bc : b < c
   ·have : a < c := by rw [UInt8.lt_iff_toNat_lt] at *; omega
    simp [this]
   ·by_cases cb : c < b
    ·simp [bc, cb] at h2
    ·have : a < c := by rw [UInt8.lt_iff_toNat_lt] at *; omega
     simp [this]
  ·by_cases ba : b < a
   ·simp [ab, ba] at h1
   ·simp only [ab, ba, if_false] at h1
    by_cases bc : b < c
    ·have : a < c := by rw [UInt8.lt_iff_toNat_lt] at *; omega
     simp [this]
    ·by_cases cb : c < b
     ·simp [bc, cb] at h2
     ·simp only [bc, cb, if_false] at h2
      have n1 : ¬ a < c := by rw [UInt8.lt_iff_toNat_lt] at *; omega
      have n2 : ¬ c < a := by rw [UInt8.lt_iff_toNat_lt] at *; omega
      simp only [n1, n2, if_false]
      exact cb_trans x y z h1 h2
theorem ba_ext {a b : ByteArray} (h : a.data.toList = b.data.toList) : a = b := by
 cases a; cases b; simp only [ByteArray.mk.injEq]; exact Array.toList_inj.1 h
/-! ### names are words, words are values -/
end Go.Proofs.YtonfkhkalodldabGreatDoor
end
