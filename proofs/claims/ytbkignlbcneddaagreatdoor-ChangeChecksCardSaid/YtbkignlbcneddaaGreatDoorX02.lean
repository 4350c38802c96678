/-
  Texts of the schema layer and of those beneath it, joined: FoldFold, FoldE, FoldF, FoldG, FoldKind, FoldName, AttKind, AttName, AttL, AttFrame, AttStrs. Conditions stand at each contract.
-/
import Derived.Lib.IndexMore
import Derived.Lib.Bytealg
import Derived.WalkKit
import Derived.ProofKit
import Derived.OpenShut
import Derived.SliceStrings
import Derived.Deep.RegionHeld3
import Derived.Deep.AppendLies
import Derived.Test.YtbkignlbcneddaaGreatDoorRows
import Derived.Test.YtbkignlbcneddaaGreatDoorX01
set_option linter.unusedVariables false
set_option linter.unusedSimpArgs false
set_option linter.unnecessarySimpa false

section
/-
  Contracts over strings (named functions on byte arrays): Lower, the specification's Trim and Fold, fold.squeeze. Condition: at most 1000000000 bytes.
-/
set_option maxRecDepth 100000
namespace Go.Proofs.YtbkignlbcneddaaGreatDoor
open Go.RowKit Go.PlainAid
def lowS (s : ByteArray) : ByteArray := ⟨(lowL s.data.toList).toArray⟩
def trimS (s : ByteArray) : ByteArray := ⟨(trimR s.data.toList).toArray⟩
def sqS (s : ByteArray) : ByteArray := ⟨(sqL s.data.toList).toArray⟩
def foldS (s : ByteArray) : ByteArray := sqS (lowS (trimS s))
theorem lowS_size (s : ByteArray) : (lowS s).size = s.size := by unfold lowS; rw [Lib.size_mk, lowL_length, ← Lib.size_eq]
theorem trimS_size (s : ByteArray) : (trimS s).size ≤ s.size := by unfold trimS; rw [Lib.size_mk, Lib.size_eq]; exact trimR_le _
theorem sqS_size (s : ByteArray) : (sqS s).size ≤ s.size := by unfold sqS; rw [Lib.size_mk, Lib.size_eq]; exact sqN_le _ _
theorem foldS_size (s : ByteArray) : (foldS s).size ≤ s.size := by
  unfold foldS
  have h1 := sqS_size (lowS (trimS s)); have h2 := lowS_size (trimS s); have h3 := trimS_size s
  omega
theorem rLower_s (s : ByteArray) (w : World) (hs : s.size ≤ 1000000000) :
    Calls Tryz.prog 59 #[.string s] w fun e w' => e = .returned (.string (lowS s)) ∧ Below w.heap.size w w' := rLower_any s w hs
theorem lower_s (s : ByteArray) (w : World) (hs : s.size ≤ 1000000000) :
    Calls Tryz.prog 79 #[.string s] w fun e w' => e = .returned (.string (lowS s)) ∧ Below w.heap.size w w' := lower_any s w hs
theorem rTrim_s (s : ByteArray) (w : World) (hs : s.size ≤ 1000000000) :
    Calls Tryz.prog 225 #[.string s] w fun e w' => e = .returned (.string (trimS s)) ∧ w = w' :=
  (rTrim_any s w hs).mono fun _ _ h => ⟨h.1, h.2.symm⟩
theorem squeeze_s (s : ByteArray) (w : World) (hs : s.size ≤ 1000000000) :
    Calls Tryz.prog 223 #[.string s] w fun e w' => e = .returned (.string (sqS s)) ∧ Below w.heap.size w w' := squeeze_any s w hs
set_option maxRecDepth 100000 in
set_option maxHeartbeats 1000000 in
theorem rFold_s (s : ByteArray) (w : World) (hs : s.size ≤ 1000000000) :
    Calls Tryz.prog 183 #[.string s] w fun e w' => e = .returned (.string (foldS s)) ∧ Below w.heap.size w w' := by
  have ht0 := trimS_size s
  have hl0 := lowS_size (trimS s)
  have HL0 := Lib.hid hl0; clear hl0
  go_enter Tryz.func183, Tryz.ntmps183
  go_wp2_with (first
    | (go_at_call 225; refine (rTrim_s _ _ hs).mono ?_; rintro e w' ⟨rfl, rfl⟩)
    | (go_at_call 59; refine (rLower_s _ _ (by omega)).mono ?_; rintro e w1 ⟨rfl, hb1⟩))
  obtain ⟨t, ht⟩ : ∃ t, t = lowS (trimS s) := ⟨_, rfl⟩
  rw [← ht]
  have HT := Lib.hid ht; clear ht
  have hts : t.size ≤ 1000000000 := by rw [HT.out]; have := HL0.out; omega
  have hb := get_bt t
  go_loopw [4, 5] (fun b i wr => ∃ k : Nat, k ≤ t.size ∧ i = .int .i64 k ∧ wr.ownsRow w.heap.size 5 1 b (sqN t.data.toList k).length (bcells (sqN t.data.toList k)) ∧ Below w.heap.size w wr)
    (fun _ i _ => t.size - (intOf i).toNat)
  case atStart => exact ⟨0, Nat.zero_le _, rfl, World.ownsRow_nil _ _ _ _, hb1⟩
  case round =>
    obtain ⟨k, hk, rfl, hown, hbel⟩ := hrel
    clear hb1
    have hle := sqN_le t.data.toList k
    by_cases hlt : k < t.size
    · have hex : (Hid (sqN t.data.toList (k + 1) = sqN t.data.toList k) ∧ (bt t k != 32) = false ∧ 0 < k ∧ (bt t (k - 1) != 32) = false) ∨
          (Hid (bcells (sqN t.data.toList (k + 1)) = bcells (sqN t.data.toList k) ++ [Value.int .u8 (bt t k)]) ∧ Hid ((sqN t.data.toList (k + 1)).length = (sqN t.data.toList k).length + 1) ∧
            (k = 0 ∨ (0 < k ∧ (bt t k != 32) = true) ∨ ((bt t k != 32) = false ∧ 0 < k ∧ (bt t (k - 1) != 32) = true))) := by
        by_cases h : bt t k = 32 ∧ 0 < k ∧ bt t (k - 1) = 32
        · exact .inl ⟨sq_skip t k h.1 h.2.1 h.2.2, by simp [h.1], h.2.1, by simp [h.2.2]⟩
        · refine .inr ⟨sq_keep t k h, sq_keep_len t k h, ?_⟩
          by_cases h2 : 0 < k
          · by_cases h1 : bt t k = 32
            · exact .inr (.inr ⟨by simp [h1], h2, by simp; exact fun h3 => h ⟨h1, h2, h3⟩⟩)
            · exact .inr (.inl ⟨h2, by simp [h1]⟩)
          · exact .inl (by omega)
      rcases hex with ⟨HS, hq, hpos, hq2⟩ | ⟨HS, HL, h0 | ⟨hpos, hq⟩ | ⟨hq, hpos, hq2⟩⟩
      · have hk0 : ((k : Int) == 0) = false := by simp; omega
        have hsub : IntKind.i64.wrap ((k : Int) - 1) = ((k - 1 : Nat) : Int) := by rw [IntWalk.i64_in _ ⟨by omega, by omega⟩]; omega
        go_wp2
        go_roundw
        case rel => exact ⟨k + 1, by omega, by go_num, by rw [HS.out]; exact hown, hbel⟩
        case measure => simp [intOf]; omega
      · subst h0
        go_wp2_with (at_builtin; refine push_byte wr hown (.tmp 30) (.tmp 34) _ ?_ ?_ ?_ ?_ ?_ ?_ ?_; exact rfl; exact rfl; exact rfl; exact rfl; omega; exact hbel.size; intro v' w1 hown1 hb1)
        go_roundw
        case rel => exact ⟨0 + 1, by omega, rfl, by rw [HS.out, HL.out]; exact hown1, hbel.trans hb1⟩
        case measure => simp [intOf]; omega
      · have hk0 : ((k : Int) == 0) = false := by simp; omega
        go_wp2_with (at_builtin; refine push_byte wr hown (.tmp 30) (.tmp 34) _ ?_ ?_ ?_ ?_ ?_ ?_ ?_; exact rfl; exact rfl; exact rfl; exact rfl; omega; exact hbel.size; intro v' w1 hown1 hb1)
        go_roundw
        case rel => exact ⟨k + 1, by omega, by go_num, by rw [HS.out, HL.out]; exact hown1, hbel.trans hb1⟩
        case measure => simp [intOf]; omega
      · have hk0 : ((k : Int) == 0) = false := by simp; omega
        have hsub : IntKind.i64.wrap ((k : Int) - 1) = ((k - 1 : Nat) : Int) := by rw [IntWalk.i64_in _ ⟨by omega, by omega⟩]; omega
        go_wp2_with (at_builtin; refine push_byte wr hown (.tmp 30) (.tmp 34) _ ?_ ?_ ?_ ?_ ?_ ?_ ?_; exact rfl; exact rfl; exact rfl; exact rfl; omega; exact hbel.size; intro v' w1 hown1 hb1)
        go_roundw
        case rel => exact ⟨k + 1, by omega, by go_num, by rw [HS.out, HL.out]; exact hown1, hbel.trans hb1⟩
        case measure => simp [intOf]; omega
    · have hkk : k = t.size := by omega
      have hbk := back (l := sqL t.data.toList) (by rw [hkk] at hown; unfold sqL; rw [← Lib.size_eq]; exact hown)
      have HK := Lib.hid hkk
      clear hkk
      go_wp2
      go_ret
      exact ⟨by unfold foldS; rw [← HT.out]; rfl, hbel⟩
end Go.Proofs.YtbkignlbcneddaaGreatDoor
end

section
/-
  Plain functions for matching: what CutPrefix, CutSuffix and Cut give, the parts between one after the other, and the whole match. No condition.
-/
set_option maxRecDepth 100000
namespace Go.Proofs.YtbkignlbcneddaaGreatDoor
open Go.PlainAid Go.RowKit
def between (ps : List ByteArray) : List ByteArray := (ps.drop 1).take (ps.length - 2)
theorem between_length (ps : List ByteArray) : (between ps).length = ps.length - 2 := by
  unfold between; rw [List.length_take, List.length_drop]; omega
theorem between_at (ps : List ByteArray) (j : Nat) (h : j < ps.length - 2) : partAt (between ps) j = partAt ps (j + 1) := by
  unfold partAt between
  rw [List.getD_eq_getElem?_getD, List.getD_eq_getElem?_getD, List.getElem?_take, if_pos h, List.getElem?_drop, Nat.add_comm]
theorem IsStrs.between {w : World} {b off : Nat} {ps : List ByteArray} (h : IsStrs w b off ps) : IsStrs w b (off + 1) (between ps) :=
  ⟨h.1, fun j hj => by
    rw [between_length] at hj
    rw [between_at ps j hj, ← h.2 (j + 1) (by omega)]
    congr 2; omega⟩
end Go.Proofs.YtbkignlbcneddaaGreatDoor
end

section
/-
  Plain facts on comparing (a total order) and on folding (idempotent; values stay values). No condition.
-/
set_option maxRecDepth 100000
namespace Go.Proofs.YtbkignlbcneddaaGreatDoor
open Go.PlainAid
/-! ### the order -/
theorem cb_range : ∀ a b : List UInt8, Lib.compareBytes a b = -1 ∨ Lib.compareBytes a b = 0 ∨ Lib.compareBytes a b = 1
  | [], [] => by simp [Lib.compareBytes]
  | [], _ :: _ => by simp [Lib.compareBytes]
  | _ :: _, [] => by simp [Lib.compareBytes]
  | a :: x, b :: y => by
    unfold Lib.compareBytes
    split
    · exact .inl rfl
    · split
      · exact .inr (.inr rfl)
      · exact cb_range x y
theorem cb_anti : ∀ a b : List UInt8, Lib.compareBytes b a = - Lib.compareBytes a b
  | [], [] => by simp [Lib.compareBytes]
  | [], _ :: _ => by simp [Lib.compareBytes]
  | _ :: _, [] => by simp [Lib.compareBytes]
  | a :: x, b :: y => by
    unfold Lib.compareBytes
    by_cases h1 : a < b
    · have h2 : ¬ b < a := by rw [UInt8.lt_iff_toNat_lt] at *; omega
      simp [h1, h2]
    · by_cases h2 : b < a
      · simp [h1, h2]
      · simp only [h1, h2, if_false]
        exact cb_anti x y
theorem cb_zero : ∀ a b : List UInt8, Lib.compareBytes a b = 0 ↔ a = b
  | [], [] => by simp [Lib.compareBytes]
  | [], _ :: _ => by simp [Lib.compareBytes]
  | _ :: _, [] => by simp [Lib.compareBytes]
  | a :: x, b :: y => by
    unfold Lib.compareBytes
    by_cases h1 : a < b
    · have : a ≠ b := fun e => by subst e; rw [UInt8.lt_iff_toNat_lt] at h1; omega
      simp [h1, this]
    · by_cases h2 : b < a
      · have : a ≠ b := fun e => by subst e; rw [UInt8.lt_iff_toNat_lt] at h2; omega
        simp [h1, h2, this]
      · have h3 : a = b := by apply UInt8.toNat_inj.1; rw [UInt8.lt_iff_toNat_lt] at h1 h2; omega
        simp only [h1, h2, if_false]
        rw [cb_zero x y]
        simp [h3]
theorem cb_trans : ∀ a b c : List UInt8, Lib.compareBytes a b ≤ 0 → Lib.compareBytes b c ≤ 0 → Lib.compareBytes a c ≤ 0
  | [], _, [] => by simp [Lib.compareBytes]
  | [], _, _ :: _ => by simp [Lib.compareBytes]
  | _ :: _, [], _ => by simp [Lib.compareBytes]
  | _ :: _, _ :: _, [] => by simp [Lib.compareBytes]
  | a :: x, b :: y, c :: z => by
    unfold Lib.compareBytes
    intro h1 h2
    by_cases ab : a < b
    · by_cases bc : b < c
      · have : a < c := by rw [UInt8.lt_iff_toNat_lt] at *; omega
        simp [this]
      · by_cases cb : c < b
        · simp [bc, cb] at h2
        · have : a < c := by rw [UInt8.lt_iff_toNat_lt] at *; omega
          simp [this]
    · by_cases ba : b < a
      · simp [ab, ba] at h1
      · simp only [ab, ba, if_false] at h1
        by_cases bc : b < c
        · have : a < c := by rw [UInt8.lt_iff_toNat_lt] at *; omega
          simp [this]
        · by_cases cb : c < b
          · simp [bc, cb] at h2
          · simp only [bc, cb, if_false] at h2
            have n1 : ¬ a < c := by rw [UInt8.lt_iff_toNat_lt] at *; omega
            have n2 : ¬ c < a := by rw [UInt8.lt_iff_toNat_lt] at *; omega
            simp only [n1, n2, if_false]
            exact cb_trans x y z h1 h2
theorem ba_ext {a b : ByteArray} (h : a.data.toList = b.data.toList) : a = b := by
  cases a; cases b; simp only [ByteArray.mk.injEq]; exact Array.toList_inj.1 h
/-! ### names are words, words are values -/
end Go.Proofs.YtbkignlbcneddaaGreatDoor
end

section
/-
  Plain facts on folding: idempotent, contained, and values stay values. No condition.
-/
set_option maxRecDepth 100000
namespace Go.Proofs.YtbkignlbcneddaaGreatDoor
open Go.PlainAid
theorem lowB_32 (c : UInt8) : (lowB c == 32) = (c == 32) := by
  unfold lowB
  split
  · rename_i h
    have h1 : c ≠ 32 := fun e => by subst e; have : (32 : UInt8).toNat = 32 := rfl; omega
    have h2 : c + 32 ≠ 32 := fun e => by
      have := congrArg UInt8.toNat e
      rw [UInt8.toNat_add] at this
      have h3 : (32 : UInt8).toNat = 32 := rfl
      omega
    rw [beq_eq_false_iff_ne.2 h1, beq_eq_false_iff_ne.2 h2]
  · rfl
theorem lowB_low (c : UInt8) : lowB (lowB c) = lowB c := by
  have h3 : (32 : UInt8).toNat = 32 := rfl
  by_cases h : 65 ≤ c.toNat ∧ c.toNat ≤ 90
  · have e : (lowB c).toNat = c.toNat + 32 := by
      unfold lowB; rw [if_pos h, UInt8.toNat_add]; omega
    have h2 : ∀ d : UInt8, ¬ (65 ≤ d.toNat ∧ d.toNat ≤ 90) → lowB d = d := fun d hd => by unfold lowB; rw [if_neg hd]
    exact h2 _ (by omega)
  · have e : lowB c = c := by unfold lowB; rw [if_neg h]
    rw [e, e]
theorem lowL_low (l : List UInt8) : lowL (lowL l) = lowL l := by
  unfold lowL; rw [List.map_map]; apply List.map_congr_left; intro c _; exact lowB_low c
/-! ### trimming -/
/-- no space at either end -/
def noSp (l : List UInt8) : Prop := (∀ c, l.head? = some c → c ≠ 32) ∧ (∀ c, l.getLast? = some c → c ≠ 32)
theorem left_head (l : List UInt8) (c : UInt8) (h : (Lib.trimLeftB l 32).head? = some c) : c ≠ 32 := by
  unfold Lib.trimLeftB at h
  intro e
  subst e
  have := List.head?_dropWhile_not (fun x : UInt8 => x == 32) l
  rw [h] at this
  simp at this
theorem left_id (l : List UInt8) (h : ∀ c, l.head? = some c → c ≠ 32) : Lib.trimLeftB l 32 = l := by
  unfold Lib.trimLeftB
  cases l with
  | nil => rfl
  | cons c l =>
    rw [List.dropWhile_cons, if_neg]
    have := h c rfl
    simpa using this
theorem right_id (l : List UInt8) (h : ∀ c, l.getLast? = some c → c ≠ 32) : Lib.trimRightB l 32 = l := by
  have := left_id l.reverse (fun c hc => h c (by rw [← List.head?_reverse]; exact hc))
  unfold Lib.trimLeftB at this
  unfold Lib.trimRightB
  rw [this, List.reverse_reverse]
theorem right_last (l : List UInt8) (c : UInt8) (h : (Lib.trimRightB l 32).getLast? = some c) : c ≠ 32 := by
  unfold Lib.trimRightB at h
  rw [List.getLast?_reverse] at h
  exact left_head l.reverse c h
theorem trimR_noSp (l : List UInt8) : noSp (trimR l) := by
  refine ⟨fun c h => ?_, fun c h => right_last _ c h⟩
  unfold trimR at h
  rw [← trim_swap] at h
  exact left_head _ c h
theorem trimR_id {l : List UInt8} (h : noSp l) : trimR l = l := by
  unfold trimR; rw [left_id l h.1, right_id l h.2]
theorem noSp_low {l : List UInt8} (h : noSp l) : noSp (lowL l) := by
  refine ⟨fun c hc => ?_, fun c hc => ?_⟩
  · unfold lowL at hc
    rw [List.head?_map] at hc
    obtain ⟨b, hb, rfl⟩ := Option.map_eq_some_iff.1 hc
    have := h.1 b hb
    have e := lowB_32 b
    intro e2
    rw [e2] at e
    simp at e
    exact this (by first | exact e | exact e.symm)
  · unfold lowL at hc
    rw [List.getLast?_map] at hc
    obtain ⟨b, hb, rfl⟩ := Option.map_eq_some_iff.1 hc
    have := h.2 b hb
    have e := lowB_32 b
    intro e2
    rw [e2] at e
    simp at e
    exact this (by first | exact e | exact e.symm)
/-! ### squeezing -/
def sqR : Bool → List UInt8 → List UInt8
  | _, [] => []
  | p, c :: l => if (c == 32) = true ∧ p = true then sqR true l else c :: sqR (c == 32) l
def lastSp : Bool → List UInt8 → Bool
  | p, [] => p
  | _, c :: l => lastSp (c == 32) l
theorem sqR_snoc : ∀ (l : List UInt8) (p : Bool) (c : UInt8), sqR p (l ++ [c]) = sqR p l ++ (if (c == 32) = true ∧ lastSp p l = true then [] else [c])
  | [], p, c => by simp [sqR, lastSp]
  | x :: l, p, c => by
    rw [List.cons_append]
    unfold sqR lastSp
    by_cases h : (x == 32) = true ∧ p = true
    · rw [if_pos h, if_pos h, sqR_snoc l true c, h.1]
    · rw [if_neg h, if_neg h, sqR_snoc l _ c, List.cons_append]
theorem lastSp_snoc : ∀ (l : List UInt8) (p : Bool) (c : UInt8), lastSp p (l ++ [c]) = (c == 32)
  | [], _, _ => rfl
  | x :: l, p, c => by rw [List.cons_append]; unfold lastSp; exact lastSp_snoc l _ c
theorem sqN_sqR (l : List UInt8) : ∀ k, k ≤ l.length → sqN l k = sqR false (l.take k)
  | 0, _ => by simp [sqN, sqR]
  | k + 1, hk => by
    have hlt : k < l.length := by omega
    have ih := sqN_sqR l k (by omega)
    unfold sqN
    rw [ih, List.take_succ_eq_append_getElem hlt, sqR_snoc]
    congr 1
    have e1 : l.getD k 0 = l[k] := by rw [List.getD_eq_getElem?_getD, List.getElem?_eq_getElem hlt]; rfl
    rw [e1]
    by_cases h0 : 0 < k
    · obtain ⟨j, rfl⟩ : ∃ j, k = j + 1 := ⟨k - 1, by omega⟩
      have e2 : l.getD (j + 1 - 1) 0 = l[j]'(by omega) := by rw [Nat.add_sub_cancel, List.getD_eq_getElem?_getD, List.getElem?_eq_getElem (by omega)]; rfl
      rw [e2, List.take_succ_eq_append_getElem (by omega : j < l.length), lastSp_snoc]
      by_cases h1 : l[j + 1] = 32
      · by_cases h2 : l[j]'(by omega) = 32
        · rw [if_pos ⟨h1, h0, h2⟩, if_pos ⟨by simp [h1], by simp [h2]⟩]
        · rw [if_neg (fun h => h2 h.2.2), if_neg (fun h => h2 (by simpa using h.2))]
      · rw [if_neg (fun h => h1 h.1), if_neg (fun h => h1 (by simpa using h.1))]
    · have : k = 0 := by omega
      subst this
      rw [if_neg (fun h => absurd h.2.1 (by omega)), List.take_zero]
      rw [if_neg (fun h => by simp [lastSp] at h)]
theorem sqL_sqR (l : List UInt8) : sqL l = sqR false l := by unfold sqL; rw [sqN_sqR l l.length (Nat.le_refl _), List.take_length]
theorem sqR_sq : ∀ (l : List UInt8) (p : Bool), sqR p (sqR p l) = sqR p l
  | [], _ => rfl
  | c :: l, p => by
    by_cases h : (c == 32) = true ∧ p = true
    · have e : sqR p (c :: l) = sqR true l := by conv => lhs; unfold sqR
                                                 rw [if_pos h]
      rw [e, h.2]; exact sqR_sq l true
    · have e : ∀ m, sqR p (c :: m) = c :: sqR (c == 32) m := fun m => by conv => lhs; unfold sqR
                                                                         rw [if_neg h]
      rw [e, e, sqR_sq l _]
theorem sqR_low : ∀ (l : List UInt8) (p : Bool), lowL (sqR p l) = sqR p (lowL l)
  | [], _ => rfl
  | c :: l, p => by
    have e : lowL (c :: l) = lowB c :: lowL l := rfl
    rw [e]
    unfold sqR
    rw [lowB_32]
    by_cases h : (c == 32) = true ∧ p = true
    · rw [if_pos h, if_pos h]; exact sqR_low l true
    · rw [if_neg h, if_neg h]
      have := sqR_low l (c == 32)
      rw [← this]; rfl
theorem sqR_head (l : List UInt8) : (sqR false l).head? = l.head? := by
  cases l with
  | nil => rfl
  | cons c l => unfold sqR; rw [if_neg (by simp)]; rfl
theorem noSp_sq {l : List UInt8} (h : noSp l) : noSp (sqR false l) := by
  refine ⟨fun c hc => h.1 c (by rw [← sqR_head]; exact hc), fun c hc => ?_⟩
  rcases List.eq_nil_or_concat l with rfl | ⟨m, x, rfl⟩
  · simp [sqR] at hc
  · have hx : x ≠ 32 := h.2 x (by simp)
    rw [List.concat_eq_append, sqR_snoc, if_neg (fun e => hx (by simpa using e.1)), List.getLast?_append] at hc
    simp at hc
    rw [← hc]; exact hx
theorem sqR_mem : ∀ (l : List UInt8) (p : Bool) (c : UInt8), c ∈ sqR p l → c ∈ l
  | [], _, _, h => h
  | x :: l, p, c, h => by
    unfold sqR at h
    by_cases hp : (x == 32) = true ∧ p = true
    · rw [if_pos hp] at h; exact List.mem_cons_of_mem _ (sqR_mem l true c h)
    · rw [if_neg hp] at h
      rcases List.mem_cons.1 h with e | h
      · rw [e]; exact List.mem_cons_self
      · exact List.mem_cons_of_mem _ (sqR_mem l _ c h)
/-! ### on byte arrays -/
theorem data_mk (l : List UInt8) : (⟨l.toArray⟩ : ByteArray).data.toList = l := rfl
theorem lowS_low (s : ByteArray) : lowS (lowS s) = lowS s := by unfold lowS; rw [data_mk, lowL_low]
def foldL (l : List UInt8) : List UInt8 := sqR false (lowL (trimR l))
theorem foldS_list (s : ByteArray) : foldS s = ⟨(foldL s.data.toList).toArray⟩ := by
  unfold foldS sqS lowS trimS foldL
  rw [data_mk, data_mk, sqL_sqR]
theorem foldS_data (s : ByteArray) : (foldS s).data.toList = foldL s.data.toList := by rw [foldS_list]
theorem foldL_noSp (l : List UInt8) : noSp (foldL l) := noSp_sq (noSp_low (trimR_noSp l))
theorem foldL_fold (l : List UInt8) : foldL (foldL l) = foldL l := by
  have e : ∀ m, foldL m = sqR false (lowL (trimR m)) := fun _ => rfl
  rw [e (foldL l), trimR_id (foldL_noSp l), e l, sqR_low, lowL_low, sqR_sq]
theorem foldS_fold (s : ByteArray) : foldS (foldS s) = foldS s := by
  rw [foldS_list (foldS s), foldS_data, foldL_fold, ← foldS_list]
/-- a value's normal form is a value -/
theorem clean_fold (s : ByteArray) (h : cleanB s = true) : cleanB (foldS s) = true := by
  unfold cleanB at h
  simp only [Bool.and_eq_true, decide_eq_true_eq, Bool.not_eq_true'] at h
  obtain ⟨⟨⟨⟨h1, h2⟩, h3⟩, h4⟩, h5⟩ := h
  have hall := allB_iff.1 h5
  have hns := foldL_noSp s.data.toList
  have hd := foldS_data s
  have hsz : (foldS s).size = (foldL s.data.toList).length := by rw [Lib.size_eq, hd]
  have hne : s.data.toList ≠ [] := fun e => by rw [Lib.size_eq, e] at h1; simp at h1
  have hnsp : noSp s.data.toList := by
    refine ⟨fun c hc => ?_, fun c hc => ?_⟩
    · intro e; subst e
      rw [List.head?_eq_getElem?] at hc
      rw [bt_list s 0 32 hc] at h3
      simp at h3
    · intro e; subst e
      rw [List.getLast?_eq_getElem?, ← Lib.size_eq] at hc
      rw [bt_list s (s.size - 1) 32 hc] at h4
      simp at h4
  have hfl : foldL s.data.toList = sqR false (lowL s.data.toList) := by unfold foldL; rw [trimR_id hnsp]
  have hpos : 1 ≤ (foldL s.data.toList).length := by
    rw [hfl]
    cases e : lowL s.data.toList with
    | nil => unfold lowL at e; exact absurd (List.map_eq_nil_iff.1 e) hne
    | cons c l => unfold sqR; rw [if_neg (by simp)]; simp
  have hle := foldS_size s
  have hbyte : ∀ j, j < (foldS s).size → ∃ c, (foldS s).data.toList[j]? = some c := fun j hj => ⟨_, List.getElem?_eq_getElem (by rw [← Lib.size_eq]; exact hj)⟩
  unfold cleanB
  have g3 : (bt (foldS s) 0 == 32) = false := by
    obtain ⟨c, hc⟩ := hbyte 0 (by omega)
    rw [bt_list _ _ _ hc]
    rw [hd] at hc
    have := hns.1 c (by rw [List.head?_eq_getElem?]; exact hc)
    rw [beq_eq_false_iff_ne]
    exact fun e => this (byte_32 c e)
  have g4 : (bt (foldS s) ((foldS s).size - 1) == 32) = false := by
    obtain ⟨c, hc⟩ := hbyte ((foldS s).size - 1) (by omega)
    rw [bt_list _ _ _ hc]
    rw [hd, hsz] at hc
    have := hns.2 c (by rw [List.getLast?_eq_getElem?]; exact hc)
    rw [beq_eq_false_iff_ne]
    exact fun e => this (byte_32 c e)
  have g5 : allB cleanP (foldS s) = true := allB_true fun j hj => by
    obtain ⟨c, hc⟩ := hbyte j hj
    rw [bt_list _ _ _ hc]
    rw [hd, hfl] at hc
    have hm := sqR_mem _ _ _ (List.mem_of_getElem? hc)
    unfold lowL at hm
    obtain ⟨b, hb, rfl⟩ := List.mem_map.1 hm
    obtain ⟨i, hi, rfl⟩ := List.getElem_of_mem hb
    have hcl := hall i (by rw [Lib.size_eq]; exact hi)
    rw [bt_list s i _ (List.getElem?_eq_getElem hi)] at hcl
    unfold cleanP at hcl ⊢
    simp only [Bool.and_eq_true, decide_eq_true_eq] at hcl ⊢
    by_cases hA : 65 ≤ ((s.data.toList[i]).toNat : Int) ∧ ((s.data.toList[i]).toNat : Int) ≤ 90
    · rw [lowB_hit _ hA.1 hA.2]; omega
    · rw [lowB_miss _ hA]; exact hcl
  rw [g3, g4, g5]
  simp
  omega
end Go.Proofs.YtbkignlbcneddaaGreatDoor
end

section
/-
  Contracts of fold's Trim, Fold, letter, digit, wordByte, Clean, Name and Word, and of the specification's. Condition: at most 1000000000 bytes.
-/
set_option maxRecDepth 100000
namespace Go.Proofs.YtbkignlbcneddaaGreatDoor
open Go.RowKit Go.PlainAid
theorem trimS_lib (s : ByteArray) : (⟨(Lib.trimB s.data.toList 32).toArray⟩ : ByteArray) = trimS s := by
  unfold trimS trimR Lib.trimB
  rw [trim_swap]
theorem trim_s (s : ByteArray) (w : World) (hs : s.size ≤ 1000000000) :
    Calls Tryz.prog 221 #[.string s] w fun e w' => e = .returned (.string (trimS s)) ∧ Below w.heap.size w w' := by
  have HE := Lib.hid (trimS_lib s)
  go_enter Tryz.func221, Tryz.ntmps221
  go_wp2_with (go_at_call 242; refine (Tryz.strings_Trim_one s 32 (by decide) _ (by omega)).mono ?_; rintro e w1 ⟨rfl, hw⟩)
  go_ret
  refine ⟨by rw [HE.out]; rfl, ?_⟩
  rcases hw with rfl | rfl
  · exact Below.refl _ _
  · exact (Below.refl _ _).drew
set_option maxRecDepth 100000 in
theorem fold_s (s : ByteArray) (w : World) (hs : s.size ≤ 1000000000) :
    Calls Tryz.prog 175 #[.string s] w fun e w' => e = .returned (.string (foldS s)) ∧ Below w.heap.size w w' := by
  have ht0 := trimS_size s
  have HL0 := Lib.hid (lowS_size (trimS s))
  go_enter Tryz.func175, Tryz.ntmps175
  go_wp2_with (first
    | (go_at_call 221; refine (trim_s _ _ hs).mono ?_; rintro e w1 ⟨rfl, hb1⟩)
    | (go_at_call 79; refine (lower_s _ _ (by omega)).mono ?_; rintro e w2 ⟨rfl, hb2⟩)
    | (go_at_call 223; refine (squeeze_s _ _ (by rw [HL0.out]; omega)).mono ?_; rintro e w3 ⟨rfl, hb3⟩))
  go_ret
  exact ⟨rfl, (hb1.trans (hb2.mono hb1.size)).trans (hb3.mono (Nat.le_trans hb1.size hb2.size))⟩
theorem letter_any (c : Int) (w : World) (h0 : 0 ≤ c) (h1 : c ≤ 255) :
    Calls Tryz.prog 176 #[.int .u8 c] w fun e w' => e = .returned (.bool (ltrI c)) ∧ w = w' := by
  by_cases a1 : 65 ≤ c <;> by_cases a2 : c ≤ 90 <;> by_cases a3 : 97 ≤ c <;> by_cases a4 : c ≤ 122 <;> try omega
  all_goals
    have HE := Lib.hid (show ltrI c = _ by unfold ltrI; simp only [a1, a2, a3, a4, decide_true, decide_false, Bool.and_true, Bool.and_false, Bool.or_true, Bool.or_false]; rfl)
    go_enter Tryz.func176, Tryz.ntmps176
    go_wp2
    go_ret
    exact ⟨by rw [HE.out]; rfl, rfl⟩
theorem rLetter_any (c : Int) (w : World) (h0 : 0 ≤ c) (h1 : c ≤ 255) :
    Calls Tryz.prog 104 #[.int .u8 c] w fun e w' => e = .returned (.bool (ltrI c)) ∧ w = w' := by
  by_cases a1 : 65 ≤ c <;> by_cases a2 : c ≤ 90 <;> by_cases a3 : 97 ≤ c <;> by_cases a4 : c ≤ 122 <;> try omega
  all_goals
    have HE := Lib.hid (show ltrI c = _ by unfold ltrI; simp only [a1, a2, a3, a4, decide_true, decide_false, Bool.and_true, Bool.and_false, Bool.or_true, Bool.or_false]; rfl)
    go_enter Tryz.func104, Tryz.ntmps104
    go_wp2
    go_ret
    exact ⟨by rw [HE.out]; rfl, rfl⟩
theorem digit_any (c : Int) (w : World) (h0 : 0 ≤ c) (h1 : c ≤ 255) :
    Calls Tryz.prog 177 #[.int .u8 c] w fun e w' => e = .returned (.bool (dgtI c)) ∧ w = w' := by
  by_cases a1 : 48 ≤ c <;> by_cases a2 : c ≤ 57
  all_goals
    have HE := Lib.hid (show dgtI c = _ by unfold dgtI; simp only [a1, a2, decide_true, decide_false, Bool.and_true, Bool.and_false]; rfl)
    go_enter Tryz.func177, Tryz.ntmps177
    go_wp2
    go_ret
    exact ⟨by rw [HE.out]; rfl, rfl⟩
theorem rDigit_any (c : Int) (w : World) (h0 : 0 ≤ c) (h1 : c ≤ 255) :
    Calls Tryz.prog 105 #[.int .u8 c] w fun e w' => e = .returned (.bool (dgtI c)) ∧ w = w' := by
  by_cases a1 : 48 ≤ c <;> by_cases a2 : c ≤ 57
  all_goals
    have HE := Lib.hid (show dgtI c = _ by unfold dgtI; simp only [a1, a2, decide_true, decide_false, Bool.and_true, Bool.and_false]; rfl)
    go_enter Tryz.func105, Tryz.ntmps105
    go_wp2
    go_ret
    exact ⟨by rw [HE.out]; rfl, rfl⟩
set_option maxRecDepth 100000 in
set_option maxHeartbeats 1000000 in
theorem clean_s (s : ByteArray) (w : World) (hs : s.size ≤ 1000000000) :
    Calls Tryz.prog 179 #[.string s] w fun e w' => e = .returned (.bool (cleanB s)) ∧ w = w' := by
  have hb := get_bt s
  by_cases hz : 1 ≤ s.size
  · by_cases hz2 : s.size ≤ 256
    · go_enter Tryz.func179, Tryz.ntmps179
      go_wp2
      go_loop [14] (fun i => ∃ k : Nat, k ≤ s.size ∧ i = .int .i64 k ∧ Hid (∀ j, j < k → cleanP (bt s j) = true)) (fun i => s.size - (intOf i).toNat)
      case atStart => exact ⟨0, Nat.zero_le _, rfl, Lib.hid fun j hj => absurd hj (Nat.not_lt_zero _)⟩
      case round =>
        obtain ⟨k, hk, rfl, HA⟩ := hrel
        have h0 := bt_nonneg s k
        have h255 := bt_le s k
        by_cases hlt : k < s.size
        · by_cases a1 : bt s k < 32
          · have HE := Lib.hid (show cleanB s = false by unfold cleanB; rw [allB_false k hlt (by unfold cleanP; simp; omega), Bool.and_false])
            go_wp2
            go_ret
            exact ⟨by rw [HE.out]; rfl, rfl⟩
          · by_cases a2 : 126 < bt s k
            · have HE := Lib.hid (show cleanB s = false by unfold cleanB; rw [allB_false k hlt (by unfold cleanP; simp; omega), Bool.and_false])
              go_wp2
              go_ret
              exact ⟨by rw [HE.out]; rfl, rfl⟩
            · go_wp2
              go_round
              case rel => exact ⟨k + 1, by omega, by go_num, Lib.hid (all_next HA.out (by unfold cleanP; simp; omega))⟩
              case measure => simp [intOf]; omega
        · have hkk : k = s.size := by omega
          have HB := Lib.hid (allB_true (p := cleanP) (s := s) fun j hj => HA.out j (by omega))
          clear hkk
          by_cases b1 : (bt s 0 == 32) = true
          · have HE := Lib.hid (show cleanB s = false by unfold cleanB; simp [b1])
            have b2 : (bt s 0 != 32) = false := by rw [bne, b1]; rfl
            clear b1
            go_wp2
            go_ret
            exact ⟨by rw [HE.out]; rfl, rfl⟩
          · have b2 : (bt s 0 != 32) = true := by rw [bne]; simp [b1]
            have hsub : IntKind.i64.wrap ((s.size : Int) - 1) = ((s.size - 1 : Nat) : Int) := by rw [IntWalk.i64_in _ ⟨by omega, by omega⟩]; omega
            by_cases b3 : (bt s (s.size - 1) == 32) = true
            · have HE := Lib.hid (show cleanB s = false by unfold cleanB; simp [b3])
              have b4 : (bt s (s.size - 1) != 32) = false := by rw [bne, b3]; rfl
              clear b1 b3
              go_wp2
              go_ret
              exact ⟨by rw [HE.out]; rfl, rfl⟩
            · have HE := Lib.hid (show cleanB s = true by unfold cleanB; rw [HB.out]; simp [hz, hz2]; exact ⟨by simpa using b1, by simpa using b3⟩)
              have b4 : (bt s (s.size - 1) != 32) = true := by rw [bne]; simp [b3]
              clear b1 b3
              go_wp2
              go_ret
              exact ⟨by rw [HE.out]; rfl, rfl⟩
    · have HE := Lib.hid (show cleanB s = false by unfold cleanB; simp [hz2])
      go_enter Tryz.func179, Tryz.ntmps179
      go_wp2
      go_ret
      exact ⟨by rw [HE.out]; rfl, rfl⟩
  · have HE := Lib.hid (show cleanB s = false by unfold cleanB; simp [hz])
    go_enter Tryz.func179, Tryz.ntmps179
    go_wp2
    go_ret
    exact ⟨by rw [HE.out]; rfl, rfl⟩
end Go.Proofs.YtbkignlbcneddaaGreatDoor
end

section
/-
  Contracts of the specification's Clean, of Name and Word and of the specification's Name and Word. Condition: at most 1000000000 bytes.
-/
set_option maxRecDepth 100000
namespace Go.Proofs.YtbkignlbcneddaaGreatDoor
open Go.RowKit Go.PlainAid
set_option maxRecDepth 100000 in
set_option maxHeartbeats 1000000 in
theorem rClean_s (s : ByteArray) (w : World) (hs : s.size ≤ 1000000000) :
    Calls Tryz.prog 60 #[.string s] w fun e w' => e = .returned (.bool (cleanB s)) ∧ w = w' := by
  have hb := get_bt s
  by_cases hz : 1 ≤ s.size
  · by_cases hz2 : s.size ≤ 256
    · by_cases b1 : (bt s 0 == 32) = true
      · have HE := Lib.hid (show cleanB s = false by unfold cleanB; simp [b1])
        go_enter Tryz.func60, Tryz.ntmps60
        go_wp2
        go_ret
        exact ⟨by rw [HE.out]; rfl, rfl⟩
      · have b2 : (bt s 0 == 32) = false := by simpa using b1
        clear b1
        have hsub : IntKind.i64.wrap ((s.size : Int) - 1) = ((s.size - 1 : Nat) : Int) := by rw [IntWalk.i64_in _ ⟨by omega, by omega⟩]; omega
        by_cases b3 : (bt s (s.size - 1) == 32) = true
        · have HE := Lib.hid (show cleanB s = false by unfold cleanB; simp [b3])
          go_enter Tryz.func60, Tryz.ntmps60
          go_wp2
          go_ret
          exact ⟨by rw [HE.out]; rfl, rfl⟩
        · have b4 : (bt s (s.size - 1) == 32) = false := by simpa using b3
          clear b3
          go_enter Tryz.func60, Tryz.ntmps60
          go_wp2
          have B2 := Lib.hid b2
          have B4 := Lib.hid b4
          clear b2 b4 hsub
          go_loop [3] (fun i => ∃ k : Nat, k ≤ s.size ∧ i = .int .i64 k ∧ Hid (∀ j, j < k → cleanP (bt s j) = true)) (fun i => s.size - (intOf i).toNat)
          case atStart => exact ⟨0, Nat.zero_le _, rfl, Lib.hid fun j hj => absurd hj (Nat.not_lt_zero _)⟩
          case round =>
            obtain ⟨k, hk, rfl, HA⟩ := hrel
            have h0 := bt_nonneg s k
            have h255 := bt_le s k
            by_cases hlt : k < s.size
            · by_cases a1 : bt s k < 32
              · have HE := Lib.hid (show cleanB s = false by unfold cleanB; rw [allB_false k hlt (by unfold cleanP; simp; omega), Bool.and_false])
                go_wp2
                go_ret
                exact ⟨by rw [HE.out]; rfl, rfl⟩
              · by_cases a2 : 126 < bt s k
                · have HE := Lib.hid (show cleanB s = false by unfold cleanB; rw [allB_false k hlt (by unfold cleanP; simp; omega), Bool.and_false])
                  go_wp2
                  go_ret
                  exact ⟨by rw [HE.out]; rfl, rfl⟩
                · go_wp2
                  go_round
                  case rel => exact ⟨k + 1, by omega, by go_num, Lib.hid (all_next HA.out (by unfold cleanP; simp; omega))⟩
                  case measure => simp [intOf]; omega
            · have HE := Lib.hid (show cleanB s = true by
                unfold cleanB; rw [allB_true (p := cleanP) (s := s) fun j hj => HA.out j (by omega), B2.out, B4.out]; simp [hz, hz2])
              go_wp2
              go_ret
              exact ⟨by rw [HE.out]; rfl, rfl⟩
    · have HE := Lib.hid (show cleanB s = false by unfold cleanB; simp [hz2])
      go_enter Tryz.func60, Tryz.ntmps60
      go_wp2
      go_ret
      exact ⟨by rw [HE.out]; rfl, rfl⟩
  · have HE := Lib.hid (show cleanB s = false by unfold cleanB; simp [hz])
    go_enter Tryz.func60, Tryz.ntmps60
    go_wp2
    go_ret
    exact ⟨by rw [HE.out]; rfl, rfl⟩
set_option maxRecDepth 100000 in
set_option maxHeartbeats 1000000 in
theorem name_s (s : ByteArray) (w : World) (hs : s.size ≤ 1000000000) :
    Calls Tryz.prog 138 #[.string s] w fun e w' => e = .returned (.bool (nameB s)) ∧ w = w' := by
  have hb := get_bt s
  by_cases hz : 1 ≤ s.size
  · by_cases hz2 : s.size ≤ 64
    · by_cases b1 : ltrI (bt s 0) = true
      · go_enter Tryz.func138, Tryz.ntmps138
        go_wp2_with (first
          | (go_at_call 176; refine (letter_any _ _ (bt_nonneg _ _) (bt_le _ _)).mono ?_; rintro e w' ⟨rfl, rfl⟩)
          | (go_at_call 177; refine (digit_any _ _ (bt_nonneg _ _) (bt_le _ _)).mono ?_; rintro e w' ⟨rfl, rfl⟩))
        have B1 := Lib.hid b1; clear b1
        go_loop [20] (fun i => ∃ k : Nat, k ≤ s.size ∧ i = .int .i64 k ∧ Hid (∀ j, j < k → nameP (bt s j) = true)) (fun i => s.size - (intOf i).toNat)
        case atStart => exact ⟨0, Nat.zero_le _, rfl, Lib.hid fun j hj => absurd hj (Nat.not_lt_zero _)⟩
        case round =>
          obtain ⟨k, hk, rfl, HA⟩ := hrel
          by_cases hlt : k < s.size
          · cases c1 : ltrI (bt s k)
            · cases c2 : dgtI (bt s k)
              · cases c3 : (bt s k == 45)
                · have HE := Lib.hid (show nameB s = false by unfold nameB; rw [allB_false k hlt (by unfold nameP; rw [c1, c2, c3]; rfl), Bool.and_false])
                  have c4 : (bt s k != 45) = true := by rw [bne, c3]; rfl
                  clear c3
                  go_wp2_with (first | (go_at_call 176; refine (letter_any _ _ (bt_nonneg _ _) (bt_le _ _)).mono ?_; rintro e w' ⟨rfl, rfl⟩) | (go_at_call 177; refine (digit_any _ _ (bt_nonneg _ _) (bt_le _ _)).mono ?_; rintro e w' ⟨rfl, rfl⟩))
                  go_ret
                  exact ⟨by rw [HE.out]; rfl, rfl⟩
                · have c4 : (bt s k != 45) = false := by rw [bne, c3]; rfl
                  have HN := Lib.hid (all_next HA.out (show nameP (bt s k) = true by unfold nameP; rw [c1, c2, c3]; rfl))
                  clear c3
                  go_wp2_with (first | (go_at_call 176; refine (letter_any _ _ (bt_nonneg _ _) (bt_le _ _)).mono ?_; rintro e w' ⟨rfl, rfl⟩) | (go_at_call 177; refine (digit_any _ _ (bt_nonneg _ _) (bt_le _ _)).mono ?_; rintro e w' ⟨rfl, rfl⟩))
                  go_round
                  case rel => exact ⟨k + 1, by omega, by go_num, HN⟩
                  case measure => simp [intOf]; omega
              · have HN := Lib.hid (all_next HA.out (show nameP (bt s k) = true by unfold nameP; rw [c1, c2]; rfl))
                go_wp2_with (first | (go_at_call 176; refine (letter_any _ _ (bt_nonneg _ _) (bt_le _ _)).mono ?_; rintro e w' ⟨rfl, rfl⟩) | (go_at_call 177; refine (digit_any _ _ (bt_nonneg _ _) (bt_le _ _)).mono ?_; rintro e w' ⟨rfl, rfl⟩))
                go_round
                case rel => exact ⟨k + 1, by omega, by go_num, HN⟩
                case measure => simp [intOf]; omega
            · have HN := Lib.hid (all_next HA.out (show nameP (bt s k) = true by unfold nameP; rw [c1]; rfl))
              go_wp2_with (first | (go_at_call 176; refine (letter_any _ _ (bt_nonneg _ _) (bt_le _ _)).mono ?_; rintro e w' ⟨rfl, rfl⟩) | (go_at_call 177; refine (digit_any _ _ (bt_nonneg _ _) (bt_le _ _)).mono ?_; rintro e w' ⟨rfl, rfl⟩))
              go_round
              case rel => exact ⟨k + 1, by omega, by go_num, HN⟩
              case measure => simp [intOf]; omega
          · have HE := Lib.hid (show nameB s = true by
              unfold nameB; rw [allB_true (p := nameP) (s := s) fun j hj => HA.out j (by omega), B1.out]; simp [hz, hz2])
            go_wp2
            go_ret
            exact ⟨by rw [HE.out]; rfl, rfl⟩
      · have b2 : ltrI (bt s 0) = false := by simpa using b1
        clear b1
        have HE := Lib.hid (show nameB s = false by unfold nameB; simp [b2])
        go_enter Tryz.func138, Tryz.ntmps138
        go_wp2_with (first | (go_at_call 176; refine (letter_any _ _ (bt_nonneg _ _) (bt_le _ _)).mono ?_; rintro e w' ⟨rfl, rfl⟩) | (go_at_call 177; refine (digit_any _ _ (bt_nonneg _ _) (bt_le _ _)).mono ?_; rintro e w' ⟨rfl, rfl⟩))
        go_ret
        exact ⟨by rw [HE.out]; rfl, rfl⟩
    · have HE := Lib.hid (show nameB s = false by unfold nameB; simp [hz2])
      go_enter Tryz.func138, Tryz.ntmps138
      go_wp2
      go_ret
      exact ⟨by rw [HE.out]; rfl, rfl⟩
  · have HE := Lib.hid (show nameB s = false by unfold nameB; simp [hz])
    go_enter Tryz.func138, Tryz.ntmps138
    go_wp2
    go_ret
    exact ⟨by rw [HE.out]; rfl, rfl⟩
set_option maxRecDepth 100000 in
set_option maxHeartbeats 1000000 in
theorem rName_s (s : ByteArray) (w : World) (hs : s.size ≤ 1000000000) :
    Calls Tryz.prog 58 #[.string s] w fun e w' => e = .returned (.bool (nameB s)) ∧ w = w' := by
  have hb := get_bt s
  by_cases hz : 1 ≤ s.size
  · by_cases hz2 : s.size ≤ 64
    · by_cases b1 : ltrI (bt s 0) = true
      · go_enter Tryz.func58, Tryz.ntmps58
        go_wp2_with (first
          | (go_at_call 104; refine (rLetter_any _ _ (bt_nonneg _ _) (bt_le _ _)).mono ?_; rintro e w' ⟨rfl, rfl⟩)
          | (go_at_call 105; refine (rDigit_any _ _ (bt_nonneg _ _) (bt_le _ _)).mono ?_; rintro e w' ⟨rfl, rfl⟩))
        have B1 := Lib.hid b1; clear b1
        go_loop [3] (fun i => ∃ k : Nat, k ≤ s.size ∧ i = .int .i64 k ∧ Hid (∀ j, j < k → nameP (bt s j) = true)) (fun i => s.size - (intOf i).toNat)
        case atStart => exact ⟨0, Nat.zero_le _, rfl, Lib.hid fun j hj => absurd hj (Nat.not_lt_zero _)⟩
        case round =>
          obtain ⟨k, hk, rfl, HA⟩ := hrel
          by_cases hlt : k < s.size
          · cases c1 : ltrI (bt s k)
            · cases c2 : dgtI (bt s k)
              · cases c3 : (bt s k == 45)
                · have HE := Lib.hid (show nameB s = false by unfold nameB; rw [allB_false k hlt (by unfold nameP; rw [c1, c2, c3]; rfl), Bool.and_false])
                  have c4 : (bt s k != 45) = true := by rw [bne, c3]; rfl
                  clear c3
                  go_wp2_with (first | (go_at_call 104; refine (rLetter_any _ _ (bt_nonneg _ _) (bt_le _ _)).mono ?_; rintro e w' ⟨rfl, rfl⟩) | (go_at_call 105; refine (rDigit_any _ _ (bt_nonneg _ _) (bt_le _ _)).mono ?_; rintro e w' ⟨rfl, rfl⟩))
                  go_ret
                  exact ⟨by rw [HE.out]; rfl, rfl⟩
                · have c4 : (bt s k != 45) = false := by rw [bne, c3]; rfl
                  have HN := Lib.hid (all_next HA.out (show nameP (bt s k) = true by unfold nameP; rw [c1, c2, c3]; rfl))
                  clear c3
                  go_wp2_with (first | (go_at_call 104; refine (rLetter_any _ _ (bt_nonneg _ _) (bt_le _ _)).mono ?_; rintro e w' ⟨rfl, rfl⟩) | (go_at_call 105; refine (rDigit_any _ _ (bt_nonneg _ _) (bt_le _ _)).mono ?_; rintro e w' ⟨rfl, rfl⟩))
                  go_round
                  case rel => exact ⟨k + 1, by omega, by go_num, HN⟩
                  case measure => simp [intOf]; omega
              · have HN := Lib.hid (all_next HA.out (show nameP (bt s k) = true by unfold nameP; rw [c1, c2]; rfl))
                go_wp2_with (first | (go_at_call 104; refine (rLetter_any _ _ (bt_nonneg _ _) (bt_le _ _)).mono ?_; rintro e w' ⟨rfl, rfl⟩) | (go_at_call 105; refine (rDigit_any _ _ (bt_nonneg _ _) (bt_le _ _)).mono ?_; rintro e w' ⟨rfl, rfl⟩))
                go_round
                case rel => exact ⟨k + 1, by omega, by go_num, HN⟩
                case measure => simp [intOf]; omega
            · have HN := Lib.hid (all_next HA.out (show nameP (bt s k) = true by unfold nameP; rw [c1]; rfl))
              go_wp2_with (first | (go_at_call 104; refine (rLetter_any _ _ (bt_nonneg _ _) (bt_le _ _)).mono ?_; rintro e w' ⟨rfl, rfl⟩) | (go_at_call 105; refine (rDigit_any _ _ (bt_nonneg _ _) (bt_le _ _)).mono ?_; rintro e w' ⟨rfl, rfl⟩))
              go_round
              case rel => exact ⟨k + 1, by omega, by go_num, HN⟩
              case measure => simp [intOf]; omega
          · have HE := Lib.hid (show nameB s = true by
              unfold nameB; rw [allB_true (p := nameP) (s := s) fun j hj => HA.out j (by omega), B1.out]; simp [hz, hz2])
            go_wp2
            go_ret
            exact ⟨by rw [HE.out]; rfl, rfl⟩
      · have b2 : ltrI (bt s 0) = false := by simpa using b1
        clear b1
        have HE := Lib.hid (show nameB s = false by unfold nameB; simp [b2])
        go_enter Tryz.func58, Tryz.ntmps58
        go_wp2_with (first | (go_at_call 104; refine (rLetter_any _ _ (bt_nonneg _ _) (bt_le _ _)).mono ?_; rintro e w' ⟨rfl, rfl⟩) | (go_at_call 105; refine (rDigit_any _ _ (bt_nonneg _ _) (bt_le _ _)).mono ?_; rintro e w' ⟨rfl, rfl⟩))
        go_ret
        exact ⟨by rw [HE.out]; rfl, rfl⟩
    · have HE := Lib.hid (show nameB s = false by unfold nameB; simp [hz2])
      go_enter Tryz.func58, Tryz.ntmps58
      go_wp2
      go_ret
      exact ⟨by rw [HE.out]; rfl, rfl⟩
  · have HE := Lib.hid (show nameB s = false by unfold nameB; simp [hz])
    go_enter Tryz.func58, Tryz.ntmps58
    go_wp2
    go_ret
    exact ⟨by rw [HE.out]; rfl, rfl⟩
end Go.Proofs.YtbkignlbcneddaaGreatDoor
end

section
/-
  Contracts of Lower, letter, digit and Clean (program and specification). Condition: at most 1000000000 bytes.
-/
set_option maxRecDepth 100000
namespace Go.Proofs.YtbkignlbcneddaaGreatDoor
open Go.RowKit Go.PlainAid
end Go.Proofs.YtbkignlbcneddaaGreatDoor
end

section
/-
  Contracts of the specification's Clean, of Name and of the specification's Name. Condition: at most 1000000000 bytes.
-/
set_option maxRecDepth 100000
namespace Go.Proofs.YtbkignlbcneddaaGreatDoor
open Go.RowKit Go.PlainAid
end Go.Proofs.YtbkignlbcneddaaGreatDoor
end

section
/-
  Lists of attributes as values: ascending lists of strings without doubles, the normal form, and what determines it.
-/
set_option maxRecDepth 100000
namespace Go.Proofs.YtbkignlbcneddaaGreatDoor
open Go.RowKit Go.PlainAid
structure Ord3 {α : Type} (f : α → α → Int) : Prop where
  range : ∀ a b, f a b = -1 ∨ f a b = 0 ∨ f a b = 1
  anti : ∀ a b, f b a = - f a b
  zero : ∀ a b, f a b = 0 ↔ a = b
  trans : ∀ a b c, f a b ≤ 0 → f b c ≤ 0 → f a c ≤ 0
theorem cmpS_ord : Ord3 cmpS :=
  ⟨fun a b => cb_range _ _, fun a b => cb_anti _ _, fun a b => by unfold cmpS; rw [cb_zero]; exact ⟨ba_ext, fun e => by rw [e]⟩, fun a b c h1 h2 => cb_trans _ _ _ h1 h2⟩
theorem cs_irrefl (a : ByteArray) : ¬ cmpS a a < 0 := by have := (cmpS_ord.zero a a).2 rfl; omega
theorem cs_trans {a b c : ByteArray} (h1 : cmpS a b < 0) (h2 : cmpS b c < 0) : cmpS a c < 0 := by
  have h := cmpS_ord.trans a b c (by omega) (by omega)
  by_cases e : cmpS a c = 0
  · have k := (cmpS_ord.zero a c).1 e
    subst k
    have := cmpS_ord.anti a b
    omega
  · omega
theorem cs_asymm {a b : ByteArray} (h : cmpS a b < 0) : ¬ cmpS b a < 0 := by have := cmpS_ord.anti a b; omega
theorem cs_tri (a b : ByteArray) : cmpS a b < 0 ∨ a = b ∨ cmpS b a < 0 := by
  have h1 := cmpS_ord.range a b
  have h2 := cmpS_ord.anti a b
  have h3 := cmpS_ord.zero a b
  by_cases h : cmpS a b = 0
  · exact .inr (.inl (h3.1 h))
  · omega
theorem cs_ne {a b : ByteArray} (h : cmpS a b < 0) : a ≠ b := fun e => by subst e; exact cs_irrefl _ h
/-! ### ascending lists without doubles -/
def Asc (l : List ByteArray) : Prop := l.Pairwise fun a b => cmpS a b < 0
def insS : List ByteArray → ByteArray → List ByteArray
  | [], s => [s]
  | x :: r, s => if cmpS x s < 0 then x :: insS r s else if x = s then x :: r else s :: x :: r
theorem insS_mem {x s : ByteArray} : ∀ {l : List ByteArray}, x ∈ insS l s ↔ x ∈ l ∨ x = s
  | [] => by simp [insS]
  | y :: r => by
    unfold insS
    by_cases h : cmpS y s < 0
    · rw [if_pos h, List.mem_cons, List.mem_cons, insS_mem, or_assoc]
    · rw [if_neg h]
      by_cases e : y = s
      · rw [if_pos e]
        subst e
        simp only [List.mem_cons]
        exact ⟨fun k => k.elim (fun k => .inr k) (fun k => .inl (.inr k)), fun k => k.elim id .inl⟩
      · rw [if_neg e]
        simp only [List.mem_cons]
        exact ⟨fun k => k.elim .inr .inl, fun k => k.elim .inr .inl⟩
theorem insS_asc {s : ByteArray} : ∀ {l : List ByteArray}, Asc l → Asc (insS l s)
  | [], _ => List.pairwise_singleton _ _
  | y :: r, h => by
    have h' := List.pairwise_cons.1 h
    unfold insS
    by_cases hy : cmpS y s < 0
    · rw [if_pos hy]
      refine List.pairwise_cons.2 ⟨fun x hx => ?_, insS_asc h'.2⟩
      rcases insS_mem.1 hx with k | k
      · exact h'.1 x k
      · rw [k]; exact hy
    · rw [if_neg hy]
      by_cases e : y = s
      · rw [if_pos e]; exact h
      · rw [if_neg e]
        have hs : cmpS s y < 0 := (cs_tri y s).elim (fun k => absurd k hy) fun k => k.elim (fun k => absurd k e) id
        refine List.pairwise_cons.2 ⟨fun x hx => ?_, h⟩
        rcases List.mem_cons.1 hx with k | k
        · rw [k]; exact hs
        · exact cs_trans hs (h'.1 x k)
theorem asc_ext : ∀ {a b : List ByteArray}, Asc a → Asc b → (∀ x, x ∈ a ↔ x ∈ b) → a = b
  | [], [], _, _, _ => rfl
  | [], y :: r, _, _, h => absurd ((h y).2 (List.mem_cons_self ..)) (List.not_mem_nil)
  | x :: r, [], _, _, h => absurd ((h x).1 (List.mem_cons_self ..)) (List.not_mem_nil)
  | x :: a, y :: b, ha, hb, h => by
    have ha' := List.pairwise_cons.1 ha
    have hb' := List.pairwise_cons.1 hb
    have e : x = y := by
      rcases List.mem_cons.1 ((h x).1 (List.mem_cons_self ..)) with k | k
      · exact k
      · rcases List.mem_cons.1 ((h y).2 (List.mem_cons_self ..)) with j | j
        · exact j.symm
        · exact absurd (ha'.1 y j) (cs_asymm (hb'.1 x k))
    subst e
    rw [asc_ext ha'.2 hb'.2 fun z => ?_]
    constructor
    · intro hz
      rcases List.mem_cons.1 ((h z).1 (List.mem_cons_of_mem _ hz)) with k | k
      · exact absurd k.symm (cs_ne (ha'.1 z hz))
      · exact k
    · intro hz
      rcases List.mem_cons.1 ((h z).2 (List.mem_cons_of_mem _ hz)) with k | k
      · exact absurd k.symm (cs_ne (hb'.1 z hz))
      · exact k
def sortU (l : List ByteArray) : List ByteArray := l.foldl insS []
theorem foldl_mem {x : ByteArray} : ∀ (l a : List ByteArray), x ∈ l.foldl insS a ↔ x ∈ a ∨ x ∈ l
  | [], a => by simp
  | y :: r, a => by
    rw [List.foldl_cons, foldl_mem r, insS_mem, List.mem_cons, or_assoc]
theorem foldl_asc : ∀ (l a : List ByteArray), Asc a → Asc (l.foldl insS a)
  | [], _, h => h
  | _ :: r, _, h => by rw [List.foldl_cons]; exact foldl_asc r _ (insS_asc h)
theorem sortU_mem {x : ByteArray} {l : List ByteArray} : x ∈ sortU l ↔ x ∈ l := by unfold sortU; rw [foldl_mem]; simp
theorem sortU_asc (l : List ByteArray) : Asc (sortU l) := foldl_asc l [] List.Pairwise.nil
theorem insS_len : ∀ (l : List ByteArray) (s : ByteArray), (insS l s).length ≤ l.length + 1
  | [], _ => Nat.le_refl _
  | x :: r, s => by
    unfold insS
    have := insS_len r s
    split
    · simpa using this
    · split <;> simp
theorem foldl_len : ∀ (l a : List ByteArray), (l.foldl insS a).length ≤ a.length + l.length
  | [], _ => Nat.le_refl _
  | y :: r, a => by
    rw [List.foldl_cons, List.length_cons]
    have h1 := foldl_len r (insS a y)
    have h2 := insS_len a y
    omega
theorem sortU_len (l : List ByteArray) : (sortU l).length ≤ l.length := by have := foldl_len l []; simpa [sortU] using this
theorem asc_nodup {l : List ByteArray} (h : Asc l) : l.Nodup := h.imp cs_ne
/-! ### attributes -/
abbrev At := ByteArray × List ByteArray
/-- .. whatever the letters' case -/
def Hl (l : List At) (n v : ByteArray) : Prop := ∃ a ∈ l, lowS a.1 = n ∧ v ∈ a.2
structure NF (l : List At) : Prop where
  asc : Asc (l.map (·.1))
  low : ∀ a ∈ l, lowS a.1 = a.1
  vasc : ∀ a ∈ l, Asc a.2
  ne : ∀ a ∈ l, a.2 ≠ []
/-- all values of the attributes with a name in small letters -/
def allV (l : List At) (n : ByteArray) : List ByteArray := (l.filter fun a => decide (lowS a.1 = n)).flatMap (·.2)
def vals (l : List At) (n : ByteArray) : List ByteArray := sortU (allV l n)
def names (l : List At) : List ByteArray := sortU ((l.filter fun a => !a.2.isEmpty).map fun a => lowS a.1)
/-- the normal form -/
def nf (l : List At) : List At := (names l).map fun n => (n, vals l n)
theorem allV_mem {l : List At} {n v : ByteArray} : v ∈ allV l n ↔ Hl l n v := by
  unfold allV Hl
  simp only [List.mem_flatMap, List.mem_filter, decide_eq_true_eq]
  exact ⟨fun ⟨a, ⟨h1, h2⟩, h3⟩ => ⟨a, h1, h2, h3⟩, fun ⟨a, h1, h2, h3⟩ => ⟨a, ⟨h1, h2⟩, h3⟩⟩
theorem vals_mem {l : List At} {n v : ByteArray} : v ∈ vals l n ↔ Hl l n v := by unfold vals; rw [sortU_mem, allV_mem]
theorem vals_asc (l : List At) (n : ByteArray) : Asc (vals l n) := sortU_asc _
theorem names_mem {l : List At} {n : ByteArray} : n ∈ names l ↔ ∃ v, Hl l n v := by
  unfold names Hl
  rw [sortU_mem, List.mem_map]
  constructor
  · rintro ⟨a, ha, e⟩
    rw [List.mem_filter] at ha
    cases h : a.2 with
    | nil => rw [h] at ha; simp at ha
    | cons v r => exact ⟨v, a, ha.1, e, by rw [h]; exact List.mem_cons_self ..⟩
  · rintro ⟨v, a, ha, e, hv⟩
    refine ⟨a, List.mem_filter.2 ⟨ha, ?_⟩, e⟩
    cases h : a.2 with
    | nil => rw [h] at hv; exact absurd hv List.not_mem_nil
    | cons v r => rfl
theorem names_vals {l : List At} {n : ByteArray} : n ∈ names l ↔ vals l n ≠ [] := by
  rw [names_mem]
  constructor
  · rintro ⟨v, hv⟩ e
    have := vals_mem.2 hv
    rw [e] at this
    exact absurd this List.not_mem_nil
  · intro h
    obtain ⟨v, hv⟩ := List.exists_mem_of_ne_nil _ h
    exact ⟨v, vals_mem.1 hv⟩
theorem nf_names (l : List At) : (nf l).map (·.1) = names l := by unfold nf; rw [List.map_map]; exact List.map_id _
theorem nf_mem {l : List At} {a : At} : a ∈ nf l ↔ a.2 = vals l a.1 ∧ a.2 ≠ [] := by
  unfold nf
  rw [List.mem_map]
  constructor
  · rintro ⟨n, hn, rfl⟩; exact ⟨rfl, names_vals.1 hn⟩
  · rintro ⟨h1, h2⟩
    refine ⟨a.1, names_vals.2 (h1 ▸ h2), ?_⟩
    rw [← h1]
theorem nf_NF (l : List At) : NF (nf l) where
  asc := by rw [nf_names]; exact sortU_asc _
  low a ha := by
    obtain ⟨h1, h2⟩ := nf_mem.1 ha
    rw [h1] at h2
    obtain ⟨v, hv⟩ := names_mem.1 (names_vals.2 h2)
    obtain ⟨b, _, e, _⟩ := hv
    rw [← e, lowS_low]
  vasc a ha := by rw [(nf_mem.1 ha).1]; exact vals_asc _ _
  ne a ha := (nf_mem.1 ha).2
end Go.Proofs.YtbkignlbcneddaaGreatDoor
end

section
/-
  What the proofs of this seat share (its statements list no variable: rows, no cards): arguments that are only read, slices of strings that came in.
-/
set_option maxRecDepth 100000
namespace Go.Proofs.YtbkignlbcneddaaGreatDoor
open Go.ChangeShapes Go.WideShapes Go.ChangeAt Go.RowKit
theorem own : ownKnob Tryz.prog.godebug = none := by kernel_rfl
theorem laidOut : laidOutB Tryz.prog = true := by kernel_rfl
/-- arguments that are only read read behind the call as before it -/
theorem trodAll_below {H : Type} {enc : TypeId × Value → H} {W W' : World} (hb : Below W.heap.size W W') : ∀ (ts : List TypeId) (vs : List Value) (ds : List (DataW H)) (ps : List MemPlace),
    (∀ t ∈ ts, Tryz.prog.readableRec t = true ∧ t < Tryz.prog.types.size) → DataW.TrodAll enc Tryz.prog W 0 (fun _ => true) true ts vs ds ps → (∀ x ∈ ps, x.block < W.heap.size) →
    DataW.TrodAll enc Tryz.prog W' 0 (fun b => decide (b < W.heap.size)) true ts vs ds ps
  | [], vs, ds, ps, _, h, _ => by
    obtain ⟨rfl, rfl, rfl⟩ := trodAll_nil h
    exact trodAll_mk0
  | t :: ts, vs, ds, ps, hr, h, hl => by
    obtain ⟨v, vs', d, ds', p, q, rfl, rfl, rfl, h0, r0⟩ := trodAll_cons h
    exact trodAll_cons_mk (Below.trod laidOut (hr t (by simp)).1 (hr t (by simp)).2 h0 hb (fun x hx => hl x (by simp [hx])))
      (trodAll_below hb ts vs' ds' q (fun t ht => hr t (by simp [ht])) r0 (fun x hx => hl x (by simp [hx])))
/-- a slice of strings that came in -/
def StrsAt (w : World) (ao : Option Addr) (n cap : Nat) (ps : List ByteArray) : Prop :=
  ps.length = n ∧ n ≤ cap ∧ cap ≤ maxLen ∧ (0 < n → ∃ b off, ao = some ⟨b, off, none⟩ ∧ IsStrs w b off ps)
theorem StrsAt.below {w w' : World} {ao : Option Addr} {n cap : Nat} {ps : List ByteArray} (h : StrsAt w ao n cap ps) (hb : Below w.heap.size w w') : StrsAt w' ao n cap ps :=
  ⟨h.1, h.2.1, h.2.2.1, fun hn => by
    obtain ⟨b, off, e, hi⟩ := h.2.2.2 hn
    exact ⟨b, off, e, hi.below hb hi.1⟩⟩
end Go.Proofs.YtbkignlbcneddaaGreatDoor
end

section
/-
  Slices of strings that the call has made or that came in, and the contract of the specification's Same. No condition beyond sizes.
-/
set_option maxRecDepth 100000
namespace Go.Proofs.YtbkignlbcneddaaGreatDoor
open Go.RowKit Go.PlainAid
/-- the cells of strings -/
def scells (l : List ByteArray) : List Value := l.map Value.string
theorem scells_snoc (l : List ByteArray) (p : ByteArray) : scells (l ++ [p]) = scells l ++ [.string p] := by simp [scells]
theorem info_string : (Tryz.prog.info? 9).map (fun i => (i.zero, i.size, i.bytes)) = some (some (.string ⟨#[]⟩), 1, 16) := by kernel_rfl
/-- 'l = append(l, s)' where l is the call's own -/
theorem push_str {ops : Array Oper} {rest : List Oper} {o : Oper} {a : Act} {Q : Exit → Act → World → Prop} (wr : World) {base : Nat} {v : Value} {n : Nat} {xs : List Value} (hown : wr.ownsRow base 9 1 v n xs) (s x : Operand)
    (p : ByteArray) (hgd : o.guard = none)
    (ho : o.op = .call { callee := .builtin .append, args := #[s, x], argTypes := #[58, 58] })
    (hs : a.eval s = v) (hx : a.eval x = .slice (some ⟨wr.heap.size, 0, none⟩) 1 1) (hn : n + 1 ≤ 1000000000) (hbase : base ≤ wr.heap.size)
    (h : ∀ v' w', w'.ownsRow base 9 1 v' (n + 1) (xs ++ [.string p]) → Below base wr w' → wpList Tryz.prog ops Q rest (a.put o.dst v') w') :
    wpList Tryz.prog ops Q (o :: rest) a (wr.alloc (.cells #[.string p] 9)) := by
  obtain ⟨i0, hi, hz0, hz1, hz2⟩ := info_parts info_string
  refine wpList_append_own _ hgd s x 58 ho base 9 i0 (.string ⟨#[]⟩) 1 16 Tryz.underlying58 hi hz0 hz1 hz2 rfl (by decide) v n xs hs (hown.alloc _) ⟨wr.heap.size, 0, none⟩ 1 1 [.string p] hx rfl
    (cell_one_new _ _ _) (by intro u hu; simp at hu; subst hu; rfl) (by unfold maxLen; omega) (by omega) (by simp; omega) ?_
  intro v' w' h1 h2 _
  refine h v' w' h1 ?_
  exact ((Below.refl base wr).alloc hbase _).grown h2 (by simp; omega) (fun k hk => (hown.lt k hk).1)
theorem own_below {w w' : World} {base : Nat} {e : TypeId} {size : Nat} {v : Value} {n : Nat} {xs : List Value} (h : w.ownsRow base e size v n xs) (hb : Below w.heap.size w w') : w'.ownsRow base e size v n xs :=
  h.kept (row := none) ⟨hb.os, hb.tape, hb.output, hb.size, fun k hk _ => hb.block k hk⟩ (by
    cases h : v.ownBlock
    · exact .inl rfl
    · exact .inr (by simp))
theorem strs_own {w : World} {base n : Nat} {v : Value} {l : List ByteArray} (h : w.ownsRow base 9 1 v n (scells l)) (hn : l.length = n) : ∃ ao cap, v = .slice ao n cap ∧ StrsAt w ao n cap l := by
  have h0 := h
  rcases h.2 with ⟨rfl, rfl⟩ | ⟨g, cap, cur, rfl, hb, hg, hc, hm, hcs, ht⟩
  · exact ⟨none, 0, rfl, hn, Nat.le_refl _, by unfold maxLen; omega, fun h => absurd h (Nat.lt_irrefl _)⟩
  · refine ⟨_, cap, rfl, hn, hc, hm, fun h1 => ⟨g, 0, rfl, ?_, fun j hj => ?_⟩⟩
    · rcases Nat.lt_or_ge g w.heap.size with h' | h'
      · exact h'
      · simp [Array.getElem?_eq_none h'] at hg
    · have := h0.cells (g := g) rfl j (.string (partAt l j)) (by
        unfold scells partAt
        rw [List.getElem?_map, List.getD_eq_getElem?_getD, List.getElem?_eq_getElem hj]; rfl)
      rw [Go.WideShapes.add_plain] at this
      exact this
/-- what lies at or above a block -/
def FreshA (B : Nat) (bo : Option Addr) : Prop := ∀ b off, bo = some ⟨b, off, none⟩ → B ≤ b
theorem StrsAt.keep {w w' : World} {ao : Option Addr} {n cap : Nat} {ps : List ByteArray} (h : StrsAt w ao n cap ps) (hs : w.heap.size ≤ w'.heap.size) (hk : ∀ b off, ao = some ⟨b, off, none⟩ → b < w.heap.size → w'.heap[b]? = w.heap[b]?) : StrsAt w' ao n cap ps :=
  ⟨h.1, h.2.1, h.2.2.1, fun hn => by
    obtain ⟨b, off, e, hi⟩ := h.2.2.2 hn
    refine ⟨b, off, e, Nat.lt_of_lt_of_le hi.1 hs, fun j hj => ?_⟩
    rw [← hi.2 j hj]
    exact World.cell?_of_block (a := ⟨b, off + j, none⟩) (hk b off e hi.1)⟩
/-- an element of a slice of strings: its cell in every later world -/
theorem StrsAt.at {w : World} {ao : Option Addr} {n cap : Nat} {ps : List ByteArray} (h : StrsAt w ao n cap ps) (hn : 0 < n) : ∃ b off, ao = some ⟨b, off, none⟩ ∧ b < w.heap.size ∧
    ∀ w', Below w.heap.size w w' → ∀ j, j < n → w'.cell? ⟨b, off + j, none⟩ = some (.string (partAt ps j)) := by
  obtain ⟨b, off, e, hi⟩ := h.2.2.2 hn
  exact ⟨b, off, e, hi.1, fun w' hb j hj => (hi.below hb hi.1).2 j (by rw [h.1]; exact hj)⟩
theorem StrsAt.drop {w : World} {b off n cap : Nat} {p : ByteArray} {r : List ByteArray} (h : StrsAt w (some ⟨b, off, none⟩) n cap (p :: r)) : StrsAt w (some ⟨b, off + 1, none⟩) (n - 1) (cap - 1) r := by
  obtain ⟨h1, h2, h3, h4⟩ := h
  have hl : r.length + 1 = n := h1
  refine ⟨by omega, by omega, by omega, fun hn => ?_⟩
  obtain ⟨b', off', e, hi⟩ := h4 (by omega)
  cases e
  refine ⟨b, off + 1, rfl, hi.1, fun j hj => ?_⟩
  have := hi.2 (j + 1) (by simpa using hj)
  rw [show off + 1 + j = off + (j + 1) by omega]
  exact this
end Go.Proofs.YtbkignlbcneddaaGreatDoor
end
