/-
  Texts of the schema layer and of those beneath it, joined: FoldWord, CodecA, CodecB, ShelfB, CodecBuild, CodecStr, CodecC, CodecEsc, CodecREsc, CodecDec. Conditions stand at each contract.
-/
import Derived.Lib.TrimByte
import Derived.Lib.Bytealg
import Derived.Lib.Builder
import Derived.Lib.AppendStr
import Derived.Laws.Externs
import Derived.Deep.RegionHeld3
import Derived.Deep.AppendLies
import Derived.Laws.RangeAny
import Derived.Laws.RangeString
import Derived.Lib.RuneCount
import Derived.Test.YtgepcbggkfjlgaaGreatDoorM01

section
/-
  Contracts of wordByte, Word and the specification's Word. Condition: at most 1000000000 bytes.
-/
set_option maxRecDepth 100000
set_option linter.unusedVariables false
set_option linter.unusedSimpArgs false
set_option linter.unnecessarySimpa false
namespace Go.Proofs.YtgepcbggkfjlgaaGreatDoor
open Go.RowKit Go.PlainAid

theorem wordByte_any (c : Int) (w : World) (h0 : 0 ≤ c) (h1 : c ≤ 255) :
    Calls Tryz.prog 91 #[.int .u8 c] w fun e w' => e = .returned (.bool (wordP c)) ∧ w = w' := by
  cases a1 : (c == 45)
  · cases a2 : (c == 95)
    · cases a3 : (c == 46)
      · cases a4 : (c == 58)
        · cases l : ltrI c
          · cases d : dgtI c
            · have HE := Lib.hid (show wordP c = false by unfold wordP; rw [a1, a2, a3, a4, l, d]; rfl)
              go_enter Tryz.func91, Tryz.ntmps91
              go_wp2_with (first | (go_at_call 110; refine (letter_any _ _ h0 h1).mono ?_; rintro e w' ⟨rfl, rfl⟩) | (go_at_call 111; refine (digit_any _ _ h0 h1).mono ?_; rintro e w' ⟨rfl, rfl⟩))
              go_ret
              exact ⟨by rw [HE.out]; rfl, rfl⟩
            · have HE := Lib.hid (show wordP c = true by unfold wordP; rw [a1, a2, a3, a4, l, d]; rfl)
              go_enter Tryz.func91, Tryz.ntmps91
              go_wp2_with (first | (go_at_call 110; refine (letter_any _ _ h0 h1).mono ?_; rintro e w' ⟨rfl, rfl⟩) | (go_at_call 111; refine (digit_any _ _ h0 h1).mono ?_; rintro e w' ⟨rfl, rfl⟩))
              go_ret
              exact ⟨by rw [HE.out]; rfl, rfl⟩
          · have HE := Lib.hid (show wordP c = true by unfold wordP; rw [l]; rfl)
            go_enter Tryz.func91, Tryz.ntmps91
            go_wp2_with (first | (go_at_call 110; refine (letter_any _ _ h0 h1).mono ?_; rintro e w' ⟨rfl, rfl⟩) | (go_at_call 111; refine (digit_any _ _ h0 h1).mono ?_; rintro e w' ⟨rfl, rfl⟩))
            go_ret
            exact ⟨by rw [HE.out]; rfl, rfl⟩
        · have HE := Lib.hid (show wordP c = true by unfold wordP; rw [a4]; simp)
          go_enter Tryz.func91, Tryz.ntmps91
          go_wp2
          go_ret
          exact ⟨by rw [HE.out]; rfl, rfl⟩
      · have HE := Lib.hid (show wordP c = true by unfold wordP; rw [a3]; simp)
        go_enter Tryz.func91, Tryz.ntmps91
        go_wp2
        go_ret
        exact ⟨by rw [HE.out]; rfl, rfl⟩
    · have HE := Lib.hid (show wordP c = true by unfold wordP; rw [a2]; simp)
      go_enter Tryz.func91, Tryz.ntmps91
      go_wp2
      go_ret
      exact ⟨by rw [HE.out]; rfl, rfl⟩
  · have HE := Lib.hid (show wordP c = true by unfold wordP; rw [a1]; simp)
    go_enter Tryz.func91, Tryz.ntmps91
    go_wp2
    go_ret
    exact ⟨by rw [HE.out]; rfl, rfl⟩

set_option maxRecDepth 100000 in
set_option maxHeartbeats 1000000 in
theorem word_s (s : ByteArray) (w : World) (hs : s.size ≤ 1000000000) :
    Calls Tryz.prog 69 #[.string s] w fun e w' => e = .returned (.bool (wordB s)) ∧ w = w' := by
  have hb := get_bt s
  by_cases hz : 1 ≤ s.size
  · by_cases hz2 : s.size ≤ 64
    · go_enter Tryz.func69, Tryz.ntmps69
      go_wp2
      go_loop [14] (fun i => ∃ k : Nat, k ≤ s.size ∧ i = .int .i64 k ∧ Hid (∀ j, j < k → wordP (bt s j) = true)) (fun i => s.size - (intOf i).toNat)
      case atStart => exact ⟨0, Nat.zero_le _, rfl, Lib.hid fun j hj => absurd hj (Nat.not_lt_zero _)⟩
      case round =>
        obtain ⟨k, hk, rfl, HA⟩ := hrel
        by_cases hlt : k < s.size
        · cases c1 : wordP (bt s k)
          · have HE := Lib.hid (show wordB s = false by unfold wordB; rw [allB_false k hlt c1, Bool.and_false])
            go_wp2_with (go_at_call 91; refine (wordByte_any _ _ (bt_nonneg _ _) (bt_le _ _)).mono ?_; rintro e w' ⟨rfl, rfl⟩)
            go_ret
            exact ⟨by rw [HE.out]; rfl, rfl⟩
          · have HN := Lib.hid (all_next HA.out c1)
            go_wp2_with (go_at_call 91; refine (wordByte_any _ _ (bt_nonneg _ _) (bt_le _ _)).mono ?_; rintro e w' ⟨rfl, rfl⟩)
            go_round
            case rel => exact ⟨k + 1, by omega, by go_num, HN⟩
            case measure => simp [intOf]; omega
        · have HE := Lib.hid (show wordB s = true by
            unfold wordB; rw [allB_true (p := wordP) (s := s) fun j hj => HA.out j (by omega)]; simp [hz, hz2])
          go_wp2
          go_ret
          exact ⟨by rw [HE.out]; rfl, rfl⟩
    · have HE := Lib.hid (show wordB s = false by unfold wordB; simp [hz2])
      go_enter Tryz.func69, Tryz.ntmps69
      go_wp2
      go_ret
      exact ⟨by rw [HE.out]; rfl, rfl⟩
  · have HE := Lib.hid (show wordB s = false by unfold wordB; simp [hz])
    go_enter Tryz.func69, Tryz.ntmps69
    go_wp2
    go_ret
    exact ⟨by rw [HE.out]; rfl, rfl⟩

set_option maxRecDepth 100000 in
set_option maxHeartbeats 2000000 in
theorem rWord_s (s : ByteArray) (w : World) (hs : s.size ≤ 1000000000) :
    Calls Tryz.prog 34 #[.string s] w fun e w' => e = .returned (.bool (wordB s)) ∧ w = w' := by
  have hb := get_bt s
  go_enter Tryz.func34, Tryz.ntmps34
  go_wp2
  go_loop [3] (fun i => ∃ k : Nat, k ≤ s.size ∧ i = .int .i64 k ∧ Hid (∀ j, j < k → wordP (bt s j) = true)) (fun i => s.size - (intOf i).toNat)
  case atStart => exact ⟨0, Nat.zero_le _, rfl, Lib.hid fun j hj => absurd hj (Nat.not_lt_zero _)⟩
  case round =>
    obtain ⟨k, hk, rfl, HA⟩ := hrel
    by_cases hlt : k < s.size
    · have hex : (wordP (bt s k) = false ∧ ltrI (bt s k) = false ∧ dgtI (bt s k) = false ∧ (bt s k != 45) = true ∧ (bt s k != 95) = true ∧ (bt s k != 46) = true ∧ (bt s k != 58) = true) ∨
          (wordP (bt s k) = true ∧ (ltrI (bt s k) = true ∨ (ltrI (bt s k) = false ∧ dgtI (bt s k) = true) ∨
            (ltrI (bt s k) = false ∧ dgtI (bt s k) = false ∧ (bt s k != 45) = false) ∨ (ltrI (bt s k) = false ∧ dgtI (bt s k) = false ∧ (bt s k != 45) = true ∧ (bt s k != 95) = false) ∨
            (ltrI (bt s k) = false ∧ dgtI (bt s k) = false ∧ (bt s k != 45) = true ∧ (bt s k != 95) = true ∧ (bt s k != 46) = false) ∨
            (ltrI (bt s k) = false ∧ dgtI (bt s k) = false ∧ (bt s k != 45) = true ∧ (bt s k != 95) = true ∧ (bt s k != 46) = true ∧ (bt s k != 58) = false))) := by
        unfold wordP bne
        cases ltrI (bt s k) <;> cases dgtI (bt s k) <;> cases (bt s k == 45) <;> cases (bt s k == 95) <;> cases (bt s k == 46) <;> cases (bt s k == 58) <;> simp
      rcases hex with ⟨c0, c1, c2, c3, c4, c5, c6⟩ | ⟨c0, hex⟩
      · have HE := Lib.hid (show wordB s = false by unfold wordB; rw [allB_false k hlt c0, Bool.and_false])
        clear c0
        go_wp2_with (first
          | (go_at_call 60; refine (rLetter_any _ _ (bt_nonneg _ _) (bt_le _ _)).mono ?_; rintro e w' ⟨rfl, rfl⟩)
          | (go_at_call 61; refine (rDigit_any _ _ (bt_nonneg _ _) (bt_le _ _)).mono ?_; rintro e w' ⟨rfl, rfl⟩))
        go_ret
        exact ⟨by rw [HE.out]; rfl, rfl⟩
      · have HN := Lib.hid (all_next HA.out c0)
        clear c0
        rcases hex with c1 | ⟨c1, c2⟩ | ⟨c1, c2, c3⟩ | ⟨c1, c2, c3, c4⟩ | ⟨c1, c2, c3, c4, c5⟩ | ⟨c1, c2, c3, c4, c5, c6⟩
        all_goals
          go_wp2_with (first | (go_at_call 60; refine (rLetter_any _ _ (bt_nonneg _ _) (bt_le _ _)).mono ?_; rintro e w' ⟨rfl, rfl⟩) | (go_at_call 61; refine (rDigit_any _ _ (bt_nonneg _ _) (bt_le _ _)).mono ?_; rintro e w' ⟨rfl, rfl⟩))
          go_round
          case rel => exact ⟨k + 1, by omega, by go_num, HN⟩
          case measure => simp [intOf]; omega
    · have HB := Lib.hid (allB_true (p := wordP) (s := s) fun j hj => HA.out j (by omega))
      by_cases hz : 1 ≤ s.size
      · by_cases hz2 : s.size ≤ 64
        · have HE := Lib.hid (show wordB s = true by unfold wordB; rw [HB.out]; simp [hz, hz2])
          have hz3 : decide ((s.size : Int) ≤ 64) = true := by simp; omega
          go_wp2
          go_ret
          exact ⟨by rw [HE.out]; rfl, rfl⟩
        · have HE := Lib.hid (show wordB s = false by unfold wordB; simp [hz2])
          have hz3 : decide ((s.size : Int) ≤ 64) = false := by simp; omega
          go_wp2
          go_ret
          exact ⟨by rw [HE.out]; rfl, rfl⟩
      · have HE := Lib.hid (show wordB s = false by unfold wordB; simp [hz])
        go_wp2
        go_ret
        exact ⟨by rw [HE.out]; rfl, rfl⟩

end Go.Proofs.YtgepcbggkfjlgaaGreatDoor
end

section
/-
  Plain functions for the escaped forms: which bytes stand as they are, hexadecimal digits, the escaped form and reading it back. No condition.
-/
set_option maxRecDepth 100000
set_option linter.unusedVariables false
set_option linter.unusedSimpArgs false
set_option linter.unnecessarySimpa false
namespace Go.Proofs.YtgepcbggkfjlgaaGreatDoor
open Go.PlainAid

def plainI (c : Int) : Bool := decide (33 ≤ c) && decide (c ≤ 126) && !(c == 37) && !(c == 124) && !(c == 44) && !(c == 61) && !(c == 59) && !(c == 34)
def plainC (c : UInt8) : Bool := plainI (c.toNat : Int)
def hexC (d : Nat) : UInt8 := if d < 10 then UInt8.ofNat (48 + d) else UInt8.ofNat (55 + d)
def escC (c : UInt8) : List UInt8 := if plainC c then [c] else [37, hexC (c.toNat / 16), hexC (c.toNat % 16)]
def escL (l : List UInt8) : List UInt8 := l.flatMap escC
def hexS : ByteArray := ⟨#[48, 49, 50, 51, 52, 53, 54, 55, 56, 57, 65, 66, 67, 68, 69, 70]⟩

theorem hexC_table : ∀ d : Nat, d < 16 → bt hexS d = ((hexC d).toNat : Int) := by decide +kernel
theorem escL_snoc (l : List UInt8) (c : UInt8) : escL (l ++ [c]) = escL l ++ escC c := by simp [escL]
theorem escC_length (c : UInt8) : (escC c).length ≤ 3 := by unfold escC; split <;> simp
theorem escL_length (l : List UInt8) : (escL l).length ≤ 3 * l.length := by
  induction l with
  | nil => simp [escL]
  | cons c l ih =>
    have e : escL (c :: l) = escC c ++ escL l := by simp [escL]
    rw [e, List.length_append, List.length_cons]
    have := escC_length c
    omega
theorem escC_plain (c : UInt8) (h : plainC c = true) : escC c = [c] := by unfold escC; rw [if_pos h]
theorem escC_other (c : UInt8) (h : plainC c = false) : escC c = [37, hexC (c.toNat / 16), hexC (c.toNat % 16)] := by unfold escC; rw [if_neg (by simp [h])]

theorem hex_hi (x : Int) (c : UInt8) (h : x = (c.toNat : Int)) : bt (⟨#[48, 49, 50, 51, 52, 53, 54, 55, 56, 57, 65, 66, 67, 68, 69, 70]⟩ : ByteArray) (x / 16).toNat = ((hexC (c.toNat / 16)).toNat : Int) := by
  have hc := c.toNat_lt
  have e : (x / 16).toNat = c.toNat / 16 := by omega
  rw [e]
  exact hexC_table _ (by omega)
theorem hex_lo (x : Int) (c : UInt8) (h : x = (c.toNat : Int)) : bt (⟨#[48, 49, 50, 51, 52, 53, 54, 55, 56, 57, 65, 66, 67, 68, 69, 70]⟩ : ByteArray) (x % 16).toNat = ((hexC (c.toNat % 16)).toNat : Int) := by
  have e : (x % 16).toNat = c.toNat % 16 := by omega
  rw [e]
  exact hexC_table _ (by omega)
/-- byte k of a string -/
def chr (s : ByteArray) (k : Nat) : UInt8 := s.data.toList.getD k 0
theorem bt_chr (s : ByteArray) (k : Nat) : bt s k = ((chr s k).toNat : Int) := by
  unfold chr
  by_cases h : k < s.size
  · rw [bt_at s k h, List.getD_eq_getElem?_getD, List.getElem?_eq_getElem (by simpa using h)]; rfl
  · rw [bt_end s (by omega), List.getD_eq_getElem?_getD, List.getElem?_eq_none (by rw [← Lib.size_eq]; omega)]; rfl
theorem take_chr (s : ByteArray) (k : Nat) (h : k < s.size) : s.data.toList.take (k + 1) = s.data.toList.take k ++ [chr s k] := by
  rw [take_succ s k h]; unfold chr; rw [List.getD_eq_getElem?_getD, List.getElem?_eq_getElem (by simpa using h)]; rfl
theorem esc_step (s : ByteArray) (k : Nat) (h : k < s.size) : escL (s.data.toList.take (k + 1)) = escL (s.data.toList.take k) ++ escC (chr s k) := by rw [take_chr s k h, escL_snoc]
theorem plain_chr (s : ByteArray) (k : Nat) : plainC (chr s k) = plainI (bt s k) := by unfold plainC; rw [bt_chr]

end Go.Proofs.YtgepcbggkfjlgaaGreatDoor
end

section
/-
  Plain functions for reading escaped forms. No condition.
-/
set_option maxRecDepth 100000
set_option linter.unusedVariables false
set_option linter.unusedSimpArgs false
set_option linter.unnecessarySimpa false
namespace Go.Proofs.YtgepcbggkfjlgaaGreatDoor
open Go.PlainAid

/-- the value of a hexadecimal digit, or -1 -/
def hexV (c : UInt8) : Int := Lib.indexByte hexS.data.toList c
theorem hexV_range : ∀ n : Nat, n < 256 → -1 ≤ hexV (UInt8.ofNat n) ∧ hexV (UInt8.ofNat n) ≤ 15 := by decide +kernel
theorem hexV_le (c : UInt8) : -1 ≤ hexV c ∧ hexV c ≤ 15 := by
  have := hexV_range c.toNat c.toNat_lt
  rwa [UInt8.ofNat_toNat] at this
/-- the byte with two hexadecimal digits, unless it stands as it is -/
def decC (a b : UInt8) : Option UInt8 :=
  if hexV a < 0 ∨ hexV b < 0 then none else if plainI (16 * hexV a + hexV b) then none else some (UInt8.ofNat (16 * hexV a + hexV b).toNat)
def unesc : List UInt8 → Option (List UInt8)
  | [] => some []
  | c :: r => if c = 37 then (match r with
      | a :: b :: r' => match decC a b with
        | some d => (unesc r').map (d :: ·)
        | none => none
      | _ => none) else if plainC c then (unesc r).map (c :: ·) else none
/-- what 'escaped' returns -/
def escO (t : ByteArray) : Option UInt8 := if t.size < 2 then none else decC (chr t 0) (chr t 1)

theorem drop_chr (s : ByteArray) (i : Nat) (h : i < s.size) : s.data.toList.drop i = chr s i :: s.data.toList.drop (i + 1) := by
  unfold chr
  rw [List.getD_eq_getElem?_getD, List.getElem?_eq_getElem (by simpa using h)]
  exact List.drop_eq_getElem_cons (by simpa using h)
theorem chr_dr (s : ByteArray) (i j : Nat) : chr (dr s i) j = chr s (i + j) := by
  unfold chr dr
  rw [List.toList_toArray, List.getD_eq_getElem?_getD, List.getD_eq_getElem?_getD, List.getElem?_drop]
theorem unesc_pct (s : ByteArray) (i : Nat) (h : i < s.size) (h37 : chr s i = 37) : unesc (s.data.toList.drop i) = match escO (dr s (i + 1)) with
    | some d => (unesc (s.data.toList.drop (i + 3))).map (d :: ·)
    | none => none := by
  rw [drop_chr s i h]
  conv => lhs; unfold unesc
  rw [if_pos h37]
  unfold escO
  rw [dr_size]
  by_cases h2 : s.size - (i + 1) < 2
  · rw [if_pos h2]
    have hl : (s.data.toList.drop (i + 1)).length < 2 := by rw [List.length_drop, ← Lib.size_eq]; exact h2
    match e : s.data.toList.drop (i + 1), hl with
    | [], _ => rfl
    | [x], _ => rfl
  · rw [if_neg h2, drop_chr s (i + 1) (by omega), drop_chr s (i + 1 + 1) (by omega), chr_dr, chr_dr]

end Go.Proofs.YtgepcbggkfjlgaaGreatDoor
end

section
/-
  The shelf of this seat lies in one text. No condition.
-/
set_option maxRecDepth 100000
set_option linter.unusedVariables false
namespace Go.Proofs.YtgepcbggkfjlgaaGreatDoor

end Go.Proofs.YtgepcbggkfjlgaaGreatDoor
end

section
/-
  Contracts of strings.Builder as this program's translation has it: copyCheck, WriteByte, WriteString, String, at a builder that the call itself made. Condition: at most 2^47 bytes.
-/
set_option maxRecDepth 100000
set_option linter.unusedVariables false
set_option linter.unusedSimpArgs false
set_option linter.unnecessarySimpa false
namespace Go.Proofs.YtgepcbggkfjlgaaGreatDoor
open Go.RowKit Go.PlainAid

theorem bsize : (Tryz.prog.info? 67).map (·.size) = some 2 := by kernel_rfl
theorem blies : liesAt Tryz.prog Tryz.prog.depth 67 (2 / Tryz.prog.cellsOf 67) 0 67 1 = true := by kernel_rfl

set_option maxHeartbeats 1000000 in
set_option maxRecDepth 100000 in
/-- a builder that was written before -/
theorem check_used (b : Nat) (w : World) (h0 : w.cell? ⟨b, 0, none⟩ = some (.pointer (some ⟨b, 0, none⟩))) :
    Calls Tryz.prog 71 #[.pointer (some ⟨b, 0, none⟩)] w fun e w' => e = .returned (.tuple #[]) ∧ w' = w := by
  obtain ⟨j, hj, _⟩ := Option.map_eq_some_iff.1 bsize
  go_enter Tryz.func71, Tryz.ntmps71
  go_wp2
  rw [Lib.run_neq_ptr_same w _ Tryz.underlying64 hj]
  go_wp2
  go_end0
  exact ⟨rfl, rfl⟩

set_option maxHeartbeats 1000000 in
set_option maxRecDepth 100000 in
/-- a fresh one: it notes its own address -/
theorem check_fresh (b : Nat) (w : World) (h0 : w.cell? ⟨b, 0, none⟩ = some (.pointer none)) (hsh : w.shape? b = some (67, 2)) (hfz : w.frozen? ⟨b, 0, none⟩ = false) :
    Calls Tryz.prog 71 #[.pointer (some ⟨b, 0, none⟩)] w fun e w' => e = .returned (.tuple #[]) ∧ w' = w.setCell ⟨b, 0, none⟩ (.pointer (some ⟨b, 0, none⟩)) := by
  obtain ⟨j, hj, hjs⟩ := Option.map_eq_some_iff.1 bsize
  go_enter Tryz.func71, Tryz.ntmps71
  go_wp2
  rw [Lib.run_to_unsafe w ⟨b, 0, none⟩ Tryz.underlying64 Tryz.underlying107 hj (by rw [hjs]; decide) hsh (Nat.zero_lt_succ 1)]
  simp only [Result.andThen]
  rw [Oper.upon_value]
  go_wp2
  rw [run_callFunc_extern Tryz.func92 (by kernel_rfl) (by kernel_rfl) (by kernel_rfl) (e := Extern.AbiNoEscape.same) (by kernel_rfl)]
  rw [Lib.run_noEscape]
  simp only [Result.andThen]
  rw [Oper.upon_value]
  go_wp2
  rw [Lib.run_from_unsafe w ⟨b, 0, none⟩ Tryz.underlying107 Tryz.underlying64 hj hsh blies]
  simp only [Result.andThen]
  rw [Oper.upon_value]
  go_wp2
  go_end0
  exact ⟨rfl, rfl⟩

/-- a builder of the call's own that holds the bytes l -/
def Bld (B b : Nat) (l : List UInt8) (w : World) : Prop := Lib.IsBuilder 67 5 B b (bcells l) w

theorem check_any (B b : Nat) (bs : List Value) (w : World) (h : Lib.IsBuilder 67 5 B b bs w) :
    Calls Tryz.prog 71 #[.pointer (some ⟨b, 0, none⟩)] w fun e w' => e = .returned (.tuple #[]) ∧ (Lib.BuilderAt 67 5 B b (.pointer (some ⟨b, 0, none⟩)) bs w' ∧ Below B w w') := by
  rcases h with h | h
  · refine (check_fresh b w h.cell0 h.shape h.frozen0).mono ?_
    rintro e w' ⟨rfl, rfl⟩
    exact ⟨rfl, h.used _, (Below.refl B w).setCell (p := ⟨b, 0, none⟩) h.1 _⟩
  · refine (check_used b w h.cell0).mono ?_
    rintro e w' ⟨rfl, rfl⟩
    exact ⟨rfl, h, Below.refl B _⟩

/-- 'b = append(b, c)' as push_byte, telling what has grown -/
theorem push_byte_g {ops : Array Oper} {rest : List Oper} {o : Oper} {a : Act} {Q : Exit → Act → World → Prop} (wr : World) {base : Nat} {v : Value} {n : Nat} {xs : List Value} (hown : wr.ownsRow base 5 1 v n xs) (s x : Operand)
    (c : Int) (hgd : o.guard = none)
    (ho : o.op = .call { callee := .builtin .append, args := #[s, x], argTypes := #[65, 65] })
    (hs : a.eval s = v) (hx : a.eval x = .slice (some ⟨wr.heap.size, 0, none⟩) 1 1) (hn : n + 1 ≤ 140737488355328) (hbase : base ≤ wr.heap.size)
    (h : ∀ v' w', w'.ownsRow base 5 1 v' (n + 1) (xs ++ [.int .u8 c]) → (wr.alloc (.cells #[.int .u8 c] 5)).grownBy w' v.ownBlock → wpList Tryz.prog ops Q rest (a.put o.dst v') w') :
    wpList Tryz.prog ops Q (o :: rest) a (wr.alloc (.cells #[.int .u8 c] 5)) := by
  obtain ⟨i0, hi, hz0, hz1, hz2⟩ := info_parts info5
  refine wpList_append_own _ hgd s x 65 ho base 5 i0 (.int .u8 0) 1 1 Tryz.underlying65 hi hz0 hz1 hz2 rfl (by decide) v n xs hs (hown.alloc _) ⟨wr.heap.size, 0, none⟩ 1 1 [.int .u8 c] hx rfl
    (cell_one_new _ _ _) (by intro u hu; simp at hu; subst hu; rfl) (by unfold maxLen; omega) (by omega) (by simp; omega) ?_
  intro v' w' h1 h2 _
  exact h v' w' h1 h2

set_option maxHeartbeats 2000000 in
set_option maxRecDepth 100000 in
theorem writeByte_cells (B b : Nat) (bs : List Value) (c : Int) (w : World) (h : Lib.IsBuilder 67 5 B b bs w) (hlen : bs.length + 1 ≤ 140737488355328) (hBw : B ≤ w.heap.size) :
    Calls Tryz.prog 94 #[.pointer (some ⟨b, 0, none⟩), .int .u8 c] w fun e w' => e = .returned .nilIface ∧ (Lib.BuilderAt 67 5 B b (.pointer (some ⟨b, 0, none⟩)) (bs ++ [.int .u8 c]) w' ∧ Below B w w') := by
  go_enter Tryz.func94, Tryz.ntmps94
  go_wp2_with (go_at_call 71; refine (check_any B b bs _ h).mono ?_)
  rintro e w1 ⟨rfl, h1, hb1⟩
  obtain ⟨hB, v, hbk, hown, hne⟩ := h1
  have c1 : w1.cell? ⟨b, 1, none⟩ = some v := by rw [Lib.cell_of_heap hbk]; rfl
  have HZ := hb1.size
  go_wp2_with (at_builtin; refine push_byte_g w1 hown (.tmp 11) (.tmp 13) _ ?_ ?_ ?_ ?_ ?_ ?_ ?_; exact rfl; exact rfl; exact rfl; exact rfl; omega; omega)
  intro v' w2 hown' hgrow
  have hlt : b < w1.heap.size := by
    rcases Nat.lt_or_ge b w1.heap.size with h' | h'
    · exact h'
    · simp [Array.getElem?_eq_none h'] at hbk
  have hb2 : w2.heap[b]? = some (.cells #[.pointer (some ⟨b, 0, none⟩), v] 67 (0, 0)) := by
    rw [hgrow.block b (by simp; omega) (fun e => hne e.symm), Lib.alloc_old w1 _ b hlt]
    exact hbk
  have d1 : w2.cell? ⟨b, 1, none⟩ = some v := by rw [Lib.cell_of_heap hb2]; rfl
  have f1 : w2.frozen? ⟨b, 1, none⟩ = false := Lib.frozen_of_heap hb2 1
  obtain ⟨g, cap, rfl⟩ : ∃ g cap, v' = .slice (some ⟨g, 0, none⟩) (bs.length + 1) cap := by
    rcases hown'.2 with ⟨_, h0⟩ | ⟨g, cap, cur, hv, _⟩
    · omega
    · exact ⟨g, cap, hv⟩
  go_wp2
  go_ret
  refine ⟨rfl, ?_, ?_⟩
  · exact Lib.BuilderAt.put (T := 67) (e := 5) hB hb2 (bs' := bs ++ [.int .u8 c]) (by simpa using hown') (by decide)
  · exact ((hb1.alloc (by omega) _).grown hgrow (by simp; omega) (fun k hk => (hown.lt k hk).1)).setCell (p := ⟨b, 1, none⟩) hB _

/-- WriteByte at a builder that holds the bytes l -/
theorem writeByte_s (B b : Nat) (l : List UInt8) (c : UInt8) (x : Int) (w : World) (h : Bld B b l w) (hx : x = (c.toNat : Int)) (hlen : l.length ≤ 100000000000) (hBw : B ≤ w.heap.size) :
    Calls Tryz.prog 94 #[.pointer (some ⟨b, 0, none⟩), .int .u8 x] w fun e w' => e = .returned .nilIface ∧ Bld B b (l ++ [c]) w' ∧ Below B w w' := by
  subst hx
  refine (writeByte_cells B b (bcells l) c.toNat w h (by rw [bcells_length]; omega) hBw).mono fun e w' h => ⟨h.1, ?_, h.2.2⟩
  unfold Bld
  rw [bcells_append]
  exact .inr h.2.1

/-- String at a builder that holds the bytes l -/
theorem string_s (B b : Nat) (l : List UInt8) (w : World) (h : Bld B b l w) (hBw : B ≤ w.heap.size) :
    Calls Tryz.prog 51 #[.pointer (some ⟨b, 0, none⟩)] w fun e w' => e = .returned (.string ⟨l.toArray⟩) ∧ Below B w w' :=
  (Tryz.Builder_String_any B b l w h hBw).mono fun e w' h => ⟨h.1, h.2⟩
/-- a fresh builder -/
theorem bld_new (w : World) : Bld w.heap.size w.heap.size [] (w.alloc (.cells #[.pointer none, .slice none 0 0] 67)) := Lib.fresh_isBuilder _ _ w
theorem Bld.below {B b : Nat} {l : List UInt8} {w w' : World} (h : Bld B b l w) (hb : Below w.heap.size w w') : Bld B b l w' := by
  have one : ∀ p, Lib.BuilderAt 67 5 B b p (bcells l) w → Lib.BuilderAt 67 5 B b p (bcells l) w' := fun p h => by
    have hl := h.lt
    obtain ⟨hB, v, hbk, hown, hne⟩ := h
    refine ⟨hB, v, by rw [hb.block b hl]; exact hbk, ?_, hne⟩
    exact hown.kept (row := none) ⟨hb.os, hb.tape, hb.output, hb.size, fun k hk _ => hb.block k hk⟩ (by
      cases h : v.ownBlock
      · exact .inl rfl
      · exact .inr (by simp))
  rcases h with h | h
  · exact .inl (one _ h)
  · exact .inr (one _ h)

end Go.Proofs.YtgepcbggkfjlgaaGreatDoor
end

section
/-
  The contract of strings.Builder's WriteString as this program's translation has it, at a builder that the call itself made. Condition: at most 2^46 bytes.
-/
set_option maxRecDepth 100000
set_option linter.unusedVariables false
set_option linter.unusedSimpArgs false
set_option linter.unnecessarySimpa false
namespace Go.Proofs.YtgepcbggkfjlgaaGreatDoor
open Go.RowKit Go.PlainAid

theorem strCells_b (s : ByteArray) : Lib.strCells s = bcells s.data.toList := rfl

set_option maxHeartbeats 2000000 in
set_option maxRecDepth 100000 in
theorem writeString_cells (B b : Nat) (bs : List Value) (s : ByteArray) (w : World) (h : Lib.IsBuilder 67 5 B b bs w) (hlen : bs.length + s.size ≤ 140737488355328) (hBw : B ≤ w.heap.size) :
    Calls Tryz.prog 48 #[.pointer (some ⟨b, 0, none⟩), .string s] w fun e w' => e = .returned (.tuple #[.int .i64 s.size, .nilIface]) ∧ (Lib.BuilderAt 67 5 B b (.pointer (some ⟨b, 0, none⟩)) (bs ++ Lib.strCells s) w' ∧ Below B w w') := by
  obtain ⟨i0, hi, hz0, hz1, hz2⟩ := info_parts info5
  go_enter Tryz.func48, Tryz.ntmps48
  go_wp2_with (go_at_call 71; refine (check_any B b bs _ h).mono ?_)
  rintro e w1 ⟨rfl, h1, hb1⟩
  obtain ⟨hB, v, hbk, hown, hne⟩ := h1
  have c1 : w1.cell? ⟨b, 1, none⟩ = some v := by rw [Lib.cell_of_heap hbk]; rfl
  have HZ := hb1.size
  have hlt : b < w1.heap.size := by
    rcases Nat.lt_or_ge b w1.heap.size with h' | h'
    · exact h'
    · simp [Array.getElem?_eq_none h'] at hbk
  go_wp2_with (at_builtin; refine Lib.wpList_append_own_string w1 ?_ (.tmp 12) (.tmp 13) 65 9 ?_ B 5 i0 Tryz.underlying65 Tryz.underlying9 hi hz0 hz1 hz2 v bs.length bs ?_ hown s ?_ ?_ ?_ ?_ ?_; exact rfl; exact rfl; exact rfl; exact rfl; (unfold maxLen; omega); omega; omega)
  intro v' w2 hown' hgrow hnil
  have hb2 : w2.heap[b]? = some (.cells #[.pointer (some ⟨b, 0, none⟩), v] 67 (0, 0)) := by
    rw [hgrow.block b hlt (fun e => hne e.symm)]
    exact hbk
  have d1 : w2.cell? ⟨b, 1, none⟩ = some v := by rw [Lib.cell_of_heap hb2]; rfl
  have f1 : w2.frozen? ⟨b, 1, none⟩ = false := Lib.frozen_of_heap hb2 1
  have hlen' : (bs ++ Lib.strCells s).length = bs.length + s.size := by simp [Lib.strCells_length]
  have hbel : Below B w w2 := hb1.grown hgrow (by omega) (fun k hk => (hown.lt k hk).1)
  have hcase : v' = .slice none 0 0 ∨ ∃ g n cap, v' = .slice (some ⟨g, 0, none⟩) n cap := by
    rcases hown'.2 with ⟨h, h0⟩ | ⟨g, cap, cur, hv, _⟩
    · exact .inl h
    · exact .inr ⟨g, _, cap, hv⟩
  rcases hcase with rfl | ⟨g, n, cap, rfl⟩
  · go_wp2
    go_ret2
    refine ⟨rfl, ?_, hbel.setCell (p := ⟨b, 1, none⟩) hB _⟩
    exact Lib.BuilderAt.put (T := 67) (e := 5) hB hb2 (bs' := bs ++ Lib.strCells s) (by rw [hlen']; exact hown') (by decide)
  · go_wp2
    go_ret2
    refine ⟨rfl, ?_, hbel.setCell (p := ⟨b, 1, none⟩) hB _⟩
    exact Lib.BuilderAt.put (T := 67) (e := 5) hB hb2 (bs' := bs ++ Lib.strCells s) (by rw [hlen']; exact hown') (by decide)

/-- WriteString at a builder that holds the bytes l -/
theorem writeString_s (B b : Nat) (l : List UInt8) (s : ByteArray) (w : World) (h : Bld B b l w) (hlen : l.length + s.size ≤ 100000000000) (hBw : B ≤ w.heap.size) :
    Calls Tryz.prog 48 #[.pointer (some ⟨b, 0, none⟩), .string s] w fun e w' => e = .returned (.tuple #[.int .i64 s.size, .nilIface]) ∧ Bld B b (l ++ s.data.toList) w' ∧ Below B w w' := by
  refine (writeString_cells B b (bcells l) s w h (by rw [bcells_length]; omega) hBw).mono fun e w' h => ⟨h.1, ?_, h.2.2⟩
  unfold Bld
  rw [bcells_append, ← strCells_b]
  exact .inr h.2.1

end Go.Proofs.YtgepcbggkfjlgaaGreatDoor
end

section
/-
  Plain functions for the text forms of lists: the pieces between the bars, reading them, writing them. No condition.
-/
set_option maxRecDepth 100000
set_option linter.unusedVariables false
set_option linter.unusedSimpArgs false
set_option linter.unnecessarySimpa false
namespace Go.Proofs.YtgepcbggkfjlgaaGreatDoor
open Go.PlainAid

/-- the pieces between the bytes b -/
def pieces (b : UInt8) : List UInt8 → List (List UInt8)
  | [] => [[]]
  | c :: l => if c = b then [] :: pieces b l else match pieces b l with
    | p :: r => (c :: p) :: r
    | [] => [[c]]
theorem occ_one (l : List UInt8) (b : UInt8) (i : Nat) : Lib.occAt l [b] i = true ↔ l[i]? = some b := by
  unfold Lib.occAt
  rw [← List.head?_drop]
  cases l.drop i with
  | nil => simp
  | cons c m =>
    simp only [List.isPrefixOf, Bool.and_true, List.head?_cons, Option.some.injEq, beq_iff_eq]
    exact eq_comm
theorem pieces_hit (b : UInt8) : ∀ (l : List UInt8) (i : Nat), l[i]? = some b → (∀ j, j < i → l[j]? ≠ some b) → pieces b l = l.take i :: pieces b (l.drop (i + 1))
  | [], i, h, _ => by simp at h
  | c :: l, 0, h, _ => by
    have : c = b := by simpa using h
    conv => lhs; unfold pieces
    rw [if_pos this]; rfl
  | c :: l, i + 1, h, hn => by
    have hc : c ≠ b := fun e => hn 0 (by omega) (by rw [e]; rfl)
    have ih := pieces_hit b l i (by simpa using h) (fun j hj => by have := hn (j + 1) (by omega); simpa using this)
    conv => lhs; unfold pieces
    rw [if_neg hc, ih]
    rfl
theorem pieces_miss (b : UInt8) : ∀ (l : List UInt8), (∀ j : Nat, l[j]? ≠ some b) → pieces b l = [l]
  | [], _ => rfl
  | c :: l, hn => by
    have hc : c ≠ b := fun e => hn 0 (by rw [e]; rfl)
    have ih := pieces_miss b l (fun j => by have := hn (j + 1); simpa using this)
    unfold pieces
    rw [if_neg hc, ih]
/-- Cut at one byte -/
theorem cut_one (t : ByteArray) (b : UInt8) : (cutOk t ⟨#[b]⟩ = true ∧ pieces b t.data.toList = (cutBef t ⟨#[b]⟩).data.toList :: pieces b (cutAft t ⟨#[b]⟩).data.toList ∧ (cutAft t ⟨#[b]⟩).size < t.size ∧ (cutBef t ⟨#[b]⟩).size ≤ t.size ∧
      (∀ j : Nat, (cutBef t ⟨#[b]⟩).data.toList[j]? ≠ some b)) ∨
    (cutOk t ⟨#[b]⟩ = false ∧ pieces b t.data.toList = [t.data.toList] ∧ cutBef t ⟨#[b]⟩ = t ∧ cutAft t ⟨#[b]⟩ = ⟨#[]⟩) := by
  have e : (⟨#[b]⟩ : ByteArray).data.toList = [b] := rfl
  rcases Lib.index_spec t.data.toList [b] with ⟨hi, hn⟩ | ⟨i, hi, hle, ho, hno⟩
  · refine .inr ?_
    have hcut : Lib.cut t.data.toList (⟨#[b]⟩ : ByteArray).data.toList = (t.data.toList, [], false) := by
      unfold Lib.cut; rw [e, hi]; rfl
    refine ⟨by unfold cutOk; rw [hcut], ?_, ?_, ?_⟩
    · refine pieces_miss b _ (fun j hj => ?_)
      have hlt : j < t.data.toList.length := (List.getElem?_eq_some_iff.1 hj).1
      have := hn j (by omega)
      rw [(occ_one _ _ _).2 hj] at this
      cases this
    · unfold cutBef; rw [hcut]
    · unfold cutAft; rw [hcut]
  · refine .inl ?_
    have hget := (occ_one _ _ _).1 ho
    have hlt : i < t.data.toList.length := (List.getElem?_eq_some_iff.1 hget).1
    have hcut : Lib.cut t.data.toList (⟨#[b]⟩ : ByteArray).data.toList = (t.data.toList.take i, t.data.toList.drop (i + 1), true) := by
      unfold Lib.cut; rw [e, hi, if_pos (by omega)]; simp
    have hno' : ∀ j, j < i → t.data.toList[j]? ≠ some b := fun j hj h => by
      have := hno j hj
      rw [(occ_one _ _ _).2 h] at this
      cases this
    have eb : (cutBef t ⟨#[b]⟩).data.toList = t.data.toList.take i := by unfold cutBef; rw [hcut]
    have ea : (cutAft t ⟨#[b]⟩).data.toList = t.data.toList.drop (i + 1) := by unfold cutAft; rw [hcut]
    refine ⟨by unfold cutOk; rw [hcut], ?_, ?_, ?_, ?_⟩
    · rw [eb, ea]; exact pieces_hit b _ i hget hno'
    · rw [Lib.size_eq, Lib.size_eq t, ea, List.length_drop]; omega
    · rw [Lib.size_eq, Lib.size_eq t, eb, List.length_take]; omega
    · intro j hj
      rw [eb, List.getElem?_take] at hj
      by_cases h : j < i
      · rw [if_pos h] at hj; exact hno' j h hj
      · rw [if_neg h] at hj; cases hj
/-- all pieces read -/
def readAll : List (List UInt8) → Option (List (List UInt8))
  | [] => some []
  | p :: r => match unesc p with
    | some x => (readAll r).map (x :: ·)
    | none => none
def splitL (l : List UInt8) : Option (List (List UInt8)) := if l = [45] then some [] else if l = [37, 50, 68] then some [[45]] else readAll (pieces 124 l)
def ofL (l : List UInt8) : ByteArray := ⟨l.toArray⟩
/-- the strings that Split returns, and its error -/
def splS (s : ByteArray) : List ByteArray := match splitL s.data.toList with
  | some l => l.map ofL
  | none => []
def splE (s : ByteArray) : Int := match splitL s.data.toList with
  | some _ => 0
  | none => 4
theorem unesc_le (l : List UInt8) : ∀ m, unesc l = some m → m.length ≤ l.length := by
  intro m h
  induction hn : l.length using Nat.strongRecOn generalizing l m with
  | ind n ih =>
    cases l with
    | nil => unfold unesc at h; cases h; simp
    | cons c r =>
      unfold unesc at h
      by_cases hc : c = 37
      · rw [if_pos hc] at h
        match r, h, hn with
        | a :: b :: r', h, hn =>
          simp only [] at h
          split at h
          · obtain ⟨x, hx, rfl⟩ := Option.map_eq_some_iff.1 h
            have := ih r'.length (by simp at hn; omega) r' x hx rfl
            simp at hn ⊢; omega
          · cases h
        | [a], h, _ => cases h
        | [], h, _ => cases h
      · rw [if_neg hc] at h
        split at h
        · obtain ⟨x, hx, rfl⟩ := Option.map_eq_some_iff.1 h
          have := ih r.length (by simp at hn; omega) r x hx rfl
          simp at hn ⊢; omega
        · cases h

end Go.Proofs.YtgepcbggkfjlgaaGreatDoor
end

section
/-
  Contracts of codec.plain and codec.Escape, and of the specification's. Condition: at most 1000000000 bytes.
-/
set_option maxRecDepth 100000
set_option linter.unusedVariables false
set_option linter.unusedSimpArgs false
set_option linter.unnecessarySimpa false
namespace Go.Proofs.YtgepcbggkfjlgaaGreatDoor
open Go.RowKit Go.PlainAid

set_option maxHeartbeats 1000000 in
theorem plain_any (c : Int) (w : World) (h0 : 0 ≤ c) (h1 : c ≤ 255) :
    Calls Tryz.prog 93 #[.int .u8 c] w fun e w' => e = .returned (.bool (plainI c)) ∧ w = w' := by
  cases a1 : (c == 37)
  · cases a2 : (c == 124)
    · cases a3 : (c == 44)
      · cases a4 : (c == 61)
        · cases a5 : (c == 59)
          · cases a6 : (c == 34)
            · by_cases b1 : 33 ≤ c
              · by_cases b2 : c ≤ 126
                · have HE := Lib.hid (show plainI c = true by unfold plainI; rw [a1, a2, a3, a4, a5, a6]; simp [b1, b2])
                  have d2 : decide (c ≤ 126) = true := by simp [b2]
                  go_enter Tryz.func93, Tryz.ntmps93
                  go_wp2
                  go_ret
                  exact ⟨by rw [HE.out]; rfl, rfl⟩
                · have HE := Lib.hid (show plainI c = false by unfold plainI; simp [b2])
                  have d2 : decide (c ≤ 126) = false := by simp [b2]
                  go_enter Tryz.func93, Tryz.ntmps93
                  go_wp2
                  go_ret
                  exact ⟨by rw [HE.out]; rfl, rfl⟩
              · have HE := Lib.hid (show plainI c = false by unfold plainI; simp [b1])
                go_enter Tryz.func93, Tryz.ntmps93
                go_wp2
                go_ret
                exact ⟨by rw [HE.out]; rfl, rfl⟩
            · have HE := Lib.hid (show plainI c = false by unfold plainI; rw [a6]; simp)
              go_enter Tryz.func93, Tryz.ntmps93
              go_wp2
              go_ret
              exact ⟨by rw [HE.out]; rfl, rfl⟩
          · have HE := Lib.hid (show plainI c = false by unfold plainI; rw [a5]; simp)
            go_enter Tryz.func93, Tryz.ntmps93
            go_wp2
            go_ret
            exact ⟨by rw [HE.out]; rfl, rfl⟩
        · have HE := Lib.hid (show plainI c = false by unfold plainI; rw [a4]; simp)
          go_enter Tryz.func93, Tryz.ntmps93
          go_wp2
          go_ret
          exact ⟨by rw [HE.out]; rfl, rfl⟩
      · have HE := Lib.hid (show plainI c = false by unfold plainI; rw [a3]; simp)
        go_enter Tryz.func93, Tryz.ntmps93
        go_wp2
        go_ret
        exact ⟨by rw [HE.out]; rfl, rfl⟩
    · have HE := Lib.hid (show plainI c = false by unfold plainI; rw [a2]; simp)
      go_enter Tryz.func93, Tryz.ntmps93
      go_wp2
      go_ret
      exact ⟨by rw [HE.out]; rfl, rfl⟩
  · have HE := Lib.hid (show plainI c = false by unfold plainI; rw [a1]; simp)
    go_enter Tryz.func93, Tryz.ntmps93
    go_wp2
    go_ret
    exact ⟨by rw [HE.out]; rfl, rfl⟩

set_option maxRecDepth 100000 in
set_option maxHeartbeats 2000000 in
theorem escape_any (s : ByteArray) (w : World) (hs : s.size ≤ 1000000000) :
    Calls Tryz.prog 72 #[.string s] w fun e w' => e = .returned (.string ⟨(escL s.data.toList).toArray⟩) ∧ Below w.heap.size w w' := by
  have hb := get_bt s
  have hx := get_bt (⟨#[48, 49, 50, 51, 52, 53, 54, 55, 56, 57, 65, 66, 67, 68, 69, 70]⟩ : ByteArray)
  have HN := Lib.hid (bld_new w)
  go_enter Tryz.func72, Tryz.ntmps72
  go_wp2
  go_loopw [7] (fun i wr => ∃ k : Nat, k ≤ s.size ∧ i = .int .i64 k ∧ Bld w.heap.size w.heap.size (escL (s.data.toList.take k)) wr ∧ Below w.heap.size w wr ∧ w.heap.size < wr.heap.size)
    (fun i _ => s.size - (intOf i).toNat)
  case atStart => exact ⟨0, Nat.zero_le _, rfl, HN.out, (Below.refl _ _).alloc (Nat.le_refl _) _, by simp⟩
  case round =>
    obtain ⟨k, hk, rfl, HB, hbel, hsz⟩ := hrel
    have h0 := bt_nonneg s k
    have h255 := bt_le s k
    have hl3 := escL_length (s.data.toList.take k)
    have hl4 : (s.data.toList.take k).length ≤ k := List.length_take_le _ _
    have HC := Lib.hid (bt_chr s k)
    by_cases hlt : k < s.size
    · have HST := Lib.hid (esc_step s k hlt)
      have HP := Lib.hid (plain_chr s k)
      cases c1 : plainI (bt s k)
      · have HST2 := Lib.hid (show escL (s.data.toList.take (k + 1)) = ((escL (s.data.toList.take k) ++ [37]) ++ [hexC ((chr s k).toNat / 16)]) ++ [hexC ((chr s k).toNat % 16)] by
          rw [HST.out, escC_other _ (by rw [HP.out, c1])]; simp)
        go_wp2_with (go_at_call 93; refine (plain_any _ _ h0 h255).mono ?_; rintro e w' ⟨rfl, rfl⟩)
        refine (writeByte_s w.heap.size w.heap.size _ 37 37 _ HB rfl (by omega) hbel.size).mono ?_
        rintro e w1 ⟨rfl, HB1, hb1⟩
        go_wp2_with fail
        refine (writeByte_s w.heap.size w.heap.size _ (hexC ((chr s k).toNat / 16)) _ _ HB1 (hex_hi _ _ HC.out) (by simp; omega) (Nat.le_trans hbel.size hb1.size)).mono ?_
        rintro e w2 ⟨rfl, HB2, hb2⟩
        go_wp2_with fail
        refine (writeByte_s w.heap.size w.heap.size _ (hexC ((chr s k).toNat % 16)) _ _ HB2 (hex_lo _ _ HC.out) (by simp; omega) (Nat.le_trans hbel.size (Nat.le_trans hb1.size hb2.size))).mono ?_
        rintro e w3 ⟨rfl, HB3, hb3⟩
        have hbel3 := hbel.trans (hb1.trans (hb2.trans hb3))
        go_wp2
        go_roundw
        case rel => exact ⟨k + 1, by omega, by go_num, by rw [HST2.out]; exact HB3, hbel3, Nat.lt_of_lt_of_le hsz (Nat.le_trans hb1.size (Nat.le_trans hb2.size hb3.size))⟩
        case measure => simp [intOf]; omega
      · have HST2 := Lib.hid (show escL (s.data.toList.take (k + 1)) = escL (s.data.toList.take k) ++ [chr s k] by
          rw [HST.out, escC_plain _ (by rw [HP.out, c1])])
        go_wp2_with (go_at_call 93; refine (plain_any _ _ h0 h255).mono ?_; rintro e w' ⟨rfl, rfl⟩)
        refine (writeByte_s w.heap.size w.heap.size _ (chr s k) _ _ HB HC.out (by omega) hbel.size).mono ?_
        rintro e w1 ⟨rfl, HB1, hb1⟩
        go_wp2
        go_roundw
        case rel => exact ⟨k + 1, by omega, by go_num, by rw [HST2.out]; exact HB1, hbel.trans hb1, Nat.lt_of_lt_of_le hsz hb1.size⟩
        case measure => simp [intOf]; omega
    · have HT := Lib.hid (show s.data.toList.take k = s.data.toList by rw [List.take_of_length_le]; simp; omega)
      rw [HT.out] at HB
      go_wp2_with (go_at_call 51; refine (string_s w.heap.size w.heap.size _ _ HB hbel.size).mono ?_; rintro e w1 ⟨rfl, hb1⟩)
      go_ret
      exact ⟨rfl, hbel.trans hb1⟩

end Go.Proofs.YtgepcbggkfjlgaaGreatDoor
end

section
/-
  Contracts of the specification's plain and Escape. Condition: at most 1000000000 bytes.
-/
set_option maxRecDepth 100000
set_option linter.unusedVariables false
set_option linter.unusedSimpArgs false
set_option linter.unnecessarySimpa false
namespace Go.Proofs.YtgepcbggkfjlgaaGreatDoor
open Go.RowKit Go.PlainAid

set_option maxHeartbeats 1000000 in
theorem rplain_any (c : Int) (w : World) (h0 : 0 ≤ c) (h1 : c ≤ 255) :
    Calls Tryz.prog 97 #[.int .u8 c] w fun e w' => e = .returned (.bool (plainI c)) ∧ w = w' := by
  by_cases b1 : 33 ≤ c
  · by_cases b2 : c ≤ 126
    · by_cases n0 : c = 37
      · subst n0
        have HE := Lib.hid (show plainI 37 = false by decide)
        go_enter Tryz.func97, Tryz.ntmps97
        go_wp2
        go_ret
        exact ⟨by rw [HE.out]; rfl, rfl⟩
      · have m0 : (c == 37) = false := by simpa using n0
        have q0 : (c != 37) = true := by simpa using n0
        by_cases n1 : c = 124
        · subst n1
          have HE := Lib.hid (show plainI 124 = false by decide)
          go_enter Tryz.func97, Tryz.ntmps97
          go_wp2
          go_ret
          exact ⟨by rw [HE.out]; rfl, rfl⟩
        · have m1 : (c == 124) = false := by simpa using n1
          have q1 : (c != 124) = true := by simpa using n1
          by_cases n2 : c = 44
          · subst n2
            have HE := Lib.hid (show plainI 44 = false by decide)
            go_enter Tryz.func97, Tryz.ntmps97
            go_wp2
            go_ret
            exact ⟨by rw [HE.out]; rfl, rfl⟩
          · have m2 : (c == 44) = false := by simpa using n2
            have q2 : (c != 44) = true := by simpa using n2
            by_cases n3 : c = 61
            · subst n3
              have HE := Lib.hid (show plainI 61 = false by decide)
              go_enter Tryz.func97, Tryz.ntmps97
              go_wp2
              go_ret
              exact ⟨by rw [HE.out]; rfl, rfl⟩
            · have m3 : (c == 61) = false := by simpa using n3
              have q3 : (c != 61) = true := by simpa using n3
              by_cases n4 : c = 59
              · subst n4
                have HE := Lib.hid (show plainI 59 = false by decide)
                go_enter Tryz.func97, Tryz.ntmps97
                go_wp2
                go_ret
                exact ⟨by rw [HE.out]; rfl, rfl⟩
              · have m4 : (c == 59) = false := by simpa using n4
                have q4 : (c != 59) = true := by simpa using n4
                by_cases n5 : c = 34
                · subst n5
                  have HE := Lib.hid (show plainI 34 = false by decide)
                  go_enter Tryz.func97, Tryz.ntmps97
                  go_wp2
                  go_ret
                  exact ⟨by rw [HE.out]; rfl, rfl⟩
                · have m5 : (c == 34) = false := by simpa using n5
                  have q5 : (c != 34) = true := by simpa using n5
                  have HE := Lib.hid (show plainI c = true by unfold plainI; rw [m0, m1, m2, m3, m4, m5]; simp [b1, b2])
                  go_enter Tryz.func97, Tryz.ntmps97
                  go_wp2
                  go_ret
                  exact ⟨by rw [HE.out]; rfl, rfl⟩
    · have HE := Lib.hid (show plainI c = false by unfold plainI; simp [b2])
      go_enter Tryz.func97, Tryz.ntmps97
      go_wp2
      go_ret
      exact ⟨by rw [HE.out]; rfl, rfl⟩
  · have HE := Lib.hid (show plainI c = false by unfold plainI; simp [b1])
    go_enter Tryz.func97, Tryz.ntmps97
    go_wp2
    go_ret
    exact ⟨by rw [HE.out]; rfl, rfl⟩

set_option maxRecDepth 100000 in
set_option maxHeartbeats 2000000 in
theorem rescape_any (s : ByteArray) (w : World) (hs : s.size ≤ 1000000000) :
    Calls Tryz.prog 76 #[.string s] w fun e w' => e = .returned (.string ⟨(escL s.data.toList).toArray⟩) ∧ Below w.heap.size w w' := by
  have hb := get_bt s
  have hx := get_bt (⟨#[48, 49, 50, 51, 52, 53, 54, 55, 56, 57, 65, 66, 67, 68, 69, 70]⟩ : ByteArray)
  go_enter Tryz.func76, Tryz.ntmps76
  go_wp2
  go_loopw [3, 4] (fun b i wr => ∃ k : Nat, k ≤ s.size ∧ i = .int .i64 k ∧ wr.ownsRow w.heap.size 5 1 b (escL (s.data.toList.take k)).length (bcells (escL (s.data.toList.take k))) ∧ Below w.heap.size w wr)
    (fun _ i _ => s.size - (intOf i).toNat)
  case atStart => exact ⟨0, Nat.zero_le _, rfl, World.ownsRow_nil _ _ _ _, Below.refl _ _⟩
  case round =>
    obtain ⟨k, hk, rfl, hown, hbel⟩ := hrel
    have h0 := bt_nonneg s k
    have h255 := bt_le s k
    have hl3 := escL_length (s.data.toList.take k)
    have hl4 : (s.data.toList.take k).length ≤ k := List.length_take_le _ _
    have HC := Lib.hid (bt_chr s k)
    by_cases hlt : k < s.size
    · have HST := Lib.hid (esc_step s k hlt)
      have HP := Lib.hid (plain_chr s k)
      cases c1 : plainI (bt s k)
      · go_wp2_with (go_at_call 97; refine (rplain_any _ _ h0 h255).mono ?_; rintro e w' ⟨rfl, rfl⟩)
        obtain ⟨i0, hi0, hz0, hz1, hz2⟩ := info_parts info5
        have k1 : (0 : Int) ≤ (k : Int) := by omega
        have k2 : (k : Int) < (s.size : Int) := by omega
        have t1 : IntKind.u8.wrap ((bt s k).tdiv 16) = bt s k / 16 := by rw [Int.tdiv_eq_ediv_of_nonneg h0]; exact IntWalk.u8_in _ (by omega)
        have t2 : IntKind.u8.wrap ((bt s k).tmod 16) = bt s k % 16 := by rw [Int.tmod_eq_emod_of_nonneg h0]; exact IntWalk.u8_in _ (by omega)
        have t3 : (bt s k).tmod 16 = bt s k % 16 := Int.tmod_eq_emod_of_nonneg h0
        have t4 : IntKind.u8.wrap (bt s k % 16) = bt s k % 16 := IntWalk.u8_in _ (by omega)
        have q1 : (0 : Int) ≤ bt s k / 16 := by omega
        have q2 : bt s k / 16 < 16 := by omega
        have q3 : (0 : Int) ≤ bt s k % 16 := by omega
        have q4 : bt s k % 16 < 16 := by omega
        go_region_held3 (fun _ => True) (trivial)
          ((refine step_append_lies _ (by rfl) _ _ _ (by rfl) w.heap.size 5 i0 _ 1 1 Tryz.underlying65 hi0 hz0 hz1 hz2 rfl (by omega) _ _ _ (by rfl) ((hown.alloc _).drew)
                ⟨wr.heap.size, 0, none⟩ 3 3 _ (by rfl) (by rfl) (World.news_of_block (heap_alloc_new wr _)) (by simp [Value.oneCell'])
                (by omega) (by unfold maxLen; omega) (by omega) (by have := hbel.size; simp; omega) (wr.heap.size + 1) (by simp) ?_; intro gg cap w1 hown1 hgrow hat hlt))
        all_goals
          go_wp2
          have hbel1 : Below w.heap.size w w1 := (((hbel.alloc hbel.size _).drew).grown hgrow (by have := hbel.size; simp; omega) (fun j hj => (hown.lt j hj).1))
          have HST2 := Lib.hid (show escL (s.data.toList.take (k + 1)) = escL (s.data.toList.take k) ++ [37, hexC ((chr s k).toNat / 16), hexC ((chr s k).toNat % 16)] by
            rw [HST.out, escC_other _ (by rw [HP.out, c1])])
          go_roundw
          case rel =>
            refine ⟨k + 1, by omega, by go_num, ?_, hbel1⟩
            rw [HST2.out, List.length_append, bcells_append]
            rw [hex_hi _ _ HC.out, hex_lo _ _ HC.out] at hown1
            exact hown1
          case measure => simp [intOf]; omega
      · have HST2 := Lib.hid (show escL (s.data.toList.take (k + 1)) = escL (s.data.toList.take k) ++ [chr s k] by
          rw [HST.out, escC_plain _ (by rw [HP.out, c1])])
        go_wp2_with (first
          | (go_at_call 97; refine (rplain_any _ _ h0 h255).mono ?_; rintro e w' ⟨rfl, rfl⟩)
          | (at_builtin; go_must (refine push_byte wr hown (.tmp 15) (.tmp 19) _ ?_ ?_ ?_ ?_ ?_ ?_ ?_; exact rfl; exact rfl; exact rfl; exact rfl; omega; exact hbel.size; intro v' w1 hown1 hb1)))
        go_roundw
        case rel => exact ⟨k + 1, by omega, by go_num, by rw [HST2.out, List.length_append, bcells_append]; rw [HC.out] at hown1; exact hown1, hbel.trans hb1⟩
        case measure => simp [intOf]; omega
    · have HT := Lib.hid (show s.data.toList.take k = s.data.toList by rw [List.take_of_length_le]; simp; omega)
      have hbk := back (l := escL s.data.toList) (by rw [HT.out] at hown; exact hown)
      go_wp2
      go_ret
      exact ⟨rfl, hbel⟩

end Go.Proofs.YtgepcbggkfjlgaaGreatDoor
end

section
/-
  Plain functions for decimal forms, and the contract of codec.decimal. Condition: at most 1000000000 bytes.
-/
set_option maxRecDepth 100000
set_option linter.unusedVariables false
set_option linter.unusedSimpArgs false
set_option linter.unnecessarySimpa false
namespace Go.Proofs.YtgepcbggkfjlgaaGreatDoor
open Go.RowKit Go.PlainAid

def digB (c : UInt8) : Bool := decide (48 ≤ c.toNat) && decide (c.toNat ≤ 57)
/-- without one leading minus -/
def stripL (l : List UInt8) : List UInt8 := Lib.trimPrefix l [45]
def digsB (l : List UInt8) : Bool := match l with
  | [] => false
  | c :: _ => !(c == 48) && l.all digB
def decB (l : List UInt8) : Bool := decide (l = [48]) || digsB (stripL l)
theorem digsB_nil : digsB [] = false := rfl

theorem digs_at {t : ByteArray} (j : Nat) (h : j < t.size) (hd : digB (chr t j) = false) : digsB t.data.toList = false := by
  have hm : chr t j ∈ t.data.toList := by
    unfold chr
    rw [List.getD_eq_getElem?_getD, List.getElem?_eq_getElem (by simpa using h)]
    exact List.getElem_mem _
  have : t.data.toList.all digB = false := by
    rw [List.all_eq_false]
    exact ⟨_, hm, by rw [hd]; simp⟩
  unfold digsB
  split
  · rfl
  · rw [this]; simp
theorem digs_all {t : ByteArray} (h0 : t.data.toList ≠ []) (h1 : chr t 0 ≠ 48) (h : ∀ j, j < t.size → digB (chr t j) = true) : digsB t.data.toList = true := by
  have : t.data.toList.all digB = true := by
    rw [List.all_eq_true]
    intro c hc
    obtain ⟨j, hj, rfl⟩ := List.getElem_of_mem hc
    have := h j (by simpa using hj)
    unfold chr at this
    rw [List.getD_eq_getElem?_getD, List.getElem?_eq_getElem hj] at this
    exact this
  unfold chr at h1
  cases e : t.data.toList with
  | nil => exact absurd e h0
  | cons c r =>
    rw [e] at h1 this
    unfold digsB
    rw [this]
    simpa using h1
theorem digs_zero {t : ByteArray} (h1 : chr t 0 = 48) : digsB t.data.toList = false := by
  unfold chr at h1
  cases e : t.data.toList with
  | nil => rfl
  | cons c r =>
    rw [e] at h1
    have : c = 48 := by simpa using h1
    unfold digsB; rw [this]; rfl

theorem byte_chr (t : ByteArray) (k : Nat) (h : k < t.size) : ((t[k]'h).toNat : Int) = bt t k := by unfold bt; rw [dif_pos h]
/-- one step of a range over a string, at a byte below 128 -/
theorem next_low (w : World) (t : ByteArray) (k : Nat) (h : k < t.size) (hc : bt t k < 128) (ty : TypeId) :
    (Instr.next (.pointer (some ⟨w.heap.size, 0, none⟩)) true ty).run Tryz.prog (w.iter t k) = .ok (.tuple #[.bool true, .int .i64 k, .int .i32 (bt t k)]) (w.iter t (k + 1)) := by
  have hb := byte_chr t k h
  rw [run_next_ascii (P := Tryz.prog) w t k ty h (by omega), hb]
/-- .. and above -/
theorem next_high (w : World) (t : ByteArray) (k : Nat) (h : k < t.size) (hc : 128 ≤ bt t k) : ∃ (r : Int) (d : Nat), 128 ≤ r ∧ 1 ≤ d ∧ (∀ ty,
    (Instr.next (.pointer (some ⟨w.heap.size, 0, none⟩)) true ty).run Tryz.prog (w.iter t k) = .ok (.tuple #[.bool true, .int .i64 k, .int .i32 r]) (w.iter t (k + d))) := by
  have hb := byte_chr t k h
  have hd := decode_high t k h (by omega)
  exact ⟨((Utf8.decode t k).1 : Int), (Utf8.decode t k).2, by omega, hd.2, fun ty => run_next_any (P := Tryz.prog) w t k ty h⟩
theorem below_iter {w : World} {t : ByteArray} {k : Nat} : Below w.heap.size w (w.iter t k) := (Below.refl _ _).alloc (Nat.le_refl _) _

/-- what TrimPrefix leaves -/
def undash (s : ByteArray) : ByteArray := ⟨(Lib.trimPrefix s.data.toList (⟨#[45]⟩ : ByteArray).data.toList).toArray⟩
theorem trim_dash (s t : ByteArray) (w : World) (h : Hid (t = undash s)) :
    Calls Tryz.prog 134 #[.string s, .string ⟨#[45]⟩] w fun e w' => e = .returned (.string t) ∧ w = w' :=
  (Tryz.strings_TrimPrefix _ _ _).mono fun e w' k => ⟨by rw [k.1, h.out]; rfl, k.2.symm⟩

set_option maxRecDepth 100000 in
set_option maxHeartbeats 4000000 in
theorem decimal_s (s : ByteArray) (w : World) (hs : s.size ≤ 1000000000) :
    Calls Tryz.prog 122 #[.string s] w fun e w' => e = .returned (.bool (decB s.data.toList)) ∧ Below w.heap.size w w' := by
  by_cases h1 : s.data.toList = [48]
  · have HE := Lib.hid (show decB s.data.toList = true by unfold decB; simp [h1])
    obtain rfl : s = ⟨#[48]⟩ := by rw [← Lib.mk_data s, h1]
    clear h1
    go_enter Tryz.func122, Tryz.ntmps122
    go_wp2
    go_ret
    exact ⟨by rw [HE.out]; rfl, Below.refl _ _⟩
  · have e1 : (s.toList == [48]) = false := by rw [Lib.toList_data]; simpa using h1
    obtain ⟨t, ht⟩ : ∃ t : ByteArray, t = undash s := ⟨_, rfl⟩
    have hts : t.size ≤ s.size := by
      rw [ht, undash, Lib.size_mk, Lib.size_eq]
      unfold Lib.trimPrefix; split <;> simp
    have HE := Lib.hid (show decB s.data.toList = digsB t.data.toList by unfold decB stripL; rw [ht]; simp [h1, undash])
    have HT := Lib.hid ht
    clear h1 ht
    by_cases h0 : t.size = 0
    · have HF := Lib.hid (show decB s.data.toList = false by
        rw [HE.out]
        have : t.data.toList = [] := List.length_eq_zero_iff.1 (by rw [← Lib.size_eq]; exact h0)
        rw [this]; rfl)
      have hte : t.toList.isEmpty = true := by rw [Lib.toList_data, List.length_eq_zero_iff.1 (show t.data.toList.length = 0 by rw [← Lib.size_eq]; exact h0)]; rfl
      go_enter Tryz.func122, Tryz.ntmps122
      go_wp2_with (go_at_call 134; refine (trim_dash _ _ _ HT).mono ?_; rintro e w' ⟨rfl, rfl⟩)
      go_ret
      exact ⟨by rw [HF.out]; rfl, Below.refl _ _⟩
    · have hte : t.toList.isEmpty = false := by
        rw [Lib.toList_data]
        cases e : t.data.toList with
        | nil => have := Lib.size_eq t; rw [e] at this; exact absurd this h0
        | cons _ _ => rfl
      have hb := get_bt t
      have h00 := bt_nonneg t 0
      have hpos : 0 < t.size := by omega
      by_cases h2 : chr t 0 = 48
      · have HF := Lib.hid (show decB s.data.toList = false by rw [HE.out, digs_zero h2])
        have h3 : (bt t 0 == 48) = true := by rw [bt_chr, h2]; rfl
        clear h2
        go_enter Tryz.func122, Tryz.ntmps122
        go_wp2_with (go_at_call 134; refine (trim_dash _ _ _ HT).mono ?_; rintro e w' ⟨rfl, rfl⟩)
        go_ret
        exact ⟨by rw [HF.out]; rfl, Below.refl _ _⟩
      · have H2 := Lib.hid h2
        have h3 : (bt t 0 == 48) = false := by
          rw [bt_chr]; refine beq_false_of_ne fun e => h2 ?_
          have h4 : (48 : UInt8).toNat = 48 := rfl
          exact UInt8.toNat_inj.1 (by omega)
        clear h2
        go_enter Tryz.func122, Tryz.ntmps122
        go_wp2_with (go_at_call 134; refine (trim_dash _ _ _ HT).mono ?_; rintro e w' ⟨rfl, rfl⟩)
        go_loopw [5] (fun _ wr => ∃ k : Nat, k ≤ t.size ∧ wr = w.iter t k ∧ Hid (∀ j, j < k → digB (chr t j) = true)) (fun _ wr => t.size - wr.iterPos w.heap.size)
        case atStart => exact ⟨0, Nat.zero_le _, rfl, Lib.hid fun j hj => absurd hj (Nat.not_lt_zero _)⟩
        case round =>
          obtain ⟨k, hk, rfl, HA⟩ := hrel
          by_cases hlt : k < t.size
          · have hk0 := bt_nonneg t k
            by_cases h128 : bt t k < 128
            · have hnx := next_low w t k hlt h128
              by_cases d1 : 48 ≤ bt t k
              · by_cases d2 : bt t k ≤ 57
                · have HD := Lib.hid (show digB (chr t k) = true by
                    have := bt_chr t k
                    unfold digB; simp; omega)
                  go_wp2
                  go_roundw
                  case rel => exact ⟨k + 1, by omega, rfl, Lib.hid fun j hj => if e : j = k then by rw [e]; exact HD.out else HA.out j (by omega)⟩
                  case measure => simp; omega
                · have HF := Lib.hid (show decB s.data.toList = false by
                    rw [HE.out]; refine digs_at k hlt ?_
                    have := bt_chr t k
                    unfold digB; simp; omega)
                  go_wp2
                  go_ret
                  exact ⟨by rw [HF.out]; rfl, below_iter⟩
              · have HF := Lib.hid (show decB s.data.toList = false by
                  rw [HE.out]; refine digs_at k hlt ?_
                  have := bt_chr t k
                  unfold digB; simp; omega)
                go_wp2
                go_ret
                exact ⟨by rw [HF.out]; rfl, below_iter⟩
            · obtain ⟨r, d, hr, hd, hnx⟩ := next_high w t k hlt (by omega)
              have HF := Lib.hid (show decB s.data.toList = false by
                rw [HE.out]; refine digs_at k hlt ?_
                have := bt_chr t k
                unfold digB; simp; omega)
              have hr1 : ¬ r < 48 := by omega
              have hr2 : 57 < r := by omega
              go_wp2
              go_ret
              exact ⟨by rw [HF.out]; rfl, below_iter⟩
          · have hnx : ∀ ty, (Instr.next (.pointer (some ⟨w.heap.size, 0, none⟩)) true ty).run Tryz.prog (w.iter t k) = _ := fun ty => run_next_end w t k ty hlt
            have HF := Lib.hid (show decB s.data.toList = true by
              rw [HE.out]
              refine digs_all (fun e => h0 (by rw [Lib.size_eq, e]; rfl)) H2.out (fun j hj => HA.out j (by omega)))
            go_wp2
            go_ret
            exact ⟨by rw [HF.out]; rfl, below_iter⟩

end Go.Proofs.YtgepcbggkfjlgaaGreatDoor
end
