/-
  Contracts over strings (named functions on byte arrays): Lower, the specification's Trim and Fold, fold.squeeze. Condition: at most 1000000000 bytes.
-/
import Derived.Test.YtdjhhofmlefaaaaDoorFoldTrim
set_option linter.unusedVariables false
set_option linter.unusedSimpArgs false
set_option linter.unnecessarySimpa false
namespace Go.Proofs.YtdjhhofmlefaaaaDoor
open Go.RowKit Go.PlainAid

def lowS (s : ByteArray) : ByteArray := ⟨(lowL s.data.toList).toArray⟩
def trimS (s : ByteArray) : ByteArray := ⟨(trimR s.data.toList).toArray⟩
def sqS (s : ByteArray) : ByteArray := ⟨(sqL s.data.toList).toArray⟩
def foldS (s : ByteArray) : ByteArray := sqS (lowS (trimS s))
theorem lowS_size (s : ByteArray) : (lowS s).size = s.size := by unfold lowS; rw [Lib.size_mk, lowL_length, ← Lib.size_eq]
theorem trimS_size (s : ByteArray) : (trimS s).size ≤ s.size := by unfold trimS; rw [Lib.size_mk, Lib.size_eq]; exact trimR_le _
theorem sqS_size (s : ByteArray) : (sqS s).size ≤ s.size := by unfold sqS; rw [Lib.size_mk, Lib.size_eq]; exact sqN_le _ _
theorem foldS_size (s : ByteArray) : (foldS s).size ≤ s.size := by
  unfold foldS
  have h1 := sqS_size (lowS (trimS s)); have h2 := lowS_size (trimS s); have h3 := trimS_size s
  omega

theorem rLower_s (s : ByteArray) (w : World) (hs : s.size ≤ 1000000000) :
    Calls Tryd.prog 48 #[.string s] w fun e w' => e = .returned (.string (lowS s)) ∧ Below w.heap.size w w' := rLower_any s w hs
theorem lower_s (s : ByteArray) (w : World) (hs : s.size ≤ 1000000000) :
    Calls Tryd.prog 23 #[.string s] w fun e w' => e = .returned (.string (lowS s)) ∧ Below w.heap.size w w' := lower_any s w hs
theorem rTrim_s (s : ByteArray) (w : World) (hs : s.size ≤ 1000000000) :
    Calls Tryd.prog 63 #[.string s] w fun e w' => e = .returned (.string (trimS s)) ∧ w = w' :=
  (rTrim_any s w hs).mono fun _ _ h => ⟨h.1, h.2.symm⟩
theorem squeeze_s (s : ByteArray) (w : World) (hs : s.size ≤ 1000000000) :
    Calls Tryd.prog 68 #[.string s] w fun e w' => e = .returned (.string (sqS s)) ∧ Below w.heap.size w w' := squeeze_any s w hs

set_option maxRecDepth 100000 in
set_option maxHeartbeats 1000000 in
theorem rFold_s (s : ByteArray) (w : World) (hs : s.size ≤ 1000000000) :
    Calls Tryd.prog 49 #[.string s] w fun e w' => e = .returned (.string (foldS s)) ∧ Below w.heap.size w w' := by
  have ht0 := trimS_size s
  have hl0 := lowS_size (trimS s)
  have HL0 := Lib.hid hl0; clear hl0
  go_enter Tryd.func49, Tryd.ntmps49
  go_wp2_with (first
    | (go_at_call 63; refine (rTrim_s _ _ hs).mono ?_; rintro e w' ⟨rfl, rfl⟩)
    | (go_at_call 48; refine (rLower_s _ _ (by omega)).mono ?_; rintro e w1 ⟨rfl, hb1⟩))
  obtain ⟨t, ht⟩ : ∃ t, t = lowS (trimS s) := ⟨_, rfl⟩
  rw [← ht]
  have HT := Lib.hid ht; clear ht
  have hts : t.size ≤ 1000000000 := by rw [HT.out]; have := HL0.out; omega
  have hb := get_bt t
  go_loopw [4, 5] (fun b i wr => ∃ k : Nat, k ≤ t.size ∧ i = .int .i64 k ∧ wr.ownsRow w.heap.size 5 1 b (sqN t.data.toList k).length (bcells (sqN t.data.toList k)) ∧ Below w.heap.size w wr)
    (fun _ i _ => t.size - (intOf i).toNat)
  case atStart => exact ⟨0, Nat.zero_le _, rfl, World.ownsRow_nil _ _ _ _, hb1⟩
  case round =>
    obtain ⟨k, hk, rfl, hown, hbel⟩ := hrel
    clear hb1
    have hle := sqN_le t.data.toList k
    by_cases hlt : k < t.size
    · have hex : (Hid (sqN t.data.toList (k + 1) = sqN t.data.toList k) ∧ (bt t k != 32) = false ∧ 0 < k ∧ (bt t (k - 1) != 32) = false) ∨
          (Hid (bcells (sqN t.data.toList (k + 1)) = bcells (sqN t.data.toList k) ++ [Value.int .u8 (bt t k)]) ∧ Hid ((sqN t.data.toList (k + 1)).length = (sqN t.data.toList k).length + 1) ∧
            (k = 0 ∨ (0 < k ∧ (bt t k != 32) = true) ∨ ((bt t k != 32) = false ∧ 0 < k ∧ (bt t (k - 1) != 32) = true))) := by
        by_cases h : bt t k = 32 ∧ 0 < k ∧ bt t (k - 1) = 32
        · exact .inl ⟨sq_skip t k h.1 h.2.1 h.2.2, by simp [h.1], h.2.1, by simp [h.2.2]⟩
        · refine .inr ⟨sq_keep t k h, sq_keep_len t k h, ?_⟩
          by_cases h2 : 0 < k
          · by_cases h1 : bt t k = 32
            · exact .inr (.inr ⟨by simp [h1], h2, by simp; exact fun h3 => h ⟨h1, h2, h3⟩⟩)
            · exact .inr (.inl ⟨h2, by simp [h1]⟩)
          · exact .inl (by omega)
      rcases hex with ⟨HS, hq, hpos, hq2⟩ | ⟨HS, HL, h0 | ⟨hpos, hq⟩ | ⟨hq, hpos, hq2⟩⟩
      · have hk0 : ((k : Int) == 0) = false := by simp; omega
        have hsub : IntKind.i64.wrap ((k : Int) - 1) = ((k - 1 : Nat) : Int) := by rw [IntWalk.i64_in _ ⟨by omega, by omega⟩]; omega
        go_wp2
        go_roundw
        case rel => exact ⟨k + 1, by omega, by go_num, by rw [HS.out]; exact hown, hbel⟩
        case measure => simp [intOf]; omega
      · subst h0
        go_wp2_with (at_builtin; refine push_byte wr hown (.tmp 30) (.tmp 34) _ ?_ ?_ ?_ ?_ ?_ ?_ ?_; exact rfl; exact rfl; exact rfl; exact rfl; omega; exact hbel.size; intro v' w1 hown1 hb1)
        go_roundw
        case rel => exact ⟨0 + 1, by omega, rfl, by rw [HS.out, HL.out]; exact hown1, hbel.trans hb1⟩
        case measure => simp [intOf]; omega
      · have hk0 : ((k : Int) == 0) = false := by simp; omega
        go_wp2_with (at_builtin; refine push_byte wr hown (.tmp 30) (.tmp 34) _ ?_ ?_ ?_ ?_ ?_ ?_ ?_; exact rfl; exact rfl; exact rfl; exact rfl; omega; exact hbel.size; intro v' w1 hown1 hb1)
        go_roundw
        case rel => exact ⟨k + 1, by omega, by go_num, by rw [HS.out, HL.out]; exact hown1, hbel.trans hb1⟩
        case measure => simp [intOf]; omega
      · have hk0 : ((k : Int) == 0) = false := by simp; omega
        have hsub : IntKind.i64.wrap ((k : Int) - 1) = ((k - 1 : Nat) : Int) := by rw [IntWalk.i64_in _ ⟨by omega, by omega⟩]; omega
        go_wp2_with (at_builtin; refine push_byte wr hown (.tmp 30) (.tmp 34) _ ?_ ?_ ?_ ?_ ?_ ?_ ?_; exact rfl; exact rfl; exact rfl; exact rfl; omega; exact hbel.size; intro v' w1 hown1 hb1)
        go_roundw
        case rel => exact ⟨k + 1, by omega, by go_num, by rw [HS.out, HL.out]; exact hown1, hbel.trans hb1⟩
        case measure => simp [intOf]; omega
    · have hkk : k = t.size := by omega
      have hbk := back (l := sqL t.data.toList) (by rw [hkk] at hown; unfold sqL; rw [← Lib.size_eq]; exact hown)
      have HK := Lib.hid hkk
      clear hkk
      go_wp2
      go_ret
      exact ⟨by unfold foldS; rw [← HT.out]; rfl, hbel⟩

end Go.Proofs.YtdjhhofmlefaaaaDoor
