/-
  Contracts of fold.Lower and of the specification's Lower: both return the list with A to Z lowered. Condition: at most 1000000000 bytes.
-/
import Derived.Test.YtclecajbcmmddaaBaseLow
import Derived.WalkKit
import Derived.WalkSpells
import Derived.Laws.IdiomStrings
import Derived.Handy
import Derived.Lib.Hide
set_option maxRecDepth 100000
set_option linter.unusedVariables false
set_option linter.unusedSimpArgs false
set_option linter.unnecessarySimpa false
namespace Go.Proofs.Ytclecajbcmmddaa
open Go.RowKit Go.PlainAid

/-- '[]byte(s)': a new row that holds the bytes of s -/
theorem toBytes (w : World) (s : ByteArray) : ∃ cap w1, (convert 9 81 (.string s)).run Try.prog w = .ok (.slice (some ⟨w.heap.size, 0, none⟩) s.size cap) w1 ∧
    (∀ j, j < s.size → w1.cell? ⟨w.heap.size, j, none⟩ = some (.int .u8 (bt s j))) ∧ (∀ j, j < s.size → w1.frozen? ⟨w.heap.size, j, none⟩ = false) ∧ Below w.heap.size w w1 ∧ w.heap.size < w1.heap.size := by
  refine ⟨_, _, run_bytes_of_string w 9 81 5 s Try.underlying9 Try.underlying81 Try.underlying5, fun j hj => ?_, fun j hj => ?_, ?_, ?_⟩
  · show (w.drew.alloc _).cell? ⟨w.drew.heap.size, j, none⟩ = _
    rw [World.cell?_alloc_mark, bytesRow_at s _ j hj, bt_at s j hj]
    rfl
  · show (w.drew.alloc _).frozen? ⟨w.drew.heap.size, j, none⟩ = _
    rw [World.frozen?_alloc_mark]
    have : s.size ≤ (bytesRow s (grownCap w s.size 0 5)).size := by simp only [bytesRow, Array.size_append, Array.size_map]; exact Nat.le_add_right _ _
    simp; omega
  · exact (Below.refl _ _).drew.alloc (Nat.le_refl _) _
  · show w.heap.size < (w.drew.alloc _).heap.size
    simp

set_option maxRecDepth 100000 in
set_option maxHeartbeats 1000000 in
theorem lower_any (s : ByteArray) (w : World) (hs : s.size ≤ 1000000000) :
    Calls Try.prog 39 #[.string s] w fun e w' => e = .returned (.string ⟨(lowL s.data.toList).toArray⟩) ∧ Below w.heap.size w w' := by
  obtain ⟨cap, w1, hconv, hc1, hf1, hb1, hz1⟩ := toBytes w s
  have HC1 := Lib.hid hc1; have HF1 := Lib.hid hf1; clear hc1 hf1
  go_enter Try.func39, Try.ntmps39
  go_wp2
  clear hconv
  go_loopw [9] (fun i wr => ∃ k : Nat, k ≤ s.size ∧ i = .int .i64 k ∧ Hid (∀ j, j < s.size → wr.cell? ⟨w.heap.size, j, none⟩ = some (.int .u8 (mixI s k j))) ∧
      Hid (∀ j, j < s.size → wr.frozen? ⟨w.heap.size, j, none⟩ = false) ∧ Below w.heap.size w wr)
    (fun i _ => s.size - (intOf i).toNat)
  case atStart => exact ⟨0, Nat.zero_le _, rfl, Lib.hid fun j hj => by rw [HC1.out j hj, mixI_zero], HF1, hb1⟩
  case round =>
    obtain ⟨k, hk, rfl, HC, HF, hbel⟩ := hrel
    have h0 := bt_nonneg s k
    have h255 := bt_le s k
    by_cases hlt : k < s.size
    · have hck := HC.out k hlt
      rw [mixI_self] at hck
      have hfk := HF.out k hlt
      by_cases hA : 65 ≤ bt s k ∧ bt s k ≤ 90
      · obtain ⟨hA1, hA2⟩ := hA
        go_wp2
        go_roundw
        case rel =>
          refine ⟨k + 1, by omega, by go_num, Lib.hid fun j hj => ?_, Lib.hid fun j hj => ?_, hbel.setCell (Nat.le_refl _) _⟩
          · by_cases hjk : j = k
            · subst hjk
              rw [World.cell?_setCell_same _ _ _ hck, mixI_hit s j hA1 hA2]
            · rw [World.cell?_setCell_other _ _ _ _ (by simp), HC.out j hj, mixI_other s k j hjk]
          · rw [World.frozen?_setCell]; exact HF.out j hj
        case measure => simp [intOf]; omega
      · have hA' : bt s k < 65 ∨ 90 < bt s k := by omega
        have HM := Lib.hid (mixI_miss s k hA)
        clear hA
        rcases hA' with hA | hA
        all_goals
          go_wp2
          go_roundw
          case rel =>
            refine ⟨k + 1, by omega, by go_num, Lib.hid fun j hj => ?_, HF, hbel⟩
            by_cases hjk : j = k
            · subst hjk
              rw [hck, HM.out]
            · rw [HC.out j hj, mixI_other s k j hjk]
          case measure => simp [intOf]; omega
    · have hkk : k = s.size := by omega
      subst hkk
      have hbk := run_convert_bytes_back (P := Try.prog) wr 81 9 5 ⟨w.heap.size, 0, none⟩ cap (lowL s.data.toList) Try.underlying81 Try.underlying5 Try.underlying9
        (fun j hj => by
          have hj' : j < s.size := by rw [Lib.size_eq]; simpa [lowL] using hj
          have hadd : (⟨w.heap.size, 0, none⟩ : Addr).add j = ⟨w.heap.size, j, none⟩ := by rw [WideShapes.add_plain, Nat.zero_add]
          rw [hadd, HC.out j hj', mixI_end s j hj])
      rw [lowL_length, ← Lib.size_eq] at hbk
      go_wp2
      go_ret
      exact ⟨rfl, hbel⟩

end Go.Proofs.Ytclecajbcmmddaa
