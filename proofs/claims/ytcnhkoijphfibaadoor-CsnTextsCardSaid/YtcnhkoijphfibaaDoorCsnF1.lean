/-
  Contracts of strconv.FormatInt at base 16 (what csn's text forms need of it). Condition: numbers below 16 to the power of 16; one cell of the table of math/bits as the card says.
-/
import Derived.Test.YtcnhkoijphfibaaDoorCsnP2
import Derived.Laws.BitsLemmas
import Derived.Laws.NewBlocks
set_option maxRecDepth 100000
set_option linter.unusedVariables false
set_option linter.unusedSimpArgs false
set_option linter.unnecessarySimpa false
namespace Go.Proofs.YtcnhkoijphfibaaDoor
open Go.RowKit Go.PlainAid

/-- the table's cell that is read at base 16 -/
def TzOk (w : World) : Prop := w.cell? ⟨3, 15, none⟩ = some (.int .u8 4)
theorem TzOk.below {w w' : World} (h : TzOk w) (hb : Below w.heap.size w w') : TzOk w' := by
  have hlt : 3 < w.heap.size := World.block_lt_of_cell? w _ h
  unfold TzOk
  rw [hb.cell (p := ⟨3, 15, none⟩) hlt]; exact h
def dig36 : ByteArray := ⟨#[48, 49, 50, 51, 52, 53, 54, 55, 56, 57, 97, 98, 99, 100, 101, 102, 103, 104, 105, 106, 107, 108, 109, 110, 111, 112, 113, 114, 115, 116, 117, 118, 119, 120, 121, 122]⟩
theorem dig36_at : ∀ d : Nat, d < 16 → bt dig36 d = ((hexD d).toNat : Int) := by decide +kernel
def arC (n k : Nat) : List Value := List.replicate (65 - k) (Value.int .u8 0) ++ bcells (hexK k n)
theorem arC_length (n k : Nat) (hk : k ≤ 65) : (arC n k).length = 65 := by
  unfold arC; rw [List.length_append, List.length_replicate, bcells_length, hexK_length]; omega
theorem arC_at (n k : Nat) (hk : k < 65) : (arC n k)[64 - k]? = some (.int .u8 0) := by
  unfold arC
  rw [List.getElem?_append_left (by rw [List.length_replicate]; omega), List.getElem?_replicate, if_pos (by omega)]
theorem arC_set (n k : Nat) (hk : k < 65) : (arC n k).set (64 - k) (.int .u8 ((hexD (n / 16 ^ k % 16)).toNat : Int)) = arC n (k + 1) := by
  have e : 65 - k = (64 - k) + 1 := by omega
  unfold arC
  rw [hexK_front, e, List.replicate_succ', List.append_assoc, show 65 - (k + 1) = 64 - k by omega]
  rw [List.set_append_right _ _ (by rw [List.length_replicate]; omega), List.length_replicate, Nat.sub_self]
  rfl
def arW (w : World) (n k : Nat) : World := w.alloc (.cells (arC n k).toArray 102)
theorem arW_cell (w : World) (n k j : Nat) : (arW w n k).cell? ⟨w.heap.size, j, none⟩ = (arC n k)[j]? := by
  unfold arW
  rw [World.cell?_alloc_at _ _ _ _ rfl]; simp
theorem arW_set (w : World) (n k : Nat) (hk : k < 65) : (arW w n k).setCell ⟨w.heap.size, 64 - k, none⟩ (.int .u8 ((hexD (n / 16 ^ k % 16)).toNat : Int)) = arW w n (k + 1) := by
  unfold arW
  rw [World.setCell_alloc_at _ _ _ _ _ rfl, List.setIfInBounds_toArray, arC_set n k hk]
theorem and15u (m : Nat) (hm : m < 18446744073709551616) : ∃ d : Nat, Hid (d = m % 16) ∧ d < 16 ∧ bits .and .u64 (m : Int) 15 = (d : Int) :=
  ⟨m % 16, Lib.hid rfl, Nat.mod_lt _ (by decide), by
    have := bits_mask .u64 64 (by decide) (fun n h0 h1 => by rw [IntKind.wrap_u64]; omega) 4 (by decide) (m : Int) (by omega) (by omega)
    rw [show ((2 : Int) ^ 4 - 1) = 15 by decide, show ((2 : Int) ^ 4) = 16 by decide] at this
    rw [this]; rfl⟩
theorem pow2_s (w : World) :
    Calls Tryd.prog 87 #[.int .i64 16] w fun e w' => e = .returned (.bool true) ∧ w = w' := by
  have h : bits .and .i64 16 15 = 0 := by decide +kernel
  go_enter Tryd.func87, Tryd.ntmps87
  go_wp2
  go_ret
  exact ⟨rfl, rfl⟩
theorem tz64_s (w : World) (h : TzOk w) :
    Calls Tryd.prog 92 #[.int .u64 16] w fun e w' => e = .returned (.int .i64 4) ∧ w = w' := by
  have h0 : w.cell? ⟨3, 15, none⟩ = some (.int .u8 4) := h
  have h1 : IntKind.u64.wrap (-16) = 18446744073709551600 := by decide +kernel
  have h2 : bits .and .u64 16 18446744073709551600 = 16 := by decide +kernel
  have h3 : IntKind.u64.wrap (16 * 285870213051353865) = 4573923408821661840 := by decide +kernel
  go_enter Tryd.func92, Tryd.ntmps92
  go_wp2
  go_ret
  exact ⟨rfl, rfl⟩
theorem tz_s (w : World) (h : TzOk w) :
    Calls Tryd.prog 88 #[.int .u64 16] w fun e w' => e = .returned (.int .i64 4) ∧ w = w' := by
  go_enter Tryd.func88, Tryd.ntmps88
  go_wp2_with (go_at_call 92; refine (tz64_s _ h).mono ?_; rintro e w' ⟨rfl, rfl⟩)
  go_ret
  exact ⟨rfl, rfl⟩

end Go.Proofs.YtcnhkoijphfibaaDoor
