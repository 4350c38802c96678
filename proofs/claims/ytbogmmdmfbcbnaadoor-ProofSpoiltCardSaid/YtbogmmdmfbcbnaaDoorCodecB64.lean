/-
  Plain functions for base64 forms, and the contract of codec.Base64. Condition: at most 1000000000 bytes.
-/
import Derived.Test.YtbogmmdmfbcbnaaDoorCodecC
import Derived.Test.YtbogmmdmfbcbnaaDoorCodecBuild
import Derived.Handy
set_option maxRecDepth 100000
set_option linter.unusedVariables false
set_option linter.unusedSimpArgs false
set_option linter.unnecessarySimpa false
namespace Go.Proofs.YtbogmmdmfbcbnaaDoor
open Go.RowKit Go.PlainAid

/-- the characters of base64 -/
def sixS : ByteArray := ⟨#[65, 66, 67, 68, 69, 70, 71, 72, 73, 74, 75, 76, 77, 78, 79, 80, 81, 82, 83, 84, 85, 86, 87, 88, 89, 90, 97, 98, 99, 100, 101, 102, 103, 104, 105, 106, 107, 108, 109, 110, 111, 112, 113, 114, 115, 116, 117, 118, 119, 120, 121, 122, 48, 49, 50, 51, 52, 53, 54, 55, 56, 57, 45, 95]⟩
/-- character n -/
def six (n : Nat) : UInt8 := chr sixS n
/-- the form of the bytes that follow, behind 'bits', of which 'count' are open -/
def encR : Nat → Nat → List UInt8 → List UInt8
  | 0, _, [] => []
  | 2, b, [] => [six (b * 16)]
  | _, b, [] => [six (b * 4)]
  | 0, _, c :: r => six (c.toNat / 4) :: encR 2 (c.toNat % 4) r
  | 2, b, c :: r => six ((b * 256 + c.toNat) / 16) :: encR 4 ((b * 256 + c.toNat) % 16) r
  | _, b, c :: r => six ((b * 256 + c.toNat) / 64) :: six ((b * 256 + c.toNat) % 64) :: encR 0 0 r
def b64S (s : ByteArray) : ByteArray := ofL (encR 0 0 s.data.toList)

theorem or_byte_table : ∀ a : Nat, a < 16 → ∀ b : Nat, b < 256 → bits BinOp.or IntKind.i64 ((a : Int) * 256) (b : Int) = 256 * (a : Int) + (b : Int) := by decide +kernel
theorem or_byte (a b : Int) (a0 : 0 ≤ a) (a1 : a < 16) (b0 : 0 ≤ b) (b1 : b ≤ 255) : bits BinOp.or IntKind.i64 (a * 256) b = 256 * a + b := by
  have := or_byte_table a.toNat (by omega) b.toNat (by omega)
  rw [Int.toNat_of_nonneg a0, Int.toNat_of_nonneg b0] at this
  exact this

theorem and3_table : ∀ x : Nat, x < 256 → bits BinOp.and IntKind.i64 (x : Int) 3 = ((x % 4 : Nat) : Int) := by decide +kernel
theorem and15_table : ∀ x : Nat, x < 1024 → bits BinOp.and IntKind.i64 (x : Int) 15 = ((x % 16 : Nat) : Int) := by decide +kernel
theorem and63_grid : ∀ a : Nat, a < 64 → ∀ b : Nat, b < 64 → bits BinOp.and IntKind.i64 ((a * 64 + b : Nat) : Int) 63 = (b : Int) := by decide +kernel
theorem and63_table (x : Nat) (h : x < 4096) : bits BinOp.and IntKind.i64 (x : Int) 63 = ((x % 64 : Nat) : Int) := by
  have := and63_grid (x / 64) (by omega) (x % 64) (by omega)
  rwa [show x / 64 * 64 + x % 64 = x by omega] at this
theorem and0_table : ∀ x : Nat, x < 64 → bits BinOp.and IntKind.i64 (x : Int) 0 = 0 := by decide +kernel
theorem six_at (n : Nat) : bt (⟨#[65, 66, 67, 68, 69, 70, 71, 72, 73, 74, 75, 76, 77, 78, 79, 80, 81, 82, 83, 84, 85, 86, 87, 88, 89, 90, 97, 98, 99, 100, 101, 102, 103, 104, 105, 106, 107, 108, 109, 110, 111, 112, 113, 114, 115, 116, 117, 118, 119, 120, 121, 122, 48, 49, 50, 51, 52, 53, 54, 55, 56, 57, 45, 95]⟩ : ByteArray) n = ((six n).toNat : Int) := bt_chr sixS n

set_option maxRecDepth 100000 in
set_option maxHeartbeats 4000000 in
theorem base64_s (s : ByteArray) (w : World) (hs : s.size ≤ 1000000000) :
    Calls Tryd.prog 49 #[.string s] w fun e w' => e = .returned (.string (b64S s)) ∧ Below w.heap.size w w' := by
  have hb := get_bt s
  have hx := get_bt (⟨#[65, 66, 67, 68, 69, 70, 71, 72, 73, 74, 75, 76, 77, 78, 79, 80, 81, 82, 83, 84, 85, 86, 87, 88, 89, 90, 97, 98, 99, 100, 101, 102, 103, 104, 105, 106, 107, 108, 109, 110, 111, 112, 113, 114, 115, 116, 117, 118, 119, 120, 121, 122, 48, 49, 50, 51, 52, 53, 54, 55, 56, 57, 45, 95]⟩ : ByteArray)
  have HN := Lib.hid (bld_new w)
  go_enter Tryd.func49, Tryd.ntmps49
  go_wp2
  go_loopw [4, 5, 9] (fun bv cv iv wr => ∃ (i c b : Nat) (out : List UInt8), i ≤ s.size ∧ iv = .int .i64 i ∧ bv = .int .i64 b ∧ cv = .int .i64 c ∧ (c = 0 ∧ b < 1 ∨ c = 2 ∧ b < 4 ∨ c = 4 ∧ b < 16) ∧ out.length ≤ 2 * i ∧
      Hid (encR 0 0 s.data.toList = out ++ encR c b (s.data.toList.drop i)) ∧ Bld w.heap.size w.heap.size out wr ∧ Below w.heap.size w wr)
    (fun _ _ iv _ => s.size - (intOf iv).toNat)
  case atStart => exact ⟨0, 0, 0, [], Nat.zero_le _, rfl, rfl, rfl, .inl ⟨rfl, by omega⟩, by simp, Lib.hid rfl, HN.out, (Below.refl _ _).alloc (Nat.le_refl _) _⟩
  case round =>
    obtain ⟨i, c, b, out, hi, rfl, rfl, rfl, hcb, hol, HU, HB, hbel⟩ := hrel
    have h0 := bt_nonneg s i
    have h255 := bt_le s i
    by_cases hlt : i < s.size
    · have HD := Lib.hid (drop_chr s i hlt)
      have HC := Lib.hid (bt_chr s i)
      have hor0 := or_byte b (bt s i) (by omega) (by omega) h0 h255
      obtain ⟨x, hxe⟩ : ∃ x : Nat, x = b * 256 + (chr s i).toNat := ⟨_, rfl⟩
      have hor : bits BinOp.or IntKind.i64 ((b : Int) * 256) (bt s i) = (x : Int) := by rw [hor0, HC.out]; omega
      clear hor0
      have hcl := (chr s i).toNat_lt
      have HX := Lib.hid hxe
      rcases hcb with ⟨rfl, hb1⟩ | ⟨rfl, hb4⟩ | ⟨rfl, hb16⟩
      · have hxl : x < 256 := by omega
        clear hxe
        have HS := Lib.hid (show encR 0 b (s.data.toList.drop i) = six (x / 4) :: encR 2 (x % 4) (s.data.toList.drop (i + 1)) by
          rw [HD.out, HX.out, show b * 256 + (chr s i).toNat = (chr s i).toNat by omega]; rfl)
        have hand := and3_table x hxl
        go_wp2_with fail
        refine wp_loop_rounds 3 ?_
        rw [rounds_succ]
        go_wp2_with fail
        refine (writeByte_s w.heap.size w.heap.size _ (six (x / 4)) _ _ HB (six_at (x / 4)) (by omega) hbel.size).mono ?_
        rintro e w1 ⟨rfl, HB1, hbl1⟩
        go_wp2_with fail
        rw [rounds_succ]
        go_wp2_with fail
        go_roundw
        case rel => exact ⟨i + 1, 2, x % 4, out ++ [six (x / 4)], by omega, by go_num, rfl, rfl, .inr (.inl ⟨rfl, by omega⟩), by simp; omega, Lib.hid (by rw [HU.out, HS.out]; simp), HB1, hbel.trans hbl1⟩
        case measure => simp [intOf]; omega
      · have hxl : x < 1024 := by omega
        clear hxe
        have HS := Lib.hid (show encR 2 b (s.data.toList.drop i) = six (x / 16) :: encR 4 (x % 16) (s.data.toList.drop (i + 1)) by
          rw [HD.out, HX.out]; rfl)
        have hand := and15_table x hxl
        go_wp2_with fail
        refine wp_loop_rounds 3 ?_
        rw [rounds_succ]
        go_wp2_with fail
        refine (writeByte_s w.heap.size w.heap.size _ (six (x / 16)) _ _ HB (six_at (x / 16)) (by omega) hbel.size).mono ?_
        rintro e w1 ⟨rfl, HB1, hbl1⟩
        go_wp2_with fail
        rw [rounds_succ]
        go_wp2_with fail
        go_roundw
        case rel => exact ⟨i + 1, 4, x % 16, out ++ [six (x / 16)], by omega, by go_num, rfl, rfl, .inr (.inr ⟨rfl, by omega⟩), by simp; omega, Lib.hid (by rw [HU.out, HS.out]; simp), HB1, hbel.trans hbl1⟩
        case measure => simp [intOf]; omega
      · have hxl : x < 4096 := by omega
        clear hxe
        have HS := Lib.hid (show encR 4 b (s.data.toList.drop i) = six (x / 64) :: six (x % 64) :: encR 0 0 (s.data.toList.drop (i + 1)) by
          rw [HD.out, HX.out]; rfl)
        have hand := and63_table x hxl
        have hand0 : bits BinOp.and IntKind.i64 ((x : Int) % 64) 0 = 0 := by
          have := and0_table (x % 64) (by omega)
          rwa [Int.natCast_emod] at this
        go_wp2_with fail
        refine wp_loop_rounds 3 ?_
        rw [rounds_succ]
        go_wp2_with fail
        refine (writeByte_s w.heap.size w.heap.size _ (six (x / 64)) _ _ HB (six_at (x / 64)) (by omega) hbel.size).mono ?_
        rintro e w1 ⟨rfl, HB1, hbl1⟩
        go_wp2_with fail
        rw [rounds_succ]
        go_wp2_with fail
        refine (writeByte_s w.heap.size w.heap.size _ (six (x % 64)) _ _ HB1 (six_at (x % 64)) (by simp; omega) (Nat.le_trans hbel.size hbl1.size)).mono ?_
        rintro e w2 ⟨rfl, HB2, hbl2⟩
        go_wp2_with fail
        rw [rounds_succ]
        go_wp2_with fail
        go_roundw
        case rel => exact ⟨i + 1, 0, 0, out ++ [six (x / 64)] ++ [six (x % 64)], by omega, by go_num, rfl, rfl, .inl ⟨rfl, by omega⟩, by simp; omega, Lib.hid (by rw [HU.out, HS.out]; simp), HB2, hbel.trans (hbl1.trans hbl2)⟩
        case measure => simp [intOf]; omega
    · have HT := Lib.hid (show s.data.toList.drop i = [] by rw [List.drop_eq_nil_iff]; simp; omega)
      rcases hcb with ⟨rfl, hb1⟩ | ⟨rfl, hb4⟩ | ⟨rfl, hb16⟩
      · have HF := Lib.hid (show b64S s = ofL out by unfold b64S; rw [HU.out, HT.out]; simp [encR])
        go_wp2_with (go_at_call 35; refine (string_s w.heap.size w.heap.size _ _ HB hbel.size).mono ?_; rintro e w1 ⟨rfl, hb1⟩)
        go_ret
        exact ⟨by rw [HF.out]; rfl, hbel.trans hb1⟩
      · have HF := Lib.hid (show b64S s = ofL (out ++ [six (b * 16)]) by unfold b64S; rw [HU.out, HT.out]; simp [encR])
        go_wp2_with fail
        refine (writeByte_s w.heap.size w.heap.size _ (six (b * 16)) _ _ HB (six_at (b * 16)) (by omega) hbel.size).mono ?_
        rintro e w1 ⟨rfl, HB1, hbl1⟩
        go_wp2_with fail
        refine (string_s w.heap.size w.heap.size _ _ HB1 (Nat.le_trans hbel.size hbl1.size)).mono ?_
        rintro e w2 ⟨rfl, hbl2⟩
        go_wp2
        go_ret
        exact ⟨by rw [HF.out]; rfl, hbel.trans (hbl1.trans hbl2)⟩
      · have HF := Lib.hid (show b64S s = ofL (out ++ [six (b * 4)]) by unfold b64S; rw [HU.out, HT.out]; simp [encR])
        go_wp2_with fail
        refine (writeByte_s w.heap.size w.heap.size _ (six (b * 4)) _ _ HB (six_at (b * 4)) (by omega) hbel.size).mono ?_
        rintro e w1 ⟨rfl, HB1, hbl1⟩
        go_wp2_with fail
        refine (string_s w.heap.size w.heap.size _ _ HB1 (Nat.le_trans hbel.size hbl1.size)).mono ?_
        rintro e w2 ⟨rfl, hbl2⟩
        go_wp2
        go_ret
        exact ⟨by rw [HF.out]; rfl, hbel.trans (hbl1.trans hbl2)⟩

end Go.Proofs.YtbogmmdmfbcbnaaDoor
