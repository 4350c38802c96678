/-
  Contract of the specification's hex. Condition: numbers below 16 to the power of 15.
-/
import Derived.Test.YtcnhkoijphfibaaDoorCsnF3
import Derived.Test.YtcnhkoijphfibaaDoorCodecA
set_option maxRecDepth 100000
set_option linter.unusedVariables false
set_option linter.unusedSimpArgs false
set_option linter.unnecessarySimpa false
namespace Go.Proofs.YtcnhkoijphfibaaDoor
open Go.RowKit Go.PlainAid

def hexLowC : ByteArray := ⟨#[48, 49, 50, 51, 52, 53, 54, 55, 56, 57, 97, 98, 99, 100, 101, 102]⟩
theorem hexLowC_at : ∀ d : Nat, d < 16 → bt hexLowC d = ((hexD d).toNat : Int) := by decide +kernel
theorem one_back (w : World) (x : Int) (c : UInt8) (hx : x = (c.toNat : Int)) :
    (convert 67 9 (.slice (some ⟨w.heap.size, 0, none⟩) 1 1)).run Tryd.prog (w.alloc (.cells #[.int .u8 x] 5)) = .ok (.string ⟨#[c]⟩) (w.alloc (.cells #[.int .u8 x] 5)) := by
  subst hx
  have h : (w.alloc (.cells #[.int .u8 (c.toNat : Int)] 5)).heap[w.heap.size]? = some (.cells #[.int .u8 (c.toNat : Int)] 5) := heap_alloc_new w _
  exact run_convert_bytes_back (P := Tryd.prog) _ 67 9 5 ⟨w.heap.size, 0, none⟩ 1 [c] Tryd.underlying67 Tryd.underlying5 Tryd.underlying9 (fun q hq => by
    have : q = 0 := by simp at hq; omega
    subst this
    rw [Go.WideShapes.add_plain]
    unfold World.cell?
    rw [h]; rfl)
theorem hexS_front (k n : Nat) : hexS15 (k + 1) n = ⟨#[hexD (n / 16 ^ k % 16)]⟩ ++ hexS15 k n := by
  unfold hexS15
  rw [hexK_front]
  apply ByteArray.ext
  rw [ByteArray.data_append]
  simp
set_option maxHeartbeats 4000000 in
theorem rhex_s (n k : Nat) (w : World) (hn : n < 1152921504606846976) (hk2 : k ≤ 15) :
    Calls Tryd.prog 45 #[.int .i64 n, .int .i64 k] w fun e w' => e = .returned (.string (hexS15 k n)) ∧ Below w.heap.size w w' := by
  have hx := get_bt (⟨#[48, 49, 50, 51, 52, 53, 54, 55, 56, 57, 97, 98, 99, 100, 101, 102]⟩ : ByteArray)
  go_enter Tryd.func45, Tryd.ntmps45
  go_wp2_with fail
  go_loopw [0, 5, 6] (fun nv sv iv wr => ∃ (i m : Nat) (o : ByteArray), i ≤ k ∧ iv = .int .i64 i ∧ nv = .int .i64 m ∧ sv = .string o ∧ o.size ≤ 15 ∧ Hid (o = hexS15 i n) ∧ Hid (m = n / 16 ^ i) ∧ Hid (Below w.heap.size w wr)) (fun _ _ iv _ => k - (intOf iv).toNat)
  case atStart => exact ⟨0, n, ⟨#[]⟩, Nat.zero_le _, rfl, rfl, rfl, Nat.zero_le _, Lib.hid rfl, Lib.hid (by simp), Lib.hid (Below.refl _ _)⟩
  case round =>
    obtain ⟨i, m, o, hi, rfl, rfl, rfl, ho, HS, HM, HB⟩ := hrel
    by_cases hlt : i < k
    · have d1 : (i : Int) < (k : Int) := by omega
      have hml : m < 1152921504606846976 := by rw [HM.out]; exact Nat.lt_of_le_of_lt (Nat.div_le_self _ _) hn
      have hd : m % 16 < 16 := Nat.mod_lt _ (by decide)
      obtain ⟨q, hq⟩ : ∃ q : ByteArray, q = ⟨#[hexD (m % 16)]⟩ := ⟨_, rfl⟩
      have hqs : q.size = 1 := by rw [hq]; rfl
      have hbk := one_back wr (bt (⟨#[48, 49, 50, 51, 52, 53, 54, 55, 56, 57, 97, 98, 99, 100, 101, 102]⟩ : ByteArray) (m % 16)) (hexD (m % 16)) (hexLowC_at _ hd)
      rw [← hq] at hbk
      have hlim : ¬ 9223372036854775807 < q.size + o.size := by omega
      have HN := Lib.hid (show q ++ o = hexS15 (i + 1) n by rw [hq, HS.out, HM.out]; exact (hexS_front i n).symm)
      have HZ := Lib.hid (show (q ++ o).size ≤ 15 by rw [HN.out, hexS_size]; omega)
      clear hq
      go_wp2_with fail
      go_roundw
      case rel => exact ⟨i + 1, m / 16, q ++ o, by omega, by go_num, by rw [Int.natCast_ediv]; rfl, rfl, HZ.out, HN, Lib.hid (by rw [HM.out, Nat.div_div_eq_div_mul, Nat.pow_succ]), Lib.hid (HB.out.alloc HB.out.size _)⟩
      case measure => simp [intOf]; omega
    · obtain rfl : i = k := by omega
      have d1 : ¬ (i : Int) < (i : Int) := by omega
      go_wp2_with fail
      go_ret
      exact ⟨by rw [HS.out]; rfl, HB.out⟩

end Go.Proofs.YtcnhkoijphfibaaDoor
