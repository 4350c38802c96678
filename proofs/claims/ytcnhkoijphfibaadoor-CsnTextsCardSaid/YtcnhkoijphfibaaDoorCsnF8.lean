/-
  Contract of csn.readDigits. Condition: words of at most 15 bytes are read; any width of at most 15.
-/
import Derived.Test.YtcnhkoijphfibaaDoorCsnF7
set_option maxRecDepth 100000
set_option linter.unusedVariables false
set_option linter.unusedSimpArgs false
set_option linter.unnecessarySimpa false
namespace Go.Proofs.YtcnhkoijphfibaaDoor
open Go.RowKit Go.PlainAid

theorem idxC_table : ∀ n : Nat, n < 256 → Lib.indexByte hexLowC.data.toList (UInt8.ofNat n) = (match hexO (UInt8.ofNat n) with
  | some d => (d : Int)
  | none => -1) := by decide +kernel
theorem idxC (c : UInt8) : Lib.indexByte hexLowC.data.toList c = (match hexO c with
  | some d => (d : Int)
  | none => -1) := by
  have := idxC_table c.toNat c.toNat_lt
  rwa [UInt8.ofNat_toNat] at this
theorem idxC_k (c : UInt8) (v x : Int) (w : World) (hv : v = (c.toNat : Int)) (hx : (match hexO c with
  | some d => (d : Int)
  | none => -1) = x) :
    Calls Tryd.prog 55 #[.string ⟨#[48, 49, 50, 51, 52, 53, 54, 55, 56, 57, 97, 98, 99, 100, 101, 102]⟩, .int .u8 v] w fun e w' => e = .returned (.int .i64 x) ∧ w = w' := by
  subst hv hx
  refine (Tryd.strings_IndexByte hexLowC (c.toNat : Int) w).mono fun e w' h => ⟨?_, h.2.symm⟩
  rw [h.1, show ((c.toNat : Int).toNat).toUInt8 = c by rw [Int.toNat_natCast]; exact UInt8.ofNat_toNat, idxC]
theorem or16i (a d : Nat) (ha : a < 72057594037927936) (hd : d < 16) : bits .or .i64 ((a : Int) * 16) (d : Int) = (a : Int) * 16 + (d : Int) :=
  bits_join .i64 63 (by decide) (fun n h0 h1 => by rw [IntKind.wrap_i64]; omega) 4 ((a : Int) * 16) (d : Int) (by omega) (by omega) (by omega) (by omega) (by omega) (by omega)
def rdgV (k : Nat) (s : ByteArray) : Int := match wrdC k s.data.toList with
  | some n => (n : Int)
  | none => 0
def rdgB (k : Nat) (s : ByteArray) : Bool := (wrdC k s.data.toList).isSome
theorem rdg_no {k : Nat} {s : ByteArray} (h : wrdC k s.data.toList = none) : rdgV k s = 0 ∧ rdgB k s = false := by unfold rdgV rdgB; rw [h]; exact ⟨rfl, rfl⟩
theorem rdg_of {k n : Nat} {s : ByteArray} (h : wrdC k s.data.toList = some n) : rdgV k s = (n : Int) ∧ rdgB k s = true := by unfold rdgV rdgB; rw [h]; exact ⟨rfl, rfl⟩
set_option maxHeartbeats 4000000 in
theorem readDig_s (s : ByteArray) (k : Nat) (w : World) (hs : s.size ≤ 1000000000) (hk : k ≤ 15) :
    Calls Tryd.prog 42 #[.string s, .int .i64 k] w fun e w' => e = .returned (.tuple #[.int .i64 (rdgV k s), .bool (rdgB k s)]) ∧ w = w' := by
  by_cases hz : s.size = k
  · have hb := get_bt s
    have e0 : ((s.size : Int) != (k : Int)) = false := by rw [hz]; simp
    have HZ := Lib.hid hz
    have hsk : s.size ≤ 15 := by omega
    clear hz
    go_enter Tryd.func42, Tryd.ntmps42
    go_wp2_with fail
    go_loop [6, 15] (fun nv iv => ∃ i a : Nat, i ≤ s.size ∧ iv = .int .i64 i ∧ nv = .int .i64 a ∧ Hid (rdA 0 (s.data.toList.take i) = some a)) (fun _ iv => s.size - (intOf iv).toNat)
    case atStart => exact ⟨0, 0, Nat.zero_le _, rfl, rfl, Lib.hid rfl⟩
    case round =>
      obtain ⟨i, a, hi, rfl, rfl, HR⟩ := hrel
      by_cases hlt : i < s.size
      · have d1 : (i : Int) < (s.size : Int) := by omega
        have HC := Lib.hid (bt_chr s i)
        have ha : a < 72057594037927936 := rdA_bound HR.out (by rw [List.length_take]; omega)
        have HT := Lib.hid (show rdA 0 (s.data.toList.take (i + 1)) = (hexO (chr s i)).map (a * 16 + ·) by
          rw [take_chr s i hlt, rdA_snoc, HR.out]; rfl)
        cases ho : hexO (chr s i) with
        | none =>
          have HF := Lib.hid (rdg_no (k := k) (s := s) (by
            unfold wrdC
            rw [if_pos (by rw [← Lib.size_eq]; exact HZ.out), ← List.take_append_drop (i + 1) s.data.toList, rdA_none_append _ _ _ (by rw [HT.out, ho]; rfl)]))
          have HI := Lib.hid (idxC_k (chr s i) (bt s i) (-1) w HC.out (by rw [ho]))
          clear ho
          go_wp2_with (go_at_call 55; refine HI.out.mono ?_; rintro e w' ⟨rfl, rfl⟩)
          go_ret2
          exact ⟨by rw [HF.out.1, HF.out.2]; rfl, rfl⟩
        | some d =>
          have hd := hexO_lt ho
          have HI := Lib.hid (idxC_k (chr s i) (bt s i) (d : Int) w HC.out (by rw [ho]))
          have HN := Lib.hid (show rdA 0 (s.data.toList.take (i + 1)) = some (a * 16 + d) by rw [HT.out, ho]; rfl)
          have hor := or16i a d ha hd
          have d0 : decide ((d : Int) < 0) = false := decide_eq_false (by omega)
          clear ho
          go_wp2_with (go_at_call 55; refine HI.out.mono ?_; rintro e w' ⟨rfl, rfl⟩)
          go_round
          case rel => exact ⟨i + 1, a * 16 + d, by omega, by go_num, by go_num, HN⟩
          case measure => simp [intOf]; omega
      · have HF := Lib.hid (rdg_of (k := k) (s := s) (n := a) (by
          have := HR.out
          rw [List.take_of_length_le (by rw [← Lib.size_eq]; omega)] at this
          unfold wrdC
          rw [if_pos (by rw [← Lib.size_eq]; exact HZ.out), this]))
        have d1 : ¬ (i : Int) < (s.size : Int) := by omega
        go_wp2_with fail
        go_ret2
        exact ⟨by rw [HF.out.1, HF.out.2]; rfl, rfl⟩
  · have e0 : ((s.size : Int) != (k : Int)) = true := by simpa using fun h => hz (by omega)
    have HF := Lib.hid (rdg_no (k := k) (s := s) (if_neg (by rw [← Lib.size_eq]; exact hz)))
    clear hz
    go_enter Tryd.func42, Tryd.ntmps42
    go_wp2_with fail
    go_ret2
    exact ⟨by rw [HF.out.1, HF.out.2]; rfl, rfl⟩

end Go.Proofs.YtcnhkoijphfibaaDoor
