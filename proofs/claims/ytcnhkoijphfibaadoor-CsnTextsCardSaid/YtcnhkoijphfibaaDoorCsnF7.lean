/-
  Contract of the specification's number. Condition: words of at most 15 bytes.
-/
import Derived.Test.YtcnhkoijphfibaaDoorCsnF5
import Derived.Deep.QuietTactic
import Derived.BigQuiet
set_option maxRecDepth 100000
set_option linter.unusedVariables false
set_option linter.unusedSimpArgs false
set_option linter.unnecessarySimpa false
namespace Go.Proofs.YtcnhkoijphfibaaDoor
open Go.RowKit Go.PlainAid

/-- the digit that has been found among the first k -/
def dgI (c : UInt8) (k : Nat) : Int := match hexO c with
  | some d => if d < k then (d : Int) else -1
  | none => -1
theorem dgI_zero (c : UInt8) : dgI c 0 = -1 := by
  unfold dgI
  cases hexO c with
  | none => rfl
  | some d => exact if_neg (Nat.not_lt_zero _)
theorem dgI_all (c : UInt8) : dgI c 16 = match hexO c with
  | some d => (d : Int)
  | none => -1 := by
  unfold dgI
  cases h : hexO c with
  | none => rfl
  | some d => exact if_pos (hexO_lt h)
theorem hexO_iff {c : UInt8} {k : Nat} (h : k < 16) : hexO c = some k ↔ hexD k = c := ⟨fun e => hexD_hexO e, fun e => by rw [← e]; exact hexO_hexD k h⟩
theorem dgI_step (c : UInt8) (k : Nat) (h : k < 16) : dgI c (k + 1) = if hexD k = c then (k : Int) else dgI c k := by
  unfold dgI
  cases e : hexO c with
  | none => rw [if_neg (fun q => by rw [(hexO_iff h).2 q] at e; cases e)]
  | some d =>
    by_cases q : hexD k = c
    · have := (hexO_iff h).2 q
      rw [e] at this
      have hd : d = k := Option.some.inj this
      subst hd
      simp only [if_pos q]
      rw [if_pos (by omega)]
    · have hd : d ≠ k := fun k2 => q ((hexO_iff h).1 (by rw [e, k2]))
      simp only [if_neg q]
      by_cases l : d < k
      · rw [if_pos l, if_pos (by omega)]
      · rw [if_neg l, if_neg (by omega)]
def numI (l : List UInt8) : Int := match rdA 0 l with
  | some n => (n : Int)
  | none => -1
theorem rdA_bound {l : List UInt8} {n : Nat} (h : rdA 0 l = some n) (hl : l.length ≤ 14) : n < 72057594037927936 := Nat.lt_of_lt_of_le (rdA_lt h) (pow16_le hl)
theorem u8_beq (a b : UInt8) : ((a.toNat : Int) == (b.toNat : Int)) = decide (a = b) := by
  rw [Bool.eq_iff_iff, beq_iff_eq, decide_eq_true_iff]
  constructor
  · intro h; exact UInt8.toNat_inj.1 (by omega)
  · intro h; rw [h]
set_option maxHeartbeats 8000000 in
theorem number_s (s : ByteArray) (w : World) (hs : s.size ≤ 15) :
    Calls Tryd.prog 43 #[.string s] w fun e w' => e = .returned (.int .i64 (numI s.data.toList)) ∧ Below w.heap.size w w' := by
  have hb := get_bt s
  have hx := get_bt (⟨#[48, 49, 50, 51, 52, 53, 54, 55, 56, 57, 97, 98, 99, 100, 101, 102]⟩ : ByteArray)
  go_enter Tryd.func43, Tryd.ntmps43
  go_wp2_with fail
  go_loopw [3, 4] (fun nv iv wr => ∃ i a : Nat, i ≤ s.size ∧ iv = .int .i64 i ∧ nv = .int .i64 a ∧ Hid (rdA 0 (s.data.toList.take i) = some a) ∧ Hid (Below w.heap.size w wr)) (fun _ iv _ => s.size - (intOf iv).toNat)
  case atStart => exact ⟨0, 0, Nat.zero_le _, rfl, rfl, Lib.hid rfl, Lib.hid (Below.refl _ _)⟩
  case round =>
    obtain ⟨i, a, hi, rfl, rfl, HR, HB⟩ := hrel
    rename World => Z0
    by_cases hlt : i < s.size
    · have d1 : (i : Int) < (s.size : Int) := by omega
      have HC := Lib.hid (bt_chr s i)
      have ha : a < 72057594037927936 := rdA_bound HR.out (by rw [List.length_take]; omega)
      have HT := Lib.hid (show rdA 0 (s.data.toList.take (i + 1)) = (hexO (chr s i)).map (a * 16 + ·) by
        rw [take_chr s i hlt, rdA_snoc, HR.out]; rfl)
      go_wp2_with fail
      go_loopw [5, 6] (fun dv kv W => ∃ k : Nat, k ≤ 16 ∧ kv = .int .i64 k ∧ dv = .int .i64 (dgI (chr s i) k) ∧ Hid (Below Z0.heap.size Z0 W)) (fun _ kv _ => 16 - (intOf kv).toNat)
      case atStart => exact ⟨0, Nat.zero_le _, rfl, by rw [dgI_zero], Lib.hid (Below.refl _ _)⟩
      case round =>
        obtain ⟨k, hk, rfl, rfl, HW⟩ := hrel
        by_cases hk16 : k < 16
        · have e0 : (k : Int) < 16 := by omega
          have hkey : (bt (⟨#[48, 49, 50, 51, 52, 53, 54, 55, 56, 57, 97, 98, 99, 100, 101, 102]⟩ : ByteArray) k == bt s i) = decide (hexD k = chr s i) := by
            rw [show bt (⟨#[48, 49, 50, 51, 52, 53, 54, 55, 56, 57, 97, 98, 99, 100, 101, 102]⟩ : ByteArray) k = ((hexD k).toNat : Int) from hexLowC_at k hk16, HC.out, u8_beq]
          by_cases q : hexD k = chr s i
          · have HD := Lib.hid (show dgI (chr s i) (k + 1) = (k : Int) by rw [dgI_step _ _ hk16, if_pos q])
            rw [decide_eq_true q] at hkey
            clear q
            go_wp2_with fail
            go_quiet (fail)
            generalize hW1 : World.drewN wr _ = W1
            have HW1 := Lib.hid (show Below Z0.heap.size Z0 W1 by rw [← hW1]; exact HW.out.trans ⟨rfl, rfl, rfl, Nat.le_refl _, fun _ _ => rfl⟩)
            clear hW1
            go_wp2_with fail
            go_roundw
            case rel => exact ⟨k + 1, by omega, by go_num, by rw [HD.out], HW1⟩
            case measure => simp [intOf]; omega
          · have HD := Lib.hid (show dgI (chr s i) (k + 1) = dgI (chr s i) k by rw [dgI_step _ _ hk16, if_neg q])
            rw [decide_eq_false q] at hkey
            clear q
            go_wp2_with fail
            go_quiet (fail)
            generalize hW1 : World.drewN wr _ = W1
            have HW1 := Lib.hid (show Below Z0.heap.size Z0 W1 by rw [← hW1]; exact HW.out.trans ⟨rfl, rfl, rfl, Nat.le_refl _, fun _ _ => rfl⟩)
            clear hW1
            go_wp2_with fail
            go_roundw
            case rel => exact ⟨k + 1, by omega, by go_num, by rw [HD.out], HW1⟩
            case measure => simp [intOf]; omega
        · obtain rfl : k = 16 := by omega
          rw [dgI_all]
          have HW1 := Lib.hid (HB.out.trans (HW.out.mono HB.out.size))
          cases ho : hexO (chr s i) with
          | none =>
            have HF := Lib.hid (show numI s.data.toList = -1 by
              unfold numI
              rw [← List.take_append_drop (i + 1) s.data.toList, rdA_none_append _ _ _ (by rw [HT.out, ho]; rfl)])
            clear ho
            go_wp2_with fail
            go_ret
            exact ⟨by rw [HF.out]; rfl, HW1.out⟩
          | some d =>
            have hd := hexO_lt ho
            have d0 : decide ((d : Int) < 0) = false := decide_eq_false (by omega)
            have HN := Lib.hid (show rdA 0 (s.data.toList.take (i + 1)) = some (a * 16 + d) by rw [HT.out, ho]; rfl)
            clear ho
            go_wp2_with fail
            go_roundw
            case rel => exact ⟨i + 1, a * 16 + d, by omega, by go_num, by rw [show ((a * 16 + d : Nat) : Int) = 16 * (a : Int) + (d : Int) by omega], HN, HW1⟩
            case measure => simp [intOf]; omega
    · have HF := Lib.hid (show numI s.data.toList = (a : Int) by
        have := HR.out
        rw [List.take_of_length_le (by rw [← Lib.size_eq]; omega)] at this
        unfold numI
        rw [this])
      have d1 : ¬ (i : Int) < (s.size : Int) := by omega
      go_wp2_with fail
      go_ret
      exact ⟨by rw [HF.out]; rfl, HB.out⟩

end Go.Proofs.YtcnhkoijphfibaaDoor
