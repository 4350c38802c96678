/-
  Contracts of codec.plain and codec.Escape, and of the specification's. Condition: at most 1000000000 bytes.
-/
import Derived.Test.YtelddbgnhfhkiabDoorCodecBuild
import Derived.Test.YtelddbgnhfhkiabDoorCodecA
set_option linter.unusedVariables false
set_option linter.unusedSimpArgs false
set_option linter.unnecessarySimpa false
namespace Go.Proofs.YtelddbgnhfhkiabDoor
open Go.RowKit Go.PlainAid

set_option maxHeartbeats 1000000 in
theorem plain_any (c : Int) (w : World) (h0 : 0 ≤ c) (h1 : c ≤ 255) :
    Calls Tryd.prog 40 #[.int .u8 c] w fun e w' => e = .returned (.bool (plainI c)) ∧ w = w' := by
  cases a1 : (c == 37)
  · cases a2 : (c == 124)
    · cases a3 : (c == 44)
      · cases a4 : (c == 61)
        · cases a5 : (c == 59)
          · cases a6 : (c == 34)
            · by_cases b1 : 33 ≤ c
              · by_cases b2 : c ≤ 126
                · have HE := Lib.hid (show plainI c = true by unfold plainI; rw [a1, a2, a3, a4, a5, a6]; simp [b1, b2])
                  have d2 : decide (c ≤ 126) = true := by simp [b2]
                  go_enter Tryd.func40, Tryd.ntmps40
                  go_wp2
                  go_ret
                  exact ⟨by rw [HE.out]; rfl, rfl⟩
                · have HE := Lib.hid (show plainI c = false by unfold plainI; simp [b2])
                  have d2 : decide (c ≤ 126) = false := by simp [b2]
                  go_enter Tryd.func40, Tryd.ntmps40
                  go_wp2
                  go_ret
                  exact ⟨by rw [HE.out]; rfl, rfl⟩
              · have HE := Lib.hid (show plainI c = false by unfold plainI; simp [b1])
                go_enter Tryd.func40, Tryd.ntmps40
                go_wp2
                go_ret
                exact ⟨by rw [HE.out]; rfl, rfl⟩
            · have HE := Lib.hid (show plainI c = false by unfold plainI; rw [a6]; simp)
              go_enter Tryd.func40, Tryd.ntmps40
              go_wp2
              go_ret
              exact ⟨by rw [HE.out]; rfl, rfl⟩
          · have HE := Lib.hid (show plainI c = false by unfold plainI; rw [a5]; simp)
            go_enter Tryd.func40, Tryd.ntmps40
            go_wp2
            go_ret
            exact ⟨by rw [HE.out]; rfl, rfl⟩
        · have HE := Lib.hid (show plainI c = false by unfold plainI; rw [a4]; simp)
          go_enter Tryd.func40, Tryd.ntmps40
          go_wp2
          go_ret
          exact ⟨by rw [HE.out]; rfl, rfl⟩
      · have HE := Lib.hid (show plainI c = false by unfold plainI; rw [a3]; simp)
        go_enter Tryd.func40, Tryd.ntmps40
        go_wp2
        go_ret
        exact ⟨by rw [HE.out]; rfl, rfl⟩
    · have HE := Lib.hid (show plainI c = false by unfold plainI; rw [a2]; simp)
      go_enter Tryd.func40, Tryd.ntmps40
      go_wp2
      go_ret
      exact ⟨by rw [HE.out]; rfl, rfl⟩
  · have HE := Lib.hid (show plainI c = false by unfold plainI; rw [a1]; simp)
    go_enter Tryd.func40, Tryd.ntmps40
    go_wp2
    go_ret
    exact ⟨by rw [HE.out]; rfl, rfl⟩

set_option maxRecDepth 100000 in
set_option maxHeartbeats 2000000 in
theorem escape_any (s : ByteArray) (w : World) (hs : s.size ≤ 1000000000) :
    Calls Tryd.prog 25 #[.string s] w fun e w' => e = .returned (.string ⟨(escL s.data.toList).toArray⟩) ∧ Below w.heap.size w w' := by
  have hb := get_bt s
  have hx := get_bt (⟨#[48, 49, 50, 51, 52, 53, 54, 55, 56, 57, 65, 66, 67, 68, 69, 70]⟩ : ByteArray)
  have HN := Lib.hid (bld_new w)
  go_enter Tryd.func25, Tryd.ntmps25
  go_wp2
  go_loopw [7] (fun i wr => ∃ k : Nat, k ≤ s.size ∧ i = .int .i64 k ∧ Bld w.heap.size w.heap.size (escL (s.data.toList.take k)) wr ∧ Below w.heap.size w wr ∧ w.heap.size < wr.heap.size)
    (fun i _ => s.size - (intOf i).toNat)
  case atStart => exact ⟨0, Nat.zero_le _, rfl, HN.out, (Below.refl _ _).alloc (Nat.le_refl _) _, by simp⟩
  case round =>
    obtain ⟨k, hk, rfl, HB, hbel, hsz⟩ := hrel
    have h0 := bt_nonneg s k
    have h255 := bt_le s k
    have hl3 := escL_length (s.data.toList.take k)
    have hl4 : (s.data.toList.take k).length ≤ k := List.length_take_le _ _
    have HC := Lib.hid (bt_chr s k)
    by_cases hlt : k < s.size
    · have HST := Lib.hid (esc_step s k hlt)
      have HP := Lib.hid (plain_chr s k)
      cases c1 : plainI (bt s k)
      · have HST2 := Lib.hid (show escL (s.data.toList.take (k + 1)) = ((escL (s.data.toList.take k) ++ [37]) ++ [hexC ((chr s k).toNat / 16)]) ++ [hexC ((chr s k).toNat % 16)] by
          rw [HST.out, escC_other _ (by rw [HP.out, c1])]; simp)
        go_wp2_with (go_at_call 40; refine (plain_any _ _ h0 h255).mono ?_; rintro e w' ⟨rfl, rfl⟩)
        refine (writeByte_s w.heap.size w.heap.size _ 37 37 _ HB rfl (by omega) hbel.size).mono ?_
        rintro e w1 ⟨rfl, HB1, hb1⟩
        go_wp2_with fail
        refine (writeByte_s w.heap.size w.heap.size _ (hexC ((chr s k).toNat / 16)) _ _ HB1 (hex_hi _ _ HC.out) (by simp; omega) (Nat.le_trans hbel.size hb1.size)).mono ?_
        rintro e w2 ⟨rfl, HB2, hb2⟩
        go_wp2_with fail
        refine (writeByte_s w.heap.size w.heap.size _ (hexC ((chr s k).toNat % 16)) _ _ HB2 (hex_lo _ _ HC.out) (by simp; omega) (Nat.le_trans hbel.size (Nat.le_trans hb1.size hb2.size))).mono ?_
        rintro e w3 ⟨rfl, HB3, hb3⟩
        have hbel3 := hbel.trans (hb1.trans (hb2.trans hb3))
        go_wp2
        go_roundw
        case rel => exact ⟨k + 1, by omega, by go_num, by rw [HST2.out]; exact HB3, hbel3, Nat.lt_of_lt_of_le hsz (Nat.le_trans hb1.size (Nat.le_trans hb2.size hb3.size))⟩
        case measure => simp [intOf]; omega
      · have HST2 := Lib.hid (show escL (s.data.toList.take (k + 1)) = escL (s.data.toList.take k) ++ [chr s k] by
          rw [HST.out, escC_plain _ (by rw [HP.out, c1])])
        go_wp2_with (go_at_call 40; refine (plain_any _ _ h0 h255).mono ?_; rintro e w' ⟨rfl, rfl⟩)
        refine (writeByte_s w.heap.size w.heap.size _ (chr s k) _ _ HB HC.out (by omega) hbel.size).mono ?_
        rintro e w1 ⟨rfl, HB1, hb1⟩
        go_wp2
        go_roundw
        case rel => exact ⟨k + 1, by omega, by go_num, by rw [HST2.out]; exact HB1, hbel.trans hb1, Nat.lt_of_lt_of_le hsz hb1.size⟩
        case measure => simp [intOf]; omega
    · have HT := Lib.hid (show s.data.toList.take k = s.data.toList by rw [List.take_of_length_le]; simp; omega)
      rw [HT.out] at HB
      go_wp2_with (go_at_call 33; refine (string_s w.heap.size w.heap.size _ _ HB hbel.size).mono ?_; rintro e w1 ⟨rfl, hb1⟩)
      go_ret
      exact ⟨rfl, hbel.trans hb1⟩

end Go.Proofs.YtelddbgnhfhkiabDoor
