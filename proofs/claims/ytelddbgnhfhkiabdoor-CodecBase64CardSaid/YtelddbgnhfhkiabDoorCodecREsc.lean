/-
  Contracts of the specification's plain and Escape. Condition: at most 1000000000 bytes.
-/
import Derived.Test.YtelddbgnhfhkiabDoorCodecEsc
import Derived.Deep.RegionHeld3
import Derived.Deep.AppendLies
set_option linter.unusedVariables false
set_option linter.unusedSimpArgs false
set_option linter.unnecessarySimpa false
namespace Go.Proofs.YtelddbgnhfhkiabDoor
open Go.RowKit Go.PlainAid

set_option maxHeartbeats 1000000 in
theorem rplain_any (c : Int) (w : World) (h0 : 0 ≤ c) (h1 : c ≤ 255) :
    Calls Tryd.prog 54 #[.int .u8 c] w fun e w' => e = .returned (.bool (plainI c)) ∧ w = w' := by
  by_cases b1 : 33 ≤ c
  · by_cases b2 : c ≤ 126
    · by_cases n0 : c = 37
      · subst n0
        have HE := Lib.hid (show plainI 37 = false by decide)
        go_enter Tryd.func54, Tryd.ntmps54
        go_wp2
        go_ret
        exact ⟨by rw [HE.out]; rfl, rfl⟩
      · have m0 : (c == 37) = false := by simpa using n0
        have q0 : (c != 37) = true := by simpa using n0
        by_cases n1 : c = 124
        · subst n1
          have HE := Lib.hid (show plainI 124 = false by decide)
          go_enter Tryd.func54, Tryd.ntmps54
          go_wp2
          go_ret
          exact ⟨by rw [HE.out]; rfl, rfl⟩
        · have m1 : (c == 124) = false := by simpa using n1
          have q1 : (c != 124) = true := by simpa using n1
          by_cases n2 : c = 44
          · subst n2
            have HE := Lib.hid (show plainI 44 = false by decide)
            go_enter Tryd.func54, Tryd.ntmps54
            go_wp2
            go_ret
            exact ⟨by rw [HE.out]; rfl, rfl⟩
          · have m2 : (c == 44) = false := by simpa using n2
            have q2 : (c != 44) = true := by simpa using n2
            by_cases n3 : c = 61
            · subst n3
              have HE := Lib.hid (show plainI 61 = false by decide)
              go_enter Tryd.func54, Tryd.ntmps54
              go_wp2
              go_ret
              exact ⟨by rw [HE.out]; rfl, rfl⟩
            · have m3 : (c == 61) = false := by simpa using n3
              have q3 : (c != 61) = true := by simpa using n3
              by_cases n4 : c = 59
              · subst n4
                have HE := Lib.hid (show plainI 59 = false by decide)
                go_enter Tryd.func54, Tryd.ntmps54
                go_wp2
                go_ret
                exact ⟨by rw [HE.out]; rfl, rfl⟩
              · have m4 : (c == 59) = false := by simpa using n4
                have q4 : (c != 59) = true := by simpa using n4
                by_cases n5 : c = 34
                · subst n5
                  have HE := Lib.hid (show plainI 34 = false by decide)
                  go_enter Tryd.func54, Tryd.ntmps54
                  go_wp2
                  go_ret
                  exact ⟨by rw [HE.out]; rfl, rfl⟩
                · have m5 : (c == 34) = false := by simpa using n5
                  have q5 : (c != 34) = true := by simpa using n5
                  have HE := Lib.hid (show plainI c = true by unfold plainI; rw [m0, m1, m2, m3, m4, m5]; simp [b1, b2])
                  go_enter Tryd.func54, Tryd.ntmps54
                  go_wp2
                  go_ret
                  exact ⟨by rw [HE.out]; rfl, rfl⟩
    · have HE := Lib.hid (show plainI c = false by unfold plainI; simp [b2])
      go_enter Tryd.func54, Tryd.ntmps54
      go_wp2
      go_ret
      exact ⟨by rw [HE.out]; rfl, rfl⟩
  · have HE := Lib.hid (show plainI c = false by unfold plainI; simp [b1])
    go_enter Tryd.func54, Tryd.ntmps54
    go_wp2
    go_ret
    exact ⟨by rw [HE.out]; rfl, rfl⟩

set_option maxRecDepth 100000 in
set_option maxHeartbeats 2000000 in
theorem rescape_any (s : ByteArray) (w : World) (hs : s.size ≤ 1000000000) :
    Calls Tryd.prog 43 #[.string s] w fun e w' => e = .returned (.string ⟨(escL s.data.toList).toArray⟩) ∧ Below w.heap.size w w' := by
  have hb := get_bt s
  have hx := get_bt (⟨#[48, 49, 50, 51, 52, 53, 54, 55, 56, 57, 65, 66, 67, 68, 69, 70]⟩ : ByteArray)
  go_enter Tryd.func43, Tryd.ntmps43
  go_wp2
  go_loopw [3, 4] (fun b i wr => ∃ k : Nat, k ≤ s.size ∧ i = .int .i64 k ∧ wr.ownsRow w.heap.size 5 1 b (escL (s.data.toList.take k)).length (bcells (escL (s.data.toList.take k))) ∧ Below w.heap.size w wr)
    (fun _ i _ => s.size - (intOf i).toNat)
  case atStart => exact ⟨0, Nat.zero_le _, rfl, World.ownsRow_nil _ _ _ _, Below.refl _ _⟩
  case round =>
    obtain ⟨k, hk, rfl, hown, hbel⟩ := hrel
    have h0 := bt_nonneg s k
    have h255 := bt_le s k
    have hl3 := escL_length (s.data.toList.take k)
    have hl4 : (s.data.toList.take k).length ≤ k := List.length_take_le _ _
    have HC := Lib.hid (bt_chr s k)
    by_cases hlt : k < s.size
    · have HST := Lib.hid (esc_step s k hlt)
      have HP := Lib.hid (plain_chr s k)
      cases c1 : plainI (bt s k)
      · go_wp2_with (go_at_call 54; refine (rplain_any _ _ h0 h255).mono ?_; rintro e w' ⟨rfl, rfl⟩)
        obtain ⟨i0, hi0, hz0, hz1, hz2⟩ := info_parts info5
        have k1 : (0 : Int) ≤ (k : Int) := by omega
        have k2 : (k : Int) < (s.size : Int) := by omega
        have t1 : IntKind.u8.wrap ((bt s k).tdiv 16) = bt s k / 16 := by rw [Int.tdiv_eq_ediv_of_nonneg h0]; exact IntWalk.u8_in _ (by omega)
        have t2 : IntKind.u8.wrap ((bt s k).tmod 16) = bt s k % 16 := by rw [Int.tmod_eq_emod_of_nonneg h0]; exact IntWalk.u8_in _ (by omega)
        have t3 : (bt s k).tmod 16 = bt s k % 16 := Int.tmod_eq_emod_of_nonneg h0
        have t4 : IntKind.u8.wrap (bt s k % 16) = bt s k % 16 := IntWalk.u8_in _ (by omega)
        have q1 : (0 : Int) ≤ bt s k / 16 := by omega
        have q2 : bt s k / 16 < 16 := by omega
        have q3 : (0 : Int) ≤ bt s k % 16 := by omega
        have q4 : bt s k % 16 < 16 := by omega
        go_region_held3 (fun _ => True) (trivial)
          ((refine step_append_lies _ (by rfl) _ _ _ (by rfl) w.heap.size 5 i0 _ 1 1 Tryd.underlying55 hi0 hz0 hz1 hz2 rfl (by omega) _ _ _ (by rfl) ((hown.alloc _).drew)
                ⟨wr.heap.size, 0, none⟩ 3 3 _ (by rfl) (by rfl) (World.news_of_block (heap_alloc_new wr _)) (by simp [Value.oneCell'])
                (by omega) (by unfold maxLen; omega) (by omega) (by have := hbel.size; simp; omega) (wr.heap.size + 1) (by simp) ?_; intro gg cap w1 hown1 hgrow hat hlt))
        all_goals
          go_wp2
          have hbel1 : Below w.heap.size w w1 := (((hbel.alloc hbel.size _).drew).grown hgrow (by have := hbel.size; simp; omega) (fun j hj => (hown.lt j hj).1))
          have HST2 := Lib.hid (show escL (s.data.toList.take (k + 1)) = escL (s.data.toList.take k) ++ [37, hexC ((chr s k).toNat / 16), hexC ((chr s k).toNat % 16)] by
            rw [HST.out, escC_other _ (by rw [HP.out, c1])])
          go_roundw
          case rel =>
            refine ⟨k + 1, by omega, by go_num, ?_, hbel1⟩
            rw [HST2.out, List.length_append, bcells_append]
            rw [hex_hi _ _ HC.out, hex_lo _ _ HC.out] at hown1
            exact hown1
          case measure => simp [intOf]; omega
      · have HST2 := Lib.hid (show escL (s.data.toList.take (k + 1)) = escL (s.data.toList.take k) ++ [chr s k] by
          rw [HST.out, escC_plain _ (by rw [HP.out, c1])])
        go_wp2_with (first
          | (go_at_call 54; refine (rplain_any _ _ h0 h255).mono ?_; rintro e w' ⟨rfl, rfl⟩)
          | (at_builtin; go_must (refine push_byte wr hown (.tmp 15) (.tmp 19) _ ?_ ?_ ?_ ?_ ?_ ?_ ?_; exact rfl; exact rfl; exact rfl; exact rfl; omega; exact hbel.size; intro v' w1 hown1 hb1)))
        go_roundw
        case rel => exact ⟨k + 1, by omega, by go_num, by rw [HST2.out, List.length_append, bcells_append]; rw [HC.out] at hown1; exact hown1, hbel.trans hb1⟩
        case measure => simp [intOf]; omega
    · have HT := Lib.hid (show s.data.toList.take k = s.data.toList by rw [List.take_of_length_le]; simp; omega)
      have hbk := back (l := escL s.data.toList) (by rw [HT.out] at hown; exact hown)
      go_wp2
      go_ret
      exact ⟨rfl, hbel⟩

end Go.Proofs.YtelddbgnhfhkiabDoor
