/-
  What strings.IndexRune answers for the characters of base64 at a rune of 128 or more: -1. No further condition.
-/
import Derived.Test.YtbogmmdmfbcbnaaDoorCodecR64
import Derived.Laws.Runes
import Derived.Deep.RegionHeld3
import Derived.BigQuiet
import Derived.WalkMore
set_option maxRecDepth 100000
set_option linter.unusedVariables false
set_option linter.unusedSimpArgs false
set_option linter.unnecessarySimpa false
namespace Go.Proofs.YtbogmmdmfbcbnaaDoor
open Go.RowKit Go.PlainAid

theorem it_below {w w' : World} (h : Below w.heap.size w w') : ItKept w w' := by
  intro k s p e
  have hlt : k < w.heap.size := by
    rcases Nat.lt_or_ge k w.heap.size with x | x
    · exact x
    · rw [Array.getElem?_eq_none x] at e; cases e
  rw [h.block k hlt]; exact e

set_option maxHeartbeats 1000000 in
theorem valid_s (r : Int) (w : World) (h0 : 0 ≤ r) :
    Calls Tryd.prog 53 #[.int .i32 r] w fun e w' => e = .returned (.bool (Utf8.valid r)) ∧ w = w' := by
  rw [validRune_eq]
  by_cases h1 : r < 55296
  · have HE := Lib.hid (show validRune r = true by unfold validRune; exact decide_eq_true (.inl ⟨h0, h1⟩))
    go_enter Tryd.func53, Tryd.ntmps53
    go_wp2
    go_ret
    exact ⟨by rw [HE.out]; rfl, rfl⟩
  · by_cases h2 : 57343 < r
    · by_cases h3 : r ≤ 1114111
      · have HE := Lib.hid (show validRune r = true by unfold validRune; exact decide_eq_true (.inr ⟨h2, h3⟩))
        go_enter Tryd.func53, Tryd.ntmps53
        go_wp2
        go_ret
        exact ⟨by rw [HE.out]; rfl, rfl⟩
      · have HE := Lib.hid (show validRune r = false by unfold validRune; exact decide_eq_false (by omega))
        go_enter Tryd.func53, Tryd.ntmps53
        go_wp2
        go_ret
        exact ⟨by rw [HE.out]; rfl, rfl⟩
    · have HE := Lib.hid (show validRune r = false by unfold validRune; exact decide_eq_false (by omega))
      go_enter Tryd.func53, Tryd.ntmps53
      go_wp2
      go_ret
      exact ⟨by rw [HE.out]; rfl, rfl⟩

theorem index_none : ∀ (l : List UInt8) (c : UInt8), (∀ b ∈ l, b ≠ c) → Lib.indexByte l c = -1 := by
  intro l c h
  induction l with
  | nil => rfl
  | cons b l ih =>
    unfold Lib.indexByte
    have h1 : (b == c) = false := by simpa using h b (by simp)
    rw [h1, ih (fun x hx => h x (by simp [hx]))]
    rfl
theorem six_low : ∀ b ∈ sixS.data.toList, b.toNat < 128 := by decide +kernel
theorem six_low_bt (k : Nat) : bt sixS k < 128 := by
  by_cases h : k < sixS.size
  · have hm : chr sixS k ∈ sixS.data.toList := by
      unfold chr
      rw [List.getD_eq_getElem?_getD, List.getElem?_eq_getElem (by simpa using h)]
      exact List.getElem_mem _
    have := six_low _ hm
    rw [bt_chr]; omega
  · unfold bt; rw [dif_neg h]; omega
/-- IndexByte in a part of the characters, at a byte of 128 or more -/
theorem high_byte (a e : Nat) (x : Int) (w : World) (h0 : 128 ≤ x) (h1 : x ≤ 255) :
    Calls Tryd.prog 52 #[.string ((⟨#[65, 66, 67, 68, 69, 70, 71, 72, 73, 74, 75, 76, 77, 78, 79, 80, 81, 82, 83, 84, 85, 86, 87, 88, 89, 90, 97, 98, 99, 100, 101, 102, 103, 104, 105, 106, 107, 108, 109, 110, 111, 112, 113, 114, 115, 116, 117, 118, 119, 120, 121, 122, 48, 49, 50, 51, 52, 53, 54, 55, 56, 57, 45, 95]⟩ : ByteArray).extract a e), .int .u8 x] w fun e w' => e = .returned (.int .i64 (-1)) ∧ w' = w := by
  refine (Tryd.strings_IndexByte _ x w).mono fun e w' k => ⟨?_, k.2⟩
  rw [k.1, index_none]
  intro b hb hbc
  have h2 := six_low b (mem_extract hb)
  have h3 : x.toNat.toUInt8.toNat = x.toNat := by
    rw [show x.toNat.toUInt8 = UInt8.ofNat x.toNat from rfl, UInt8.toNat_ofNat']; omega
  rw [hbc, h3] at h2; omega

set_option maxRecDepth 100000 in
set_option maxHeartbeats 4000000 in
theorem high_idx : HighIdx := by
  intro r w h128 hmax
  suffices h : Calls Tryd.prog 33 #[.string ⟨#[65, 66, 67, 68, 69, 70, 71, 72, 73, 74, 75, 76, 77, 78, 79, 80, 81, 82, 83, 84, 85, 86, 87, 88, 89, 90, 97, 98, 99, 100, 101, 102, 103, 104, 105, 106, 107, 108, 109, 110, 111, 112, 113, 114, 115, 116, 117, 118, 119, 120, 121, 122, 48, 49, 50, 51, 52, 53, 54, 55, 56, 57, 45, 95]⟩, .int .i32 r] w fun e w' => e = .returned (.int .i64 (-1)) ∧ Below w.heap.size w w' from
    h.mono fun e w' k => ⟨k.1, k.2, it_below k.2⟩
  have hz : 0 ≤ r := by omega
  have hn : ¬ r < 128 := by omega
  cases c1 : (r == 65533)
  · cases hv : Utf8.valid r
    · go_enter Tryd.func33, Tryd.ntmps33
      go_wp2_with (go_at_call 53; refine (valid_s _ _ hz).mono ?_; rintro e w' ⟨rfl, rfl⟩; rw [hv])
      go_ret
      exact ⟨rfl, Below.refl _ _⟩
    · obtain ⟨f1, f2, f3⟩ := encode_facts r hv h128
      obtain ⟨rs, hrs⟩ : ∃ rs, Utf8.encode r = rs := ⟨_, rfl⟩
      rw [hrs] at f1 f2 f3
      have hbr := get_bt rs
      have hbs := get_bt (⟨#[65, 66, 67, 68, 69, 70, 71, 72, 73, 74, 75, 76, 77, 78, 79, 80, 81, 82, 83, 84, 85, 86, 87, 88, 89, 90, 97, 98, 99, 100, 101, 102, 103, 104, 105, 106, 107, 108, 109, 110, 111, 112, 113, 114, 115, 116, 117, 118, 119, 120, 121, 122, 48, 49, 50, 51, 52, 53, 54, 55, 56, 57, 45, 95]⟩ : ByteArray)
      have HV := Lib.hid hv
      have hl0 := bt_le rs
      rcases (show rs.size = 2 ∨ rs.size = 3 ∨ rs.size = 4 by omega) with hm | hm | hm
      · have hlast : 128 ≤ bt rs 1 := by
          have := f3 (by omega)
          rw [← get_bt rs 1 (by omega)]
          simp only [hm] at this
          exact_mod_cast this
        have hle := bt_le rs 1
        have hne : (bt (⟨#[65, 66, 67, 68, 69, 70, 71, 72, 73, 74, 75, 76, 77, 78, 79, 80, 81, 82, 83, 84, 85, 86, 87, 88, 89, 90, 97, 98, 99, 100, 101, 102, 103, 104, 105, 106, 107, 108, 109, 110, 111, 112, 113, 114, 115, 116, 117, 118, 119, 120, 121, 122, 48, 49, 50, 51, 52, 53, 54, 55, 56, 57, 45, 95]⟩ : ByteArray) 1 != bt rs 1) = true := by
          have := six_low_bt 1
          simp only [bne_iff_ne]; intro e; rw [show bt (⟨#[65, 66, 67, 68, 69, 70, 71, 72, 73, 74, 75, 76, 77, 78, 79, 80, 81, 82, 83, 84, 85, 86, 87, 88, 89, 90, 97, 98, 99, 100, 101, 102, 103, 104, 105, 106, 107, 108, 109, 110, 111, 112, 113, 114, 115, 116, 117, 118, 119, 120, 121, 122, 48, 49, 50, 51, 52, 53, 54, 55, 56, 57, 45, 95]⟩ : ByteArray) 1 = bt sixS 1 from rfl] at e; omega
        have hne2 : ((66 : Int) != bt rs 1) = true := by simp only [bne_iff_ne]; omega
        have hconv : ∀ w, (convert 21 9 (.int .i32 r)).run Tryd.prog w = .ok (.string rs) w := fun w => by
          rw [run_convert_int_string w _ _ _ _ (by rw [Tryd.underlying21]; rfl) Tryd.underlying9, hrs]
        clear f1 f2 f3 hv
        go_enter Tryd.func33, Tryd.ntmps33
        go_wp2_with (go_at_call 53; refine (valid_s _ _ hz).mono ?_; rintro e w' ⟨rfl, rfl⟩; rw [HV.out])
        go_step3
        go_wp2_with fail
        refine wp_loop_rounds 1 ?_
        rw [rounds_succ]
        go_wp2_with fail
        go_step3
        go_wp2_with fail
        go_quiet (fail)
        go_wp2_with fail
        have m1 : IntKind.i64.wrap 2 = 2 := by decide
        have k3 : 1 < rs.size := by omega
        go_region_held3 (fun _ => True) (trivial)
          ((go_at_call 52; refine (high_byte _ _ _ _ hlast hle).mono ?_; rintro e w1 ⟨rfl, rfl⟩))
        all_goals
          go_wp2
          rw [Exit.noGoto_ret]
          go_wp2
          rw [Exit.noGoto_ret]
          go_ret
          exact ⟨rfl, ⟨rfl, rfl, rfl, Nat.le_refl _, fun _ _ => rfl⟩⟩
      · have hlast : 128 ≤ bt rs 2 := by
          have := f3 (by omega)
          rw [← get_bt rs 2 (by omega)]
          simp only [hm] at this
          exact_mod_cast this
        have hle := bt_le rs 2
        have hne : (bt (⟨#[65, 66, 67, 68, 69, 70, 71, 72, 73, 74, 75, 76, 77, 78, 79, 80, 81, 82, 83, 84, 85, 86, 87, 88, 89, 90, 97, 98, 99, 100, 101, 102, 103, 104, 105, 106, 107, 108, 109, 110, 111, 112, 113, 114, 115, 116, 117, 118, 119, 120, 121, 122, 48, 49, 50, 51, 52, 53, 54, 55, 56, 57, 45, 95]⟩ : ByteArray) 2 != bt rs 2) = true := by
          have := six_low_bt 2
          simp only [bne_iff_ne]; intro e; rw [show bt (⟨#[65, 66, 67, 68, 69, 70, 71, 72, 73, 74, 75, 76, 77, 78, 79, 80, 81, 82, 83, 84, 85, 86, 87, 88, 89, 90, 97, 98, 99, 100, 101, 102, 103, 104, 105, 106, 107, 108, 109, 110, 111, 112, 113, 114, 115, 116, 117, 118, 119, 120, 121, 122, 48, 49, 50, 51, 52, 53, 54, 55, 56, 57, 45, 95]⟩ : ByteArray) 2 = bt sixS 2 from rfl] at e; omega
        have hne2 : ((67 : Int) != bt rs 2) = true := by simp only [bne_iff_ne]; omega
        have hconv : ∀ w, (convert 21 9 (.int .i32 r)).run Tryd.prog w = .ok (.string rs) w := fun w => by
          rw [run_convert_int_string w _ _ _ _ (by rw [Tryd.underlying21]; rfl) Tryd.underlying9, hrs]
        clear f1 f2 f3 hv
        go_enter Tryd.func33, Tryd.ntmps33
        go_wp2_with (go_at_call 53; refine (valid_s _ _ hz).mono ?_; rintro e w' ⟨rfl, rfl⟩; rw [HV.out])
        go_step3
        go_wp2_with fail
        refine wp_loop_rounds 1 ?_
        rw [rounds_succ]
        go_wp2_with fail
        go_step3
        go_wp2_with fail
        go_quiet (fail)
        go_wp2_with fail
        have m1 : IntKind.i64.wrap 3 = 3 := by decide
        have k3 : 2 < rs.size := by omega
        go_region_held3 (fun _ => True) (trivial)
          ((go_at_call 52; refine (high_byte _ _ _ _ hlast hle).mono ?_; rintro e w1 ⟨rfl, rfl⟩))
        all_goals
          go_wp2
          rw [Exit.noGoto_ret]
          go_wp2
          rw [Exit.noGoto_ret]
          go_ret
          exact ⟨rfl, ⟨rfl, rfl, rfl, Nat.le_refl _, fun _ _ => rfl⟩⟩
      · have hlast : 128 ≤ bt rs 3 := by
          have := f3 (by omega)
          rw [← get_bt rs 3 (by omega)]
          simp only [hm] at this
          exact_mod_cast this
        have hle := bt_le rs 3
        have hne : (bt (⟨#[65, 66, 67, 68, 69, 70, 71, 72, 73, 74, 75, 76, 77, 78, 79, 80, 81, 82, 83, 84, 85, 86, 87, 88, 89, 90, 97, 98, 99, 100, 101, 102, 103, 104, 105, 106, 107, 108, 109, 110, 111, 112, 113, 114, 115, 116, 117, 118, 119, 120, 121, 122, 48, 49, 50, 51, 52, 53, 54, 55, 56, 57, 45, 95]⟩ : ByteArray) 3 != bt rs 3) = true := by
          have := six_low_bt 3
          simp only [bne_iff_ne]; intro e; rw [show bt (⟨#[65, 66, 67, 68, 69, 70, 71, 72, 73, 74, 75, 76, 77, 78, 79, 80, 81, 82, 83, 84, 85, 86, 87, 88, 89, 90, 97, 98, 99, 100, 101, 102, 103, 104, 105, 106, 107, 108, 109, 110, 111, 112, 113, 114, 115, 116, 117, 118, 119, 120, 121, 122, 48, 49, 50, 51, 52, 53, 54, 55, 56, 57, 45, 95]⟩ : ByteArray) 3 = bt sixS 3 from rfl] at e; omega
        have hne2 : ((68 : Int) != bt rs 3) = true := by simp only [bne_iff_ne]; omega
        have hconv : ∀ w, (convert 21 9 (.int .i32 r)).run Tryd.prog w = .ok (.string rs) w := fun w => by
          rw [run_convert_int_string w _ _ _ _ (by rw [Tryd.underlying21]; rfl) Tryd.underlying9, hrs]
        clear f1 f2 f3 hv
        go_enter Tryd.func33, Tryd.ntmps33
        go_wp2_with (go_at_call 53; refine (valid_s _ _ hz).mono ?_; rintro e w' ⟨rfl, rfl⟩; rw [HV.out])
        go_step3
        go_wp2_with fail
        refine wp_loop_rounds 1 ?_
        rw [rounds_succ]
        go_wp2_with fail
        go_step3
        go_wp2_with fail
        go_quiet (fail)
        go_wp2_with fail
        have m1 : IntKind.i64.wrap 4 = 4 := by decide
        have k3 : 3 < rs.size := by omega
        go_region_held3 (fun _ => True) (trivial)
          ((go_at_call 52; refine (high_byte _ _ _ _ hlast hle).mono ?_; rintro e w1 ⟨rfl, rfl⟩))
        all_goals
          go_wp2
          rw [Exit.noGoto_ret]
          go_wp2
          rw [Exit.noGoto_ret]
          go_ret
          exact ⟨rfl, ⟨rfl, rfl, rfl, Nat.le_refl _, fun _ _ => rfl⟩⟩
  · obtain rfl : r = 65533 := beq_iff_eq.1 c1
    go_enter Tryd.func33, Tryd.ntmps33
    go_wp2
    go_loopw [5, 6] (fun _ _ wr => ∃ k : Nat, k ≤ 64 ∧ wr = w.iter sixS k) (fun _ _ wr => 64 - wr.iterPos w.heap.size)
    case atStart => exact ⟨0, Nat.zero_le _, rfl⟩
    case round =>
      obtain ⟨k, hk, rfl⟩ := hrel
      by_cases hlt : k < 64
      · have hlow := six_low_bt k
        have hnx := next_low w sixS k hlt hlow
        have hne : (bt sixS k == 65533) = false := beq_false_of_ne (by omega)
        go_wp2
        go_roundw
        case rel => exact ⟨k + 1, by omega, rfl⟩
        case measure => simp; omega
      · have hnx : ∀ ty, (Instr.next (.pointer (some ⟨w.heap.size, 0, none⟩)) true ty).run Tryd.prog (w.iter sixS k) = _ := fun ty => run_next_end w sixS k ty hlt
        go_wp2
        go_ret
        exact ⟨rfl, below_iter⟩

end Go.Proofs.YtbogmmdmfbcbnaaDoor
