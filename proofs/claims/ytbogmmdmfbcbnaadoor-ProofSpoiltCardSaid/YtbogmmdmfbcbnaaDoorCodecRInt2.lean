/-
  Contract of the specification's Int. Condition: an int.
-/
import Derived.Test.YtbogmmdmfbcbnaaDoorCodecIntP
import Derived.Test.YtbogmmdmfbcbnaaDoorCodecREsc
import Derived.Lib.ItoaLen
set_option maxRecDepth 100000
set_option linter.unusedVariables false
set_option linter.unusedSimpArgs false
set_option linter.unnecessarySimpa false
namespace Go.Proofs.YtbogmmdmfbcbnaaDoor
open Go.RowKit Go.PlainAid

/-- u digits left in front of what is written -/
def IntAt (u0 u : Nat) (o : List UInt8) : Prop := (u = 0 ∧ o = Lib.decDigits u0) ∨ (1 ≤ u ∧ Lib.decDigits u ++ o = Lib.decDigits u0)
theorem intAt_start (u0 : Nat) (h : 1 ≤ u0) : IntAt u0 u0 [] := .inr ⟨h, by simp⟩
theorem intAt_step {u0 u : Nat} {o : List UInt8} (h : IntAt u0 u o) (h1 : 1 ≤ u) : IntAt u0 (u / 10) (UInt8.ofNat (48 + u % 10) :: o) := by
  rcases h with ⟨h2, _⟩ | ⟨_, h2⟩
  · omega
  · by_cases h3 : u < 10
    · rw [Lib.decDigits, dif_pos h3] at h2
      refine .inl ⟨by omega, ?_⟩
      rw [show u % 10 = u by omega]; exact h2
    · rw [Lib.decDigits, dif_neg h3] at h2
      refine .inr ⟨by omega, ?_⟩
      rw [← h2, List.append_assoc]; rfl
theorem intAt_end {u0 : Nat} {o : List UInt8} (h : IntAt u0 0 o) : o = Lib.decDigits u0 := by
  rcases h with ⟨_, h⟩ | ⟨h, _⟩
  · exact h
  · omega
theorem intAt_len {u0 u : Nat} {o : List UInt8} (h : IntAt u0 u o) (hu : u0 < 18446744073709551616) : o.length ≤ 20 := by
  have h2 := Lib.nDigits_le20 u0 hu
  rw [← Lib.decDigits_length] at h2
  rcases h with ⟨_, h⟩ | ⟨_, h⟩
  · rw [h]; exact h2
  · have := congrArg List.length h
    rw [List.length_append] at this
    omega
theorem one_back (wr : World) (b : UInt8) (c : Int) (hc : c = (b.toNat : Int)) :
    (convert 48 9 (.slice (some ⟨wr.heap.size, 0, none⟩) 1 1)).run Tryd.prog (wr.alloc (.cells #[.int .u8 c] 5)) = .ok (.string ⟨#[b]⟩) (wr.alloc (.cells #[.int .u8 c] 5)) := by
  subst hc
  exact run_convert_bytes_back (wr.alloc (.cells #[.int .u8 (b.toNat : Int)] 5)) _ _ _ ⟨wr.heap.size, 0, none⟩ 1 [b] Tryd.underlying48 Tryd.underlying5 Tryd.underlying9
    (fun j hj => by
      have hj0 : j = 0 := by simp at hj; omega
      subst hj0
      exact cell_one_new wr _ _ 0 _ rfl)
theorem neg_rem (u : Nat) : (-(u : Int)).tmod 10 = -((u % 10 : Nat) : Int) := by rw [Int.neg_tmod, Int.tmod_eq_emod_of_nonneg (by omega)]; omega
theorem neg_quo (u : Nat) : (-(u : Int)).tdiv 10 = -((u / 10 : Nat) : Int) := by rw [Int.neg_tdiv, Int.tdiv_eq_ediv_of_nonneg (by omega)]; omega

set_option maxRecDepth 100000 in
set_option maxHeartbeats 4000000 in
theorem rint_s (n : Int) (w : World) (h0 : -9223372036854775808 ≤ n) (h1 : n ≤ 9223372036854775807) :
    Calls Tryd.prog 38 #[.int .i64 n] w fun e w' => e = .returned (.string (ofL (Lib.itoa n))) ∧ Below w.heap.size w w' := by
  by_cases hz : n = 0
  · subst hz
    have HE := Lib.hid (show Lib.itoa 0 = [48] by rw [show (0 : Int) = ((0 : Nat) : Int) from rfl, Lib.itoa_nonneg, Lib.decDigits, dif_pos (by omega)]; rfl)
    go_enter Tryd.func38, Tryd.ntmps38
    go_wp2
    go_ret
    exact ⟨by rw [HE.out]; rfl, Below.refl _ _⟩
  · by_cases hn : n < 0
    · obtain ⟨u0, rfl⟩ : ∃ u : Nat, n = -(u : Int) := ⟨n.natAbs, by omega⟩
      have HE := Lib.hid (Lib.itoa_neg u0 (by omega))
      have hne : ((-(u0 : Int)) == 0) = false := beq_false_of_ne hz
      have hu0 : u0 < 18446744073709551616 := by omega
      have hu1 : u0 ≤ 9223372036854775808 := by omega
      go_enter Tryd.func38, Tryd.ntmps38
      go_wp2_with fail
      go_loopw [3, 4] (fun o m wr => ∃ (u : Nat) (l : List UInt8), u ≤ u0 ∧ m = .int .i64 (-(u : Int)) ∧ o = .string (ofL l) ∧ Hid (IntAt u0 u l) ∧ (ofL l).size ≤ 20 ∧ Below w.heap.size w wr) (fun _ m _ => (intOf m).natAbs)
      case atStart => exact ⟨u0, [], Nat.le_refl _, rfl, rfl, Lib.hid (intAt_start u0 (by omega)), Nat.zero_le _, Below.refl _ _⟩
      case round =>
        obtain ⟨u, l, hu, rfl, rfl, HI, hl, hbel⟩ := hrel
        by_cases hu2 : u = 0
        · subst hu2
          have HF := Lib.hid (intAt_end HI.out)
          have hm : ((-((0 : Nat) : Int)) != 0) = false := rfl
          go_wp2
          go_ret
          exact ⟨by rw [HE.out, HF.out]; rfl, hbel⟩
        · have hm : ((-(u : Int)) != 0) = true := by simp; omega
          have HS := Lib.hid (intAt_step HI.out (by omega))
          have HL := Lib.hid (intAt_len HS.out hu0)
          obtain ⟨d, hd⟩ : ∃ d, d = u % 10 := ⟨_, rfl⟩
          obtain ⟨q, hq⟩ : ∃ q, q = u / 10 := ⟨_, rfl⟩
          have r1 := neg_rem u
          have r2 := neg_quo u
          rw [← hd] at r1
          rw [← hq] at r2
          have hd9 : d ≤ 9 := by omega
          have hqu : q < u := by omega
          have HD := Lib.hid (show (⟨#[UInt8.ofNat (48 + d)]⟩ : ByteArray) ++ ofL l = ofL (UInt8.ofNat (48 + u % 10) :: l) by
            rw [← hd]; apply ByteArray.ext; rw [ByteArray.data_append]; simp [ofL])
          have HQ := Lib.hid hq
          clear hq
          by_cases hd0 : d = 0
          · have hneg : ¬ (-(d : Int)) < 0 := by omega
            have hdz : (d : Int) = 0 := by omega
            rw [hdz] at r1
            have hbk := one_back wr 48 48 rfl
            have HD0 := Lib.hid (show (⟨#[48]⟩ : ByteArray) ++ ofL l = ofL (UInt8.ofNat (48 + u % 10) :: l) by rw [← HD.out, hd0]; rfl)
            clear hd hd0 hdz hneg
            go_wp2
            go_roundw
            case rel => exact ⟨q, UInt8.ofNat (48 + u % 10) :: l, by omega, rfl, by rw [HD0.out], Lib.hid (by rw [HQ.out]; exact HS.out), HL.out, hbel.alloc hbel.size _⟩
            case measure => simp [intOf]; omega
          · have hneg : (-(d : Int)) < 0 := by omega
            have hw : IntKind.u8.wrap (48 + (d : Int)) = 48 + (d : Int) := IntWalk.u8_in _ (by omega)
            obtain ⟨c, hc⟩ : ∃ c, c = UInt8.ofNat (48 + d) := ⟨_, rfl⟩
            rw [← hc] at HD
            have hbk := one_back wr c (48 + (d : Int)) (by rw [hc, UInt8.toNat_ofNat']; omega)
            clear hd hd0 hc
            go_wp2
            go_roundw
            case rel => exact ⟨q, UInt8.ofNat (48 + u % 10) :: l, by omega, rfl, by rw [HD.out], Lib.hid (by rw [HQ.out]; exact HS.out), HL.out, hbel.alloc hbel.size _⟩
            case measure => simp [intOf]; omega
    · obtain ⟨u0, rfl⟩ : ∃ u : Nat, n = (u : Int) := ⟨n.toNat, by omega⟩
      have HE := Lib.hid (Lib.itoa_nonneg u0)
      have hne : ((u0 : Int) == 0) = false := beq_false_of_ne hz
      have hu0 : u0 < 18446744073709551616 := by omega
      have hu1 : u0 ≤ 9223372036854775807 := by omega
      go_enter Tryd.func38, Tryd.ntmps38
      go_wp2_with fail
      go_loopw [3, 4] (fun o m wr => ∃ (u : Nat) (l : List UInt8), u ≤ u0 ∧ m = .int .i64 (u : Int) ∧ o = .string (ofL l) ∧ Hid (IntAt u0 u l) ∧ (ofL l).size ≤ 20 ∧ Below w.heap.size w wr) (fun _ m _ => (intOf m).natAbs)
      case atStart => exact ⟨u0, [], Nat.le_refl _, rfl, rfl, Lib.hid (intAt_start u0 (by omega)), Nat.zero_le _, Below.refl _ _⟩
      case round =>
        obtain ⟨u, l, hu, rfl, rfl, HI, hl, hbel⟩ := hrel
        by_cases hu2 : u = 0
        · subst hu2
          have HF := Lib.hid (intAt_end HI.out)
          have hm : ((((0 : Nat) : Int)) != 0) = false := rfl
          go_wp2
          go_ret
          exact ⟨by rw [HE.out, HF.out]; rfl, hbel⟩
        · have hm : ((u : Int) != 0) = true := by simp; omega
          have HS := Lib.hid (intAt_step HI.out (by omega))
          have HL := Lib.hid (intAt_len HS.out hu0)
          obtain ⟨d, hd⟩ : ∃ d, d = u % 10 := ⟨_, rfl⟩
          obtain ⟨q, hq⟩ : ∃ q, q = u / 10 := ⟨_, rfl⟩
          have r1 : (u : Int).tmod 10 = (d : Int) := by rw [Int.tmod_eq_emod_of_nonneg (by omega)]; omega
          have r2 : (u : Int).tdiv 10 = (q : Int) := by rw [Int.tdiv_eq_ediv_of_nonneg (by omega)]; omega
          have hd9 : d ≤ 9 := by omega
          have hqu : q < u := by omega
          have HD := Lib.hid (show (⟨#[UInt8.ofNat (48 + d)]⟩ : ByteArray) ++ ofL l = ofL (UInt8.ofNat (48 + u % 10) :: l) by
            rw [← hd]; apply ByteArray.ext; rw [ByteArray.data_append]; simp [ofL])
          have HQ := Lib.hid hq
          clear hq
          have hneg : ¬ (d : Int) < 0 := by omega
          have hw : IntKind.u8.wrap (48 + (d : Int)) = 48 + (d : Int) := IntWalk.u8_in _ (by omega)
          obtain ⟨c, hc⟩ : ∃ c, c = UInt8.ofNat (48 + d) := ⟨_, rfl⟩
          rw [← hc] at HD
          have hbk := one_back wr c (48 + (d : Int)) (by rw [hc, UInt8.toNat_ofNat']; omega)
          clear hd hc
          go_wp2
          go_roundw
          case rel => exact ⟨q, UInt8.ofNat (48 + u % 10) :: l, by omega, rfl, by rw [HD.out], Lib.hid (by rw [HQ.out]; exact HS.out), HL.out, hbel.alloc hbel.size _⟩
          case measure => simp [intOf]; omega

end Go.Proofs.YtbogmmdmfbcbnaaDoor
