/-
  Contracts of clock.Format and of the specification's. Condition: the program's tables of the lengths of months and of powers lie as its text lays them.
-/
import Derived.Test.YtnncfifpgjlpaabDoorClkPad
set_option linter.unusedVariables false
set_option linter.unusedSimpArgs false
set_option linter.unnecessarySimpa false
namespace Go.Proofs.YtnncfifpgjlpaabDoor
open Go.RowKit Go.PlainAid

/-- the calendar form of a date and a time -/
def calS (y m d h i s : Nat) : ByteArray :=
  ofL (padL y 4) ++ ⟨#[45]⟩ ++ ofL (padL m 2) ++ ⟨#[45]⟩ ++ ofL (padL d 2) ++ ⟨#[84]⟩ ++ ofL (padL h 2) ++ ⟨#[58]⟩ ++ ofL (padL i 2) ++ ⟨#[58]⟩ ++ ofL (padL s 2) ++ ⟨#[90]⟩
theorem one_size (c : UInt8) : (⟨#[c]⟩ : ByteArray).size = 1 := rfl
theorem digits_k (n k : Nat) (v : Int) (s : ByteArray) (w : World) (h : n ≤ 1000000000) (hk : k ≤ 10) (hv : v = (n : Int)) (hs : ofL (padL n k) = s) (ho : PowOk w) :
    Calls Tryd.prog 43 #[.int .i64 v, .int .i64 k] w fun e w' => e = .returned (.string s) ∧ Below w.heap.size w w' := by subst hv; subst hs; exact digits_s n k w h hk ho
theorem padded_k (n k : Nat) (v : Int) (s : ByteArray) (w : World) (h : n ≤ 1000000000) (hk : k ≤ 10) (hv : v = (n : Int)) (hs : ofL (padL n k) = s) :
    Calls Tryd.prog 44 #[.int .i64 v, .int .i64 k] w fun e w' => e = .returned (.string s) ∧ Below w.heap.size w w' := by subst hv; subst hs; exact padded_s n k w h hk
theorem fromDays_k (y m d n : Nat) (v : Int) (w : World) (hv : v = (n : Int)) (hn : n ≤ 100000000) (hd : okD y m d) (he : numD y m d = n + 719528) (ho : MonOk w) :
    Calls Tryd.prog 42 #[.int .i64 v] w fun e w' => e = .returned (.tuple #[.int .i64 y, .int .i64 m, .int .i64 d]) ∧ Below w.heap.size w w' := by subst hv; exact fromDays_s y m d n w hn hd he ho
theorem year_bd {y m d n : Nat} (hn : n ≤ 100000000) (hd : okD y m d) (he : numD y m d = n + 719528) : y ≤ 1000000 := by
  have := (num_in hd).1
  have := dby_ge y
  omega

set_option maxHeartbeats 2000000 in
set_option maxRecDepth 100000 in
theorem format_s (t : Int) (y m d D S : Nat) (w : World) (hD : D = (limI t).toNat / 86400) (hS : S = (limI t).toNat % 86400) (hd : okD y m d) (he : numD y m d = D + 719528) (hm : MonOk w) (hp : PowOk w) :
    Calls Tryd.prog 28 #[.int .i64 t] w fun e w' => e = .returned (.string (calS y m d (S / 3600) (S / 60 % 60) (S % 60))) ∧ Below w.heap.size w w' := by
  have hl := limI_bd t
  have hDb : D ≤ 100000000 := by omega
  have hy := year_bd hDb hd he
  have hm2 := hd.2.1
  have hdb : d ≤ 31 := by have := (mlen_bd y m hd.1 hd.2.1).2; have := hd.2.2.2; omega
  obtain ⟨x, hx, ex⟩ : ∃ x : Int, limI t = x ∧ x = 86400 * (D : Int) + (S : Int) := ⟨_, rfl, by omega⟩
  have hS1 : S < 86400 := by omega
  have HX := Lib.hid hx
  rw [hx] at hl
  obtain ⟨hl0, hl1⟩ := hl
  have q1 : x / 86400 = (D : Int) := by omega
  have q2 : x % 86400 = (S : Int) := by omega
  clear ex hD hS
  obtain ⟨s1, H1, z1⟩ : ∃ s : ByteArray, Hid (ofL (padL y 4) = s) ∧ s.size ≤ 10 := ⟨_, Lib.hid rfl, by rw [ofL_size]; exact padL_len _ _ (by omega) (by omega)⟩
  obtain ⟨s2, H2, z2⟩ : ∃ s : ByteArray, Hid (ofL (padL m 2) = s) ∧ s.size ≤ 10 := ⟨_, Lib.hid rfl, by rw [ofL_size]; exact padL_len _ _ (by omega) (by omega)⟩
  obtain ⟨s3, H3, z3⟩ : ∃ s : ByteArray, Hid (ofL (padL d 2) = s) ∧ s.size ≤ 10 := ⟨_, Lib.hid rfl, by rw [ofL_size]; exact padL_len _ _ (by omega) (by omega)⟩
  obtain ⟨s4, H4, z4⟩ : ∃ s : ByteArray, Hid (ofL (padL (S / 3600) 2) = s) ∧ s.size ≤ 10 := ⟨_, Lib.hid rfl, by rw [ofL_size]; exact padL_len _ _ (by omega) (by omega)⟩
  obtain ⟨s5, H5, z5⟩ : ∃ s : ByteArray, Hid (ofL (padL (S / 60 % 60) 2) = s) ∧ s.size ≤ 10 := ⟨_, Lib.hid rfl, by rw [ofL_size]; exact padL_len _ _ (by omega) (by omega)⟩
  obtain ⟨s6, H6, z6⟩ : ∃ s : ByteArray, Hid (ofL (padL (S % 60) 2) = s) ∧ s.size ≤ 10 := ⟨_, Lib.hid rfl, by rw [ofL_size]; exact padL_len _ _ (by omega) (by omega)⟩
  have HF := Lib.hid (show s1 ++ ⟨#[45]⟩ ++ s2 ++ ⟨#[45]⟩ ++ s3 ++ ⟨#[84]⟩ ++ s4 ++ ⟨#[58]⟩ ++ s5 ++ ⟨#[58]⟩ ++ s6 ++ ⟨#[90]⟩ = calS y m d (S / 3600) (S / 60 % 60) (S % 60) by
    unfold calS; rw [H1.out, H2.out, H3.out, H4.out, H5.out, H6.out])
  have HM := Lib.hid hm; clear hm
  have HP := Lib.hid hp; clear hp
  have HD := Lib.hid hd; clear hd
  have HE := Lib.hid he; clear he
  go_enter Tryd.func28, Tryd.ntmps28
  go_wp2_with fail
  refine (limited_k t x _ HX.out).mono ?_
  rintro e w0 ⟨rfl, rfl⟩
  go_wp2_with fail
  refine (fromDays_k y m d D _ _ (by first | rfl | omega) hDb HD.out HE.out HM.out).mono ?_
  rintro e w1 ⟨rfl, hb1⟩
  go_wp2_with fail
  refine (digits_k y 4 _ s1 _ (by omega) (by omega) rfl H1.out (HP.out.below hb1)).mono ?_
  rintro e w2 ⟨rfl, hb2⟩
  have B2 := hb1.trans (hb2.mono hb1.size)
  go_wp2_with fail
  refine (digits_k m 2 _ s2 _ (by omega) (by omega) rfl H2.out (HP.out.below B2)).mono ?_
  rintro e w3 ⟨rfl, hb3⟩
  have B3 := B2.trans (hb3.mono B2.size)
  go_wp2_with fail
  refine (digits_k d 2 _ s3 _ (by omega) (by omega) rfl H3.out (HP.out.below B3)).mono ?_
  rintro e w4 ⟨rfl, hb4⟩
  have B4 := B3.trans (hb4.mono B3.size)
  go_wp2_with fail
  refine (digits_k (S / 3600) 2 _ s4 _ (by omega) (by omega) (by omega) H4.out (HP.out.below B4)).mono ?_
  rintro e w5 ⟨rfl, hb5⟩
  have B5 := B4.trans (hb5.mono B4.size)
  go_wp2_with fail
  refine (digits_k (S / 60 % 60) 2 _ s5 _ (by omega) (by omega) (by omega) H5.out (HP.out.below B5)).mono ?_
  rintro e w6 ⟨rfl, hb6⟩
  have B6 := B5.trans (hb6.mono B5.size)
  go_wp2_with fail
  refine (digits_k (S % 60) 2 _ s6 _ (by omega) (by omega) (by omega) H6.out (HP.out.below B6)).mono ?_
  rintro e w7 ⟨rfl, hb7⟩
  have B7 := B6.trans (hb7.mono B6.size)
  go_wp2_with fail
  go_ret
  exact ⟨by rw [← HF.out]; rfl, B7⟩

end Go.Proofs.YtnncfifpgjlpaabDoor
