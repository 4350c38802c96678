/-
  The contract of the specification's Format. No condition.
-/
import Derived.Test.YtnncfifpgjlpaabDoorClkFmt
set_option linter.unusedVariables false
set_option linter.unusedSimpArgs false
set_option linter.unnecessarySimpa false
namespace Go.Proofs.YtnncfifpgjlpaabDoor
open Go.RowKit Go.PlainAid

set_option maxHeartbeats 4000000 in
set_option maxRecDepth 100000 in
theorem rformat_s (t : Int) (y m d D S : Nat) (w : World) (hD : D = (limI t).toNat / 86400) (hS : S = (limI t).toNat % 86400) (hd : okD y m d) (he : numD y m d = D + 719528) :
    Calls Tryd.prog 29 #[.int .i64 t] w fun e w' => e = .returned (.string (calS y m d (S / 3600) (S / 60 % 60) (S % 60))) ∧ Below w.heap.size w w' := by
  have hl := limI_bd t
  have hDb : D ≤ 100000000 := by omega
  have hy := year_bd hDb hd he
  have hm1 := hd.1
  have hm2 := hd.2.1
  have hdb : d ≤ 31 := by have := (mlen_bd y m hd.1 hd.2.1).2; have := hd.2.2.2; omega
  obtain ⟨x, hx, ex⟩ : ∃ x : Int, limI t = x ∧ x = 86400 * (D : Int) + (S : Int) := ⟨_, rfl, by omega⟩
  have hS1 : S < 86400 := by omega
  have HX := Lib.hid hx
  rw [hx] at hl
  obtain ⟨hl0, hl1⟩ := hl
  have q1 : x / 86400 = (D : Int) := by omega
  have q2 : x % 86400 = (S : Int) := by omega
  clear ex hD hS
  obtain ⟨a1, a2, a3, a4⟩ := num_in hd
  rw [he] at a1 a2 a3 a4
  obtain ⟨R, hR⟩ : ∃ R : Nat, dby y + R = D + 719528 := ⟨D + 719528 - dby y, by omega⟩
  have hm4 : cumM y (m - 1) ≤ R ∧ R < cumM y m := by omega
  have hRB : R ≤ 400 := by
    have := dby_succ y
    have := ylen_le y
    omega
  have hdd : d = R - cumM y (m - 1) + 1 := by
    have := hd.2.2.1
    unfold numD at he
    omega
  have HR := Lib.hid hR; clear hR
  have HM4 := Lib.hid hm4; clear hm4
  have HDD := Lib.hid hdd; clear hdd
  have HA := Lib.hid (And.intro a1 a2); clear a1 a2 a3 a4
  obtain ⟨q, hq⟩ : ∃ q : Nat, D / 146097 = q := ⟨_, rfl⟩
  obtain ⟨r, hr⟩ : ∃ r : Nat, D % 146097 = r := ⟨_, rfl⟩
  have hq1 : (D : Int) / 146097 = (q : Int) := by omega
  have hr1 : (D : Int) % 146097 = (r : Int) := by omega
  have hqb : q ≤ 1000 := by omega
  have hrb : r < 146097 := by omega
  have HS0 := Lib.hid (show r + dby (1970 + 400 * q) = D + 719528 by rw [dby_400, dby_1970]; omega)
  clear hq hr hd he
  obtain ⟨s1, H1, z1⟩ : ∃ s : ByteArray, Hid (ofL (padL y 4) = s) ∧ s.size ≤ 10 := ⟨_, Lib.hid rfl, by rw [ofL_size]; exact padL_len _ _ (by omega) (by omega)⟩
  obtain ⟨s2, H2, z2⟩ : ∃ s : ByteArray, Hid (ofL (padL m 2) = s) ∧ s.size ≤ 10 := ⟨_, Lib.hid rfl, by rw [ofL_size]; exact padL_len _ _ (by omega) (by omega)⟩
  obtain ⟨s3, H3, z3⟩ : ∃ s : ByteArray, Hid (ofL (padL d 2) = s) ∧ s.size ≤ 10 := ⟨_, Lib.hid rfl, by rw [ofL_size]; exact padL_len _ _ (by omega) (by omega)⟩
  obtain ⟨s4, H4, z4⟩ : ∃ s : ByteArray, Hid (ofL (padL (S / 3600) 2) = s) ∧ s.size ≤ 10 := ⟨_, Lib.hid rfl, by rw [ofL_size]; exact padL_len _ _ (by omega) (by omega)⟩
  obtain ⟨s5, H5, z5⟩ : ∃ s : ByteArray, Hid (ofL (padL (S / 60 % 60) 2) = s) ∧ s.size ≤ 10 := ⟨_, Lib.hid rfl, by rw [ofL_size]; exact padL_len _ _ (by omega) (by omega)⟩
  obtain ⟨s6, H6, z6⟩ : ∃ s : ByteArray, Hid (ofL (padL (S % 60) 2) = s) ∧ s.size ≤ 10 := ⟨_, Lib.hid rfl, by rw [ofL_size]; exact padL_len _ _ (by omega) (by omega)⟩
  have HF := Lib.hid (show s1 ++ ⟨#[45]⟩ ++ s2 ++ ⟨#[45]⟩ ++ s3 ++ ⟨#[84]⟩ ++ s4 ++ ⟨#[58]⟩ ++ s5 ++ ⟨#[58]⟩ ++ s6 ++ ⟨#[90]⟩ = calS y m d (S / 3600) (S / 60 % 60) (S % 60) by
    unfold calS; rw [H1.out, H2.out, H3.out, H4.out, H5.out, H6.out])
  go_enter Tryd.func29, Tryd.ntmps29
  go_wp2_with fail
  refine (limit_k t x _ HX.out).mono ?_
  rintro e w0 ⟨rfl, rfl⟩
  go_wp2_with fail
  simp only [q1, q2, hq1, hr1]
  go_loopw [4, 5] (fun dv yv wr => ∃ c yy : Nat, dv = .int .i64 c ∧ yv = .int .i64 yy ∧ yy ≤ y ∧ c ≤ 146097 ∧ Hid (c + dby yy = D + 719528) ∧ wr = w) (fun _ yv _ => y - (intOf yv).toNat)
  case atStart =>
    have h1 := HS0.out
    have h2 := year_le (show dby (1970 + 400 * q) ≤ D + 719528 by omega) HA.out.2 (Nat.le_refl _)
    exact ⟨r, 1970 + 400 * q, rfl, by go_num, h2, by omega, HS0, rfl⟩
  case round =>
    obtain ⟨c, yy, rfl, rfl, hyy, hc, HC, rfl⟩ := hrel
    obtain ⟨L, hL⟩ : ∃ L : Nat, ylen yy = L := ⟨_, rfl⟩
    have HL := Lib.hid (show ((ylen yy : Nat) : Int) = (L : Int) by rw [hL])
    have hs := dby_succ yy
    rw [hL] at hs
    have hLb : L ≤ 366 := by have := ylen_le yy; omega
    by_cases hlt : L ≤ c
    · have g : (L : Int) ≤ (c : Int) := by omega
      have hn := HC.out
      have hyn := year_le (show dby (yy + 1) ≤ D + 719528 by omega) HA.out.2 (Nat.le_refl _)
      have HN := Lib.hid (show (c - L) + dby (yy + 1) = D + 719528 by omega)
      clear hL hs hn
      go_wp2_with (go_at_call 41; refine (ryear_k yy _ (L : Int) _ (by first | rfl | omega) HL.out).mono ?_; rintro e w' ⟨rfl, rfl⟩)
      go_roundw
      case rel => exact ⟨c - L, yy + 1, by go_num, by go_num, hyn, by omega, HN, trivial⟩
      case measure => simp [intOf]; omega
    · have g : ¬ (L : Int) ≤ (c : Int) := by omega
      have hn := HC.out
      obtain rfl : yy = y := by
        have h1 := year_le (y := y) (y' := yy) (n := D + 719528) (n' := D + 719528) HA.out.1 (by omega) (Nat.le_refl _)
        omega
      obtain rfl : c = R := by have := HR.out; omega
      clear hL hs hn
      go_wp2_with (go_at_call 41; refine (ryear_k yy _ (L : Int) _ (by first | rfl | omega) HL.out).mono ?_; rintro e w' ⟨rfl, rfl⟩)
      go_loopw [4, 6] (fun dv mv W => ∃ c2 k : Nat, dv = .int .i64 c2 ∧ mv = .int .i64 k ∧ 1 ≤ k ∧ k ≤ m ∧ c2 ≤ 400 ∧ Hid (c2 + cumM yy (k - 1) = c) ∧ Below wr.heap.size wr W) (fun _ mv _ => m - (intOf mv).toNat)
      case atStart => exact ⟨c, 1, rfl, rfl, Nat.le_refl _, hm1, hRB, Lib.hid rfl, Below.refl _ _⟩
      case round =>
        obtain ⟨c2, k, rfl, rfl, hk1, hk, hc2, HC2, hbel⟩ := hrel
        obtain ⟨L2, hL2⟩ : ∃ L2 : Nat, mlen yy k = L2 := ⟨_, rfl⟩
        have HL2 := Lib.hid (show ((mlen yy k : Nat) : Int) = (L2 : Int) by rw [hL2])
        have hk12 : k ≤ 12 := by omega
        have hb2 := mlen_bd yy k hk1 hk12
        rw [hL2] at hb2
        obtain ⟨hb21, hb22⟩ := hb2
        have hsum : cumM yy k = cumM yy (k - 1) + L2 := by
          rw [← hL2]
          obtain ⟨j, rfl⟩ : ∃ j, k = j + 1 := ⟨k - 1, by omega⟩
          rfl
        by_cases hlt : L2 ≤ c2
        · have g : (L2 : Int) ≤ (c2 : Int) := by omega
          have hn := HC2.out
          have hkm : k + 1 ≤ m := by
            rcases Nat.lt_or_ge k m with h | h
            · exact h
            · have := HM4.out.2
              have := cum_mono yy h
              omega
          have HN := Lib.hid (show (c2 - L2) + cumM yy (k + 1 - 1) = c by rw [Nat.add_sub_cancel]; omega)
          clear hL2 hsum hn
          go_wp2_with fail
          refine (rmonth_k yy k _ _ (L2 : Int) _ hk1 hk12 (by first | rfl | omega) (by first | rfl | omega) HL2.out).mono ?_
          rintro e w1 ⟨rfl, hb1⟩
          go_wp2_with fail
          refine (rmonth_k yy k _ _ (L2 : Int) _ hk1 hk12 (by first | rfl | omega) (by first | rfl | omega) HL2.out).mono ?_
          rintro e w2 ⟨rfl, hb2⟩
          go_wp2_with fail
          have hB := (hbel.trans (hb1.mono hbel.size)).trans (hb2.mono (Nat.le_trans hbel.size hb1.size))
          go_roundw
          case rel => exact ⟨c2 - L2, k + 1, by go_num, by go_num, by omega, hkm, by omega, HN, hB⟩
          case measure => simp [intOf]; omega
        · have g : ¬ (L2 : Int) ≤ (c2 : Int) := by omega
          have hn := HC2.out
          obtain rfl : k = m := by
            rcases Nat.lt_or_ge k m with h | h
            · have := HM4.out.1
              have := cum_mono yy (show k ≤ m - 1 by omega)
              omega
            · omega
          have hcd : d = c2 + 1 := by rw [HDD.out]; omega
          have hcd1 : (c2 : Int) + 1 = (d : Int) := by omega
          clear hL2 hsum hn hcd
          go_wp2_with fail
          refine (rmonth_k yy k _ _ (L2 : Int) _ hk1 hk12 (by first | rfl | omega) (by first | rfl | omega) HL2.out).mono ?_
          rintro e w1 ⟨rfl, hb1⟩
          have B1 := hbel.trans (hb1.mono hbel.size)
          go_wp2_with fail
          refine (padded_k yy 4 _ s1 _ (by omega) (by omega) rfl H1.out).mono ?_
          rintro e w2 ⟨rfl, hb2⟩
          have B2 := B1.trans (hb2.mono B1.size)
          go_wp2_with fail
          refine (padded_k k 2 _ s2 _ (by omega) (by omega) rfl H2.out).mono ?_
          rintro e w3 ⟨rfl, hb3⟩
          have B3 := B2.trans (hb3.mono B2.size)
          go_wp2_with fail
          refine (padded_k d 2 _ s3 _ (by omega) (by omega) (by first | rfl | omega) H3.out).mono ?_
          rintro e w4 ⟨rfl, hb4⟩
          have B4 := B3.trans (hb4.mono B3.size)
          go_wp2_with fail
          refine (padded_k (S / 3600) 2 _ s4 _ (by omega) (by omega) (by omega) H4.out).mono ?_
          rintro e w5 ⟨rfl, hb5⟩
          have B5 := B4.trans (hb5.mono B4.size)
          go_wp2_with fail
          refine (padded_k (S / 60 % 60) 2 _ s5 _ (by omega) (by omega) (by omega) H5.out).mono ?_
          rintro e w6 ⟨rfl, hb6⟩
          have B6 := B5.trans (hb6.mono B5.size)
          go_wp2_with fail
          refine (padded_k (S % 60) 2 _ s6 _ (by omega) (by omega) (by omega) H6.out).mono ?_
          rintro e w7 ⟨rfl, hb7⟩
          have B7 := B6.trans (hb7.mono B6.size)
          go_wp2_with fail
          go_ret
          exact ⟨by rw [← HF.out]; rfl, B7⟩

end Go.Proofs.YtnncfifpgjlpaabDoor
