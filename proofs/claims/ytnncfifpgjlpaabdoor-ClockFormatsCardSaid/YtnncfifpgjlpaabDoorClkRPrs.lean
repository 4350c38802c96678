/-
  The contract of the specification's Parse. Condition: none.
-/
import Derived.Test.YtnncfifpgjlpaabDoorClkParse
set_option linter.unusedVariables false
set_option linter.unusedSimpArgs false
set_option linter.unnecessarySimpa false
namespace Go.Proofs.YtnncfifpgjlpaabDoor
open Go.RowKit Go.PlainAid

theorem ext_list (t : ByteArray) (a b : Nat) : (t.extract a b).data.toList = seg t.data.toList a (b - a) := by
  unfold seg
  rw [ByteArray.data_extract, Array.toList_extract]
theorem ext_size (t : ByteArray) (a b : Nat) : (t.extract a b).size ≤ b - a := by
  rw [Lib.size_eq, ext_list]; exact seg_len _ _ _
theorem rdigits_k (t : ByteArray) (a b : Nat) (n : Nat) (r : Bool) (w : World) (h8 : b - a ≤ 8) (hn : numL (seg t.data.toList a (b - a)) = n) (hr : digAll (seg t.data.toList a (b - a)) = r) :
    Calls Tryd.prog 39 #[.string (t.extract a b)] w fun e w' => e = .returned (.tuple #[.int .i64 (n : Int), .bool r]) ∧ w = w' := by
  have h := rdigits_s (t.extract a b) w (by have := ext_size t a b; omega)
  rw [ext_list, hn, hr] at h
  exact h
theorem numL_good {l : List UInt8} {n : Nat} (h : digAll l = true) (hn : numL l = n) : valD l = n := by
  unfold numL at hn
  rwa [h, if_pos rfl] at hn
theorem chr_nat (t : ByteArray) (k : Nat) : bt t k = (((t.data.toList.getD k 0).toNat : Nat) : Int) := bt_chr t k
theorem prs_no {l : List UInt8} (h : fitB l = false) : parseR l = (0, 4) := by unfold parseR; rw [h]; rfl
theorem prs_yes {l : List UInt8} (h : fitB l = true) : parseR l = dateR (prsV l) := by unfold parseR; rw [h]; rfl

set_option maxRecDepth 100000 in
set_option maxHeartbeats 4000000 in
theorem rparse_no (t : ByteArray) (w : World) (h : t.size ≤ 1000000000) (h0 : t.size ≠ 20) (h1 : t.size ≠ 21 ∨ bt t 0 = 48) :
    Calls Tryd.prog 27 #[.string t] w fun e w' => e = .returned (.tuple #[.int .i64 0, .int .i64 4]) ∧ w = w' := by
  have n4 : ((t.size : Int) - 16 != 4) = true := by simp; omega
  by_cases h2 : t.size = 21
  · have n5 : ((t.size : Int) - 16 != 5) = false := by simp; omega
    have n6 : ((t.size : Int) - 16 == 5) = true := by simp; omega
    have hb : (bt t 0 == 48) = true := by
      rcases h1 with h | h
      · exact absurd h2 h
      · rw [h]; rfl
    have hbt := get_bt t
    have hpos : 0 < t.size := by omega
    clear h0 h1 h2
    go_enter Tryd.func27, Tryd.ntmps27
    go_wp2
    go_ret2
    exact ⟨rfl, rfl⟩
  · have n5 : ((t.size : Int) - 16 != 5) = true := by simp; omega
    clear h0 h1 h2
    go_enter Tryd.func27, Tryd.ntmps27
    go_wp2
    go_ret2
    exact ⟨rfl, rfl⟩

set_option maxRecDepth 100000 in
set_option maxHeartbeats 8000000 in
theorem rparse_20 (t : ByteArray) (w : World) (hs : t.size = 20) :
    Calls Tryd.prog 27 #[.string t] w fun e w' => e = .returned (.tuple #[.int .i64 (parseR t.data.toList).1, .int .i64 (parseR t.data.toList).2]) ∧ Below w.heap.size w w' := by
  have hln : t.data.toList.length = 20 := by rw [← Lib.size_eq]; exact hs
  have HFB := Lib.hid (show fitB t.data.toList = (sepB t.data.toList 4 && segB t.data.toList 4) by
    unfold fitB
    rw [decide_eq_true hln, decide_eq_false (show ¬ t.data.toList.length = 21 by omega)]
    simp)
  have HPV := Lib.hid (show prsV t.data.toList = segV t.data.toList 4 by unfold prsV; rw [hln])
  clear hln
  have hst : (t.size : Int) = 20 := by omega
  have hbt := get_bt t
  by_cases s0 : bt t 4 = 45
  rotate_left
  · have HF := Lib.hid (show parseR t.data.toList = (0, 4) from prs_no (by
      rw [HFB.out]
      have e : sepB t.data.toList 4 = false := by
        unfold sepB
        rw [decide_eq_false (show ¬ (t.data.toList.getD 4 0).toNat = 45 by have h9 : bt t 4 = (((t.data.toList.getD 4 0).toNat : Nat) : Int) := chr_nat t 4; omega)]
        simp
      rw [e]; rfl))
    have t0 : (bt t 4 != 45) = true := by simp; exact s0
    clear s0
    go_enter Tryd.func27, Tryd.ntmps27
    go_wp2
    go_ret2
    exact ⟨by rw [HF.out]; rfl, Below.refl _ _⟩
  have t0 : (bt t 4 != 45) = false := by rw [s0]; rfl
  by_cases s1 : bt t 7 = 45
  rotate_left
  · have HF := Lib.hid (show parseR t.data.toList = (0, 4) from prs_no (by
      rw [HFB.out]
      have e : sepB t.data.toList 4 = false := by
        unfold sepB
        rw [decide_eq_false (show ¬ (t.data.toList.getD (4 + 3) 0).toNat = 45 by have h9 : bt t 7 = (((t.data.toList.getD (4 + 3) 0).toNat : Nat) : Int) := chr_nat t 7; omega)]
        simp
      rw [e]; rfl))
    have t1 : (bt t 7 != 45) = true := by simp; exact s1
    clear s1
    go_enter Tryd.func27, Tryd.ntmps27
    go_wp2
    go_ret2
    exact ⟨by rw [HF.out]; rfl, Below.refl _ _⟩
  have t1 : (bt t 7 != 45) = false := by rw [s1]; rfl
  by_cases s2 : bt t 10 = 84
  rotate_left
  · have HF := Lib.hid (show parseR t.data.toList = (0, 4) from prs_no (by
      rw [HFB.out]
      have e : sepB t.data.toList 4 = false := by
        unfold sepB
        rw [decide_eq_false (show ¬ (t.data.toList.getD (4 + 6) 0).toNat = 84 by have h9 : bt t 10 = (((t.data.toList.getD (4 + 6) 0).toNat : Nat) : Int) := chr_nat t 10; omega)]
        simp
      rw [e]; rfl))
    have t2 : (bt t 10 != 84) = true := by simp; exact s2
    clear s2
    go_enter Tryd.func27, Tryd.ntmps27
    go_wp2
    go_ret2
    exact ⟨by rw [HF.out]; rfl, Below.refl _ _⟩
  have t2 : (bt t 10 != 84) = false := by rw [s2]; rfl
  by_cases s3 : bt t 13 = 58
  rotate_left
  · have HF := Lib.hid (show parseR t.data.toList = (0, 4) from prs_no (by
      rw [HFB.out]
      have e : sepB t.data.toList 4 = false := by
        unfold sepB
        rw [decide_eq_false (show ¬ (t.data.toList.getD (4 + 9) 0).toNat = 58 by have h9 : bt t 13 = (((t.data.toList.getD (4 + 9) 0).toNat : Nat) : Int) := chr_nat t 13; omega)]
        simp
      rw [e]; rfl))
    have t3 : (bt t 13 != 58) = true := by simp; exact s3
    clear s3
    go_enter Tryd.func27, Tryd.ntmps27
    go_wp2
    go_ret2
    exact ⟨by rw [HF.out]; rfl, Below.refl _ _⟩
  have t3 : (bt t 13 != 58) = false := by rw [s3]; rfl
  by_cases s4 : bt t 16 = 58
  rotate_left
  · have HF := Lib.hid (show parseR t.data.toList = (0, 4) from prs_no (by
      rw [HFB.out]
      have e : sepB t.data.toList 4 = false := by
        unfold sepB
        rw [decide_eq_false (show ¬ (t.data.toList.getD (4 + 12) 0).toNat = 58 by have h9 : bt t 16 = (((t.data.toList.getD (4 + 12) 0).toNat : Nat) : Int) := chr_nat t 16; omega)]
        simp
      rw [e]; rfl))
    have t4 : (bt t 16 != 58) = true := by simp; exact s4
    clear s4
    go_enter Tryd.func27, Tryd.ntmps27
    go_wp2
    go_ret2
    exact ⟨by rw [HF.out]; rfl, Below.refl _ _⟩
  have t4 : (bt t 16 != 58) = false := by rw [s4]; rfl
  by_cases s5 : bt t 19 = 90
  rotate_left
  · have HF := Lib.hid (show parseR t.data.toList = (0, 4) from prs_no (by
      rw [HFB.out]
      have e : sepB t.data.toList 4 = false := by
        unfold sepB
        rw [decide_eq_false (show ¬ (t.data.toList.getD (4 + 15) 0).toNat = 90 by have h9 : bt t 19 = (((t.data.toList.getD (4 + 15) 0).toNat : Nat) : Int) := chr_nat t 19; omega)]
        simp
      rw [e]; rfl))
    have t5 : (bt t 19 != 90) = true := by simp; exact s5
    clear s5
    go_enter Tryd.func27, Tryd.ntmps27
    go_wp2
    go_ret2
    exact ⟨by rw [HF.out]; rfl, Below.refl _ _⟩
  have t5 : (bt t 19 != 90) = false := by rw [s5]; rfl
  have HSEP := Lib.hid (show sepB t.data.toList 4 = true by
    unfold sepB
    rw [decide_eq_true (show (t.data.toList.getD 4 0).toNat = 45 by have h9 : bt t 4 = (((t.data.toList.getD 4 0).toNat : Nat) : Int) := chr_nat t 4; omega), decide_eq_true (show (t.data.toList.getD (4 + 3) 0).toNat = 45 by have h9 : bt t 7 = (((t.data.toList.getD (4 + 3) 0).toNat : Nat) : Int) := chr_nat t 7; omega), decide_eq_true (show (t.data.toList.getD (4 + 6) 0).toNat = 84 by have h9 : bt t 10 = (((t.data.toList.getD (4 + 6) 0).toNat : Nat) : Int) := chr_nat t 10; omega), decide_eq_true (show (t.data.toList.getD (4 + 9) 0).toNat = 58 by have h9 : bt t 13 = (((t.data.toList.getD (4 + 9) 0).toNat : Nat) : Int) := chr_nat t 13; omega), decide_eq_true (show (t.data.toList.getD (4 + 12) 0).toNat = 58 by have h9 : bt t 16 = (((t.data.toList.getD (4 + 12) 0).toNat : Nat) : Int) := chr_nat t 16; omega), decide_eq_true (show (t.data.toList.getD (4 + 15) 0).toNat = 90 by have h9 : bt t 19 = (((t.data.toList.getD (4 + 15) 0).toNat : Nat) : Int) := chr_nat t 19; omega)]
    rfl)
  clear s0 s1 s2 s3 s4 s5
  obtain ⟨n0, hn0⟩ : ∃ n, numL (seg t.data.toList 0 (4 - 0)) = n := ⟨_, rfl⟩
  obtain ⟨b0, hb10⟩ : ∃ n, digAll (seg t.data.toList 0 (4 - 0)) = n := ⟨_, rfl⟩
  have HC0 := Lib.hid (fun W => rdigits_k t 0 4 n0 b0 W (by omega) hn0 hb10)
  have HN0 := Lib.hid hn0
  have HB0 := Lib.hid hb10
  clear hn0 hb10
  obtain ⟨n1, hn1⟩ : ∃ n, numL (seg t.data.toList 5 (7 - 5)) = n := ⟨_, rfl⟩
  obtain ⟨b1, hb11⟩ : ∃ n, digAll (seg t.data.toList 5 (7 - 5)) = n := ⟨_, rfl⟩
  have HC1 := Lib.hid (fun W => rdigits_k t 5 7 n1 b1 W (by omega) hn1 hb11)
  have HN1 := Lib.hid hn1
  have HB1 := Lib.hid hb11
  clear hn1 hb11
  obtain ⟨n2, hn2⟩ : ∃ n, numL (seg t.data.toList 8 (10 - 8)) = n := ⟨_, rfl⟩
  obtain ⟨b2, hb12⟩ : ∃ n, digAll (seg t.data.toList 8 (10 - 8)) = n := ⟨_, rfl⟩
  have HC2 := Lib.hid (fun W => rdigits_k t 8 10 n2 b2 W (by omega) hn2 hb12)
  have HN2 := Lib.hid hn2
  have HB2 := Lib.hid hb12
  clear hn2 hb12
  obtain ⟨n3, hn3⟩ : ∃ n, numL (seg t.data.toList 11 (13 - 11)) = n := ⟨_, rfl⟩
  obtain ⟨b3, hb13⟩ : ∃ n, digAll (seg t.data.toList 11 (13 - 11)) = n := ⟨_, rfl⟩
  have HC3 := Lib.hid (fun W => rdigits_k t 11 13 n3 b3 W (by omega) hn3 hb13)
  have HN3 := Lib.hid hn3
  have HB3 := Lib.hid hb13
  clear hn3 hb13
  obtain ⟨n4, hn4⟩ : ∃ n, numL (seg t.data.toList 14 (16 - 14)) = n := ⟨_, rfl⟩
  obtain ⟨b4, hb14⟩ : ∃ n, digAll (seg t.data.toList 14 (16 - 14)) = n := ⟨_, rfl⟩
  have HC4 := Lib.hid (fun W => rdigits_k t 14 16 n4 b4 W (by omega) hn4 hb14)
  have HN4 := Lib.hid hn4
  have HB4 := Lib.hid hb14
  clear hn4 hb14
  obtain ⟨n5, hn5⟩ : ∃ n, numL (seg t.data.toList 17 (19 - 17)) = n := ⟨_, rfl⟩
  obtain ⟨b5, hb15⟩ : ∃ n, digAll (seg t.data.toList 17 (19 - 17)) = n := ⟨_, rfl⟩
  have HC5 := Lib.hid (fun W => rdigits_k t 17 19 n5 b5 W (by omega) hn5 hb15)
  have HN5 := Lib.hid hn5
  have HB5 := Lib.hid hb15
  clear hn5 hb15
  go_enter Tryd.func27, Tryd.ntmps27
  go_wp2_with fail
  refine (HC0.out _).mono ?_
  rintro e w' ⟨rfl, rfl⟩
  go_wp2_with fail
  refine (HC1.out _).mono ?_
  rintro e w' ⟨rfl, rfl⟩
  go_wp2_with fail
  refine (HC2.out _).mono ?_
  rintro e w' ⟨rfl, rfl⟩
  go_wp2_with fail
  refine (HC3.out _).mono ?_
  rintro e w' ⟨rfl, rfl⟩
  go_wp2_with fail
  refine (HC4.out _).mono ?_
  rintro e w' ⟨rfl, rfl⟩
  go_wp2_with fail
  refine (HC5.out _).mono ?_
  rintro e w' ⟨rfl, rfl⟩
  cases b0 with
  | false =>
    have HF := Lib.hid (show parseR t.data.toList = (0, 4) from prs_no (by
      rw [HFB.out]
      have e : segB t.data.toList 4 = false := by
        have h9 := HB0.out
        unfold segB
        simp only [Nat.sub_zero, Nat.reduceSub, Nat.reduceAdd] at h9 ⊢
        rw [h9]
        simp
      rw [e]; simp))
    go_wp2_with fail
    go_ret2
    exact ⟨by rw [HF.out]; rfl, Below.refl _ _⟩
  | true =>
  cases b1 with
  | false =>
    have HF := Lib.hid (show parseR t.data.toList = (0, 4) from prs_no (by
      rw [HFB.out]
      have e : segB t.data.toList 4 = false := by
        have h9 := HB1.out
        unfold segB
        simp only [Nat.sub_zero, Nat.reduceSub, Nat.reduceAdd] at h9 ⊢
        rw [h9]
        simp
      rw [e]; simp))
    go_wp2_with fail
    go_ret2
    exact ⟨by rw [HF.out]; rfl, Below.refl _ _⟩
  | true =>
  cases b2 with
  | false =>
    have HF := Lib.hid (show parseR t.data.toList = (0, 4) from prs_no (by
      rw [HFB.out]
      have e : segB t.data.toList 4 = false := by
        have h9 := HB2.out
        unfold segB
        simp only [Nat.sub_zero, Nat.reduceSub, Nat.reduceAdd] at h9 ⊢
        rw [h9]
        simp
      rw [e]; simp))
    go_wp2_with fail
    go_ret2
    exact ⟨by rw [HF.out]; rfl, Below.refl _ _⟩
  | true =>
  cases b3 with
  | false =>
    have HF := Lib.hid (show parseR t.data.toList = (0, 4) from prs_no (by
      rw [HFB.out]
      have e : segB t.data.toList 4 = false := by
        have h9 := HB3.out
        unfold segB
        simp only [Nat.sub_zero, Nat.reduceSub, Nat.reduceAdd] at h9 ⊢
        rw [h9]
        simp
      rw [e]; simp))
    go_wp2_with fail
    go_ret2
    exact ⟨by rw [HF.out]; rfl, Below.refl _ _⟩
  | true =>
  cases b4 with
  | false =>
    have HF := Lib.hid (show parseR t.data.toList = (0, 4) from prs_no (by
      rw [HFB.out]
      have e : segB t.data.toList 4 = false := by
        have h9 := HB4.out
        unfold segB
        simp only [Nat.sub_zero, Nat.reduceSub, Nat.reduceAdd] at h9 ⊢
        rw [h9]
        simp
      rw [e]; simp))
    go_wp2_with fail
    go_ret2
    exact ⟨by rw [HF.out]; rfl, Below.refl _ _⟩
  | true =>
  cases b5 with
  | false =>
    have HF := Lib.hid (show parseR t.data.toList = (0, 4) from prs_no (by
      rw [HFB.out]
      have e : segB t.data.toList 4 = false := by
        have h9 := HB5.out
        unfold segB
        simp only [Nat.sub_zero, Nat.reduceSub, Nat.reduceAdd] at h9 ⊢
        rw [h9]
        simp
      rw [e]; simp))
    go_wp2_with fail
    go_ret2
    exact ⟨by rw [HF.out]; rfl, Below.refl _ _⟩
  | true =>
  have HFIT := Lib.hid (show fitB t.data.toList = true by
    rw [HFB.out, HSEP.out]
    unfold segB
    have h0 := HB0.out; have h1 := HB1.out; have h2 := HB2.out; have h3 := HB3.out; have h4 := HB4.out; have h5 := HB5.out
    simp only [Nat.sub_zero, Nat.reduceSub, Nat.reduceAdd] at h0 h1 h2 h3 h4 h5 ⊢
    rw [h0, h1, h2, h3, h4, h5]; rfl)
  have HPR := Lib.hid (show parseR t.data.toList = dateR [n0, n1, n2, n3, n4, n5] by
    rw [prs_yes HFIT.out, HPV.out]
    have h0 := numL_good HB0.out HN0.out; have h1 := numL_good HB1.out HN1.out; have h2 := numL_good HB2.out HN2.out; have h3 := numL_good HB3.out HN3.out; have h4 := numL_good HB4.out HN4.out; have h5 := numL_good HB5.out HN5.out
    unfold segV
    simp only [Nat.sub_zero, Nat.reduceSub, Nat.reduceAdd] at h0 h1 h2 h3 h4 h5 ⊢
    rw [h0, h1, h2, h3, h4, h5])
  have l0 : n0 ≤ 99999 := by
    have h1 := valD_bd _ 4 HB0.out (seg_len _ _ _)
    rw [numL_good HB0.out HN0.out] at h1
    omega
  have l1 : n1 ≤ 99 := by
    have h1 := valD_bd _ 2 HB1.out (seg_len _ _ _)
    rw [numL_good HB1.out HN1.out] at h1
    omega
  have l2 : n2 ≤ 99 := by
    have h1 := valD_bd _ 2 HB2.out (seg_len _ _ _)
    rw [numL_good HB2.out HN2.out] at h1
    omega
  have l3 : n3 ≤ 99 := by
    have h1 := valD_bd _ 2 HB3.out (seg_len _ _ _)
    rw [numL_good HB3.out HN3.out] at h1
    omega
  have l4 : n4 ≤ 99 := by
    have h1 := valD_bd _ 2 HB4.out (seg_len _ _ _)
    rw [numL_good HB4.out HN4.out] at h1
    omega
  have l5 : n5 ≤ 99 := by
    have h1 := valD_bd _ 2 HB5.out (seg_len _ _ _)
    rw [numL_good HB5.out HN5.out] at h1
    omega
  by_cases c0 : 1970 ≤ n0
  rotate_left
  · have HF := Lib.hid (show dateR [n0, n1, n2, n3, n4, n5] = (0, 27) from date_no fun hok => c0 hok.1)
    have k0 : (n0 : Int) < 1970 := by omega
    clear c0
    go_wp2_with fail
    go_ret2
    exact ⟨by rw [HPR.out, HF.out]; rfl, Below.refl _ _⟩
  have k0 : ¬ (n0 : Int) < 1970 := by omega
  have k0d : decide ((n0 : Int) < 1970) = false := decide_eq_false k0
  by_cases c1 : 1 ≤ n1
  rotate_left
  · have HF := Lib.hid (show dateR [n0, n1, n2, n3, n4, n5] = (0, 27) from date_no fun hok => c1 hok.2.1)
    have k1 : (n1 : Int) < 1 := by omega
    clear c1
    go_wp2_with fail
    go_ret2
    exact ⟨by rw [HPR.out, HF.out]; rfl, Below.refl _ _⟩
  have k1 : ¬ (n1 : Int) < 1 := by omega
  have k1d : decide ((n1 : Int) < 1) = false := decide_eq_false k1
  by_cases c2 : n1 ≤ 12
  rotate_left
  · have HF := Lib.hid (show dateR [n0, n1, n2, n3, n4, n5] = (0, 27) from date_no fun hok => c2 hok.2.2.1)
    have k2 : 12 < (n1 : Int) := by omega
    clear c2
    go_wp2_with fail
    go_ret2
    exact ⟨by rw [HPR.out, HF.out]; rfl, Below.refl _ _⟩
  have k2 : ¬ 12 < (n1 : Int) := by omega
  have k2d : decide (12 < (n1 : Int)) = false := decide_eq_false k2
  by_cases c3 : 1 ≤ n2
  rotate_left
  · have HF := Lib.hid (show dateR [n0, n1, n2, n3, n4, n5] = (0, 27) from date_no fun hok => c3 hok.2.2.2.1)
    have k3 : (n2 : Int) < 1 := by omega
    clear c3
    go_wp2_with fail
    go_ret2
    exact ⟨by rw [HPR.out, HF.out]; rfl, Below.refl _ _⟩
  have k3 : ¬ (n2 : Int) < 1 := by omega
  have k3d : decide ((n2 : Int) < 1) = false := decide_eq_false k3
  obtain ⟨L, hL⟩ : ∃ L, mlen n0 n1 = L := ⟨_, rfl⟩
  have HL := Lib.hid (show ((mlen n0 n1 : Nat) : Int) = (L : Int) by rw [hL])
  have HLN := Lib.hid hL
  clear hL
  by_cases c4 : n2 ≤ L
  rotate_left
  · have HF := Lib.hid (show dateR [n0, n1, n2, n3, n4, n5] = (0, 27) from date_no fun hok => c4 (by have := hok.2.2.2.2.1; rw [HLN.out] at this; exact this))
    have k4 : (L : Int) < (n2 : Int) := by omega
    clear c4
    go_wp2_with fail
    refine (rmonth_k n0 n1 _ _ (L : Int) _ c1 c2 rfl rfl HL.out).mono ?_
    rintro e w2 ⟨rfl, hb2⟩
    go_wp2_with fail
    go_ret2
    exact ⟨by rw [HPR.out, HF.out]; rfl, hb2⟩
  have k4 : ¬ (L : Int) < (n2 : Int) := by omega
  have k4d : decide ((L : Int) < (n2 : Int)) = false := decide_eq_false k4
  by_cases c5 : n3 ≤ 23
  rotate_left
  · have HF := Lib.hid (show dateR [n0, n1, n2, n3, n4, n5] = (0, 27) from date_no fun hok => c5 hok.2.2.2.2.2.1)
    have k5 : 23 < (n3 : Int) := by omega
    clear c5
    go_wp2_with fail
    refine (rmonth_k n0 n1 _ _ (L : Int) _ c1 c2 rfl rfl HL.out).mono ?_
    rintro e w2 ⟨rfl, hb2⟩
    go_wp2_with fail
    go_ret2
    exact ⟨by rw [HPR.out, HF.out]; rfl, hb2⟩
  have k5 : ¬ 23 < (n3 : Int) := by omega
  have k5d : decide (23 < (n3 : Int)) = false := decide_eq_false k5
  by_cases c6 : n4 ≤ 59
  rotate_left
  · have HF := Lib.hid (show dateR [n0, n1, n2, n3, n4, n5] = (0, 27) from date_no fun hok => c6 hok.2.2.2.2.2.2.1)
    have k6 : 59 < (n4 : Int) := by omega
    clear c6
    go_wp2_with fail
    refine (rmonth_k n0 n1 _ _ (L : Int) _ c1 c2 rfl rfl HL.out).mono ?_
    rintro e w2 ⟨rfl, hb2⟩
    go_wp2_with fail
    go_ret2
    exact ⟨by rw [HPR.out, HF.out]; rfl, hb2⟩
  have k6 : ¬ 59 < (n4 : Int) := by omega
  have k6d : decide (59 < (n4 : Int)) = false := decide_eq_false k6
  by_cases c7 : n5 ≤ 59
  rotate_left
  · have HF := Lib.hid (show dateR [n0, n1, n2, n3, n4, n5] = (0, 27) from date_no fun hok => c7 hok.2.2.2.2.2.2.2.1)
    have k7 : 59 < (n5 : Int) := by omega
    clear c7
    go_wp2_with fail
    refine (rmonth_k n0 n1 _ _ (L : Int) _ c1 c2 rfl rfl HL.out).mono ?_
    rintro e w2 ⟨rfl, hb2⟩
    go_wp2_with fail
    go_ret2
    exact ⟨by rw [HPR.out, HF.out]; rfl, hb2⟩
  have k7 : ¬ 59 < (n5 : Int) := by omega
  have k7d : decide (59 < (n5 : Int)) = false := decide_eq_false k7
  go_wp2_with fail
  refine (rmonth_k n0 n1 _ _ (L : Int) _ c1 c2 rfl rfl HL.out).mono ?_
  rintro e w2 ⟨rfl, hb2⟩
  obtain ⟨z, hz⟩ : ∃ z : Nat, n0 = 1970 + z := ⟨n0 - 1970, by omega⟩
  have e1 : (n0 : Int) - 1970 = (z : Int) := by omega
  obtain ⟨q, hq⟩ : ∃ q : Nat, z / 400 = q := ⟨_, rfl⟩
  have e2 : (z : Int) / 400 = (q : Int) := by omega
  have hqb : q ≤ 1000 := by omega
  have HZQ := Lib.hid (show 1970 + 400 * q ≤ n0 by omega)
  have HS0 := Lib.hid (show 146097 * q + 719528 = dby (1970 + 400 * q) by rw [dby_400, dby_1970]; omega)
  have HDB := Lib.hid (show ∀ x, x ≤ n0 → dby x ≤ 36600000 from fun x hx => by unfold dby; omega)
  clear hz hq
  have kd4 : decide (L < n2) = false := decide_eq_false (by omega)
  go_wp2_with fail
  try simp only [kd4]
  clear k0d k1d k2d k3d k4d k5d k6d k7d
  have HC4 := Lib.hid c4
  clear k0 k1 k2 k3 k4 k5 k6 k7 e1 e2 kd4 c4
  go_loopw [17, 18] (fun dv xv wr => ∃ xx c : Nat, dv = .int .i64 c ∧ xv = .int .i64 xx ∧ xx ≤ n0 ∧ c ≤ 40000000 ∧ Hid (c + 719528 = dby xx) ∧ wr = w2) (fun _ xv _ => n0 - (intOf xv).toNat)
  case atStart => exact ⟨1970 + 400 * q, 146097 * q, by go_num, by go_num, HZQ.out, by have h1 := HS0.out; have h2 := HDB.out _ HZQ.out; omega, HS0, rfl⟩
  case round =>
    obtain ⟨xx, c, rfl, rfl, hxx, hc, HC, rfl⟩ := hrel
    by_cases hlt : xx < n0
    · obtain ⟨Y, hY⟩ : ∃ Y : Nat, ylen xx = Y := ⟨_, rfl⟩
      have HY := Lib.hid (show ((ylen xx : Nat) : Int) = (Y : Int) by rw [hY])
      have HN := Lib.hid (show (c + Y) + 719528 = dby (xx + 1) by rw [dby_succ, hY, ← HC.out]; omega)
      have hYb : Y ≤ 366 := by have := ylen_le xx; omega
      have hcb : c + Y ≤ 40000000 := by have h1 := HN.out; have h2 := HDB.out (xx + 1) (by omega); omega
      clear hY
      go_wp2_with (go_at_call 41; refine (ryear_k xx _ (Y : Int) _ (by first | rfl | omega) HY.out).mono ?_; rintro e w' ⟨rfl, rfl⟩)
      go_roundw
      case rel => exact ⟨xx + 1, c + Y, by go_num, by go_num, by omega, hcb, HN, trivial⟩
      case measure => simp [intOf]; omega
    · obtain rfl : xx = n0 := by omega
      go_wp2_with fail
      go_loopw [17, 19] (fun dv mv W => ∃ k cc : Nat, dv = .int .i64 cc ∧ mv = .int .i64 k ∧ 1 ≤ k ∧ k ≤ n1 ∧ cc ≤ 40000400 ∧ Hid (cc + 719528 = dby xx + cumM xx (k - 1)) ∧ Below wr.heap.size wr W) (fun _ mv _ => n1 - (intOf mv).toNat)
      case atStart => exact ⟨1, c, rfl, rfl, Nat.le_refl _, c1, by omega, Lib.hid HC.out, Below.refl _ _⟩
      case round =>
        obtain ⟨k, cc, rfl, rfl, hk1, hk, hcc, HCC, hbel⟩ := hrel
        obtain ⟨L2, hL2⟩ : ∃ L2 : Nat, mlen xx k = L2 := ⟨_, rfl⟩
        have HL2 := Lib.hid (show ((mlen xx k : Nat) : Int) = (L2 : Int) by rw [hL2])
        have hk12 : k ≤ 12 := by omega
        by_cases hlt : k < n1
        · have hsum : cumM xx k = cumM xx (k - 1) + L2 := by
            rw [← hL2]
            obtain ⟨j, rfl⟩ : ∃ j, k = j + 1 := ⟨k - 1, by omega⟩
            rfl
          have HN := Lib.hid (show (cc + L2) + 719528 = dby xx + cumM xx (k + 1 - 1) by rw [Nat.add_sub_cancel, hsum]; have := HCC.out; omega)
          have hcb : cc + L2 ≤ 40000400 := by have h1 := HN.out; have h2 := HDB.out xx (Nat.le_refl _); have h3 := cum_bd xx (k + 1 - 1) (by omega); omega
          clear hL2 hsum
          go_wp2_with fail
          refine (rmonth_k xx k _ _ (L2 : Int) _ hk1 hk12 (by first | rfl | omega) (by first | rfl | omega) HL2.out).mono ?_
          rintro e w3 ⟨rfl, hb3⟩
          go_wp2_with fail
          have hB := hbel.trans (hb3.mono hbel.size)
          go_roundw
          case rel => exact ⟨k + 1, cc + L2, by go_num, by go_num, by omega, by omega, hcb, HN, hB⟩
          case measure => simp [intOf]; omega
        · obtain rfl : k = n1 := by omega
          have HSEC := Lib.hid (show secs xx k n2 n3 n4 n5 = 86400 * ((cc : Int) + n2 - 1) + 3600 * n3 + 60 * n4 + n5 by have := HCC.out; unfold secs; omega)
          obtain ⟨x, hx⟩ : ∃ x : Int, 86400 * ((cc : Int) + n2 - 1) + 3600 * n3 + 60 * n4 + n5 = x := ⟨_, rfl⟩
          rw [hx] at HSEC
          have hBB := hb2.trans (hbel.mono hb2.size)
          by_cases hmax : 1099511627776 < x
          · have HF := Lib.hid (show dateR [xx, k, n2, n3, n4, n5] = (0, 27) from date_no fun hok => by
              have := hok.2.2.2.2.2.2.2.2
              rw [HSEC.out] at this
              omega)
            clear hL2
            go_wp2_with fail
            go_ret2
            exact ⟨by rw [HPR.out, HF.out]; rfl, hBB⟩
          · have HF := Lib.hid (show dateR [xx, k, n2, n3, n4, n5] = (x, 0) by
              rw [date_yes, HSEC.out]
              exact ⟨by omega, c1, c2, c3, by rw [HLN.out]; exact HC4.out, c5, c6, c7, by rw [HSEC.out]; omega⟩)
            clear hL2
            go_wp2_with fail
            go_ret2
            exact ⟨by rw [HPR.out, HF.out]; first | rfl | rw [hx], hBB⟩

set_option maxRecDepth 100000 in
set_option maxHeartbeats 8000000 in
theorem rparse_21 (t : ByteArray) (w : World) (hs : t.size = 21) (hz : bt t 0 ≠ 48) :
    Calls Tryd.prog 27 #[.string t] w fun e w' => e = .returned (.tuple #[.int .i64 (parseR t.data.toList).1, .int .i64 (parseR t.data.toList).2]) ∧ Below w.heap.size w w' := by
  have hln : t.data.toList.length = 21 := by rw [← Lib.size_eq]; exact hs
  have HFB := Lib.hid (show fitB t.data.toList = (sepB t.data.toList 5 && segB t.data.toList 5) by
    unfold fitB
    rw [decide_eq_true hln, decide_eq_false (show ¬ t.data.toList.length = 20 by omega), decide_eq_false (show ¬ (t.data.toList.getD 0 0).toNat = 48 by have := chr_nat t 0; omega)]
    simp)
  have HPV := Lib.hid (show prsV t.data.toList = segV t.data.toList 5 by unfold prsV; rw [hln])
  clear hln
  have hst : (t.size : Int) = 21 := by omega
  have hbt := get_bt t
  have hb0 : (bt t 0 == 48) = false := beq_false_of_ne hz
  clear hz
  by_cases s0 : bt t 5 = 45
  rotate_left
  · have HF := Lib.hid (show parseR t.data.toList = (0, 4) from prs_no (by
      rw [HFB.out]
      have e : sepB t.data.toList 5 = false := by
        unfold sepB
        rw [decide_eq_false (show ¬ (t.data.toList.getD 5 0).toNat = 45 by have h9 : bt t 5 = (((t.data.toList.getD 5 0).toNat : Nat) : Int) := chr_nat t 5; omega)]
        simp
      rw [e]; rfl))
    have t0 : (bt t 5 != 45) = true := by simp; exact s0
    clear s0
    go_enter Tryd.func27, Tryd.ntmps27
    go_wp2
    go_ret2
    exact ⟨by rw [HF.out]; rfl, Below.refl _ _⟩
  have t0 : (bt t 5 != 45) = false := by rw [s0]; rfl
  by_cases s1 : bt t 8 = 45
  rotate_left
  · have HF := Lib.hid (show parseR t.data.toList = (0, 4) from prs_no (by
      rw [HFB.out]
      have e : sepB t.data.toList 5 = false := by
        unfold sepB
        rw [decide_eq_false (show ¬ (t.data.toList.getD (5 + 3) 0).toNat = 45 by have h9 : bt t 8 = (((t.data.toList.getD (5 + 3) 0).toNat : Nat) : Int) := chr_nat t 8; omega)]
        simp
      rw [e]; rfl))
    have t1 : (bt t 8 != 45) = true := by simp; exact s1
    clear s1
    go_enter Tryd.func27, Tryd.ntmps27
    go_wp2
    go_ret2
    exact ⟨by rw [HF.out]; rfl, Below.refl _ _⟩
  have t1 : (bt t 8 != 45) = false := by rw [s1]; rfl
  by_cases s2 : bt t 11 = 84
  rotate_left
  · have HF := Lib.hid (show parseR t.data.toList = (0, 4) from prs_no (by
      rw [HFB.out]
      have e : sepB t.data.toList 5 = false := by
        unfold sepB
        rw [decide_eq_false (show ¬ (t.data.toList.getD (5 + 6) 0).toNat = 84 by have h9 : bt t 11 = (((t.data.toList.getD (5 + 6) 0).toNat : Nat) : Int) := chr_nat t 11; omega)]
        simp
      rw [e]; rfl))
    have t2 : (bt t 11 != 84) = true := by simp; exact s2
    clear s2
    go_enter Tryd.func27, Tryd.ntmps27
    go_wp2
    go_ret2
    exact ⟨by rw [HF.out]; rfl, Below.refl _ _⟩
  have t2 : (bt t 11 != 84) = false := by rw [s2]; rfl
  by_cases s3 : bt t 14 = 58
  rotate_left
  · have HF := Lib.hid (show parseR t.data.toList = (0, 4) from prs_no (by
      rw [HFB.out]
      have e : sepB t.data.toList 5 = false := by
        unfold sepB
        rw [decide_eq_false (show ¬ (t.data.toList.getD (5 + 9) 0).toNat = 58 by have h9 : bt t 14 = (((t.data.toList.getD (5 + 9) 0).toNat : Nat) : Int) := chr_nat t 14; omega)]
        simp
      rw [e]; rfl))
    have t3 : (bt t 14 != 58) = true := by simp; exact s3
    clear s3
    go_enter Tryd.func27, Tryd.ntmps27
    go_wp2
    go_ret2
    exact ⟨by rw [HF.out]; rfl, Below.refl _ _⟩
  have t3 : (bt t 14 != 58) = false := by rw [s3]; rfl
  by_cases s4 : bt t 17 = 58
  rotate_left
  · have HF := Lib.hid (show parseR t.data.toList = (0, 4) from prs_no (by
      rw [HFB.out]
      have e : sepB t.data.toList 5 = false := by
        unfold sepB
        rw [decide_eq_false (show ¬ (t.data.toList.getD (5 + 12) 0).toNat = 58 by have h9 : bt t 17 = (((t.data.toList.getD (5 + 12) 0).toNat : Nat) : Int) := chr_nat t 17; omega)]
        simp
      rw [e]; rfl))
    have t4 : (bt t 17 != 58) = true := by simp; exact s4
    clear s4
    go_enter Tryd.func27, Tryd.ntmps27
    go_wp2
    go_ret2
    exact ⟨by rw [HF.out]; rfl, Below.refl _ _⟩
  have t4 : (bt t 17 != 58) = false := by rw [s4]; rfl
  by_cases s5 : bt t 20 = 90
  rotate_left
  · have HF := Lib.hid (show parseR t.data.toList = (0, 4) from prs_no (by
      rw [HFB.out]
      have e : sepB t.data.toList 5 = false := by
        unfold sepB
        rw [decide_eq_false (show ¬ (t.data.toList.getD (5 + 15) 0).toNat = 90 by have h9 : bt t 20 = (((t.data.toList.getD (5 + 15) 0).toNat : Nat) : Int) := chr_nat t 20; omega)]
        simp
      rw [e]; rfl))
    have t5 : (bt t 20 != 90) = true := by simp; exact s5
    clear s5
    go_enter Tryd.func27, Tryd.ntmps27
    go_wp2
    go_ret2
    exact ⟨by rw [HF.out]; rfl, Below.refl _ _⟩
  have t5 : (bt t 20 != 90) = false := by rw [s5]; rfl
  have HSEP := Lib.hid (show sepB t.data.toList 5 = true by
    unfold sepB
    rw [decide_eq_true (show (t.data.toList.getD 5 0).toNat = 45 by have h9 : bt t 5 = (((t.data.toList.getD 5 0).toNat : Nat) : Int) := chr_nat t 5; omega), decide_eq_true (show (t.data.toList.getD (5 + 3) 0).toNat = 45 by have h9 : bt t 8 = (((t.data.toList.getD (5 + 3) 0).toNat : Nat) : Int) := chr_nat t 8; omega), decide_eq_true (show (t.data.toList.getD (5 + 6) 0).toNat = 84 by have h9 : bt t 11 = (((t.data.toList.getD (5 + 6) 0).toNat : Nat) : Int) := chr_nat t 11; omega), decide_eq_true (show (t.data.toList.getD (5 + 9) 0).toNat = 58 by have h9 : bt t 14 = (((t.data.toList.getD (5 + 9) 0).toNat : Nat) : Int) := chr_nat t 14; omega), decide_eq_true (show (t.data.toList.getD (5 + 12) 0).toNat = 58 by have h9 : bt t 17 = (((t.data.toList.getD (5 + 12) 0).toNat : Nat) : Int) := chr_nat t 17; omega), decide_eq_true (show (t.data.toList.getD (5 + 15) 0).toNat = 90 by have h9 : bt t 20 = (((t.data.toList.getD (5 + 15) 0).toNat : Nat) : Int) := chr_nat t 20; omega)]
    rfl)
  clear s0 s1 s2 s3 s4 s5
  obtain ⟨n0, hn0⟩ : ∃ n, numL (seg t.data.toList 0 (5 - 0)) = n := ⟨_, rfl⟩
  obtain ⟨b0, hb10⟩ : ∃ n, digAll (seg t.data.toList 0 (5 - 0)) = n := ⟨_, rfl⟩
  have HC0 := Lib.hid (fun W => rdigits_k t 0 5 n0 b0 W (by omega) hn0 hb10)
  have HN0 := Lib.hid hn0
  have HB0 := Lib.hid hb10
  clear hn0 hb10
  obtain ⟨n1, hn1⟩ : ∃ n, numL (seg t.data.toList 6 (8 - 6)) = n := ⟨_, rfl⟩
  obtain ⟨b1, hb11⟩ : ∃ n, digAll (seg t.data.toList 6 (8 - 6)) = n := ⟨_, rfl⟩
  have HC1 := Lib.hid (fun W => rdigits_k t 6 8 n1 b1 W (by omega) hn1 hb11)
  have HN1 := Lib.hid hn1
  have HB1 := Lib.hid hb11
  clear hn1 hb11
  obtain ⟨n2, hn2⟩ : ∃ n, numL (seg t.data.toList 9 (11 - 9)) = n := ⟨_, rfl⟩
  obtain ⟨b2, hb12⟩ : ∃ n, digAll (seg t.data.toList 9 (11 - 9)) = n := ⟨_, rfl⟩
  have HC2 := Lib.hid (fun W => rdigits_k t 9 11 n2 b2 W (by omega) hn2 hb12)
  have HN2 := Lib.hid hn2
  have HB2 := Lib.hid hb12
  clear hn2 hb12
  obtain ⟨n3, hn3⟩ : ∃ n, numL (seg t.data.toList 12 (14 - 12)) = n := ⟨_, rfl⟩
  obtain ⟨b3, hb13⟩ : ∃ n, digAll (seg t.data.toList 12 (14 - 12)) = n := ⟨_, rfl⟩
  have HC3 := Lib.hid (fun W => rdigits_k t 12 14 n3 b3 W (by omega) hn3 hb13)
  have HN3 := Lib.hid hn3
  have HB3 := Lib.hid hb13
  clear hn3 hb13
  obtain ⟨n4, hn4⟩ : ∃ n, numL (seg t.data.toList 15 (17 - 15)) = n := ⟨_, rfl⟩
  obtain ⟨b4, hb14⟩ : ∃ n, digAll (seg t.data.toList 15 (17 - 15)) = n := ⟨_, rfl⟩
  have HC4 := Lib.hid (fun W => rdigits_k t 15 17 n4 b4 W (by omega) hn4 hb14)
  have HN4 := Lib.hid hn4
  have HB4 := Lib.hid hb14
  clear hn4 hb14
  obtain ⟨n5, hn5⟩ : ∃ n, numL (seg t.data.toList 18 (20 - 18)) = n := ⟨_, rfl⟩
  obtain ⟨b5, hb15⟩ : ∃ n, digAll (seg t.data.toList 18 (20 - 18)) = n := ⟨_, rfl⟩
  have HC5 := Lib.hid (fun W => rdigits_k t 18 20 n5 b5 W (by omega) hn5 hb15)
  have HN5 := Lib.hid hn5
  have HB5 := Lib.hid hb15
  clear hn5 hb15
  go_enter Tryd.func27, Tryd.ntmps27
  go_wp2_with fail
  refine (HC0.out _).mono ?_
  rintro e w' ⟨rfl, rfl⟩
  go_wp2_with fail
  refine (HC1.out _).mono ?_
  rintro e w' ⟨rfl, rfl⟩
  go_wp2_with fail
  refine (HC2.out _).mono ?_
  rintro e w' ⟨rfl, rfl⟩
  go_wp2_with fail
  refine (HC3.out _).mono ?_
  rintro e w' ⟨rfl, rfl⟩
  go_wp2_with fail
  refine (HC4.out _).mono ?_
  rintro e w' ⟨rfl, rfl⟩
  go_wp2_with fail
  refine (HC5.out _).mono ?_
  rintro e w' ⟨rfl, rfl⟩
  cases b0 with
  | false =>
    have HF := Lib.hid (show parseR t.data.toList = (0, 4) from prs_no (by
      rw [HFB.out]
      have e : segB t.data.toList 5 = false := by
        have h9 := HB0.out
        unfold segB
        simp only [Nat.sub_zero, Nat.reduceSub, Nat.reduceAdd] at h9 ⊢
        rw [h9]
        simp
      rw [e]; simp))
    go_wp2_with fail
    go_ret2
    exact ⟨by rw [HF.out]; rfl, Below.refl _ _⟩
  | true =>
  cases b1 with
  | false =>
    have HF := Lib.hid (show parseR t.data.toList = (0, 4) from prs_no (by
      rw [HFB.out]
      have e : segB t.data.toList 5 = false := by
        have h9 := HB1.out
        unfold segB
        simp only [Nat.sub_zero, Nat.reduceSub, Nat.reduceAdd] at h9 ⊢
        rw [h9]
        simp
      rw [e]; simp))
    go_wp2_with fail
    go_ret2
    exact ⟨by rw [HF.out]; rfl, Below.refl _ _⟩
  | true =>
  cases b2 with
  | false =>
    have HF := Lib.hid (show parseR t.data.toList = (0, 4) from prs_no (by
      rw [HFB.out]
      have e : segB t.data.toList 5 = false := by
        have h9 := HB2.out
        unfold segB
        simp only [Nat.sub_zero, Nat.reduceSub, Nat.reduceAdd] at h9 ⊢
        rw [h9]
        simp
      rw [e]; simp))
    go_wp2_with fail
    go_ret2
    exact ⟨by rw [HF.out]; rfl, Below.refl _ _⟩
  | true =>
  cases b3 with
  | false =>
    have HF := Lib.hid (show parseR t.data.toList = (0, 4) from prs_no (by
      rw [HFB.out]
      have e : segB t.data.toList 5 = false := by
        have h9 := HB3.out
        unfold segB
        simp only [Nat.sub_zero, Nat.reduceSub, Nat.reduceAdd] at h9 ⊢
        rw [h9]
        simp
      rw [e]; simp))
    go_wp2_with fail
    go_ret2
    exact ⟨by rw [HF.out]; rfl, Below.refl _ _⟩
  | true =>
  cases b4 with
  | false =>
    have HF := Lib.hid (show parseR t.data.toList = (0, 4) from prs_no (by
      rw [HFB.out]
      have e : segB t.data.toList 5 = false := by
        have h9 := HB4.out
        unfold segB
        simp only [Nat.sub_zero, Nat.reduceSub, Nat.reduceAdd] at h9 ⊢
        rw [h9]
        simp
      rw [e]; simp))
    go_wp2_with fail
    go_ret2
    exact ⟨by rw [HF.out]; rfl, Below.refl _ _⟩
  | true =>
  cases b5 with
  | false =>
    have HF := Lib.hid (show parseR t.data.toList = (0, 4) from prs_no (by
      rw [HFB.out]
      have e : segB t.data.toList 5 = false := by
        have h9 := HB5.out
        unfold segB
        simp only [Nat.sub_zero, Nat.reduceSub, Nat.reduceAdd] at h9 ⊢
        rw [h9]
        simp
      rw [e]; simp))
    go_wp2_with fail
    go_ret2
    exact ⟨by rw [HF.out]; rfl, Below.refl _ _⟩
  | true =>
  have HFIT := Lib.hid (show fitB t.data.toList = true by
    rw [HFB.out, HSEP.out]
    unfold segB
    have h0 := HB0.out; have h1 := HB1.out; have h2 := HB2.out; have h3 := HB3.out; have h4 := HB4.out; have h5 := HB5.out
    simp only [Nat.sub_zero, Nat.reduceSub, Nat.reduceAdd] at h0 h1 h2 h3 h4 h5 ⊢
    rw [h0, h1, h2, h3, h4, h5]; rfl)
  have HPR := Lib.hid (show parseR t.data.toList = dateR [n0, n1, n2, n3, n4, n5] by
    rw [prs_yes HFIT.out, HPV.out]
    have h0 := numL_good HB0.out HN0.out; have h1 := numL_good HB1.out HN1.out; have h2 := numL_good HB2.out HN2.out; have h3 := numL_good HB3.out HN3.out; have h4 := numL_good HB4.out HN4.out; have h5 := numL_good HB5.out HN5.out
    unfold segV
    simp only [Nat.sub_zero, Nat.reduceSub, Nat.reduceAdd] at h0 h1 h2 h3 h4 h5 ⊢
    rw [h0, h1, h2, h3, h4, h5])
  have l0 : n0 ≤ 99999 := by
    have h1 := valD_bd _ 5 HB0.out (seg_len _ _ _)
    rw [numL_good HB0.out HN0.out] at h1
    omega
  have l1 : n1 ≤ 99 := by
    have h1 := valD_bd _ 2 HB1.out (seg_len _ _ _)
    rw [numL_good HB1.out HN1.out] at h1
    omega
  have l2 : n2 ≤ 99 := by
    have h1 := valD_bd _ 2 HB2.out (seg_len _ _ _)
    rw [numL_good HB2.out HN2.out] at h1
    omega
  have l3 : n3 ≤ 99 := by
    have h1 := valD_bd _ 2 HB3.out (seg_len _ _ _)
    rw [numL_good HB3.out HN3.out] at h1
    omega
  have l4 : n4 ≤ 99 := by
    have h1 := valD_bd _ 2 HB4.out (seg_len _ _ _)
    rw [numL_good HB4.out HN4.out] at h1
    omega
  have l5 : n5 ≤ 99 := by
    have h1 := valD_bd _ 2 HB5.out (seg_len _ _ _)
    rw [numL_good HB5.out HN5.out] at h1
    omega
  by_cases c0 : 1970 ≤ n0
  rotate_left
  · have HF := Lib.hid (show dateR [n0, n1, n2, n3, n4, n5] = (0, 27) from date_no fun hok => c0 hok.1)
    have k0 : (n0 : Int) < 1970 := by omega
    clear c0
    go_wp2_with fail
    go_ret2
    exact ⟨by rw [HPR.out, HF.out]; rfl, Below.refl _ _⟩
  have k0 : ¬ (n0 : Int) < 1970 := by omega
  have k0d : decide ((n0 : Int) < 1970) = false := decide_eq_false k0
  by_cases c1 : 1 ≤ n1
  rotate_left
  · have HF := Lib.hid (show dateR [n0, n1, n2, n3, n4, n5] = (0, 27) from date_no fun hok => c1 hok.2.1)
    have k1 : (n1 : Int) < 1 := by omega
    clear c1
    go_wp2_with fail
    go_ret2
    exact ⟨by rw [HPR.out, HF.out]; rfl, Below.refl _ _⟩
  have k1 : ¬ (n1 : Int) < 1 := by omega
  have k1d : decide ((n1 : Int) < 1) = false := decide_eq_false k1
  by_cases c2 : n1 ≤ 12
  rotate_left
  · have HF := Lib.hid (show dateR [n0, n1, n2, n3, n4, n5] = (0, 27) from date_no fun hok => c2 hok.2.2.1)
    have k2 : 12 < (n1 : Int) := by omega
    clear c2
    go_wp2_with fail
    go_ret2
    exact ⟨by rw [HPR.out, HF.out]; rfl, Below.refl _ _⟩
  have k2 : ¬ 12 < (n1 : Int) := by omega
  have k2d : decide (12 < (n1 : Int)) = false := decide_eq_false k2
  by_cases c3 : 1 ≤ n2
  rotate_left
  · have HF := Lib.hid (show dateR [n0, n1, n2, n3, n4, n5] = (0, 27) from date_no fun hok => c3 hok.2.2.2.1)
    have k3 : (n2 : Int) < 1 := by omega
    clear c3
    go_wp2_with fail
    go_ret2
    exact ⟨by rw [HPR.out, HF.out]; rfl, Below.refl _ _⟩
  have k3 : ¬ (n2 : Int) < 1 := by omega
  have k3d : decide ((n2 : Int) < 1) = false := decide_eq_false k3
  obtain ⟨L, hL⟩ : ∃ L, mlen n0 n1 = L := ⟨_, rfl⟩
  have HL := Lib.hid (show ((mlen n0 n1 : Nat) : Int) = (L : Int) by rw [hL])
  have HLN := Lib.hid hL
  clear hL
  by_cases c4 : n2 ≤ L
  rotate_left
  · have HF := Lib.hid (show dateR [n0, n1, n2, n3, n4, n5] = (0, 27) from date_no fun hok => c4 (by have := hok.2.2.2.2.1; rw [HLN.out] at this; exact this))
    have k4 : (L : Int) < (n2 : Int) := by omega
    clear c4
    go_wp2_with fail
    refine (rmonth_k n0 n1 _ _ (L : Int) _ c1 c2 rfl rfl HL.out).mono ?_
    rintro e w2 ⟨rfl, hb2⟩
    go_wp2_with fail
    go_ret2
    exact ⟨by rw [HPR.out, HF.out]; rfl, hb2⟩
  have k4 : ¬ (L : Int) < (n2 : Int) := by omega
  have k4d : decide ((L : Int) < (n2 : Int)) = false := decide_eq_false k4
  by_cases c5 : n3 ≤ 23
  rotate_left
  · have HF := Lib.hid (show dateR [n0, n1, n2, n3, n4, n5] = (0, 27) from date_no fun hok => c5 hok.2.2.2.2.2.1)
    have k5 : 23 < (n3 : Int) := by omega
    clear c5
    go_wp2_with fail
    refine (rmonth_k n0 n1 _ _ (L : Int) _ c1 c2 rfl rfl HL.out).mono ?_
    rintro e w2 ⟨rfl, hb2⟩
    go_wp2_with fail
    go_ret2
    exact ⟨by rw [HPR.out, HF.out]; rfl, hb2⟩
  have k5 : ¬ 23 < (n3 : Int) := by omega
  have k5d : decide (23 < (n3 : Int)) = false := decide_eq_false k5
  by_cases c6 : n4 ≤ 59
  rotate_left
  · have HF := Lib.hid (show dateR [n0, n1, n2, n3, n4, n5] = (0, 27) from date_no fun hok => c6 hok.2.2.2.2.2.2.1)
    have k6 : 59 < (n4 : Int) := by omega
    clear c6
    go_wp2_with fail
    refine (rmonth_k n0 n1 _ _ (L : Int) _ c1 c2 rfl rfl HL.out).mono ?_
    rintro e w2 ⟨rfl, hb2⟩
    go_wp2_with fail
    go_ret2
    exact ⟨by rw [HPR.out, HF.out]; rfl, hb2⟩
  have k6 : ¬ 59 < (n4 : Int) := by omega
  have k6d : decide (59 < (n4 : Int)) = false := decide_eq_false k6
  by_cases c7 : n5 ≤ 59
  rotate_left
  · have HF := Lib.hid (show dateR [n0, n1, n2, n3, n4, n5] = (0, 27) from date_no fun hok => c7 hok.2.2.2.2.2.2.2.1)
    have k7 : 59 < (n5 : Int) := by omega
    clear c7
    go_wp2_with fail
    refine (rmonth_k n0 n1 _ _ (L : Int) _ c1 c2 rfl rfl HL.out).mono ?_
    rintro e w2 ⟨rfl, hb2⟩
    go_wp2_with fail
    go_ret2
    exact ⟨by rw [HPR.out, HF.out]; rfl, hb2⟩
  have k7 : ¬ 59 < (n5 : Int) := by omega
  have k7d : decide (59 < (n5 : Int)) = false := decide_eq_false k7
  go_wp2_with fail
  refine (rmonth_k n0 n1 _ _ (L : Int) _ c1 c2 rfl rfl HL.out).mono ?_
  rintro e w2 ⟨rfl, hb2⟩
  obtain ⟨z, hz⟩ : ∃ z : Nat, n0 = 1970 + z := ⟨n0 - 1970, by omega⟩
  have e1 : (n0 : Int) - 1970 = (z : Int) := by omega
  obtain ⟨q, hq⟩ : ∃ q : Nat, z / 400 = q := ⟨_, rfl⟩
  have e2 : (z : Int) / 400 = (q : Int) := by omega
  have hqb : q ≤ 1000 := by omega
  have HZQ := Lib.hid (show 1970 + 400 * q ≤ n0 by omega)
  have HS0 := Lib.hid (show 146097 * q + 719528 = dby (1970 + 400 * q) by rw [dby_400, dby_1970]; omega)
  have HDB := Lib.hid (show ∀ x, x ≤ n0 → dby x ≤ 36600000 from fun x hx => by unfold dby; omega)
  clear hz hq
  have kd4 : decide (L < n2) = false := decide_eq_false (by omega)
  go_wp2_with fail
  try simp only [kd4]
  clear k0d k1d k2d k3d k4d k5d k6d k7d
  have HC4 := Lib.hid c4
  clear k0 k1 k2 k3 k4 k5 k6 k7 e1 e2 kd4 c4
  go_loopw [17, 18] (fun dv xv wr => ∃ xx c : Nat, dv = .int .i64 c ∧ xv = .int .i64 xx ∧ xx ≤ n0 ∧ c ≤ 40000000 ∧ Hid (c + 719528 = dby xx) ∧ wr = w2) (fun _ xv _ => n0 - (intOf xv).toNat)
  case atStart => exact ⟨1970 + 400 * q, 146097 * q, by go_num, by go_num, HZQ.out, by have h1 := HS0.out; have h2 := HDB.out _ HZQ.out; omega, HS0, rfl⟩
  case round =>
    obtain ⟨xx, c, rfl, rfl, hxx, hc, HC, rfl⟩ := hrel
    by_cases hlt : xx < n0
    · obtain ⟨Y, hY⟩ : ∃ Y : Nat, ylen xx = Y := ⟨_, rfl⟩
      have HY := Lib.hid (show ((ylen xx : Nat) : Int) = (Y : Int) by rw [hY])
      have HN := Lib.hid (show (c + Y) + 719528 = dby (xx + 1) by rw [dby_succ, hY, ← HC.out]; omega)
      have hYb : Y ≤ 366 := by have := ylen_le xx; omega
      have hcb : c + Y ≤ 40000000 := by have h1 := HN.out; have h2 := HDB.out (xx + 1) (by omega); omega
      clear hY
      go_wp2_with (go_at_call 41; refine (ryear_k xx _ (Y : Int) _ (by first | rfl | omega) HY.out).mono ?_; rintro e w' ⟨rfl, rfl⟩)
      go_roundw
      case rel => exact ⟨xx + 1, c + Y, by go_num, by go_num, by omega, hcb, HN, trivial⟩
      case measure => simp [intOf]; omega
    · obtain rfl : xx = n0 := by omega
      go_wp2_with fail
      go_loopw [17, 19] (fun dv mv W => ∃ k cc : Nat, dv = .int .i64 cc ∧ mv = .int .i64 k ∧ 1 ≤ k ∧ k ≤ n1 ∧ cc ≤ 40000400 ∧ Hid (cc + 719528 = dby xx + cumM xx (k - 1)) ∧ Below wr.heap.size wr W) (fun _ mv _ => n1 - (intOf mv).toNat)
      case atStart => exact ⟨1, c, rfl, rfl, Nat.le_refl _, c1, by omega, Lib.hid HC.out, Below.refl _ _⟩
      case round =>
        obtain ⟨k, cc, rfl, rfl, hk1, hk, hcc, HCC, hbel⟩ := hrel
        obtain ⟨L2, hL2⟩ : ∃ L2 : Nat, mlen xx k = L2 := ⟨_, rfl⟩
        have HL2 := Lib.hid (show ((mlen xx k : Nat) : Int) = (L2 : Int) by rw [hL2])
        have hk12 : k ≤ 12 := by omega
        by_cases hlt : k < n1
        · have hsum : cumM xx k = cumM xx (k - 1) + L2 := by
            rw [← hL2]
            obtain ⟨j, rfl⟩ : ∃ j, k = j + 1 := ⟨k - 1, by omega⟩
            rfl
          have HN := Lib.hid (show (cc + L2) + 719528 = dby xx + cumM xx (k + 1 - 1) by rw [Nat.add_sub_cancel, hsum]; have := HCC.out; omega)
          have hcb : cc + L2 ≤ 40000400 := by have h1 := HN.out; have h2 := HDB.out xx (Nat.le_refl _); have h3 := cum_bd xx (k + 1 - 1) (by omega); omega
          clear hL2 hsum
          go_wp2_with fail
          refine (rmonth_k xx k _ _ (L2 : Int) _ hk1 hk12 (by first | rfl | omega) (by first | rfl | omega) HL2.out).mono ?_
          rintro e w3 ⟨rfl, hb3⟩
          go_wp2_with fail
          have hB := hbel.trans (hb3.mono hbel.size)
          go_roundw
          case rel => exact ⟨k + 1, cc + L2, by go_num, by go_num, by omega, by omega, hcb, HN, hB⟩
          case measure => simp [intOf]; omega
        · obtain rfl : k = n1 := by omega
          have HSEC := Lib.hid (show secs xx k n2 n3 n4 n5 = 86400 * ((cc : Int) + n2 - 1) + 3600 * n3 + 60 * n4 + n5 by have := HCC.out; unfold secs; omega)
          obtain ⟨x, hx⟩ : ∃ x : Int, 86400 * ((cc : Int) + n2 - 1) + 3600 * n3 + 60 * n4 + n5 = x := ⟨_, rfl⟩
          rw [hx] at HSEC
          have hBB := hb2.trans (hbel.mono hb2.size)
          by_cases hmax : 1099511627776 < x
          · have HF := Lib.hid (show dateR [xx, k, n2, n3, n4, n5] = (0, 27) from date_no fun hok => by
              have := hok.2.2.2.2.2.2.2.2
              rw [HSEC.out] at this
              omega)
            clear hL2
            go_wp2_with fail
            go_ret2
            exact ⟨by rw [HPR.out, HF.out]; rfl, hBB⟩
          · have HF := Lib.hid (show dateR [xx, k, n2, n3, n4, n5] = (x, 0) by
              rw [date_yes, HSEC.out]
              exact ⟨by omega, c1, c2, c3, by rw [HLN.out]; exact HC4.out, c5, c6, c7, by rw [HSEC.out]; omega⟩)
            clear hL2
            go_wp2_with fail
            go_ret2
            exact ⟨by rw [HPR.out, HF.out]; first | rfl | rw [hx], hBB⟩

/-- the specification's Parse at every string -/
theorem rparse_s (t : ByteArray) (w : World) (h : t.size ≤ 1000000000) :
    Calls Tryd.prog 27 #[.string t] w fun e w' => e = .returned (.tuple #[.int .i64 (parseR t.data.toList).1, .int .i64 (parseR t.data.toList).2]) ∧ Below w.heap.size w w' := by
  have hs := Lib.size_eq t
  have hb : bt t 0 = (((t.data.toList.getD 0 0).toNat : Nat) : Int) := bt_chr t 0
  by_cases h0 : t.size = 20
  · exact rparse_20 t w h0
  · by_cases h1 : t.size = 21 ∧ bt t 0 ≠ 48
    · exact rparse_21 t w h1.1 h1.2
    · have h2 : t.size ≠ 21 ∨ bt t 0 = 48 := by
        by_cases h2 : t.size = 21
        · exact .inr (Decidable.byContradiction fun e => h1 ⟨h2, e⟩)
        · exact .inl h2
      rw [prs_no (fit_no _ (by omega) (by
        rcases h2 with h2 | h2
        · exact .inl (by omega)
        · exact .inr (by omega)))]
      exact (rparse_no t w h h0 h2).mono fun e w' k => ⟨k.1, k.2 ▸ Below.refl _ _⟩
theorem rparse_k (t : ByteArray) (n e0 : Int) (w : World) (hs : t.size ≤ 1000000000) (h : parseR t.data.toList = (n, e0)) :
    Calls Tryd.prog 27 #[.string t] w fun e w' => e = .returned (.tuple #[.int .i64 n, .int .i64 e0]) ∧ Below w.heap.size w w' := by
  have := rparse_s t w hs
  rw [h] at this; exact this

end Go.Proofs.YtnncfifpgjlpaabDoor
