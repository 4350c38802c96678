/-
  Contracts of codec.Int at lengths, digest.Mac, Iterate and Chain, and of the specification's. Condition: at most 1000000 bytes; the library's table of powers lies as the program's text lays it.
-/
import Derived.Test.YtbogmmdmfbcbnaaDoorDigRHex
import Derived.Test.YtbogmmdmfbcbnaaDoorShelfD
import Derived.Lib.LaidTab
import Derived.Lib.ItoaLen
import Derived.Test.YtbogmmdmfbcbnaaDoorCodecInt
set_option maxRecDepth 100000
set_option linter.unusedVariables false
set_option linter.unusedSimpArgs false
set_option linter.unnecessarySimpa false
namespace Go.Proofs.YtbogmmdmfbcbnaaDoor
open Go.RowKit Go.PlainAid

def PowOk (w : World) : Prop := Lib.TabIs Tryd.prog w "internal/strconv.uint64pow10" .u64 Lib.pow10Tab
theorem PowOk.below {w w' : World} (h : PowOk w) (hb : Below w.heap.size w w') : PowOk w' := var_below h hb (Nat.le_refl _)
/-- the decimal form of a length -/
def decS (n : Nat) : ByteArray := oL (Lib.decDigits n)
theorem dec_len : ∀ (k n : Nat), n < 10 ^ (k + 1) → (Lib.decDigits n).length ≤ k + 1
  | 0, n, h => by
    rw [Lib.decDigits, dif_pos (by simpa using h)]; simp
  | k + 1, n, h => by
    rw [Lib.decDigits]
    split
    · simp
    · rw [List.length_append]
      have := dec_len k (n / 10) (by rw [Nat.pow_succ] at h; omega)
      simp; omega
theorem decS_size (n : Nat) (h : n ≤ 1000000000) : (decS n).size ≤ 10 := by
  unfold decS oL; rw [Lib.size_mk]; exact dec_len 9 n (by omega)
theorem int_s (n : Nat) (w : World) (h : n ≤ 1000000000) (ho : PowOk w) :
    Calls Tryd.prog 22 #[.int .i64 n] w fun e w' => e = .returned (.string (decS n)) ∧ Below w.heap.size w w' := by
  have HO := Lib.hid ho; clear ho
  have HI : Hid (Lib.itoa (n : Int) = Lib.decDigits n) := Lib.hid (Lib.itoa_nonneg n)
  go_enter Tryd.func22, Tryd.ntmps22
  go_wp2_with (go_at_call 40; refine (Tryd.strconv_Itoa (n : Int) (by omega) (by omega) _ HO.out).mono ?_; rintro e w1 ⟨rfl, kk, os, rfl⟩)
  go_ret
  exact ⟨by unfold decS oL; rw [← HI.out]; rfl, below_grow w kk os⟩

def barS : ByteArray := ⟨#[124]⟩
def macP (key : ByteArray) : ByteArray := decS key.size ++ ⟨#[58]⟩ ++ key
def macS (key s : ByteArray) : ByteArray := txtS (macP key ++ txtS (macP key ++ s))
def chainS (a s : ByteArray) : ByteArray := txtS (a ++ ⟨#[124]⟩ ++ s)
def itS (salt h : ByteArray) : Nat → ByteArray
  | 0 => h
  | k + 1 => txtS (itS salt h k ++ ⟨#[124]⟩ ++ salt)
def iterS (salt s : ByteArray) (r : Int) : ByteArray := itS salt (txtS (salt ++ ⟨#[124]⟩ ++ s)) (min (max r 0) 64).toNat
theorem macP_size (key : ByteArray) (h : key.size ≤ 1000000) : (macP key).size ≤ key.size + 11 := by
  have := decS_size key.size (by omega)
  unfold macP
  rw [ByteArray.size_append, ByteArray.size_append]
  have e : (⟨#[58]⟩ : ByteArray).size = 1 := rfl
  omega
theorem bar_size (a s : ByteArray) : (a ++ ⟨#[124]⟩ ++ s).size = a.size + 1 + s.size := by
  rw [ByteArray.size_append, ByteArray.size_append]; rfl
theorem itS_size (salt h : ByteArray) (hh : h.size = 16) : ∀ k, (itS salt h k).size = 16
  | 0 => hh
  | k + 1 => txtS_size _

set_option maxHeartbeats 1000000 in
theorem mac_s (key s : ByteArray) (w : World) (hk : key.size ≤ 1000000) (hs : s.size ≤ 1000000) (ho : PowOk w) :
    Calls Tryd.prog 27 #[.string key, .string s] w fun e w' => e = .returned (.string (macS key s)) ∧ Below w.heap.size w w' := by
  have HO := Lib.hid ho; clear ho
  have z0 := decS_size key.size (by omega)
  obtain ⟨p, HP, zp, ep⟩ : ∃ p : ByteArray, Hid (p = macP key) ∧ p.size ≤ 1000011 ∧ decS key.size ++ ⟨#[58]⟩ ++ key = p :=
    ⟨_, Lib.hid rfl, by have := macP_size key hk; omega, rfl⟩
  obtain ⟨q, HQ, zq⟩ : ∃ q : ByteArray, Hid (txtS (p ++ s) = q) ∧ q.size = 16 := ⟨_, Lib.hid rfl, txtS_size _⟩
  go_enter Tryd.func27, Tryd.ntmps27
  go_wp2_with (go_at_call 22; refine (int_s key.size _ (by omega) HO.out).mono ?_; rintro e w1 ⟨rfl, hb1⟩)
  refine (text_s (p ++ s) _ (by rw [ByteArray.size_append]; omega)).mono ?_
  rintro e w2 ⟨rfl, hb2⟩
  rw [HQ.out]
  go_wp2_with fail
  refine (text_s (p ++ q) _ (by rw [ByteArray.size_append]; omega)).mono ?_
  rintro e w3 ⟨rfl, hb3⟩
  go_wp2_with fail
  go_ret
  exact ⟨by unfold macS; rw [← HP.out, HQ.out]; rfl, hb1.trans ((hb2.mono hb1.size).trans (hb3.mono (Nat.le_trans hb1.size hb2.size)))⟩

theorem dig_sl : ∀ n : Nat, n < 10 → (⟨#[48, 49, 50, 51, 52, 53, 54, 55, 56, 57]⟩ : ByteArray).extract n (n + 1) = decS n := by decide +kernel
theorem decS_step (n : Nat) (h : ¬ n < 10) : decS n = decS (n / 10) ++ decS (n % 10) := by
  unfold decS
  rw [oL_app]
  have e1 : Lib.decDigits n = Lib.decDigits (n / 10) ++ [UInt8.ofNat (48 + n % 10)] := by rw [Lib.decDigits, dif_neg h]
  have e2 : Lib.decDigits (n % 10) = [UInt8.ofNat (48 + n % 10)] := by rw [Lib.decDigits, dif_pos (Nat.mod_lt _ (by decide))]
  rw [e1, e2]
set_option maxHeartbeats 1000000 in
theorem decimal_s (k : Nat) : ∀ (n : Nat) (w : World), n < 10 ^ (k + 1) → n ≤ 1000000000 →
    Calls Tryd.prog 63 #[.int .i64 n] w fun e w' => e = .returned (.string (decS n)) ∧ w = w' := by
  have base : ∀ (n : Nat) (w : World), n < 10 → Calls Tryd.prog 63 #[.int .i64 n] w fun e w' => e = .returned (.string (decS n)) ∧ w = w' := by
    intro n w hn
    have HD := Lib.hid (dig_sl n hn)
    go_enter Tryd.func63, Tryd.ntmps63
    go_wp2_with fail
    go_ret
    exact ⟨by rw [← HD.out]; rfl, rfl⟩
  induction k with
  | zero => intro n w hn _; exact base n w (by simpa using hn)
  | succ k ih =>
    intro n w hn hle
    by_cases h10 : n < 10
    · exact base n w h10
    · have HD := Lib.hid (decS_step n h10)
      have z1 := decS_size (n / 10) (by omega)
      have z2 := decS_size (n % 10) (by omega)
      have i1 : ∀ w, Calls Tryd.prog 63 #[.int .i64 ((n : Int) / 10)] w fun e w' => e = .returned (.string (decS (n / 10))) ∧ w = w' := fun w => by
        have := ih (n / 10) w (by rw [Nat.pow_succ] at hn; omega) (by omega)
        rwa [Int.natCast_ediv] at this
      have i2 : ∀ w, Calls Tryd.prog 63 #[.int .i64 ((n : Int) % 10)] w fun e w' => e = .returned (.string (decS (n % 10))) ∧ w = w' := fun w => by
        have := base (n % 10) w (Nat.mod_lt _ (by decide))
        rwa [Int.natCast_emod] at this
      have I1 := Lib.hid i1
      have I2 := Lib.hid i2
      clear i1 i2 ih base
      go_enter Tryd.func63, Tryd.ntmps63
      go_wp2_with fail
      refine (I1.out _).mono ?_
      rintro e w' ⟨rfl, rfl⟩
      go_wp2_with fail
      refine (I2.out _).mono ?_
      rintro e w' ⟨rfl, rfl⟩
      go_wp2_with fail
      go_ret
      exact ⟨by rw [HD.out]; rfl, rfl⟩

set_option maxHeartbeats 1000000 in
theorem rmac_s (key s : ByteArray) (w : World) (hk : key.size ≤ 1000000) (hs : s.size ≤ 1000000) :
    Calls Tryd.prog 46 #[.string key, .string s] w fun e w' => e = .returned (.string (macS key s)) ∧ w = w' := by
  have z0 := decS_size key.size (by omega)
  obtain ⟨p, HP, zp, ep⟩ : ∃ p : ByteArray, Hid (p = macP key) ∧ p.size ≤ 1000011 ∧ decS key.size ++ ⟨#[58]⟩ ++ key = p :=
    ⟨_, Lib.hid rfl, by have := macP_size key hk; omega, rfl⟩
  obtain ⟨q, HQ, zq⟩ : ∃ q : ByteArray, Hid (txtS (p ++ s) = q) ∧ q.size = 16 := ⟨_, Lib.hid rfl, txtS_size _⟩
  go_enter Tryd.func46, Tryd.ntmps46
  go_wp2_with (go_at_call 63; refine (decimal_s 8 key.size _ (by omega) (by omega)).mono ?_; rintro e w1 ⟨rfl, rfl⟩)
  refine (rtext_s (p ++ s) _ (by rw [ByteArray.size_append]; omega)).mono ?_
  rintro e w2 ⟨rfl, rfl⟩
  rw [HQ.out]
  go_wp2_with fail
  refine (rtext_s (p ++ q) _ (by rw [ByteArray.size_append]; omega)).mono ?_
  rintro e w3 ⟨rfl, rfl⟩
  go_wp2_with fail
  go_ret
  exact ⟨by unfold macS; rw [← HP.out, HQ.out]; rfl, rfl⟩

end Go.Proofs.YtbogmmdmfbcbnaaDoor
