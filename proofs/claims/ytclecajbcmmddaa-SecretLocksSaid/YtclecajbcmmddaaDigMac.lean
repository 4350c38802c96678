/-
  Contracts of codec.Int at lengths, digest.Mac, Iterate and Chain, and of the specification's. Condition: at most 1000000 bytes; the library's table of powers lies as the program's text lays it.
-/
import Derived.Test.YtclecajbcmmddaaDigRHex
import Derived.Test.YtclecajbcmmddaaShelfD
import Derived.Lib.LaidTab
import Derived.Lib.ItoaLen
set_option maxRecDepth 100000
set_option linter.unusedVariables false
set_option linter.unusedSimpArgs false
set_option linter.unnecessarySimpa false
namespace Go.Proofs.Ytclecajbcmmddaa
open Go.RowKit Go.PlainAid

def PowOk (w : World) : Prop := Lib.TabIs Try.prog w "internal/strconv.uint64pow10" .u64 Lib.pow10Tab
theorem var_below {w w' : World} {B : Nat} {n : String} {cs : Array Value} (h : w.var? Try.prog n = some cs) (hb : Below B w w') (hB : w.heap.size ≤ B) : w'.var? Try.prog n = some cs := by
  unfold World.var? at h ⊢
  cases hg : Try.prog.globalNamed n with
  | none => rw [hg] at h; cases h
  | some g =>
    rw [hg] at h
    simp only [Option.bind_some] at h ⊢
    have hlt : g < w.heap.size := by
      rcases Nat.lt_or_ge g w.heap.size with k | k
      · exact k
      · rw [Array.getElem?_eq_none k] at h; cases h
    rw [hb.block g (by omega)]
    exact h
theorem PowOk.below {w w' : World} (h : PowOk w) (hb : Below w.heap.size w w') : PowOk w' := var_below h hb (Nat.le_refl _)
theorem below_grow (w : World) (k : Nat) (os : Array Obj) : Below w.heap.size w (Go.Sort.grow (w.drewN k) os) :=
  ⟨rfl, rfl, rfl, by simp [Go.Sort.grow], fun j hj => by simp [Go.Sort.grow, Array.getElem?_append, hj]⟩
/-- the decimal form of a length -/
def decS (n : Nat) : ByteArray := oL (Lib.decDigits n)
theorem dec_len : ∀ (k n : Nat), n < 10 ^ (k + 1) → (Lib.decDigits n).length ≤ k + 1
  | 0, n, h => by
    rw [Lib.decDigits, dif_pos (by simpa using h)]; simp
  | k + 1, n, h => by
    rw [Lib.decDigits]
    split
    · simp
    · rw [List.length_append]
      have := dec_len k (n / 10) (by rw [Nat.pow_succ] at h; omega)
      simp; omega
theorem decS_size (n : Nat) (h : n ≤ 1000000000) : (decS n).size ≤ 10 := by
  unfold decS oL; rw [Lib.size_mk]; exact dec_len 9 n (by omega)
def barS : ByteArray := ⟨#[124]⟩
def macP (key : ByteArray) : ByteArray := decS key.size ++ ⟨#[58]⟩ ++ key
def macS (key s : ByteArray) : ByteArray := txtS (macP key ++ txtS (macP key ++ s))
def chainS (a s : ByteArray) : ByteArray := txtS (a ++ ⟨#[124]⟩ ++ s)
def itS (salt h : ByteArray) : Nat → ByteArray
  | 0 => h
  | k + 1 => txtS (itS salt h k ++ ⟨#[124]⟩ ++ salt)
def iterS (salt s : ByteArray) (r : Int) : ByteArray := itS salt (txtS (salt ++ ⟨#[124]⟩ ++ s)) (min (max r 0) 64).toNat
theorem macP_size (key : ByteArray) (h : key.size ≤ 1000000) : (macP key).size ≤ key.size + 11 := by
  have := decS_size key.size (by omega)
  unfold macP
  rw [ByteArray.size_append, ByteArray.size_append]
  have e : (⟨#[58]⟩ : ByteArray).size = 1 := rfl
  omega
theorem bar_size (a s : ByteArray) : (a ++ ⟨#[124]⟩ ++ s).size = a.size + 1 + s.size := by
  rw [ByteArray.size_append, ByteArray.size_append]; rfl
theorem itS_size (salt h : ByteArray) (hh : h.size = 16) : ∀ k, (itS salt h k).size = 16
  | 0 => hh
  | k + 1 => txtS_size _

set_option maxHeartbeats 1000000 in
theorem iterate_s (salt s : ByteArray) (r : Int) (w : World) (hk : salt.size ≤ 1000000) (hs : s.size ≤ 1000000) (h0 : -9223372036854775808 ≤ r) (h1 : r ≤ 9223372036854775807) :
    Calls Try.prog 17 #[.string salt, .string s, .int .i64 r] w fun e w' => e = .returned (.string (iterS salt s r)) ∧ Below w.heap.size w w' := by
  obtain ⟨p, HP, zp, ep⟩ : ∃ p : ByteArray, Hid (p = salt ++ ⟨#[124]⟩ ++ s) ∧ p.size ≤ 2000011 ∧ salt ++ ⟨#[124]⟩ ++ s = p :=
    ⟨_, Lib.hid rfl, by rw [bar_size]; omega, rfl⟩
  obtain ⟨q, HQ, zq⟩ : ∃ q : ByteArray, Hid (txtS p = q) ∧ q.size = 16 := ⟨_, Lib.hid rfl, txtS_size _⟩
  obtain ⟨N, HN, hN64, hN⟩ : ∃ N : Nat, Hid (iterS salt s r = itS salt q N) ∧ N ≤ 64 ∧ min (max r 0) 64 = (N : Int) :=
    ⟨(min (max r 0) 64).toNat, Lib.hid (by unfold iterS; rw [← HP.out, HQ.out]), by omega, by omega⟩
  go_enter Try.func17, Try.ntmps17
  go_wp2_with fail
  refine (text_s p _ (by omega)).mono ?_
  rintro e w1 ⟨rfl, hb1⟩
  rw [HQ.out]
  go_wp2_with fail
  go_loopw [7, 16] (fun hv i wr => ∃ (k : Nat) (t : ByteArray), k ≤ N ∧ i = .int .i64 k ∧ hv = .string t ∧ Below w.heap.size w wr ∧ t.size = 16 ∧ Hid (t = itS salt q k)) (fun _ i _ => N - (intOf i).toNat)
  case atStart => exact ⟨0, q, Nat.zero_le _, rfl, rfl, hb1, zq, Lib.hid rfl⟩
  case round =>
    obtain ⟨k, t, hk, rfl, rfl, hbel, zk, HK⟩ := hrel
    by_cases hlt : k < N
    · have HT := Lib.hid (show txtS (t ++ ⟨#[124]⟩ ++ salt) = itS salt q (k + 1) by rw [HK.out]; rfl)
      have ZT := Lib.hid (show (t ++ ⟨#[124]⟩ ++ salt).size ≤ 1000000000 by rw [bar_size]; omega)
      go_wp2_with fail
      refine (text_s _ _ ZT.out).mono ?_
      rintro e w2 ⟨rfl, hb2⟩
      go_wp2_with fail
      go_roundw
      case rel => exact ⟨k + 1, _, by omega, by go_num, rfl, hbel.trans (hb2.mono hbel.size), txtS_size _, HT⟩
      case measure => simp [intOf]; omega
    · obtain rfl : k = N := by omega
      go_wp2_with fail
      go_ret
      exact ⟨by rw [HN.out, ← HK.out]; rfl, hbel⟩

theorem dig_sl : ∀ n : Nat, n < 10 → (⟨#[48, 49, 50, 51, 52, 53, 54, 55, 56, 57]⟩ : ByteArray).extract n (n + 1) = decS n := by decide +kernel
theorem decS_step (n : Nat) (h : ¬ n < 10) : decS n = decS (n / 10) ++ decS (n % 10) := by
  unfold decS
  rw [oL_app]
  have e1 : Lib.decDigits n = Lib.decDigits (n / 10) ++ [UInt8.ofNat (48 + n % 10)] := by rw [Lib.decDigits, dif_neg h]
  have e2 : Lib.decDigits (n % 10) = [UInt8.ofNat (48 + n % 10)] := by rw [Lib.decDigits, dif_pos (Nat.mod_lt _ (by decide))]
  rw [e1, e2]
end Go.Proofs.Ytclecajbcmmddaa
