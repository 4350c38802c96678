/-
  What the digest laws of a seat share: the library's table of powers lies as the contracts ask, and the specification's contracts with their answers named.
-/
import Derived.Test.YtnncfifpgjlpaaaDoorDigAlive
import Derived.Stop.LaidErr
set_option linter.unusedVariables false
set_option linter.unusedSimpArgs false
set_option linter.unnecessarySimpa false
namespace Go.Proofs.YtnncfifpgjlpaaaDoor
open Go.ChangeShapes Go.WideShapes Go.ChangeAt Go.RowKit Go.PlainAid

theorem pok {W : World} (hL : laidMetH Tryd.prog [("math/bits.deBruijn32tab", Rows.laid_math_bits_deBruijn32tab), ("math/bits.deBruijn64tab", Rows.laid_math_bits_deBruijn64tab), ("internal/strconv.uint64pow10", Rows.laid_internal_strconv_uint64pow10)] W) : PowOk W := by
  rw [MakeChecks.laidMetH_plain _ _ _ (by kernel_rfl)] at hL
  exact Lib.tabIs_of_head (g := 1) (by kernel_rfl) (by kernel_rfl) Tryd.underlying62 Tryd.underlying22 (by kernel_rfl) (by kernel_rfl) hL.tail.tail
theorem u64_nat {n : Int} (h : (Lit.int .u64 n).wf = true) : ∃ m : Nat, n = (m : Int) ∧ m < 18446744073709551616 := by
  unfold Lit.wf at h
  rw [Bool.and_eq_true, decide_eq_true_iff, decide_eq_true_iff] at h
  have h1 : (0 : Int) ≤ n := h.1
  have h2 : n ≤ 18446744073709551615 := h.2
  exact ⟨n.toNat, by omega, by omega⟩
theorem u8_byte {n : Int} (h : (Lit.int .u8 n).wf = true) : ∃ c : UInt8, n = (c.toNat : Int) := by
  unfold Lit.wf at h
  rw [Bool.and_eq_true, decide_eq_true_iff, decide_eq_true_iff] at h
  have h1 : (0 : Int) ≤ n := h.1
  have h2 : n ≤ 255 := h.2
  exact ⟨UInt8.ofNat n.toNat, by rw [UInt8.toNat_ofNat']; omega⟩
theorem int_range {n : Int} (h : (Lit.int .i64 n).wf = true) : -9223372036854775808 ≤ n ∧ n ≤ 9223372036854775807 := by
  unfold Lit.wf at h
  rw [Bool.and_eq_true, decide_eq_true_iff, decide_eq_true_iff] at h
  exact h
theorem rsum_k (s : ByteArray) (n : Nat) (w : World) (hs : s.size ≤ 1000000000) (h : sumN s.data.toList = n) :
    Calls Tryd.prog 13 #[.string s] w fun e w' => e = .returned (.int .u64 n) ∧ w = w' := by
  subst h; exact rsum_s s w hs
theorem rhex_k (n : Nat) (r : ByteArray) (w : World) (hn : n < 18446744073709551616) (h : (⟨(hexN n).toArray⟩ : ByteArray) = r) :
    Calls Tryd.prog 15 #[.int .u64 n] w fun e w' => e = .returned (.string r) ∧ w = w' := by
  subst h; exact rhex_s n w hn
theorem rreadHex_k (s : ByteArray) (n : Nat) (e0 : Int) (w : World) (hs : s.size ≤ 1000000000) (h : rdV s.data.toList = n ∧ rdE s.data.toList = e0) :
    Calls Tryd.prog 19 #[.string s] w fun e w' => e = .returned (.tuple #[.int .u64 n, .int .i64 e0]) ∧ w = w' := by
  obtain ⟨rfl, rfl⟩ := h; exact rreadHex_s s w hs
theorem rmac_k (key s r : ByteArray) (w : World) (hk : key.size ≤ 1000000) (hs : s.size ≤ 1000000) (h : macS key s = r) :
    Calls Tryd.prog 21 #[.string key, .string s] w fun e w' => e = .returned (.string r) ∧ w = w' := by
  subst h; exact rmac_s key s w hk hs
theorem rchain_k (a s r : ByteArray) (w : World) (hk : a.size ≤ 1000000) (hs : s.size ≤ 1000000) (h : chainS a s = r) :
    Calls Tryd.prog 25 #[.string a, .string s] w fun e w' => e = .returned (.string r) ∧ w = w' := by
  subst h; exact rchain_s a s w hk hs
theorem riterate_k (salt s x : ByteArray) (r : Int) (w : World) (hk : salt.size ≤ 1000000) (hs : s.size ≤ 1000000) (h0 : -9223372036854775808 ≤ r) (h1 : r ≤ 9223372036854775807) (h : iterS salt s r = x) :
    Calls Tryd.prog 23 #[.string salt, .string s, .int .i64 r] w fun e w' => e = .returned (.string x) ∧ w = w' := by
  subst h; exact riterate_s salt s r w hk hs h0 h1
theorem rroot_k (ao : Option Addr) (n cap : Nat) (ps : List ByteArray) (r : ByteArray) (w : World) (h : StrsAt w ao n cap ps) (hn : n ≤ 1000) (hp : ∀ j, j < n → (partAt ps j).size ≤ 1000) (hr : rootS ps = r) :
    Calls Tryd.prog 30 #[.slice ao n cap] w fun e w' => e = .returned (.string r) ∧ Below w.heap.size w w' := by
  subst hr; exact rroot_s ao n cap ps w h hn hp
theorem rpath_k (ao : Option Addr) (n cap : Nat) (ps Q : List ByteArray) (i m : Nat) (w : World) (h : StrsAt w ao n cap ps) (hn : n ≤ 1000) (hp : ∀ j, j < n → (partAt ps j).size ≤ 1000) (hi : i < n) (hQ : pathL (ps.map leafS) i = Q) (hm : Q.length = m) :
    Calls Tryd.prog 28 #[.slice ao n cap, .int .i64 i] w fun e w' => (∃ bo dap, e = .returned (.tuple #[.slice bo m dap, .int .i64 0]) ∧ StrsAt w' bo m dap Q) ∧ Below w.heap.size w w' := by
  subst hQ hm; exact rpath_s ao n cap ps i w h hn hp hi
theorem same_k (ao bo : Option Addr) (n m cap dap : Nat) (ps qs : List ByteArray) (r : Bool) (w : World) (h : StrsAt w ao n cap ps) (k : StrsAt w bo m dap qs) (hr : decide (ps = qs) = r) :
    Calls Tryd.prog 31 #[.slice ao n cap, .slice bo m dap] w fun e w' => e = .returned (.bool r) ∧ Below w.heap.size w w' := by
  subst hr; exact same_s ao bo n m cap dap ps qs w h k
theorem short_k (ao : Option Addr) (n cap : Nat) (ps : List ByteArray) (r : Bool) (w : World) (h : StrsAt w ao n cap ps) (hr : shortB ps = r) :
    Calls Tryd.prog 26 #[.slice ao n cap] w fun e w' => e = .returned (.bool r) ∧ w = w' := by
  subst hr; exact short_s ao n cap ps w h
/-- Proves for whatever ints -/
theorem proves_i (root s : ByteArray) (i n : Int) (ao : Option Addr) (l cap : Nat) (ps : List ByteArray) (r : Bool) (w : World) (h1 : i ≤ 9223372036854775807) (g1 : n ≤ 9223372036854775807) (hs : s.size ≤ 1000)
    (h : StrsAt w ao l cap ps) (hl : l ≤ 1000) (hp : ∀ j, j < ps.length → (partAt ps j).size ≤ 1000) (hr : provesB root s i n ps = r) :
    Calls Tryd.prog 32 #[.string root, .string s, .int .i64 i, .int .i64 n, .slice ao l cap] w fun e w' => e = .returned (.bool r) ∧ Below w.heap.size w w' := by
  subst hr
  by_cases hb : i < 0 ∨ n ≤ i
  · exact (proves_no root s i n ao l cap ps w hb).mono fun e w' ⟨a, b⟩ => ⟨a, b ▸ Below.refl _ _⟩
  · obtain ⟨i', rfl⟩ := Int.eq_ofNat_of_zero_le (show 0 ≤ i by omega)
    obtain ⟨n', rfl⟩ := Int.eq_ofNat_of_zero_le (show 0 ≤ n by omega)
    exact proves_yes root s i' n' ao l cap ps w (by omega) (by omega) hs h hl hp
theorem rproves_k (root s : ByteArray) (i n : Int) (ao : Option Addr) (l cap : Nat) (ps : List ByteArray) (r : Bool) (w : World) (h1 : i ≤ 9223372036854775807) (g1 : n ≤ 9223372036854775807) (hs : s.size ≤ 1000)
    (h : StrsAt w ao l cap ps) (hl : l ≤ 1000) (hp : ∀ j, j < ps.length → (partAt ps j).size ≤ 1000) (hr : provesB root s i n ps = r) :
    Calls Tryd.prog 33 #[.string root, .string s, .int .i64 i, .int .i64 n, .slice ao l cap] w fun e w' => e = .returned (.bool r) ∧ Below w.heap.size w w' := by
  subst hr; exact rproves_s root s i n ao l cap ps w h1 g1 hs h hl hp

end Go.Proofs.YtnncfifpgjlpaaaDoor
