/-
  Plain functions for digests: the 64-bit digest of a list of bytes, the 16 hexadecimal digits of a number and reading them back, and that strings which differ in one byte have different digests. Nothing of the program stands here. No condition.
-/
import Derived.Test.YtbogmmdmfbcbnaaDoorFoldA
import Derived.Lib.TrimByte
import Derived.Laws.Bits64
set_option maxRecDepth 100000
set_option linter.unusedVariables false
set_option linter.unusedSimpArgs false
set_option linter.unnecessarySimpa false
namespace Go.Proofs.YtbogmmdmfbcbnaaDoor
open Go.PlainAid

def xsN (h : Nat) : Nat := h ^^^ h / 8589934592
def mulN (h f : Nat) : Nat := h * f % 18446744073709551616
def mixN (h : Nat) : Nat := xsN (mulN (xsN (mulN (xsN h) 18397679294719823053)) 14181476777654086739)
def stepN (h : Nat) (c : UInt8) : Nat := mulN (h ^^^ c.toNat) 1099511628211
def fnvA (h : Nat) (l : List UInt8) : Nat := l.foldl stepN h
def fnvN (l : List UInt8) : Nat := fnvA 14695981039346656037 l
def sumN (l : List UInt8) : Nat := mixN (fnvN l)

theorem mulN_lt (h f : Nat) : mulN h f < 18446744073709551616 := Nat.mod_lt _ (by decide)
theorem xor_lt64 {a b : Nat} (ha : a < 18446744073709551616) (hb : b < 18446744073709551616) : a ^^^ b < 18446744073709551616 :=
  Nat.xor_lt_two_pow (n := 64) ha hb
theorem xsN_lt {h : Nat} (hh : h < 18446744073709551616) : xsN h < 18446744073709551616 :=
  xor_lt64 hh (Nat.lt_of_le_of_lt (Nat.div_le_self _ _) hh)
theorem mixN_lt (h : Nat) : mixN h < 18446744073709551616 := xsN_lt (mulN_lt _ _)
theorem stepN_lt (h : Nat) (c : UInt8) : stepN h c < 18446744073709551616 := mulN_lt _ _
theorem fnvA_lt : ∀ (l : List UInt8) (h : Nat), h < 18446744073709551616 → fnvA h l < 18446744073709551616
  | [], h, hh => hh
  | c :: l, h, hh => by
    show fnvA (stepN h c) l < _
    exact fnvA_lt l _ (stepN_lt h c)
theorem fnvN_lt (l : List UInt8) : fnvN l < 18446744073709551616 := fnvA_lt l _ (by decide)
theorem sumN_lt (l : List UInt8) : sumN l < 18446744073709551616 := mixN_lt _
theorem fnvN_snoc (l : List UInt8) (c : UInt8) : fnvN (l ++ [c]) = stepN (fnvN l) c := by
  unfold fnvN fnvA
  rw [List.foldl_append, List.foldl_cons, List.foldl_nil]
theorem fnvA_append (h : Nat) (l m : List UInt8) : fnvA h (l ++ m) = fnvA (fnvA h l) m := by
  unfold fnvA
  rw [List.foldl_append]

/-- the shift by 33 bits undoes itself -/
theorem xsN_xsN (h : Nat) (hh : h < 18446744073709551616) : xsN (xsN h) = h := by
  have e : ∀ x : Nat, x / 8589934592 = x >>> 33 := fun x => by rw [Nat.shiftRight_eq_div_pow]
  unfold xsN
  rw [e (h ^^^ h / 8589934592), e h, Nat.shiftRight_xor_distrib, ← Nat.shiftRight_add]
  have z : h >>> (33 + 33) = 0 := by
    rw [Nat.shiftRight_eq_div_pow]
    exact Nat.div_eq_of_lt (by omega)
  rw [z, Nat.xor_zero, Nat.xor_assoc, Nat.xor_self, Nat.xor_zero]
theorem xsN_inj {a b : Nat} (ha : a < 18446744073709551616) (hb : b < 18446744073709551616) (h : xsN a = xsN b) : a = b := by
  rw [← xsN_xsN a ha, h, xsN_xsN b hb]
theorem mulN_inv (a f g : Nat) (ha : a < 18446744073709551616) (hfg : f * g % 18446744073709551616 = 1) : mulN (mulN a f) g = a := by
  unfold mulN
  rw [Nat.mod_mul_mod, Nat.mul_assoc, ← Nat.mul_mod_mod, hfg, Nat.mul_one]
  exact Nat.mod_eq_of_lt ha
theorem mulN_inj {a b f : Nat} (g : Nat) (ha : a < 18446744073709551616) (hb : b < 18446744073709551616) (hfg : f * g % 18446744073709551616 = 1) (h : mulN a f = mulN b f) : a = b := by
  rw [← mulN_inv a f g ha hfg, h, mulN_inv b f g hb hfg]
theorem mixN_inj {a b : Nat} (ha : a < 18446744073709551616) (hb : b < 18446744073709551616) (h : mixN a = mixN b) : a = b := by
  unfold mixN at h
  have h1 := xsN_inj (mulN_lt _ _) (mulN_lt _ _) h
  have h2 := mulN_inj 11291846944257947611 (xsN_lt (mulN_lt _ _)) (xsN_lt (mulN_lt _ _)) (by decide +kernel) h1
  have h3 := xsN_inj (mulN_lt _ _) (mulN_lt _ _) h2
  have h4 := mulN_inj 5725274745694666757 (xsN_lt ha) (xsN_lt hb) (by decide +kernel) h3
  exact xsN_inj ha hb h4
theorem byte_lt (c : UInt8) : c.toNat < 18446744073709551616 := by have := c.toNat_lt; omega
theorem stepN_inj {a b : Nat} (c : UInt8) (ha : a < 18446744073709551616) (hb : b < 18446744073709551616) (h : stepN a c = stepN b c) : a = b := by
  have h1 := mulN_inj 14886173955864302971 (xor_lt64 ha (byte_lt c)) (xor_lt64 hb (byte_lt c)) (by decide +kernel) h
  have h2 : (a ^^^ c.toNat) ^^^ c.toNat = (b ^^^ c.toNat) ^^^ c.toNat := by rw [h1]
  rwa [Nat.xor_assoc, Nat.xor_assoc, Nat.xor_self, Nat.xor_zero, Nat.xor_zero] at h2
theorem fnvA_inj : ∀ (l : List UInt8) {a b : Nat}, a < 18446744073709551616 → b < 18446744073709551616 → fnvA a l = fnvA b l → a = b
  | [], a, b, _, _, h => h
  | c :: l, a, b, ha, hb, h => stepN_inj c ha hb (fnvA_inj l (stepN_lt a c) (stepN_lt b c) h)
theorem stepN_byte {h : Nat} (c d : UInt8) (hh : h < 18446744073709551616) (e : stepN h c = stepN h d) : c = d := by
  have h1 := mulN_inj 14886173955864302971 (xor_lt64 hh (byte_lt c)) (xor_lt64 hh (byte_lt d)) (by decide +kernel) e
  have h2 : h ^^^ (h ^^^ c.toNat) = h ^^^ (h ^^^ d.toNat) := by rw [h1]
  rw [← Nat.xor_assoc, ← Nat.xor_assoc, Nat.xor_self, Nat.zero_xor, Nat.zero_xor] at h2
  exact UInt8.toNat_inj.1 h2
/-- strings that differ in one byte have different digests -/
theorem sumN_byte (l m : List UInt8) (c d : UInt8) (h : sumN (l ++ [c] ++ m) = sumN (l ++ [d] ++ m)) : c = d := by
  unfold sumN at h
  have h1 := mixN_inj (fnvN_lt _) (fnvN_lt _) h
  unfold fnvN at h1
  rw [fnvA_append, fnvA_append _ _ m] at h1
  have hl : ∀ x : UInt8, fnvA 14695981039346656037 (l ++ [x]) = stepN (fnvN l) x := fun x => fnvN_snoc l x
  rw [hl, hl] at h1
  have h2 := fnvA_inj m (stepN_lt _ _) (stepN_lt _ _) h1
  exact stepN_byte c d (fnvN_lt l) h2

/-- a hexadecimal digit, and the lowest k digits of a number -/
def hexD (d : Nat) : UInt8 := if d < 10 then UInt8.ofNat (48 + d) else UInt8.ofNat (87 + d)
def hexK : Nat → Nat → List UInt8
  | 0, _ => []
  | k + 1, n => hexK k (n / 16) ++ [hexD (n % 16)]
def hexN (n : Nat) : List UInt8 := hexK 16 n
theorem hexK_length : ∀ k n, (hexK k n).length = k
  | 0, _ => rfl
  | k + 1, n => by unfold hexK; rw [List.length_append, hexK_length k]; rfl
theorem hexK_front : ∀ k n, hexK (k + 1) n = hexD (n / 16 ^ k % 16) :: hexK k n
  | 0, n => by unfold hexK hexK; simp
  | k + 1, n => by
    have h1 : hexK (k + 1 + 1) n = hexK (k + 1) (n / 16) ++ [hexD (n % 16)] := by rw [hexK]
    have h2 : hexK (k + 1) n = hexK k (n / 16) ++ [hexD (n % 16)] := by rw [hexK]
    rw [h1, hexK_front k (n / 16), h2, List.cons_append, Nat.div_div_eq_div_mul, Nat.pow_succ, Nat.mul_comm (16 ^ k) 16]
/-- the value of a hexadecimal digit -/
def hexO (c : UInt8) : Option Nat := if 48 ≤ c.toNat ∧ c.toNat ≤ 57 then some (c.toNat - 48) else if 97 ≤ c.toNat ∧ c.toNat ≤ 102 then some (c.toNat - 87) else none
def rdA : Nat → List UInt8 → Option Nat
  | acc, [] => some acc
  | acc, c :: r => match hexO c with
    | some d => rdA (acc * 16 + d) r
    | none => none
/-- what ReadHex returns -/
def rdO (l : List UInt8) : Option Nat := if l.length = 16 then rdA 0 l else none
def rdV (l : List UInt8) : Nat := (rdO l).getD 0
def rdE (l : List UInt8) : Int := if (rdO l).isSome then 0 else 4
theorem hexO_lt {c : UInt8} {d : Nat} (h : hexO c = some d) : d < 16 := by
  unfold hexO at h
  split at h
  · cases h; omega
  · split at h
    · cases h; omega
    · cases h
theorem hexO_hexD (d : Nat) (h : d < 16) : hexO (hexD d) = some d := by
  have : ∀ d : Nat, d < 16 → hexO (hexD d) = some d := by decide +kernel
  exact this d h
theorem hexD_hexO {c : UInt8} {d : Nat} (h : hexO c = some d) : hexD d = c := by
  have : ∀ n : Nat, n < 256 → ∀ d : Nat, d < 16 → hexO (UInt8.ofNat n) = some d → hexD d = UInt8.ofNat n := by decide +kernel
  have := this c.toNat c.toNat_lt d (hexO_lt h)
  rw [UInt8.ofNat_toNat] at this
  exact this h
theorem rdA_snoc : ∀ (l : List UInt8) (acc : Nat) (c : UInt8), rdA acc (l ++ [c]) = (rdA acc l).bind fun v => (hexO c).map (v * 16 + ·)
  | [], acc, c => by
    show rdA acc [c] = _
    unfold rdA
    cases hexO c <;> rfl
  | b :: l, acc, c => by
    rw [List.cons_append]
    unfold rdA
    cases hexO b with
    | none => rfl
    | some d => exact rdA_snoc l _ c
theorem rdA_hexK : ∀ (k n : Nat), n < 16 ^ k → rdA 0 (hexK k n) = some n
  | 0, n, h => by
    have : n = 0 := by simpa using h
    subst this; rfl
  | k + 1, n, h => by
    rw [hexK, rdA_snoc, rdA_hexK k (n / 16) (by rw [Nat.pow_succ] at h; omega), hexO_hexD _ (by omega)]
    show some (n / 16 * 16 + n % 16) = some n
    congr 1; omega
theorem hexK_rdA : ∀ (k : Nat) (l : List UInt8) (n : Nat), l.length = k → rdA 0 l = some n → hexK k n = l ∧ n < 16 ^ k
  | 0, l, n, hl, h => by
    have : l = [] := List.length_eq_zero_iff.1 hl
    subst this; cases h; exact ⟨rfl, by decide⟩
  | k + 1, l, n, hl, h => by
    have hne : l ≠ [] := by intro e; subst e; cases hl
    obtain ⟨m, c, rfl⟩ : ∃ m c, l = m ++ [c] := ⟨l.dropLast, l.getLast hne, (List.dropLast_concat_getLast hne).symm⟩
    rw [rdA_snoc] at h
    rw [List.length_append] at hl
    cases hv : rdA 0 m with
    | none => rw [hv] at h; cases h
    | some v =>
      rw [hv] at h
      cases hc : hexO c with
      | none => rw [hc] at h; cases h
      | some d =>
        rw [hc] at h
        have hd := hexO_lt hc
        obtain ⟨h1, h2⟩ := hexK_rdA k m v (by simpa using hl) hv
        have e : v * 16 + d = n := by simpa using h
        rw [hexK, show n / 16 = v by omega, show n % 16 = d by omega, h1, hexD_hexO hc]
        exact ⟨rfl, by rw [Nat.pow_succ]; omega⟩
theorem rdO_hexN (n : Nat) (h : n < 18446744073709551616) : rdO (hexN n) = some n := by
  have e : (hexN n).length = 16 := hexK_length 16 n
  unfold rdO
  rw [if_pos e]
  unfold hexN
  exact rdA_hexK 16 n h
theorem hexN_rdO {l : List UInt8} {n : Nat} (h : rdO l = some n) : hexN n = l ∧ n < 18446744073709551616 := by
  unfold rdO at h
  split at h
  · rename_i hl
    exact hexK_rdA 16 l n hl h
  · cases h
theorem rdA_lt {l : List UInt8} {n : Nat} (h : rdA 0 l = some n) : n < 16 ^ l.length := (hexK_rdA _ l n rfl h).2
theorem rdA_none_append : ∀ (l m : List UInt8) (acc : Nat), rdA acc l = none → rdA acc (l ++ m) = none
  | [], m, acc, h => by cases h
  | c :: l, m, acc, h => by
    rw [List.cons_append]
    unfold rdA at h ⊢
    cases hc : hexO c with
    | none => rfl
    | some d => rw [hc] at h; exact rdA_none_append l m _ h
theorem rdV_of {l : List UInt8} {n : Nat} (h : rdO l = some n) : rdV l = n ∧ rdE l = 0 := by
  unfold rdV rdE; rw [h]; exact ⟨rfl, rfl⟩
theorem rdV_no {l : List UInt8} (h : rdO l = none) : rdV l = 0 ∧ rdE l = 4 := by
  unfold rdV rdE; rw [h]; exact ⟨rfl, rfl⟩

/-- Text's answer -/
def txtL (l : List UInt8) : List UInt8 := hexN (sumN l)
def txtS (s : ByteArray) : ByteArray := ⟨(txtL s.data.toList).toArray⟩
theorem txtL_length (l : List UInt8) : (txtL l).length = 16 := by unfold txtL hexN; exact hexK_length 16 _
theorem txtS_size (s : ByteArray) : (txtS s).size = 16 := by unfold txtS; rw [Lib.size_mk]; exact txtL_length _

end Go.Proofs.YtbogmmdmfbcbnaaDoor
