/-
  Base64: what the form's length is, that reading inverts writing and the other way round, and the specification's raw reading. No condition.
-/
import Derived.Test.YtbogmmdmfbcbnaaDoorCodecR64
set_option maxRecDepth 100000
set_option linter.unusedVariables false
set_option linter.unusedSimpArgs false
set_option linter.unnecessarySimpa false
namespace Go.Proofs.YtbogmmdmfbcbnaaDoor

theorem sixV_six : ∀ n : Nat, n < 64 → sixV (six n) = (n : Int) := by decide +kernel
theorem six_sixV_t : ∀ n : Nat, n < 256 → sixV (UInt8.ofNat n) < 0 ∨ six (sixV (UInt8.ofNat n)).toNat = UInt8.ofNat n := by decide +kernel
theorem six_sixV (c : UInt8) (h : ¬ sixV c < 0) : six (sixV c).toNat = c := by
  rcases six_sixV_t c.toNat c.toNat_lt with k | k
  · rw [UInt8.ofNat_toNat] at k; exact absurd k h
  · rwa [UInt8.ofNat_toNat] at k
/-- the value of a character -/
def sv (c : UInt8) : Nat := (sixV c).toNat
theorem sv_lt (c : UInt8) : sv c < 64 := by unfold sv; have := sixV_le c; omega
theorem six_sv {c : UInt8} (h : ¬ sixV c < 0) : six (sv c) = c := six_sixV c h
theorem sv_six (n : Nat) (h : n < 64) : sv (six n) = n := by unfold sv; rw [sixV_six n h]; rfl
theorem six_good (n : Nat) (h : n < 64) : ¬ sixV (six n) < 0 := by rw [sixV_six n h]; omega

theorem enc3 (a b c : UInt8) (r : List UInt8) : encR 0 0 (a :: b :: c :: r) =
    six (a.toNat / 4) :: six ((a.toNat % 4 * 256 + b.toNat) / 16) :: six (((a.toNat % 4 * 256 + b.toNat) % 16 * 256 + c.toNat) / 64) :: six (((a.toNat % 4 * 256 + b.toNat) % 16 * 256 + c.toNat) % 64) :: encR 0 0 r := rfl
theorem enc2 (a b : UInt8) : encR 0 0 [a, b] = [six (a.toNat / 4), six ((a.toNat % 4 * 256 + b.toNat) / 16), six ((a.toNat % 4 * 256 + b.toNat) % 16 * 4)] := rfl
theorem enc1 (a : UInt8) : encR 0 0 [a] = [six (a.toNat / 4), six (a.toNat % 4 * 16)] := rfl
theorem enc_length : ∀ l : List UInt8, (encR 0 0 l).length = (4 * l.length + 2) / 3
  | [] => rfl
  | [a] => by rw [enc1]; simp only [List.length_cons, List.length_nil]
  | [a, b] => by rw [enc2]; simp only [List.length_cons, List.length_nil]
  | a :: b :: c :: r => by
    rw [enc3]
    simp only [List.length_cons]
    rw [enc_length r]; omega

theorem dec4 (a b c d : UInt8) (r : List UInt8) (ha : ¬ sixV a < 0) (hb : ¬ sixV b < 0) (hc : ¬ sixV c < 0) (hd : ¬ sixV d < 0) : decR 0 0 (a :: b :: c :: d :: r) =
    (decR 0 0 r).map fun l => UInt8.ofNat ((sv a * 64 + sv b) / 16) :: UInt8.ofNat (((sv a * 64 + sv b) % 16 * 64 + sv c) / 4) :: UInt8.ofNat (((sv a * 64 + sv b) % 16 * 64 + sv c) % 4 * 64 + sv d) :: l := by
  rw [decR_0, if_neg ha, decR_6, if_neg hb, decR_4, if_neg hc, decR_2, if_neg hd, Option.map_map, Option.map_map, Nat.zero_mul, Nat.zero_add]
  rfl
theorem dec3 (a b c : UInt8) (ha : ¬ sixV a < 0) (hb : ¬ sixV b < 0) (hc : ¬ sixV c < 0) : decR 0 0 [a, b, c] =
    if ((sv a * 64 + sv b) % 16 * 64 + sv c) % 4 = 0 then some [UInt8.ofNat ((sv a * 64 + sv b) / 16), UInt8.ofNat (((sv a * 64 + sv b) % 16 * 64 + sv c) / 4)] else none := by
  rw [decR_0, if_neg ha, decR_6, if_neg hb, decR_4, if_neg hc, decR_nil, Nat.zero_mul, Nat.zero_add]
  show Option.map _ (Option.map _ (if ((sv a * 64 + sv b) % 16 * 64 + sv c) % 4 = 0 then some [] else none)) = _
  split <;> rfl
theorem dec2 (a b : UInt8) (ha : ¬ sixV a < 0) (hb : ¬ sixV b < 0) : decR 0 0 [a, b] =
    if (sv a * 64 + sv b) % 16 = 0 then some [UInt8.ofNat ((sv a * 64 + sv b) / 16)] else none := by
  rw [decR_0, if_neg ha, decR_6, if_neg hb, decR_nil, Nat.zero_mul, Nat.zero_add]
  show Option.map _ (if (sv a * 64 + sv b) % 16 = 0 then some [] else none) = _
  split <;> rfl
theorem dec_bad1 (a : UInt8) (r : List UInt8) (h : sixV a < 0) : decR 0 0 (a :: r) = none := by rw [decR_0, if_pos h]
theorem dec_bad2 (a b : UInt8) (r : List UInt8) (h : sixV b < 0) : decR 0 0 (a :: b :: r) = none := by
  by_cases ha : sixV a < 0
  · exact dec_bad1 _ _ ha
  · rw [decR_0, if_neg ha, decR_6, if_pos h]
theorem dec_bad3 (a b c : UInt8) (r : List UInt8) (h : sixV c < 0) : decR 0 0 (a :: b :: c :: r) = none := by
  by_cases ha : sixV a < 0
  · exact dec_bad1 _ _ ha
  · by_cases hb : sixV b < 0
    · exact dec_bad2 _ _ _ hb
    · rw [decR_0, if_neg ha, decR_6, if_neg hb, decR_4, if_pos h]; rfl
theorem dec_bad4 (a b c d : UInt8) (r : List UInt8) (h : sixV d < 0) : decR 0 0 (a :: b :: c :: d :: r) = none := by
  by_cases ha : sixV a < 0
  · exact dec_bad1 _ _ ha
  · by_cases hb : sixV b < 0
    · exact dec_bad2 _ _ _ hb
    · by_cases hc : sixV c < 0
      · exact dec_bad3 _ _ _ _ hc
      · rw [decR_0, if_neg ha, decR_6, if_neg hb, decR_4, if_neg hc, decR_2, if_pos h]; rfl

theorem byte_eq (c : UInt8) (n : Nat) (h : n = c.toNat) : UInt8.ofNat n = c := by rw [h, UInt8.ofNat_toNat]
theorem dec_enc : ∀ l : List UInt8, decR 0 0 (encR 0 0 l) = some l
  | [] => rfl
  | [a] => by
    have := a.toNat_lt
    rw [enc1, dec2 _ _ (six_good _ (by omega)) (six_good _ (by omega)), sv_six _ (by omega), sv_six _ (by omega), if_pos (by omega), byte_eq a _ (by omega)]
  | [a, b] => by
    have := a.toNat_lt
    have := b.toNat_lt
    rw [enc2, dec3 _ _ _ (six_good _ (by omega)) (six_good _ (by omega)) (six_good _ (by omega)), sv_six _ (by omega), sv_six _ (by omega), sv_six _ (by omega), if_pos (by omega), byte_eq a _ (by omega), byte_eq b _ (by omega)]
  | a :: b :: c :: r => by
    have := a.toNat_lt
    have := b.toNat_lt
    have := c.toNat_lt
    rw [enc3, dec4 _ _ _ _ _ (six_good _ (by omega)) (six_good _ (by omega)) (six_good _ (by omega)) (six_good _ (by omega)), sv_six _ (by omega), sv_six _ (by omega), sv_six _ (by omega), sv_six _ (by omega), dec_enc r,
      byte_eq a _ (by omega), byte_eq b _ (by omega), byte_eq c _ (by omega)]
    rfl
theorem read_enc (l : List UInt8) : read64 (encR 0 0 l) = some l := by
  unfold read64
  rw [enc_length, if_neg (by omega), dec_enc]

theorem six_eq (c : UInt8) (n : Nat) (h : ¬ sixV c < 0) (e : n = sv c) : six n = c := by rw [e, six_sv h]
theorem enc_dec : ∀ (l o : List UInt8), l.length % 4 ≠ 1 → decR 0 0 l = some o → encR 0 0 o = l
  | [], o, _, h => by rw [decR_nil, if_pos rfl] at h; cases h; rfl
  | [a], o, h1, _ => absurd rfl h1
  | [a, b], o, _, h => by
    by_cases ha : sixV a < 0
    · rw [dec_bad1 _ _ ha] at h; cases h
    by_cases hb : sixV b < 0
    · rw [dec_bad2 _ _ _ hb] at h; cases h
    rw [dec2 a b ha hb] at h
    have := sv_lt a
    have := sv_lt b
    split at h
    · cases h
      rw [enc1, UInt8.toNat_ofNat', six_eq a _ ha (by omega), six_eq b _ hb (by omega)]
    · cases h
  | [a, b, c], o, _, h => by
    by_cases ha : sixV a < 0
    · rw [dec_bad1 _ _ ha] at h; cases h
    by_cases hb : sixV b < 0
    · rw [dec_bad2 _ _ _ hb] at h; cases h
    by_cases hc : sixV c < 0
    · rw [dec_bad3 _ _ _ _ hc] at h; cases h
    rw [dec3 a b c ha hb hc] at h
    have := sv_lt a
    have := sv_lt b
    have := sv_lt c
    split at h
    · cases h
      rw [enc2, UInt8.toNat_ofNat', UInt8.toNat_ofNat', six_eq a _ ha (by omega), six_eq b _ hb (by omega), six_eq c _ hc (by omega)]
    · cases h
  | a :: b :: c :: d :: r, o, h1, h => by
    by_cases ha : sixV a < 0
    · rw [dec_bad1 _ _ ha] at h; cases h
    by_cases hb : sixV b < 0
    · rw [dec_bad2 _ _ _ hb] at h; cases h
    by_cases hc : sixV c < 0
    · rw [dec_bad3 _ _ _ _ hc] at h; cases h
    by_cases hd : sixV d < 0
    · rw [dec_bad4 _ _ _ _ _ hd] at h; cases h
    rw [dec4 a b c d r ha hb hc hd] at h
    have := sv_lt a
    have := sv_lt b
    have := sv_lt c
    have := sv_lt d
    cases hr : decR 0 0 r with
    | none => rw [hr] at h; cases h
    | some p =>
      rw [hr] at h
      cases h
      rw [enc3, enc_dec r p (by simp only [List.length_cons] at h1; omega) hr, UInt8.toNat_ofNat', UInt8.toNat_ofNat', UInt8.toNat_ofNat',
        six_eq a _ ha (by omega), six_eq b _ hb (by omega), six_eq c _ hc (by omega), six_eq d _ hd (by omega)]
theorem enc_read {l o : List UInt8} (h : read64 l = some o) : encR 0 0 o = l := by
  unfold read64 at h
  split at h
  · cases h
  · rename_i k; exact enc_dec l o k h

/-- the specification's reading, before it compares -/
def rawR : List UInt8 → Option (List UInt8)
  | [] => some []
  | [_] => none
  | [a, b] => if sixV a < 0 ∨ sixV b < 0 then none else some [UInt8.ofNat ((((sv a * 64 + sv b) * 64) * 64) / 65536)]
  | [a, b, c] => if sixV a < 0 ∨ sixV b < 0 ∨ sixV c < 0 then none else some [UInt8.ofNat ((((sv a * 64 + sv b) * 64 + sv c) * 64) / 65536), UInt8.ofNat ((((sv a * 64 + sv b) * 64 + sv c) * 64) / 256 % 256)]
  | a :: b :: c :: d :: r => if sixV a < 0 ∨ sixV b < 0 ∨ sixV c < 0 ∨ sixV d < 0 then none else
    (rawR r).map fun l => UInt8.ofNat ((((sv a * 64 + sv b) * 64 + sv c) * 64 + sv d) / 65536) :: UInt8.ofNat ((((sv a * 64 + sv b) * 64 + sv c) * 64 + sv d) / 256 % 256) :: UInt8.ofNat ((((sv a * 64 + sv b) * 64 + sv c) * 64 + sv d) % 256) :: l
theorem raw_dec : ∀ (l o : List UInt8), l.length % 4 ≠ 1 → decR 0 0 l = some o → rawR l = some o
  | [], o, _, h => by rw [decR_nil, if_pos rfl] at h; cases h; rfl
  | [a], o, h1, _ => absurd rfl h1
  | [a, b], o, _, h => by
    by_cases ha : sixV a < 0
    · rw [dec_bad1 _ _ ha] at h; cases h
    by_cases hb : sixV b < 0
    · rw [dec_bad2 _ _ _ hb] at h; cases h
    rw [dec2 a b ha hb] at h
    split at h
    · cases h
      unfold rawR
      rw [if_neg (by simp only [not_or]; exact ⟨ha, hb⟩), show (sv a * 64 + sv b) * 64 * 64 / 65536 = (sv a * 64 + sv b) / 16 by omega]
    · cases h
  | [a, b, c], o, _, h => by
    by_cases ha : sixV a < 0
    · rw [dec_bad1 _ _ ha] at h; cases h
    by_cases hb : sixV b < 0
    · rw [dec_bad2 _ _ _ hb] at h; cases h
    by_cases hc : sixV c < 0
    · rw [dec_bad3 _ _ _ _ hc] at h; cases h
    rw [dec3 a b c ha hb hc] at h
    have := sv_lt c
    split at h
    · cases h
      unfold rawR
      rw [if_neg (by simp only [not_or]; exact ⟨ha, hb, hc⟩), show ((sv a * 64 + sv b) * 64 + sv c) * 64 / 65536 = (sv a * 64 + sv b) / 16 by omega,
        show ((sv a * 64 + sv b) * 64 + sv c) * 64 / 256 % 256 = ((sv a * 64 + sv b) % 16 * 64 + sv c) / 4 by omega]
    · cases h
  | a :: b :: c :: d :: r, o, h1, h => by
    by_cases ha : sixV a < 0
    · rw [dec_bad1 _ _ ha] at h; cases h
    by_cases hb : sixV b < 0
    · rw [dec_bad2 _ _ _ hb] at h; cases h
    by_cases hc : sixV c < 0
    · rw [dec_bad3 _ _ _ _ hc] at h; cases h
    by_cases hd : sixV d < 0
    · rw [dec_bad4 _ _ _ _ _ hd] at h; cases h
    rw [dec4 a b c d r ha hb hc hd] at h
    have := sv_lt c
    have := sv_lt d
    cases hr : decR 0 0 r with
    | none => rw [hr] at h; cases h
    | some p =>
      rw [hr] at h
      cases h
      unfold rawR
      rw [if_neg (by simp only [not_or]; exact ⟨ha, hb, hc, hd⟩), raw_dec r p (by simp only [List.length_cons] at h1; omega) hr,
        show (((sv a * 64 + sv b) * 64 + sv c) * 64 + sv d) / 65536 = (sv a * 64 + sv b) / 16 by omega,
        show (((sv a * 64 + sv b) * 64 + sv c) * 64 + sv d) / 256 % 256 = ((sv a * 64 + sv b) % 16 * 64 + sv c) / 4 by omega,
        show (((sv a * 64 + sv b) * 64 + sv c) * 64 + sv d) % 256 = ((sv a * 64 + sv b) % 16 * 64 + sv c) % 4 * 64 + sv d by omega]
      rfl
/-- reading is the raw reading, where the form comes back -/
theorem read_raw (l : List UInt8) : read64 l = match rawR l with
    | some o => if encR 0 0 o = l then some o else none
    | none => none := by
  have key : ∀ o, read64 l = some o → rawR l = some o ∧ encR 0 0 o = l := fun o h => by
    refine ⟨?_, enc_read h⟩
    unfold read64 at h
    split at h
    · cases h
    · rename_i k; exact raw_dec l o k h
  cases h : rawR l with
  | none =>
    cases h2 : read64 l with
    | none => rfl
    | some o => rw [(key o h2).1] at h; cases h
  | some o =>
    show _ = if encR 0 0 o = l then some o else none
    by_cases h3 : encR 0 0 o = l
    · rw [if_pos h3, ← h3, read_enc]
    · rw [if_neg h3]
      cases h2 : read64 l with
      | none => rfl
      | some p =>
        obtain ⟨k1, k2⟩ := key p h2
        rw [k1] at h; cases h; exact absurd k2 h3

/-! one round of the specification's loop -/
/-- the value after j characters from place i on; what lies behind the end counts 0 -/
def nv (s : ByteArray) (i : Nat) : Nat → Nat
  | 0 => 0
  | j + 1 => nv s i j * 64 + (if i + j < s.size then sv (chr s (i + j)) else 0)
theorem nv_in {s : ByteArray} {i j : Nat} (h : i + j < s.size) : nv s i (j + 1) = nv s i j * 64 + sv (chr s (i + j)) := by
  show nv s i j * 64 + (if _ then _ else 0) = _; rw [if_pos h]
theorem nv_out {s : ByteArray} {i j : Nat} (h : ¬ i + j < s.size) : nv s i (j + 1) = nv s i j * 64 := by
  show nv s i j * 64 + (if _ then _ else 0) = _; rw [if_neg h]; rfl
theorem nv_lt (s : ByteArray) (i : Nat) : ∀ j, nv s i j < 64 ^ j
  | 0 => by show 0 < 64 ^ 0; decide
  | j + 1 => by
    have h1 := nv_lt s i j
    have h2 := sv_lt (chr s (i + j))
    rw [Nat.pow_succ]
    by_cases h : i + j < s.size
    · rw [nv_in h]; omega
    · rw [nv_out h]; omega
theorem raw_bad (s : ByteArray) (i j : Nat) (hj : j < 4) (h : i + j < s.size) (hv : sixV (chr s (i + j)) < 0) : rawR (s.data.toList.drop i) = none := by
  have d0 := drop_chr s i (by omega)
  rw [d0]
  rcases (show j = 0 ∨ j = 1 ∨ j = 2 ∨ j = 3 by omega) with rfl | rfl | rfl | rfl
  · generalize s.data.toList.drop (i + 1) = r
    rcases r with _ | ⟨b, _ | ⟨c, _ | ⟨d, r⟩⟩⟩ <;> unfold rawR <;> first | rfl | exact if_pos (.inl hv)
  · rw [drop_chr s (i + 1) h]
    generalize s.data.toList.drop (i + 1 + 1) = r
    rcases r with _ | ⟨c, _ | ⟨d, r⟩⟩ <;> unfold rawR <;> exact if_pos (by simp [hv])
  · rw [drop_chr s (i + 1) (by omega), drop_chr s (i + 1 + 1) h]
    have hv2 : sixV (chr s (i + 1 + 1)) < 0 := hv
    generalize s.data.toList.drop (i + 1 + 1 + 1) = r
    rcases r with _ | ⟨d, r⟩ <;> unfold rawR <;> exact if_pos (by simp [hv2])
  · rw [drop_chr s (i + 1) (by omega), drop_chr s (i + 1 + 1) (by omega), drop_chr s (i + 1 + 1 + 1) h]
    unfold rawR
    exact if_pos (.inr (.inr (.inr hv)))
theorem raw_one (s : ByteArray) (i : Nat) (h : i + 1 = s.size) : rawR (s.data.toList.drop i) = none := by
  rw [drop_chr s i (by omega), show s.data.toList.drop (i + 1) = [] by rw [List.drop_eq_nil_iff]; simp; omega]; rfl
/-- the bytes of a round -/
def outR (n k : Nat) : List UInt8 := if k = 2 then [UInt8.ofNat (n / 65536)] else if k = 3 then [UInt8.ofNat (n / 65536), UInt8.ofNat (n / 256 % 256)] else [UInt8.ofNat (n / 65536), UInt8.ofNat (n / 256 % 256), UInt8.ofNat (n % 256)]
theorem raw_round (s : ByteArray) (i k : Nat) (hk : k = min 4 (s.size - i)) (h2 : 2 ≤ k) (hg : ∀ j, j < 4 → i + j < s.size → ¬ sixV (chr s (i + j)) < 0) :
    rawR (s.data.toList.drop i) = (rawR (s.data.toList.drop (i + 4))).map (outR (nv s i 4) k ++ ·) := by
  have g0 := hg 0 (by omega) (by omega)
  have g1 := hg 1 (by omega) (by omega)
  have e0 : ∀ x, x + 0 = x := fun x => rfl
  rcases (show k = 2 ∨ k = 3 ∨ k = 4 by omega) with rfl | rfl | rfl
  · rw [drop_chr s i (by omega), drop_chr s (i + 1) (by omega), show s.data.toList.drop (i + 1 + 1) = [] by rw [List.drop_eq_nil_iff]; simp; omega, show s.data.toList.drop (i + 4) = [] by rw [List.drop_eq_nil_iff]; simp; omega]
    unfold rawR
    rw [if_neg (by simp only [not_or]; exact ⟨g0, g1⟩)]
    rw [nv_out (show ¬ i + 3 < s.size by omega), nv_out (show ¬ i + 2 < s.size by omega), nv_in (show i + 1 < s.size by omega), nv_in (show i + 0 < s.size by omega)]
    simp [outR, nv]
  · have g2 := hg 2 (by omega) (by omega)
    rw [drop_chr s i (by omega), drop_chr s (i + 1) (by omega), drop_chr s (i + 1 + 1) (by omega), show s.data.toList.drop (i + 1 + 1 + 1) = [] by rw [List.drop_eq_nil_iff]; simp; omega, show s.data.toList.drop (i + 4) = [] by rw [List.drop_eq_nil_iff]; simp; omega]
    unfold rawR
    rw [if_neg (by simp only [not_or]; exact ⟨g0, g1, g2⟩)]
    rw [nv_out (show ¬ i + 3 < s.size by omega), nv_in (show i + 2 < s.size by omega), nv_in (show i + 1 < s.size by omega), nv_in (show i + 0 < s.size by omega)]
    simp [outR, nv]
  · have g2 := hg 2 (by omega) (by omega)
    have g3 := hg 3 (by omega) (by omega)
    rw [drop_chr s i (by omega), drop_chr s (i + 1) (by omega), drop_chr s (i + 1 + 1) (by omega), drop_chr s (i + 1 + 1 + 1) (by omega)]
    conv => lhs; unfold rawR
    rw [if_neg (by simp only [not_or]; exact ⟨g0, g1, g2, g3⟩)]
    rw [nv_in (show i + 3 < s.size by omega), nv_in (show i + 2 < s.size by omega), nv_in (show i + 1 < s.size by omega), nv_in (show i + 0 < s.size by omega)]
    simp [outR, nv]

end Go.Proofs.YtbogmmdmfbcbnaaDoor
