/-
  Decimal numerals and their values: what ReadInt returns, by the value of the digits. No condition.
-/
import Derived.Test.YtbogmmdmfbcbnaaDoorCodecInt
set_option maxRecDepth 100000
set_option linter.unusedVariables false
set_option linter.unusedSimpArgs false
set_option linter.unnecessarySimpa false
namespace Go.Proofs.YtbogmmdmfbcbnaaDoor

/-- the value of digits behind acc -/
def valA (acc : Nat) (l : List UInt8) : Nat := l.foldl (fun a c => 10 * a + (c.toNat - 48)) acc
def valD (l : List UInt8) : Nat := valA 0 l
theorem valA_cons (a : Nat) (c : UInt8) (l : List UInt8) : valA a (c :: l) = valA (10 * a + (c.toNat - 48)) l := by
  unfold valA
  rw [List.foldl_cons]
theorem valD_snoc (l : List UInt8) (c : UInt8) : valD (l ++ [c]) = 10 * valD l + (c.toNat - 48) := by
  unfold valD valA
  rw [List.foldl_append, List.foldl_cons, List.foldl_nil]
theorem valA_ge : ∀ (l : List UInt8) (a : Nat), a ≤ valA a l
  | [], a => Nat.le_refl _
  | c :: l, a => by rw [valA_cons]; exact Nat.le_trans (by omega) (valA_ge l _)
theorem valA_mono : ∀ (l : List UInt8) (a b : Nat), a ≤ b → valA a l ≤ valA b l
  | [], a, b, h => h
  | c :: l, a, b, h => by rw [valA_cons, valA_cons]; exact valA_mono l _ _ (by omega)
theorem valD_take_le (l : List UInt8) (k : Nat) : valD (l.take k) ≤ valD l := by
  have h : valD l = valA (valD (l.take k)) (l.drop k) := by
    unfold valD valA
    rw [← List.foldl_append, List.take_append_drop]
  rw [h]; exact valA_ge _ _
theorem digB_bounds {c : UInt8} (h : digB c = true) : 48 ≤ c.toNat ∧ c.toNat ≤ 57 := by simpa [digB] using h
theorem parse_val : ∀ (l : List UInt8) (acc : Nat), acc < 18446744073709551616 → l.all digB = true →
    Lib.parseUint10 acc l = if valA acc l < 18446744073709551616 then .ok (valA acc l) else .range
  | [], acc, ha, h => by rw [if_pos (show valA acc [] < _ from ha)]; rfl
  | c :: r, acc, ha, h => by
    rw [List.all_cons, Bool.and_eq_true] at h
    have hc := digB_bounds h.1
    have hg := valA_ge r (10 * acc + (c.toNat - 48))
    unfold Lib.parseUint10
    rw [if_pos hc, valA_cons]
    split
    · rw [if_neg (by omega)]
    · split
      · rw [if_neg (by omega)]
      · rw [Nat.mul_comm acc 10]
        exact parse_val r _ (by omega) h.2
theorem val_dec (u : Nat) : valD (Lib.decDigits u) = u := by
  induction u using Nat.strongRecOn with
  | _ u ih =>
    by_cases h : u < 10
    · rw [Lib.decDigits, dif_pos h]
      show 10 * 0 + ((UInt8.ofNat (48 + u)).toNat - 48) = u
      rw [UInt8.toNat_ofNat']; omega
    · rw [Lib.decDigits, dif_neg h, valD_snoc, ih (u / 10) (by omega), UInt8.toNat_ofNat']; omega
theorem digs_snoc {l : List UInt8} {c : UInt8} (h : digsB l = true) (hc : digB c = true) : digsB (l ++ [c]) = true := by
  cases l with
  | nil => cases h
  | cons d r =>
    unfold digsB at h ⊢
    rw [List.cons_append]
    simp only [Bool.and_eq_true, List.all_cons, List.all_append, List.all_nil] at h ⊢
    exact ⟨h.1, h.2.1, h.2.2, hc, trivial⟩
theorem dig_of (d : Nat) (h : d < 10) : digB (UInt8.ofNat (48 + d)) = true := by
  unfold digB; rw [UInt8.toNat_ofNat']; simp; omega
theorem dec_digs (u : Nat) (h1 : 1 ≤ u) : digsB (Lib.decDigits u) = true := by
  induction u using Nat.strongRecOn with
  | _ u ih =>
    by_cases h : u < 10
    · rw [Lib.decDigits, dif_pos h]
      unfold digsB
      have h2 := dig_of u h
      simp only [Bool.and_eq_true, List.all_cons, List.all_nil]
      refine ⟨?_, h2, trivial⟩
      have : (UInt8.ofNat (48 + u) == 48) = false := by
        refine beq_false_of_ne fun e => ?_
        have e2 := congrArg UInt8.toNat e
        rw [UInt8.toNat_ofNat'] at e2
        have h4 : (48 : UInt8).toNat = 48 := rfl
        omega
      rw [this]; rfl
    · rw [Lib.decDigits, dif_neg h]
      exact digs_snoc (ih (u / 10) (by omega) (by omega)) (dig_of _ (by omega))
theorem digs_back : ∀ (n : Nat) (l : List UInt8), l.length = n → digsB l = true → Lib.decDigits (valD l) = l ∧ 1 ≤ valD l := by
  intro n
  induction n with
  | zero => intro l hl h; rw [List.length_eq_zero_iff.1 hl] at h; cases h
  | succ n ih =>
    intro l hl h
    rcases List.eq_nil_or_concat l with e | ⟨L, c, e⟩
    · rw [e] at hl; cases hl
    · rw [List.concat_eq_append] at e
      subst e
      have hLn : L.length = n := by simpa using hl
      cases L with
      | nil =>
        unfold digsB at h
        simp only [List.nil_append, Bool.and_eq_true, List.all_cons, List.all_nil] at h
        have hc := digB_bounds h.2.1
        have hne : c ≠ 48 := by simpa using h.1
        have hn : c.toNat ≠ 48 := fun e => hne (UInt8.toNat_inj.1 e)
        have hv : valD ([] ++ [c]) = c.toNat - 48 := by rw [valD_snoc]; show 10 * 0 + _ = _; omega
        rw [hv, Lib.decDigits, dif_pos (by omega)]
        refine ⟨?_, by omega⟩
        rw [show 48 + (c.toNat - 48) = c.toNat by omega, UInt8.ofNat_toNat]; rfl
      | cons d r =>
        unfold digsB at h
        rw [List.cons_append] at h
        simp only [Bool.and_eq_true, List.all_cons, List.all_append, List.all_nil] at h
        obtain ⟨i1, i2⟩ := ih (d :: r) hLn (by unfold digsB; simp only [Bool.and_eq_true, List.all_cons]; exact ⟨h.1, h.2.1, h.2.2.1⟩)
        have hc := digB_bounds h.2.2.2.1
        rw [valD_snoc, Lib.decDigits, dif_neg (by omega), show (10 * valD (d :: r) + (c.toNat - 48)) / 10 = valD (d :: r) by omega, show (10 * valD (d :: r) + (c.toNat - 48)) % 10 = c.toNat - 48 by omega, i1,
          show 48 + (c.toNat - 48) = c.toNat by omega, UInt8.ofNat_toNat]
        exact ⟨rfl, by omega⟩
theorem digs_parts {l : List UInt8} (h : digsB l = true) : l ≠ [] ∧ l.all digB = true := by
  cases l with
  | nil => cases h
  | cons c r =>
    unfold digsB at h
    rw [Bool.and_eq_true] at h
    exact ⟨by simp, h.2⟩
theorem mag_val {l : List UInt8} (h : digsB l = true) : Lib.parseMag l = if valD l < 18446744073709551616 then .ok (valD l) else .range := by
  unfold Lib.parseMag
  rw [if_neg (digs_parts h).1]
  exact parse_val l 0 (by omega) (digs_parts h).2
theorem digs_head {c : UInt8} {r : List UInt8} (h : digsB (c :: r) = true) : 49 ≤ c.toNat ∧ c.toNat ≤ 57 := by
  unfold digsB at h
  simp only [Bool.and_eq_true, List.all_cons] at h
  have := digB_bounds h.2.1
  have hne : c ≠ 48 := by simpa using h.1
  have hn : c.toNat ≠ 48 := fun e => hne (UInt8.toNat_inj.1 e)
  omega
theorem dec_plain {l : List UInt8} (h : digsB l = true) : decB l = true := by
  cases l with
  | nil => cases h
  | cons c r =>
    have := digs_head h
    unfold decB
    rw [strip_plain c r (fun e => by have h4 : (45 : UInt8).toNat = 45 := rfl; rw [e] at this; omega), h, Bool.or_true]
theorem dec_minus {r : List UInt8} : decB (45 :: r) = digsB r := by
  unfold decB
  rw [strip_minus]
  have : decide ((45 : UInt8) :: r = [48]) = false := decide_eq_false (by intro e; injection e with e1 _; exact absurd e1 (by decide))
  rw [this, Bool.false_or]
theorem signless_small {u : Nat} (h : u < 9223372036854775808) : Lib.signless (.ok u) = .ok (u : Int) := by unfold Lib.signless; dsimp only; rw [if_neg (by omega)]
theorem signless_big {u : Nat} (h : ¬ u < 9223372036854775808) : Lib.signless (.ok u) = .range := by unfold Lib.signless; dsimp only; rw [if_pos (by omega)]
theorem signed_small {u : Nat} (h : u ≤ 9223372036854775808) : Lib.signed (.ok u) = .ok (-(u : Int)) := by unfold Lib.signed; dsimp only; rw [if_neg (by omega)]
theorem signed_big {u : Nat} (h : ¬ u ≤ 9223372036854775808) : Lib.signed (.ok u) = .range := by unfold Lib.signed; dsimp only; rw [if_pos (by omega)]
theorem readI_plain {l : List UInt8} (h : digsB l = true) : readI l = if valD l < 9223372036854775808 then ((valD l : Int), 0) else (0, 27) := by
  unfold readI
  rw [dec_plain h, if_pos rfl]
  cases l with
  | nil => cases h
  | cons c r =>
    have hd := digs_head h
    rw [Lib.atoiAll_plain c r (by omega) (by omega), mag_val h]
    by_cases h1 : valD (c :: r) < 9223372036854775808
    · rw [if_pos h1, if_pos (by omega), signless_small h1]
    · rw [if_neg h1]
      by_cases h2 : valD (c :: r) < 18446744073709551616
      · rw [if_pos h2, signless_big h1]
      · rw [if_neg h2]; rfl
theorem readI_minus {r : List UInt8} (h : digsB r = true) : readI (45 :: r) = if valD r ≤ 9223372036854775808 then (-(valD r : Int), 0) else (0, 27) := by
  unfold readI
  rw [dec_minus, h, if_pos rfl, Lib.atoiAll_minus, mag_val h]
  by_cases h1 : valD r ≤ 9223372036854775808
  · rw [if_pos h1, if_pos (by omega), signed_small h1]
  · rw [if_neg h1]
    by_cases h2 : valD r < 18446744073709551616
    · rw [if_pos h2, signed_big h1]
    · rw [if_neg h2]; rfl
theorem readI_bad {l : List UInt8} (h : decB l = false) : readI l = (0, 4) := by unfold readI; rw [h]; rfl
theorem readI_zero : readI [48] = (0, 0) := by decide
theorem readI_itoa (n : Int) (h0 : -9223372036854775808 ≤ n) (h1 : n ≤ 9223372036854775807) : readI (Lib.itoa n) = (n, 0) := by
  by_cases hn : n < 0
  · obtain ⟨u, rfl⟩ : ∃ u : Nat, n = -(u : Int) := ⟨n.natAbs, by omega⟩
    rw [Lib.itoa_neg u (by omega), readI_minus (dec_digs u (by omega)), val_dec, if_pos (by omega)]
  · obtain ⟨u, rfl⟩ : ∃ u : Nat, n = u := ⟨n.toNat, by omega⟩
    rw [Lib.itoa_nonneg]
    by_cases hz : u = 0
    · subst hz; rw [Lib.decDigits, dif_pos (by omega)]; exact readI_zero
    · rw [readI_plain (dec_digs u (by omega)), val_dec, if_pos (by omega)]
theorem readI_back {l : List UInt8} {v : Int} (h : readI l = (v, 0)) : Lib.itoa v = l ∧ -9223372036854775808 ≤ v ∧ v ≤ 9223372036854775807 := by
  cases hd : decB l
  · rw [readI_bad hd] at h; injection h with _ h2; cases h2
  · have hd0 := hd
    unfold decB at hd
    rw [Bool.or_eq_true] at hd
    rcases hd with hz | hs
    · have e : l = [48] := by simpa using hz
      subst e
      rw [readI_zero] at h
      injection h with h1 _
      subst h1
      refine ⟨?_, by omega, by omega⟩
      rw [show (0 : Int) = ((0 : Nat) : Int) from rfl, Lib.itoa_nonneg, Lib.decDigits, dif_pos (by omega)]; rfl
    · cases l with
      | nil => cases hs
      | cons c r =>
        by_cases hc : c = 45
        · subst hc
          rw [strip_minus] at hs
          rw [readI_minus hs] at h
          obtain ⟨b1, b2⟩ := digs_back _ r rfl hs
          split at h
          · injection h with h1 _
            subst h1
            exact ⟨by rw [Lib.itoa_neg _ b2, b1], by omega, by omega⟩
          · injection h with _ h2; cases h2
        · rw [strip_plain c r hc] at hs
          rw [readI_plain hs] at h
          obtain ⟨b1, b2⟩ := digs_back _ _ rfl hs
          split at h
          · injection h with h1 _
            subst h1
            exact ⟨by rw [Lib.itoa_nonneg, b1], by omega, by omega⟩
          · injection h with _ h2; cases h2
/-- a number, or out of range, or no form -/
theorem readI_cases (l : List UInt8) : (∃ v, readI l = (v, 0) ∧ Lib.itoa v = l ∧ -9223372036854775808 ≤ v ∧ v ≤ 9223372036854775807) ∨ readI l = (0, 27) ∨ readI l = (0, 4) := by
  cases hd : decB l
  · exact .inr (.inr (readI_bad hd))
  · rcases dec_atoi hd with ⟨v, ha⟩ | ha
    · have h : readI l = (v, 0) := by unfold readI; rw [hd, ha]; rfl
      exact .inl ⟨v, h, readI_back h⟩
    · exact .inr (.inl (by unfold readI; rw [hd, ha]; rfl))

end Go.Proofs.YtbogmmdmfbcbnaaDoor
