/-
  Plain facts: reading gives back what was escaped, and what is read has just this escaped form. No condition.
-/
import Derived.Test.YtminodinhbcgnaaDoorCodecC
set_option maxRecDepth 100000
set_option linter.unusedVariables false
set_option linter.unusedSimpArgs false
set_option linter.unnecessarySimpa false
namespace Go.Proofs.YtminodinhbcgnaaDoor
open Go.PlainAid

theorem dec_table : ∀ n : Nat, n < 256 → decC (hexC (n / 16)) (hexC (n % 16)) = if plainC (UInt8.ofNat n) then none else some (UInt8.ofNat n) := by decide +kernel
theorem dec_esc (c : UInt8) (h : plainC c = false) : decC (hexC (c.toNat / 16)) (hexC (c.toNat % 16)) = some c := by
  have := dec_table c.toNat c.toNat_lt
  rw [UInt8.ofNat_toNat, h] at this
  simpa using this
theorem plain_pct : plainC 37 = false := by decide
theorem unesc_esc : ∀ l : List UInt8, unesc (escL l) = some l
  | [] => rfl
  | c :: r => by
    have ih := unesc_esc r
    have e : escL (c :: r) = escC c ++ escL r := by simp [escL]
    rw [e]
    cases h : plainC c
    · rw [escC_other c h]
      show unesc (37 :: hexC (c.toNat / 16) :: hexC (c.toNat % 16) :: escL r) = some (c :: r)
      conv => lhs; unfold unesc
      rw [if_pos rfl]
      simp only []
      rw [dec_esc c h, ih]; rfl
    · have hc : c ≠ 37 := fun e => by rw [e, plain_pct] at h; cases h
      rw [escC_plain c h]
      show unesc (c :: escL r) = some (c :: r)
      conv => lhs; unfold unesc
      rw [if_neg hc, if_pos h, ih]; rfl
theorem dec_inv_table : ∀ a : Nat, a < 256 → ∀ b : Nat, b < 256 → (match decC (UInt8.ofNat a) (UInt8.ofNat b) with
    | some c => decide (plainC c = false) && decide (hexC (c.toNat / 16) = UInt8.ofNat a) && decide (hexC (c.toNat % 16) = UInt8.ofNat b)
    | none => true) = true := by decide +kernel
theorem dec_inv (a b c : UInt8) (h : decC a b = some c) : plainC c = false ∧ hexC (c.toNat / 16) = a ∧ hexC (c.toNat % 16) = b := by
  have := dec_inv_table a.toNat a.toNat_lt b.toNat b.toNat_lt
  rw [UInt8.ofNat_toNat, UInt8.ofNat_toNat, h] at this
  simpa [and_assoc] using this
theorem esc_unesc (l m : List UInt8) (h : unesc l = some m) : escL m = l := by
  induction hn : l.length using Nat.strongRecOn generalizing l m with
  | ind n ih =>
    cases l with
    | nil => unfold unesc at h; cases h; rfl
    | cons c r =>
      unfold unesc at h
      by_cases hc : c = 37
      · rw [if_pos hc] at h
        match r, h, hn with
        | a :: b :: r', h, hn =>
          simp only [] at h
          split at h
          · rename_i d hd
            obtain ⟨x, hx, rfl⟩ := Option.map_eq_some_iff.1 h
            have := ih r'.length (by simp at hn; omega) r' x hx rfl
            obtain ⟨h1, h2, h3⟩ := dec_inv a b d hd
            have e : escL (d :: x) = escC d ++ escL x := by simp [escL]
            rw [e, escC_other d h1, h2, h3, this, hc]; rfl
          · cases h
        | [a], h, _ => cases h
        | [], h, _ => cases h
      · rw [if_neg hc] at h
        split at h
        · rename_i hp
          obtain ⟨x, hx, rfl⟩ := Option.map_eq_some_iff.1 h
          have := ih r.length (by simp at hn; omega) r x hx rfl
          have e : escL (c :: x) = escC c ++ escL x := by simp [escL]
          rw [e, escC_plain c hp, this]; rfl
        · cases h
theorem escL_append (l m : List UInt8) : escL (l ++ m) = escL l ++ escL m := by simp [escL]

end Go.Proofs.YtminodinhbcgnaaDoor
