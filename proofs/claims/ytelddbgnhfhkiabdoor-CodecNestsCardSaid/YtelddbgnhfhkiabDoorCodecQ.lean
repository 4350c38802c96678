/-
  Plain facts: reading a list gives back what was written, and what is read has just this form. No condition.
-/
import Derived.Test.YtelddbgnhfhkiabDoorCodecP
import Derived.Test.YtelddbgnhfhkiabDoorCodecJoin
set_option linter.unusedVariables false
set_option linter.unusedSimpArgs false
set_option linter.unnecessarySimpa false
namespace Go.Proofs.YtelddbgnhfhkiabDoor
open Go.PlainAid

theorem escC_no (b : UInt8) (hb : plainC b = false) (h37 : b ≠ 37) (hx : ∀ n : Nat, n < 16 → hexC n ≠ b) (c : UInt8) : b ∉ escC c := by
  cases h : plainC c
  · rw [escC_other c h]
    have hc := c.toNat_lt
    intro hm
    simp only [List.mem_cons, List.not_mem_nil, or_false] at hm
    rcases hm with h1 | h1 | h1
    · exact h37 h1
    · exact hx _ (by omega) h1.symm
    · exact hx _ (by omega) h1.symm
  · rw [escC_plain c h]
    intro hm
    have : b = c := by simpa using hm
    rw [this, h] at hb; cases hb
theorem escL_no (b : UInt8) (hb : plainC b = false) (h37 : b ≠ 37) (hx : ∀ n : Nat, n < 16 → hexC n ≠ b) (l : List UInt8) : b ∉ escL l := by
  unfold escL
  rw [List.mem_flatMap]
  rintro ⟨c, _, h⟩
  exact escC_no b hb h37 hx c h
theorem hex_no124 : ∀ n : Nat, n < 16 → hexC n ≠ 124 := by decide
theorem hex_no61 : ∀ n : Nat, n < 16 → hexC n ≠ 61 := by decide
theorem escL_no124 (l : List UInt8) : 124 ∉ escL l := escL_no 124 (by decide) (by decide) hex_no124 l
theorem escL_no61 (l : List UInt8) : 61 ∉ escL l := escL_no 61 (by decide) (by decide) hex_no61 l

theorem pieces_none (b : UInt8) : ∀ p : List UInt8, b ∉ p → pieces b p = [p]
  | [], _ => rfl
  | c :: r, h => by
    have h1 : c ≠ b := fun e => h (by rw [e]; simp)
    have h2 : b ∉ r := fun e => h (by simp [e])
    unfold pieces
    rw [if_neg h1, pieces_none b r h2]
theorem pieces_cat (b : UInt8) (l : List UInt8) : ∀ p : List UInt8, b ∉ p → pieces b (p ++ b :: l) = p :: pieces b l
  | [], _ => by
    show pieces b (b :: l) = _
    conv => lhs; unfold pieces
    rw [if_pos rfl]
  | c :: r, h => by
    have h1 : c ≠ b := fun e => h (by rw [e]; simp)
    have h2 : b ∉ r := fun e => h (by simp [e])
    have ih := pieces_cat b l r h2
    show pieces b (c :: (r ++ b :: l)) = _
    conv => lhs; unfold pieces
    rw [if_neg h1, ih]
theorem pieces_bar (b : UInt8) : ∀ l : List (List UInt8), l ≠ [] → (∀ p ∈ l, b ∉ p) → pieces b (bar b l) = l
  | [], h, _ => absurd rfl h
  | [p], _, h => pieces_none b p (h p (by simp))
  | p :: q :: r, _, h => by
    have ih := pieces_bar b (q :: r) (by simp) (fun x hx => h x (by simp at hx ⊢; right; exact hx))
    show pieces b (p ++ b :: bar b (q :: r)) = _
    rw [pieces_cat b _ p (h p (by simp)), ih]
theorem pieces_ne (b : UInt8) : ∀ l : List UInt8, pieces b l ≠ []
  | [] => by simp [pieces]
  | c :: l => by
    unfold pieces
    split
    · simp
    · split <;> simp
theorem bar_cons (b : UInt8) (c : UInt8) (p : List UInt8) (r : List (List UInt8)) : bar b ((c :: p) :: r) = c :: bar b (p :: r) := by
  cases r with
  | nil => rfl
  | cons q r => rfl
theorem bar_pieces (b : UInt8) : ∀ l : List UInt8, bar b (pieces b l) = l
  | [] => rfl
  | c :: l => by
    have ih := bar_pieces b l
    have hne := pieces_ne b l
    unfold pieces
    by_cases hc : c = b
    · rw [if_pos hc]
      cases h : pieces b l with
      | nil => exact absurd h hne
      | cons p r =>
        rw [h] at ih
        show [] ++ b :: bar b (p :: r) = _
        rw [ih, hc]; rfl
    · rw [if_neg hc]
      cases h : pieces b l with
      | nil => exact absurd h hne
      | cons p r =>
        rw [h] at ih
        show bar b ((c :: p) :: r) = _
        rw [bar_cons, ih]
theorem readAll_esc : ∀ l : List (List UInt8), readAll (l.map escL) = some l
  | [] => rfl
  | p :: r => by
    show readAll (escL p :: r.map escL) = _
    unfold readAll
    rw [unesc_esc, readAll_esc r]; rfl
theorem readAll_inv : ∀ (ps l : List (List UInt8)), readAll ps = some l → l.map escL = ps
  | [], l, h => by unfold readAll at h; cases h; rfl
  | p :: r, l, h => by
    unfold readAll at h
    split at h
    · rename_i x hx
      obtain ⟨y, hy, rfl⟩ := Option.map_eq_some_iff.1 h
      rw [List.map_cons, esc_unesc _ _ hx, readAll_inv r y hy]
    · cases h
theorem split_join (l : List (List UInt8)) : splitL (joinL l) = some l := by
  unfold joinL
  by_cases h0 : l = []
  · rw [if_pos h0, h0]; rfl
  · rw [if_neg h0]
    by_cases h1 : l = [[45]]
    · rw [if_pos h1, h1]; rfl
    · rw [if_neg h1]
      have hp : pieces 124 (bar 124 (l.map escL)) = l.map escL := pieces_bar 124 _ (by simpa using h0) (fun p hp => by
        obtain ⟨x, _, rfl⟩ := List.mem_map.1 hp
        exact escL_no124 x)
      have one : ∀ s : List UInt8, bar 124 (l.map escL) = s → 124 ∉ s → ∃ x, l = [x] ∧ escL x = s := fun s hs hn => by
        rw [hs, pieces_none 124 s hn] at hp
        match l, hp with
        | [x], hp => exact ⟨x, rfl, by simpa using hp.symm⟩
      unfold splitL
      rw [if_neg, if_neg, hp, readAll_esc]
      · intro e
        obtain ⟨x, rfl, hx⟩ := one _ e (by decide)
        have := unesc_esc x
        rw [hx] at this
        have h3 : unesc [37, 50, 68] = none := by decide +kernel
        rw [h3] at this; cases this
      · intro e
        obtain ⟨x, rfl, hx⟩ := one _ e (by decide)
        have := unesc_esc x
        rw [hx] at this
        have h3 : unesc [45] = some [45] := by decide +kernel
        rw [h3] at this
        cases this
        exact h1 rfl
theorem join_split (s : List UInt8) (l : List (List UInt8)) (h : splitL s = some l) : joinL l = s := by
  unfold splitL at h
  by_cases h0 : s = [45]
  · rw [if_pos h0] at h; cases h; rw [h0]; rfl
  · rw [if_neg h0] at h
    by_cases h1 : s = [37, 50, 68]
    · rw [if_pos h1] at h; cases h; rw [h1]; rfl
    · rw [if_neg h1] at h
      have hi := readAll_inv _ _ h
      have hb := bar_pieces 124 s
      unfold joinL
      rw [if_neg, if_neg, hi, hb]
      · intro e
        rw [e] at hi
        rw [← hi] at hb
        exact h0 (by rw [← hb]; rfl)
      · intro e
        rw [e] at hi
        exact pieces_ne 124 s hi.symm
theorem joinL_inj {l m : List (List UInt8)} (h : joinL l = joinL m) : l = m := by
  have h1 := split_join l
  rw [h, split_join m] at h1
  cases h1; rfl
theorem dataL_inj {ps qs : List ByteArray} (h : dataL ps = dataL qs) : ps = qs := by
  have e : ∀ l : List ByteArray, (dataL l).map ofL = l := fun l => by
    unfold dataL
    rw [List.map_map]
    conv => rhs; rw [← List.map_id l]
    congr 1
  rw [← e ps, ← e qs, h]
theorem dataL_ofL (l : List (List UInt8)) : dataL (l.map ofL) = l := by
  unfold dataL
  rw [List.map_map]
  conv => rhs; rw [← List.map_id l]
  congr 1
theorem splS_join (ps : List ByteArray) : splS (joinS ps) = ps ∧ splE (joinS ps) = 0 := by
  have h : splitL (joinS ps).data.toList = some (dataL ps) := split_join _
  unfold splS splE
  rw [h]
  refine ⟨?_, rfl⟩
  apply dataL_inj
  rw [dataL_ofL]
theorem joinS_inj {ps qs : List ByteArray} (h : joinS ps = joinS qs) : ps = qs := by
  apply dataL_inj
  apply joinL_inj
  have := congrArg (fun s : ByteArray => s.data.toList) h
  exact this
theorem joinS_spl (s : ByteArray) (l : List (List UInt8)) (h : splitL s.data.toList = some l) : splS s = l.map ofL ∧ splE s = 0 ∧ joinS (l.map ofL) = s := by
  refine ⟨by unfold splS; rw [h], by unfold splE; rw [h], ?_⟩
  unfold joinS
  rw [dataL_ofL, join_split _ _ h, show ofL s.data.toList = s from Lib.mk_data s]
end Go.Proofs.YtelddbgnhfhkiabDoor
