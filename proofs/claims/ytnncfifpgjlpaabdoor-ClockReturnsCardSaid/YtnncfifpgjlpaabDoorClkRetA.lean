/-
  Plain facts of calendar forms: the form of an instant is read as this instant, what is read has its form, later instants have greater forms. Nothing of the program stands here. No condition.
-/
import Derived.Test.YtnncfifpgjlpaabDoorClkLaws
set_option linter.unusedVariables false
set_option linter.unusedSimpArgs false
set_option linter.unnecessarySimpa false
namespace Go.Proofs.YtnncfifpgjlpaabDoor
open Go.RowKit Go.PlainAid

theorem secs_num {y m d h i s D S : Nat} (hd : 1 ≤ d) (hn : numD y m d = D + 719528) (hS : S = 3600 * h + 60 * i + s) : secs y m d h i s = 86400 * (D : Int) + (S : Int) := by
  unfold secs
  unfold numD at hn
  omega
theorem fmt_date {t : Int} {a : ByteArray} (h : FmtIs t a) : ∃ y m d S D : Nat, okD y m d ∧ numD y m d = D + 719528 ∧ limI t = 86400 * (D : Int) + (S : Int) ∧ S < 86400 ∧ 1970 ≤ y ∧ y ≤ 99999 ∧ a = calS y m d (S / 3600) (S / 60 % 60) (S % 60) := by
  obtain ⟨y, m, d, h1, h2, rfl⟩ := h
  have hl := limI_bd t
  refine ⟨y, m, d, (limI t).toNat % 86400, (limI t).toNat / 86400, h1, h2, by omega, by omega, ?_, ?_, rfl⟩
  · have hi := num_in h1
    have := dby_1970
    exact year_le (y := 1970) (n := numD y m d) (n' := numD y m d) (by omega) hi.2.1 (Nat.le_refl _)
  · have hi := num_in h1
    have := dby_ge y
    omega
theorem fmt_parse {t : Int} {a : ByteArray} (h : FmtIs t a) : parseR a.data.toList = (limI t, 0) := by
  obtain ⟨y, m, d, S, D, h1, h2, h3, h4, h5, h6, rfl⟩ := fmt_date h
  have hm := h1.2.1
  have hd : d ≤ 31 := by have := (mlen_bd y m h1.1 h1.2.1).2; have := h1.2.2.2; omega
  obtain ⟨p1, p2, _⟩ := prs_cal y m d (S / 3600) (S / 60 % 60) (S % 60) h6 (by omega) (by omega) (by omega) (by omega) (by omega)
  unfold parseR
  rw [if_pos p1, p2]
  have hs : secs y m d (S / 3600) (S / 60 % 60) (S % 60) = limI t := by
    rw [secs_num h1.2.2.1 h2 (S := S) (by omega), h3]
  have hl := limI_bd t
  have hok : okT y m d (S / 3600) (S / 60 % 60) (S % 60) := ⟨h5, h1.1, h1.2.1, h1.2.2.1, h1.2.2.2, by omega, by omega, by omega, by rw [hs]; exact hl.2⟩
  unfold dateR
  rw [if_pos (show okT (List.getD [y, m, d, S / 3600, S / 60 % 60, S % 60] 0 0) (List.getD [y, m, d, S / 3600, S / 60 % 60, S % 60] 1 0) (List.getD [y, m, d, S / 3600, S / 60 % 60, S % 60] 2 0) (List.getD [y, m, d, S / 3600, S / 60 % 60, S % 60] 3 0) (List.getD [y, m, d, S / 3600, S / 60 % 60, S % 60] 4 0) (List.getD [y, m, d, S / 3600, S / 60 % 60, S % 60] 5 0) from hok)]
  exact Prod.ext hs rfl
theorem parse_err {l : List UInt8} {k e : Int} (h : parseR l = (k, e)) (he : e ≠ 0) : k = 0 := by
  unfold parseR at h
  split at h
  · unfold dateR at h
    split at h
    · exact absurd (congrArg Prod.snd h).symm he
    · exact (congrArg Prod.fst h).symm
  · exact (congrArg Prod.fst h).symm
theorem parse_fmt {s : ByteArray} {k : Int} (h : parseR s.data.toList = (k, 0)) : validB k = true ∧ FmtIs k s := by
  unfold parseR at h
  split at h
  · rename_i hf
    obtain ⟨y, m, d, hh, i, sc, hv, b1, b2, b3, b4, b5, b6, hl⟩ := cal_prs _ hf
    rw [hv] at h
    unfold dateR at h
    split at h
    · rename_i hok
      have hok2 : okT y m d hh i sc := hok
      have hk : secs y m d hh i sc = k := congrArg Prod.fst h
      obtain ⟨o1, o2, o3, o4, o5, o6, o7, o8, o9⟩ := hok2
      rw [hk] at o9
      have hnd := num_in (y := y) (m := m) (d := d) ⟨o2, o3, o4, o5⟩
      have h70 := dby_mono o1
      rw [dby_1970] at h70
      obtain ⟨D, hD⟩ : ∃ D, numD y m d = D + 719528 := ⟨numD y m d - 719528, by omega⟩
      have hs := secs_num (h := hh) (i := i) (s := sc) o4 hD rfl
      rw [hk] at hs
      have hl2 : limI k = k := by unfold limI; omega
      refine ⟨?_, y, m, d, ⟨o2, o3, o4, o5⟩, ?_, ?_⟩
      · unfold validB
        rw [decide_eq_true (show 0 ≤ k by omega), decide_eq_true o9]; rfl
      · rw [hl2, hD]; omega
      · rw [hl2, show k.toNat % 86400 / 3600 = hh by omega, show k.toNat % 86400 / 60 % 60 = i by omega, show k.toNat % 86400 % 60 = sc by omega]
        rw [← Lib.mk_data s, ← hl, ← calS_list, Lib.mk_data]
    · exact absurd (show (27 : Int) = 0 from congrArg Prod.snd h) (by decide)
  · exact absurd (show (4 : Int) = 0 from congrArg Prod.snd h) (by decide)

theorem bl_self : ∀ l : List UInt8, Op.bytesLess l l = false
  | [] => rfl
  | c :: l => by
    show (decide (c < c) || (c == c && Op.bytesLess l l)) = false
    rw [bl_self l]
    simp
theorem bl_same : ∀ (a c d : List UInt8), Op.bytesLess (a ++ c) (a ++ d) = Op.bytesLess c d
  | [], c, d => rfl
  | x :: a, c, d => by
    show (decide (x < x) || (x == x && Op.bytesLess (a ++ c) (a ++ d))) = _
    rw [bl_same a c d]
    simp
theorem bl_app : ∀ (a b c d : List UInt8), a.length = b.length → Op.bytesLess a b = true → Op.bytesLess (a ++ c) (b ++ d) = true
  | [], [], c, d, _, h => by cases h
  | x :: a, y :: b, c, d, hl, h => by
    show (decide (x < y) || (x == y && Op.bytesLess (a ++ c) (b ++ d))) = true
    have h2 : (decide (x < y) || (x == y && Op.bytesLess a b)) = true := h
    rw [Bool.or_eq_true, Bool.and_eq_true] at h2 ⊢
    rcases h2 with h2 | ⟨h2, h3⟩
    · exact .inl h2
    · exact .inr ⟨h2, bl_app a b c d (by simpa using hl) h3⟩
theorem bl_asymm : ∀ (a b : List UInt8), Op.bytesLess a b = true → Op.bytesLess b a = false
  | _, [], h => by
    rename_i a
    cases a <;> cases h
  | [], y :: b, _ => rfl
  | x :: a, y :: b, h => by
    have h2 : (decide (x < y) || (x == y && Op.bytesLess a b)) = true := h
    show (decide (y < x) || (y == x && Op.bytesLess b a)) = false
    rw [Bool.or_eq_true, Bool.and_eq_true, decide_eq_true_iff, beq_iff_eq] at h2
    rw [Bool.or_eq_false_iff, Bool.and_eq_false_iff, decide_eq_false_iff_not]
    rcases h2 with h2 | ⟨h2, h3⟩
    · refine ⟨?_, .inl ?_⟩
      · intro h4; rw [UInt8.lt_iff_toNat_lt] at h2 h4; omega
      · rw [beq_eq_false_iff_ne]; intro h4; rw [UInt8.lt_iff_toNat_lt, h4] at h2; omega
    · subst h2
      exact ⟨by intro h4; rw [UInt8.lt_iff_toNat_lt] at h4; omega, .inr (bl_asymm a b h3)⟩
theorem bl_dig (a b : Nat) (h : a < b) (hb : b ≤ 9) : Op.bytesLess [UInt8.ofNat (48 + a)] [UInt8.ofNat (48 + b)] = true := by
  show (decide (UInt8.ofNat (48 + a) < UInt8.ofNat (48 + b)) || _) = true
  rw [Bool.or_eq_true]
  left
  rw [decide_eq_true_iff, UInt8.lt_iff_toNat_lt, UInt8.toNat_ofNat', UInt8.toNat_ofNat']
  omega
/-- a lesser number has lesser digits -/
theorem pad_lt : ∀ (k n m : Nat), n < m → m < 10 ^ (k + 1) → Op.bytesLess (padL n (k + 1)) (padL m (k + 1)) = true
  | 0, n, m, h, hm => by
    have hm9 : m ≤ 9 := by simp at hm; omega
    rw [padL_one n (by omega), padL_one m hm9]
    exact bl_dig n m h hm9
  | k + 1, n, m, h, hm => by
    have hm10 : m / 10 < 10 ^ (k + 1) := by rw [Nat.pow_succ] at hm; omega
    have e : ∀ z, padL z (k + 1 + 1) = padL (z / 10) (k + 1) ++ [UInt8.ofNat (48 + z % 10)] := fun z => by
      have := padL_snoc (z / 10) (z % 10) (k + 1) (by omega) (by omega)
      rwa [show 10 * (z / 10) + z % 10 = z by omega] at this
    rw [e n, e m]
    by_cases hd : n / 10 = m / 10
    · rw [hd, bl_same]
      exact bl_dig _ _ (by omega) (by omega)
    · exact bl_app _ _ _ _ (by rw [(padL_fix k (n / 10) (by omega)).1, (padL_fix k (m / 10) hm10).1]) (pad_lt k _ _ (by omega) hm10)

/-- the forms of two dates and times, the one before the other -/
theorem cal_lt {y m d h i s y' m' d' h' i' s' : Nat} (hy : y' ≤ 99999) (hm : m' ≤ 99) (hd : d' ≤ 99) (hh : h' ≤ 99) (hi : i' ≤ 99) (hs : s' ≤ 99) (hf : y ≤ 9999 ↔ y' ≤ 9999)
    (lt : y < y' ∨ (y = y' ∧ (m < m' ∨ (m = m' ∧ (d < d' ∨ (d = d' ∧ (h < h' ∨ (h = h' ∧ (i < i' ∨ (i = i' ∧ s < s')))))))))) :
    Op.bytesLess (calS y m d h i s).data.toList (calS y' m' d' h' i' s').data.toList = true := by
  rw [calS_list, calS_list]
  unfold calL
  simp only [List.append_assoc]
  have two : ∀ (a b : Nat) (c e : List UInt8), a < b → b ≤ 99 → Op.bytesLess (padL a 2 ++ c) (padL b 2 ++ e) = true := fun a b c e hab hb =>
    bl_app _ _ _ _ (by rw [(padL_fix 1 a (by omega)).1, (padL_fix 1 b (by omega)).1]) (pad_lt 1 a b hab (by omega))
  rcases lt with lt | ⟨rfl, lt⟩
  · by_cases h4 : y' ≤ 9999
    · exact bl_app _ _ _ _ (by rw [(padL_fix 3 y (by omega)).1, (padL_fix 3 y' (by omega)).1]) (pad_lt 3 y y' lt (by omega))
    · have h5 : ¬ y ≤ 9999 := fun h => h4 (hf.1 h)
      rw [padL_five y (by omega), padL_five y' (by omega)]
      exact bl_app _ _ _ _ (by rw [(padL_fix 4 y (by omega)).1, (padL_fix 4 y' (by omega)).1]) (pad_lt 4 y y' lt (by omega))
  rw [bl_same, bl_same]
  rcases lt with lt | ⟨rfl, lt⟩
  · exact two _ _ _ _ lt hm
  rw [bl_same, bl_same]
  rcases lt with lt | ⟨rfl, lt⟩
  · exact two _ _ _ _ lt hd
  rw [bl_same, bl_same]
  rcases lt with lt | ⟨rfl, lt⟩
  · exact two _ _ _ _ lt hh
  rw [bl_same, bl_same]
  rcases lt with lt | ⟨rfl, lt⟩
  · exact two _ _ _ _ lt hi
  rw [bl_same, bl_same]
  exact two _ _ _ _ lt hs
/-- an earlier instant has a lesser form, if both have the same length -/
theorem fmt_lt {t u : Int} {a b : ByteArray} (ha : FmtIs t a) (hb : FmtIs u b) (hl : a.size = b.size) (hlt : limI t < limI u) : Op.bytesLess a.data.toList b.data.toList = true := by
  obtain ⟨y, m, d, S, D, h1, h2, h3, h4, h5, h6, rfl⟩ := fmt_date ha
  obtain ⟨y', m', d', S', D', k1, k2, k3, k4, k5, k6, rfl⟩ := fmt_date hb
  have hm := h1.2.1
  have hm' := k1.2.1
  have hd : d ≤ 31 := by have := (mlen_bd y m h1.1 h1.2.1).2; have := h1.2.2.2; omega
  have hd' : d' ≤ 31 := by have := (mlen_bd y' m' k1.1 k1.2.1).2; have := k1.2.2.2; omega
  have p := (prs_cal y m d (S / 3600) (S / 60 % 60) (S % 60) h6 (by omega) (by omega) (by omega) (by omega) (by omega)).2.2
  have q := (prs_cal y' m' d' (S' / 3600) (S' / 60 % 60) (S' % 60) k6 (by omega) (by omega) (by omega) (by omega) (by omega)).2.2
  rw [← Lib.size_eq] at p q
  refine cal_lt k6 (by omega) (by omega) (by omega) (by omega) (by omega) ?_ ?_
  · rw [hl, q] at p
    constructor
    · intro h
      rw [if_pos h] at p
      exact Decidable.byContradiction fun h' => by rw [if_neg h'] at p; omega
    · intro h
      rw [if_pos h] at p
      exact Decidable.byContradiction fun h' => by rw [if_neg h'] at p; omega
  · by_cases hDD : D < D'
    · rcases date_lt h1 k1 (by omega) with x | ⟨x1, x | ⟨x2, x3⟩⟩
      · exact .inl x
      · exact .inr ⟨x1, .inl x⟩
      · exact .inr ⟨x1, .inr ⟨x2, .inl x3⟩⟩
    · have hE : D = D' := by omega
      obtain ⟨e1, e2, e3⟩ := date_unique h1 k1 (by omega)
      refine .inr ⟨e1, .inr ⟨e2, .inr ⟨e3, ?_⟩⟩⟩
      omega
theorem fmt_same {t u : Int} {a b : ByteArray} (ha : FmtIs t a) (hb : FmtIs u b) (h : limI t = limI u) : a = b := by
  obtain ⟨y, m, d, h1, h2, rfl⟩ := ha
  obtain ⟨y', m', d', k1, k2, rfl⟩ := hb
  rw [h] at h2
  obtain ⟨rfl, rfl, rfl⟩ := date_unique h1 k1 (h2.trans k2.symm)
  rw [h]
theorem fmt_order {t u : Int} {a b : ByteArray} (ha : FmtIs t a) (hb : FmtIs u b) (hl : a.size = b.size) : Op.bytesLess a.toList b.toList = decide (limI t < limI u) := by
  rw [Lib.toList_data, Lib.toList_data]
  by_cases h1 : limI t < limI u
  · rw [fmt_lt ha hb hl h1, decide_eq_true h1]
  · rw [decide_eq_false h1]
    by_cases h2 : limI t = limI u
    · rw [fmt_same ha hb h2]; exact bl_self _
    · exact bl_asymm _ _ (fmt_lt hb ha hl.symm (by omega))

end Go.Proofs.YtnncfifpgjlpaabDoor
