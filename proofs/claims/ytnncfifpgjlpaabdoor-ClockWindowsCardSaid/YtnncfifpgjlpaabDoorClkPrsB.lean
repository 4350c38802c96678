/-
  Plain facts of calendar forms: digits of a fixed number and back, the form of a date is read as this date, and what is read has its form. Nothing of the program stands here. No condition.
-/
import Derived.Test.YtnncfifpgjlpaabDoorClkPrsA
set_option linter.unusedVariables false
set_option linter.unusedSimpArgs false
set_option linter.unnecessarySimpa false
namespace Go.Proofs.YtnncfifpgjlpaabDoor
open Go.RowKit Go.PlainAid

theorem padL_snoc (a d k : Nat) (hd : d ≤ 9) (hk : 1 ≤ k) : padL (10 * a + d) (k + 1) = padL a k ++ [UInt8.ofNat (48 + d)] := by
  unfold padL
  by_cases ha : a = 0
  · subst ha
    have e1 : Lib.decDigits (10 * 0 + d) = [UInt8.ofNat (48 + d)] := by rw [Lib.decDigits, dif_pos (by omega)]; simp
    have e2 : Lib.decDigits 0 = [48] := by rw [Lib.decDigits, dif_pos (by omega)]; rfl
    rw [e1, e2]
    have e3 : List.replicate (k - 1) (48 : UInt8) ++ [48] = List.replicate k 48 := by
      obtain ⟨j, rfl⟩ : ∃ j, k = j + 1 := ⟨k - 1, by omega⟩
      rw [Nat.add_sub_cancel, List.replicate_succ']
    show List.replicate (k + 1 - 1) 48 ++ _ = (List.replicate (k - 1) 48 ++ [48]) ++ _
    rw [e3, Nat.add_sub_cancel]
  · have e1 : Lib.decDigits (10 * a + d) = Lib.decDigits a ++ [UInt8.ofNat (48 + d)] := by
      rw [Lib.decDigits, dif_neg (by omega), show (10 * a + d) / 10 = a by omega, show (10 * a + d) % 10 = d by omega]
    rw [e1, List.length_append, List.length_singleton, List.append_assoc, show k + 1 - ((Lib.decDigits a).length + 1) = k - (Lib.decDigits a).length by omega]
theorem padL_one (d : Nat) (hd : d ≤ 9) : padL d 1 = [UInt8.ofNat (48 + d)] := by
  unfold padL
  have e1 : Lib.decDigits d = [UInt8.ofNat (48 + d)] := by rw [Lib.decDigits, dif_pos (by omega)]
  rw [e1]; rfl
theorem digB_of (d : Nat) (hd : d ≤ 9) : digB (UInt8.ofNat (48 + d)) = true ∧ (UInt8.ofNat (48 + d)).toNat - 48 = d := by
  have h : (UInt8.ofNat (48 + d)).toNat = 48 + d := by rw [UInt8.toNat_ofNat']; omega
  unfold digB
  rw [h]
  exact ⟨by simp; omega, by omega⟩
theorem digAll_app (a b : List UInt8) : digAll (a ++ b) = (digAll a && digAll b) := by unfold digAll; rw [List.all_append]
/-- a number's digits, so many that it has room -/
theorem padL_fix : ∀ (k n : Nat), n < 10 ^ (k + 1) → (padL n (k + 1)).length = k + 1 ∧ digAll (padL n (k + 1)) = true ∧ valD (padL n (k + 1)) = n
  | 0, n, h => by
    have hn : n ≤ 9 := by simp at h; omega
    rw [padL_one n hn]
    obtain ⟨h1, h2⟩ := digB_of n hn
    refine ⟨rfl, ?_, ?_⟩
    · show (digB _ && true) = true; rw [h1]; rfl
    · show 10 * 0 + _ = n; omega
  | k + 1, n, h => by
    have hn : n / 10 < 10 ^ (k + 1) := by rw [Nat.pow_succ] at h; omega
    obtain ⟨h1, h2, h3⟩ := padL_fix k (n / 10) hn
    have e : padL n (k + 1 + 1) = padL (n / 10) (k + 1) ++ [UInt8.ofNat (48 + n % 10)] := by
      have := padL_snoc (n / 10) (n % 10) (k + 1) (by omega) (by omega)
      rwa [show 10 * (n / 10) + n % 10 = n by omega] at this
    obtain ⟨h4, h5⟩ := digB_of (n % 10) (by omega)
    rw [e]
    refine ⟨by rw [List.length_append, h1]; rfl, ?_, ?_⟩
    · rw [digAll_app, h2]; show (true && (digB _ && true)) = true; rw [h4]; rfl
    · rw [valD_snoc, h3, h5]; omega
/-- digits are the digits of what they stand for -/
theorem fix_pad : ∀ (k : Nat) (l : List UInt8), l.length = k + 1 → digAll l = true → padL (valD l) (k + 1) = l
  | 0, l, hl, hd => by
    match l, hl with
    | [c], _ =>
      have h1 : digB c = true := by unfold digAll at hd; simpa using hd
      have hb := digB_bounds h1
      show padL (10 * 0 + (c.toNat - 48)) 1 = [c]
      rw [padL_one _ (by omega)]
      congr 1
      apply UInt8.toNat_inj.1
      rw [UInt8.toNat_ofNat']; omega
  | k + 1, l, hl, hd => by
    rcases List.eq_nil_or_concat l with rfl | ⟨r, c, rfl⟩
    · simp at hl
    · rw [List.concat_eq_append] at hl hd ⊢
      rw [digAll_app, Bool.and_eq_true] at hd
      have h1 : digB c = true := by have := hd.2; unfold digAll at this; simpa using this
      have hb := digB_bounds h1
      have ih := fix_pad k r (by rw [List.length_append] at hl; simpa using hl) hd.1
      rw [valD_snoc, padL_snoc _ _ _ (by omega) (by omega), ih]
      congr 2
      apply UInt8.toNat_inj.1
      rw [UInt8.toNat_ofNat']; omega
theorem dec_ge : ∀ (k n : Nat), 10 ^ k ≤ n → k + 1 ≤ (Lib.decDigits n).length
  | 0, n, _ => by
    rw [Lib.decDigits]; split <;> simp
  | k + 1, n, h => by
    rw [Nat.pow_succ] at h
    have h0 : 1 ≤ 10 ^ k := Nat.pow_le_pow_right (show 0 < 10 by omega) (Nat.zero_le k)
    rw [Lib.decDigits, dif_neg (by omega), List.length_append]
    have := dec_ge k (n / 10) (by omega)
    simp; omega
theorem padL_five (y : Nat) (h : 10000 ≤ y) : padL y 4 = padL y 5 := by
  have := dec_ge 4 y h
  unfold padL
  rw [show 4 - (Lib.decDigits y).length = 0 by omega, show 5 - (Lib.decDigits y).length = 0 by omega]
theorem valD_zero (l : List UInt8) (c : UInt8) (h : c.toNat = 48) : valD (c :: l) = valD l := by
  unfold valD
  rw [valA_cons, h]

/-- the bytes of a form -/
def calL (ys ms ds hs is ss : List UInt8) : List UInt8 := ys ++ [45] ++ ms ++ [45] ++ ds ++ [84] ++ hs ++ [58] ++ is ++ [58] ++ ss ++ [90]
theorem two (l : List UInt8) (h : l.length = 2) : ∃ a b, l = [a, b] := by
  match l, h with
  | [a, b], _ => exact ⟨a, b, rfl⟩
theorem four (l : List UInt8) (h : l.length = 4) : ∃ a b c d, l = [a, b, c, d] := by
  match l, h with
  | [a, b, c, d], _ => exact ⟨a, b, c, d, rfl⟩
theorem five (l : List UInt8) (h : l.length = 5) : ∃ a b c d e, l = [a, b, c, d, e] := by
  match l, h with
  | [a, b, c, d, e], _ => exact ⟨a, b, c, d, e, rfl⟩
theorem n45 : (45 : UInt8).toNat = 45 := rfl
theorem n84 : (84 : UInt8).toNat = 84 := rfl
theorem n58 : (58 : UInt8).toNat = 58 := rfl
theorem n90 : (90 : UInt8).toNat = 90 := rfl
theorem cal_fit4 (ys ms ds hs is ss : List UInt8) (y : ys.length = 4) (m : ms.length = 2) (d : ds.length = 2) (h : hs.length = 2) (i : is.length = 2) (s : ss.length = 2)
    (gy : digAll ys = true) (gm : digAll ms = true) (gd : digAll ds = true) (gh : digAll hs = true) (gi : digAll is = true) (gs : digAll ss = true) :
    fitB (calL ys ms ds hs is ss) = true ∧ prsV (calL ys ms ds hs is ss) = [valD ys, valD ms, valD ds, valD hs, valD is, valD ss] ∧ (calL ys ms ds hs is ss).length = 20 := by
  obtain ⟨a, b, c, e, rfl⟩ := four ys y
  obtain ⟨m1, m2, rfl⟩ := two ms m
  obtain ⟨d1, d2, rfl⟩ := two ds d
  obtain ⟨h1, h2, rfl⟩ := two hs h
  obtain ⟨i1, i2, rfl⟩ := two is i
  obtain ⟨s1, s2, rfl⟩ := two ss s
  have e0 : calL [a, b, c, e] [m1, m2] [d1, d2] [h1, h2] [i1, i2] [s1, s2] = [a, b, c, e, 45, m1, m2, 45, d1, d2, 84, h1, h2, 58, i1, i2, 58, s1, s2, 90] := rfl
  rw [e0]
  refine ⟨?_, rfl, rfl⟩
  have e1 : segB [a, b, c, e, 45, m1, m2, 45, d1, d2, 84, h1, h2, 58, i1, i2, 58, s1, s2, 90] 4 = (digAll [a, b, c, e] && digAll [m1, m2] && digAll [d1, d2] && digAll [h1, h2] && digAll [i1, i2] && digAll [s1, s2]) := rfl
  have e2 : sepB [a, b, c, e, 45, m1, m2, 45, d1, d2, 84, h1, h2, 58, i1, i2, 58, s1, s2, 90] 4 = true := rfl
  have e3 : List.length [a, b, c, e, 45, m1, m2, 45, d1, d2, 84, h1, h2, 58, i1, i2, 58, s1, s2, 90] = 20 := rfl
  unfold fitB
  rw [e1, e2, e3, gy, gm, gd, gh, gi, gs]; rfl
theorem cal_fit5 (ys ms ds hs is ss : List UInt8) (y : ys.length = 5) (m : ms.length = 2) (d : ds.length = 2) (h : hs.length = 2) (i : is.length = 2) (s : ss.length = 2)
    (gy : digAll ys = true) (gm : digAll ms = true) (gd : digAll ds = true) (gh : digAll hs = true) (gi : digAll is = true) (gs : digAll ss = true) (hy : 10000 ≤ valD ys) :
    fitB (calL ys ms ds hs is ss) = true ∧ prsV (calL ys ms ds hs is ss) = [valD ys, valD ms, valD ds, valD hs, valD is, valD ss] ∧ (calL ys ms ds hs is ss).length = 21 := by
  obtain ⟨z, a, b, c, e, rfl⟩ := five ys y
  obtain ⟨m1, m2, rfl⟩ := two ms m
  obtain ⟨d1, d2, rfl⟩ := two ds d
  obtain ⟨h1, h2, rfl⟩ := two hs h
  obtain ⟨i1, i2, rfl⟩ := two is i
  obtain ⟨s1, s2, rfl⟩ := two ss s
  have e0 : calL [z, a, b, c, e] [m1, m2] [d1, d2] [h1, h2] [i1, i2] [s1, s2] = [z, a, b, c, e, 45, m1, m2, 45, d1, d2, 84, h1, h2, 58, i1, i2, 58, s1, s2, 90] := rfl
  rw [e0]
  refine ⟨?_, rfl, rfl⟩
  have e1 : segB [z, a, b, c, e, 45, m1, m2, 45, d1, d2, 84, h1, h2, 58, i1, i2, 58, s1, s2, 90] 5 = (digAll [z, a, b, c, e] && digAll [m1, m2] && digAll [d1, d2] && digAll [h1, h2] && digAll [i1, i2] && digAll [s1, s2]) := rfl
  have e2 : sepB [z, a, b, c, e, 45, m1, m2, 45, d1, d2, 84, h1, h2, 58, i1, i2, 58, s1, s2, 90] 5 = true := rfl
  have e3 : List.length [z, a, b, c, e, 45, m1, m2, 45, d1, d2, 84, h1, h2, 58, i1, i2, 58, s1, s2, 90] = 21 := rfl
  have e4 : ¬ (List.getD [z, a, b, c, e, 45, m1, m2, 45, d1, d2, 84, h1, h2, 58, i1, i2, 58, s1, s2, 90] 0 0).toNat = 48 := by
    show ¬ z.toNat = 48
    intro hz
    rw [valD_zero _ _ hz] at hy
    have g2 : digAll [a, b, c, e] = true := by
      rw [show [z, a, b, c, e] = [z] ++ [a, b, c, e] from rfl, digAll_app, Bool.and_eq_true] at gy
      exact gy.2
    have := valD_bd [a, b, c, e] 4 g2 (by simp)
    omega
  unfold fitB
  rw [e1, e2, e3, decide_eq_false e4, gy, gm, gd, gh, gi, gs]; rfl

theorem calS_list (y m d h i s : Nat) : (calS y m d h i s).data.toList = calL (padL y 4) (padL m 2) (padL d 2) (padL h 2) (padL i 2) (padL s 2) := by
  unfold calS calL ofL
  simp only [ByteArray.data_append, Array.toList_append]
/-- what is read of a form of a date is this date -/
theorem prs_cal (y m d h i s : Nat) (hy : y ≤ 99999) (hm : m ≤ 99) (hd : d ≤ 99) (hh : h ≤ 99) (hi : i ≤ 99) (hs : s ≤ 99) :
    fitB (calS y m d h i s).data.toList = true ∧ prsV (calS y m d h i s).data.toList = [y, m, d, h, i, s] ∧ (calS y m d h i s).data.toList.length = if y ≤ 9999 then 20 else 21 := by
  rw [calS_list]
  obtain ⟨m1, m2, m3⟩ := padL_fix 1 m (by omega)
  obtain ⟨d1, d2, d3⟩ := padL_fix 1 d (by omega)
  obtain ⟨h1, h2, h3⟩ := padL_fix 1 h (by omega)
  obtain ⟨i1, i2, i3⟩ := padL_fix 1 i (by omega)
  obtain ⟨s1, s2, s3⟩ := padL_fix 1 s (by omega)
  by_cases h4 : y ≤ 9999
  · obtain ⟨y1, y2, y3⟩ := padL_fix 3 y (by omega)
    obtain ⟨a, b, c⟩ := cal_fit4 _ _ _ _ _ _ y1 m1 d1 h1 i1 s1 y2 m2 d2 h2 i2 s2
    rw [y3, m3, d3, h3, i3, s3] at b
    rw [if_pos h4]
    exact ⟨a, b, c⟩
  · obtain ⟨y1, y2, y3⟩ := padL_fix 4 y (by omega)
    rw [padL_five y (by omega)]
    obtain ⟨a, b, c⟩ := cal_fit5 _ _ _ _ _ _ y1 m1 d1 h1 i1 s1 y2 m2 d2 h2 i2 s2 (by rw [y3]; omega)
    rw [y3, m3, d3, h3, i3, s3] at b
    rw [if_neg h4]
    exact ⟨a, b, c⟩
/-- a form is the form of what is read of it -/
theorem cal_prs (l : List UInt8) (hf : fitB l = true) : ∃ y m d h i s, prsV l = [y, m, d, h, i, s] ∧ y ≤ 99999 ∧ m ≤ 99 ∧ d ≤ 99 ∧ h ≤ 99 ∧ i ≤ 99 ∧ s ≤ 99 ∧ calL (padL y 4) (padL m 2) (padL d 2) (padL h 2) (padL i 2) (padL s 2) = l := by
  unfold fitB at hf
  rw [Bool.or_eq_true, Bool.and_eq_true, Bool.and_eq_true, Bool.and_eq_true, Bool.and_eq_true, Bool.and_eq_true, decide_eq_true_iff, decide_eq_true_iff] at hf
  rcases hf with ⟨⟨h1, h2⟩, h3⟩ | ⟨⟨⟨h1, h0⟩, h2⟩, h3⟩
  · obtain ⟨a, b, c, d, e, f, g, h, i, j, k, m, n, o, p, q, r, s, t, u, rfl⟩ := split20 l h1
    have e3 : (digAll [a, b, c, d] && digAll [f, g] && digAll [i, j] && digAll [m, n] && digAll [p, q] && digAll [s, t]) = true := h3
    have e2 : (decide (e.toNat = 45) && decide (h.toNat = 45) && decide (k.toNat = 84) && decide (o.toNat = 58) && decide (r.toNat = 58) && decide (u.toNat = 90)) = true := h2
    simp only [Bool.and_eq_true, decide_eq_true_iff] at e2 e3
    obtain ⟨⟨⟨⟨⟨g1, g2⟩, g3⟩, g4⟩, g5⟩, g6⟩ := e3
    obtain ⟨⟨⟨⟨⟨q1, q2⟩, q3⟩, q4⟩, q5⟩, q6⟩ := e2
    refine ⟨valD [a, b, c, d], valD [f, g], valD [i, j], valD [m, n], valD [p, q], valD [s, t], rfl, ?_, ?_, ?_, ?_, ?_, ?_, ?_⟩
    · have := valD_bd _ 4 g1 (by simp); omega
    · have := valD_bd _ 2 g2 (by simp); omega
    · have := valD_bd _ 2 g3 (by simp); omega
    · have := valD_bd _ 2 g4 (by simp); omega
    · have := valD_bd _ 2 g5 (by simp); omega
    · have := valD_bd _ 2 g6 (by simp); omega
    · rw [fix_pad 3 _ rfl g1, fix_pad 1 _ rfl g2, fix_pad 1 _ rfl g3, fix_pad 1 _ rfl g4, fix_pad 1 _ rfl g5, fix_pad 1 _ rfl g6]
      rw [show e = 45 from UInt8.toNat_inj.1 q1, show h = 45 from UInt8.toNat_inj.1 q2, show k = 84 from UInt8.toNat_inj.1 q3, show o = 58 from UInt8.toNat_inj.1 q4, show r = 58 from UInt8.toNat_inj.1 q5, show u = 90 from UInt8.toNat_inj.1 q6]
      rfl
  · obtain ⟨z, a, b, c, d, e, f, g, h, i, j, k, m, n, o, p, q, r, s, t, u, rfl⟩ := split21 l h1
    have e3 : (digAll [z, a, b, c, d] && digAll [f, g] && digAll [i, j] && digAll [m, n] && digAll [p, q] && digAll [s, t]) = true := h3
    have e2 : (decide (e.toNat = 45) && decide (h.toNat = 45) && decide (k.toNat = 84) && decide (o.toNat = 58) && decide (r.toNat = 58) && decide (u.toNat = 90)) = true := h2
    have e0 : ¬ z.toNat = 48 := by simpa using h0
    simp only [Bool.and_eq_true, decide_eq_true_iff] at e2 e3
    obtain ⟨⟨⟨⟨⟨g1, g2⟩, g3⟩, g4⟩, g5⟩, g6⟩ := e3
    obtain ⟨⟨⟨⟨⟨q1, q2⟩, q3⟩, q4⟩, q5⟩, q6⟩ := e2
    have hy : 10000 ≤ valD [z, a, b, c, d] := by
      have hz : digB z = true := by
        rw [show [z, a, b, c, d] = [z] ++ [a, b, c, d] from rfl, digAll_app, Bool.and_eq_true] at g1
        have := g1.1; unfold digAll at this; simpa using this
      have := digB_bounds hz
      show 10000 ≤ 10 * (10 * (10 * (10 * (10 * 0 + (z.toNat - 48)) + (a.toNat - 48)) + (b.toNat - 48)) + (c.toNat - 48)) + (d.toNat - 48)
      omega
    refine ⟨valD [z, a, b, c, d], valD [f, g], valD [i, j], valD [m, n], valD [p, q], valD [s, t], rfl, ?_, ?_, ?_, ?_, ?_, ?_, ?_⟩
    · have := valD_bd _ 5 g1 (by simp); omega
    · have := valD_bd _ 2 g2 (by simp); omega
    · have := valD_bd _ 2 g3 (by simp); omega
    · have := valD_bd _ 2 g4 (by simp); omega
    · have := valD_bd _ 2 g5 (by simp); omega
    · have := valD_bd _ 2 g6 (by simp); omega
    · rw [padL_five _ hy, fix_pad 4 _ rfl g1, fix_pad 1 _ rfl g2, fix_pad 1 _ rfl g3, fix_pad 1 _ rfl g4, fix_pad 1 _ rfl g5, fix_pad 1 _ rfl g6]
      rw [show e = 45 from UInt8.toNat_inj.1 q1, show h = 45 from UInt8.toNat_inj.1 q2, show k = 84 from UInt8.toNat_inj.1 q3, show o = 58 from UInt8.toNat_inj.1 q4, show r = 58 from UInt8.toNat_inj.1 q5, show u = 90 from UInt8.toNat_inj.1 q6]
      rfl

end Go.Proofs.YtnncfifpgjlpaabDoor
