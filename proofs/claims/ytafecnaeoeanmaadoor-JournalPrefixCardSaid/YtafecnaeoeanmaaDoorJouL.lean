/-
  Plain functions for journals: the bytes of a record, the record with which a string begins, the records at the beginning of a string, prefixes of the bytes of records, one byte of a record replaced. Nothing of the program stands here. No condition.
-/
import Derived.Test.YtafecnaeoeanmaaDoorCodecIntP
import Derived.Test.YtafecnaeoeanmaaDoorDigA
set_option linter.unusedVariables false
set_option linter.unusedSimpArgs false
set_option linter.unnecessarySimpa false
namespace Go.Proofs.YtafecnaeoeanmaaDoor
open Go.PlainAid

/-- the bytes of a record -/
def encL (r : List UInt8) : List UInt8 := Lib.decDigits r.length ++ 58 :: (r ++ (txtL r ++ [10]))
/-- the record with which a string begins -/
def firstL (s : List UInt8) : Option (List UInt8) :=
  if valD (s.takeWhile digB) ≤ 4096 then
    if (encL ((s.drop ((s.takeWhile digB).length + 1)).take (valD (s.takeWhile digB)))).isPrefixOf s then some ((s.drop ((s.takeWhile digB).length + 1)).take (valD (s.takeWhile digB))) else none
  else none
theorem dec_all (n : Nat) : (Lib.decDigits n).all digB = true := by
  by_cases h : 1 ≤ n
  · exact (digs_parts (dec_digs n h)).2
  · obtain rfl : n = 0 := by omega
    rw [Lib.decDigits, dif_pos (by omega)]; rfl
theorem dec_ne (n : Nat) : Lib.decDigits n ≠ [] := by
  rw [Lib.decDigits]
  split
  · simp
  · simp
theorem dec_take (n : Nat) (x : List UInt8) : (Lib.decDigits n ++ 58 :: x).takeWhile digB = Lib.decDigits n := by
  rw [List.takeWhile_append_of_pos (fun a h => List.all_eq_true.1 (dec_all n) a h)]
  rw [List.takeWhile_cons, if_neg (by decide), List.append_nil]
theorem dec_drop (n : Nat) (x : List UInt8) : (Lib.decDigits n ++ 58 :: x).drop ((Lib.decDigits n).length + 1) = x := by
  rw [List.drop_append]
  simp
theorem first_shape (n : Nat) (x : List UInt8) (h : n ≤ 4096) : firstL (Lib.decDigits n ++ 58 :: x) = if (encL (x.take n)).isPrefixOf (Lib.decDigits n ++ 58 :: x) then some (x.take n) else none := by
  unfold firstL
  rw [dec_take, val_dec, if_pos h, dec_drop]
theorem first_some {s r : List UInt8} (h : r.length ≤ 4096) (hp : encL r <+: s) : firstL s = some r := by
  obtain ⟨t, rfl⟩ := hp
  have e : encL r ++ t = Lib.decDigits r.length ++ 58 :: (r ++ (txtL r ++ [10] ++ t)) := by unfold encL; simp
  rw [e, first_shape _ _ h, List.take_left', if_pos]
  · rw [List.isPrefixOf_iff_prefix]
    exact ⟨t, e⟩
  · rfl
theorem first_back {s r : List UInt8} (h : firstL s = some r) : r.length ≤ 4096 ∧ encL r <+: s := by
  unfold firstL at h
  split at h
  · rename_i h1
    split at h
    · rename_i h2
      rw [List.isPrefixOf_iff_prefix] at h2
      have e := Option.some.inj h
      subst e
      refine ⟨?_, h2⟩
      rw [List.length_take]; omega
    · cases h
  · cases h
theorem first_none {s : List UInt8} (h : ∀ r, r.length ≤ 4096 → encL r <+: s → False) : firstL s = none := by
  cases e : firstL s with
  | none => rfl
  | some r => exact (h r (first_back e).1 (first_back e).2).elim
theorem encL_length (r : List UInt8) : (encL r).length = (Lib.decDigits r.length).length + r.length + 18 := by
  unfold encL
  simp only [List.length_append, List.length_cons, List.length_nil, txtL_length]
  omega
theorem encL_pos (r : List UInt8) : 0 < (encL r).length := by rw [encL_length]; omega

/-- the records at the beginning of a string -/
def decF : Nat → List UInt8 → List (List UInt8)
  | 0, _ => []
  | k + 1, s => match firstL s with
    | none => []
    | some r => r :: decF k (s.drop (encL r).length)
def decL (s : List UInt8) : List (List UInt8) := decF s.length s
theorem first_nil : firstL [] = none := first_none fun r _ hp => by
  have h1 := hp.length_le
  have h2 := encL_pos r
  rw [List.length_nil] at h1
  omega
theorem decF_more : ∀ (k m : Nat) (s : List UInt8), s.length ≤ k → s.length ≤ m → decF k s = decF m s
  | 0, 0, s, _, _ => rfl
  | 0, m + 1, s, h, _ => by
    obtain rfl : s = [] := List.length_eq_zero_iff.1 (by omega)
    show [] = decF (m + 1) []
    unfold decF; rw [first_nil]
  | k + 1, 0, s, _, h => by
    obtain rfl : s = [] := List.length_eq_zero_iff.1 (by omega)
    show decF (k + 1) [] = []
    unfold decF; rw [first_nil]
  | k + 1, m + 1, s, h1, h2 => by
    unfold decF
    cases e : firstL s with
    | none => rfl
    | some r =>
      have hp := (first_back e).2.length_le
      have := encL_pos r
      show r :: decF k _ = r :: decF m _
      rw [decF_more k m _ (by rw [List.length_drop]; omega) (by rw [List.length_drop]; omega)]
theorem decL_none {s : List UInt8} (h : firstL s = none) : decL s = [] := by
  unfold decL
  cases s with
  | nil => rfl
  | cons c s => rw [List.length_cons]; unfold decF; rw [h]
theorem decL_some {s r : List UInt8} (h : firstL s = some r) : decL s = r :: decL (s.drop (encL r).length) := by
  have hp := (first_back h).2.length_le
  have h2 := encL_pos r
  unfold decL
  rw [decF_more s.length (s.length - 1 + 1) s (Nat.le_refl _) (by omega)]
  conv => lhs; unfold decF
  rw [h]
  show r :: _ = r :: _
  rw [decF_more _ _ _ (by rw [List.length_drop]; omega) (Nat.le_refl _)]
theorem decL_nil : decL [] = [] := rfl
def encsL (l : List (List UInt8)) : List UInt8 := l.flatMap encL
theorem encsL_cons (r : List UInt8) (l : List (List UInt8)) : encsL (r :: l) = encL r ++ encsL l := rfl
theorem encsL_app (l m : List (List UInt8)) : encsL (l ++ m) = encsL l ++ encsL m := by simp [encsL]
theorem decL_enc {r t : List UInt8} (h : r.length ≤ 4096) : decL (encL r ++ t) = r :: decL t := by
  rw [decL_some (first_some h ⟨t, rfl⟩), List.drop_left']
  rfl
theorem decL_encs : ∀ {l : List (List UInt8)} {t : List UInt8}, (∀ r ∈ l, r.length ≤ 4096) → decL (encsL l ++ t) = l ++ decL t
  | [], t, _ => rfl
  | r :: l, t, h => by
    rw [encsL_cons, List.append_assoc, decL_enc (h r (by simp)), decL_encs (l := l) (fun x hx => h x (by simp [hx]))]
    rfl
theorem decL_back {l : List (List UInt8)} (h : ∀ r ∈ l, r.length ≤ 4096) : decL (encsL l) = l := by
  have := decL_encs (t := []) h
  rw [List.append_nil, decL_nil, List.append_nil] at this
  exact this
theorem decL_split : ∀ (k : Nat) (s : List UInt8), s.length ≤ k → (∀ r ∈ decL s, r.length ≤ 4096) ∧ ∃ t, s = encsL (decL s) ++ t ∧ firstL t = none
  | 0, s, h => by
    obtain rfl : s = [] := List.length_eq_zero_iff.1 (by omega)
    exact ⟨(by intro r hr; cases hr), [], rfl, first_nil⟩
  | k + 1, s, h => by
    cases e : firstL s with
    | none => rw [decL_none e]; exact ⟨(by intro r hr; cases hr), s, rfl, e⟩
    | some r =>
      obtain ⟨h1, t, rfl⟩ := first_back e
      have h2 := encL_pos r
      rw [List.length_append] at h
      rw [decL_enc h1]
      obtain ⟨i1, u, i2, i3⟩ := decL_split k t (by omega)
      refine ⟨?_, u, ?_, i3⟩
      · intro x hx
        rcases List.mem_cons.1 hx with rfl | hx
        · exact h1
        · exact i1 x hx
      · rw [encsL_cons, List.append_assoc, ← i2]
theorem decL_small (s : List UInt8) : ∀ r ∈ decL s, r.length ≤ 4096 := (decL_split _ s (Nat.le_refl _)).1
theorem first_cut {r : List UInt8} {k : Nat} (h : r.length ≤ 4096) (hk : k < (encL r).length) (t : List UInt8) : firstL ((encL r ++ t).take k) = none := first_none fun r' h' hp => by
  have h1 : encL r' <+: encL r ++ t := hp.trans (List.take_prefix _ _)
  have h2 := first_some h' h1
  rw [first_some h ⟨t, rfl⟩] at h2
  have h3 := hp.length_le
  rw [Option.some.inj h2] at hk
  rw [List.length_take] at h3
  omega
/-- a prefix of the bytes of records is read as a prefix of the records -/
theorem decL_take : ∀ (l : List (List UInt8)) (k : Nat), (∀ r ∈ l, r.length ≤ 4096) →
    ∃ m, m ≤ l.length ∧ decL ((encsL l).take k) = l.take m ∧ (encsL (l.take m)).length ≤ k ∧ (m = l.length ∨ k < (encsL (l.take (m + 1))).length)
  | [], k, _ => ⟨0, Nat.le_refl _, by rw [show encsL [] = [] from rfl, List.take_nil]; rfl, Nat.zero_le _, .inl rfl⟩
  | r :: l, k, h => by
    by_cases hk : (encL r).length ≤ k
    · obtain ⟨m, h1, h2, h3, h4⟩ := decL_take l (k - (encL r).length) (fun x hx => h x (by simp [hx]))
      refine ⟨m + 1, by simpa using h1, ?_, ?_, ?_⟩
      · rw [encsL_cons, List.take_append, List.take_of_length_le hk, decL_enc (h r (by simp)), h2]
        rfl
      · rw [List.take_succ_cons, encsL_cons, List.length_append]; omega
      · rcases h4 with h4 | h4
        · exact .inl (by simpa using h4)
        · refine .inr ?_
          rw [List.take_succ_cons, encsL_cons, List.length_append]; omega
    · refine ⟨0, Nat.zero_le _, ?_, Nat.zero_le _, .inr ?_⟩
      · rw [encsL_cons, decL_none (first_cut (h r (by simp)) (by omega) _)]
        rfl
      · rw [List.take_succ_cons, encsL_cons, List.length_append]; omega
theorem txtL_inj {a b : List UInt8} (h : txtL a = txtL b) : sumN a = sumN b := by
  have h1 := rdO_hexN (sumN a) (sumN_lt a)
  have h2 := rdO_hexN (sumN b) (sumN_lt b)
  unfold txtL at h
  rw [h, h2] at h1
  exact (Option.some.inj h1).symm
/-- one byte of a record replaced -/
theorem first_changed (p q : List UInt8) (a c : UInt8) (h : (p ++ [a] ++ q).length ≤ 4096) (hne : a ≠ c) :
    firstL (Lib.decDigits (p ++ [a] ++ q).length ++ 58 :: ((p ++ [c] ++ q) ++ (txtL (p ++ [a] ++ q) ++ [10]))) = none := by
  have hl : (p ++ [c] ++ q).length = (p ++ [a] ++ q).length := by simp
  rw [first_shape _ _ h, if_neg]
  rw [← hl, List.take_left' rfl]
  intro hp
  rw [List.isPrefixOf_iff_prefix] at hp
  unfold encL at hp
  have he := hp.eq_of_length (by simp [txtL_length])
  have h1 := List.append_cancel_left he
  have h2 := List.append_cancel_left (List.cons.inj h1).2
  have h3 := List.append_cancel_right h2
  exact hne (sumN_byte p q a c (txtL_inj h3).symm)

/-- records as strings -/
def encS (r : ByteArray) : ByteArray := ⟨(encL r.data.toList).toArray⟩
def decS (s : ByteArray) : List ByteArray := (decL s.data.toList).map fun l => ⟨l.toArray⟩
def encsS (l : List ByteArray) : ByteArray := ⟨(encsL (l.map fun r => r.data.toList)).toArray⟩
def firstS (s : ByteArray) : Option ByteArray := (firstL s.data.toList).map fun l => ⟨l.toArray⟩

end Go.Proofs.YtafecnaeoeanmaaDoor
