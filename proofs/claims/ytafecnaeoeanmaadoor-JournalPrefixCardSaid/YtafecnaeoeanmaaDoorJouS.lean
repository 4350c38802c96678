/-
  Plain facts: the bytes of a record as the program writes them, the record with which a string begins as the program and the specification find it. No condition.
-/
import Derived.Test.YtafecnaeoeanmaaDoorJouL
import Derived.Test.YtafecnaeoeanmaaDoorJouC
set_option linter.unusedVariables false
set_option linter.unusedSimpArgs false
set_option linter.unnecessarySimpa false
namespace Go.Proofs.YtafecnaeoeanmaaDoor
open Go.PlainAid

theorem ofL_L (l : List UInt8) : (ofL l).data.toList = l := rfl
theorem ofL_back (s : ByteArray) : ofL s.data.toList = s := Lib.mk_data s
theorem ofL_inj {a b : List UInt8} (h : ofL a = ofL b) : a = b := by rw [← ofL_L a, h, ofL_L]
theorem L_len (s : ByteArray) : s.data.toList.length = s.size := Array.length_toList
theorem ofL_sz (l : List UInt8) : (ofL l).size = l.length := by unfold ofL; rw [Lib.size_mk]
theorem ofL_plus (l m : List UInt8) : ofL l ++ ofL m = ofL (l ++ m) := by
  apply ByteArray.ext
  rw [ByteArray.data_append]
  simp [ofL]
theorem encS_is (r : ByteArray) : encS r = ofL (encL r.data.toList) := rfl
theorem encS_form (r : ByteArray) : (((ofL (Lib.itoa (r.size : Int)) ++ ⟨#[58]⟩) ++ r) ++ txtS r) ++ ⟨#[10]⟩ = encS r := by
  have h1 : (⟨#[58]⟩ : ByteArray) = ofL [58] := rfl
  have h2 : (⟨#[10]⟩ : ByteArray) = ofL [10] := rfl
  have h3 : txtS r = ofL (txtL r.data.toList) := rfl
  have h4 : r = ofL r.data.toList := (ofL_back r).symm
  rw [encS_is, Lib.itoa_nonneg, h1, h2, h3, ofL_plus]
  conv => lhs; lhs; lhs; rhs; rw [h4]
  rw [ofL_plus, ofL_plus, ofL_plus]
  unfold encL
  rw [L_len]
  congr 1
  simp
theorem dec_len : ∀ n : Nat, (Lib.decDigits n).length ≤ n + 1 := by
  intro n
  induction n using Nat.strongRecOn with
  | _ n ih =>
    by_cases h : n < 10
    · rw [Lib.decDigits, dif_pos h]; simp
    · rw [Lib.decDigits, dif_neg h, List.length_append, List.length_singleton]
      have := ih (n / 10) (by omega)
      omega
theorem encS_size (r : ByteArray) : (encS r).size = (encL r.data.toList).length := ofL_sz _
theorem encS_le (r : ByteArray) : (encS r).size ≤ 2 * r.size + 19 := by
  rw [encS_size, encL_length, L_len]
  have := dec_len r.size
  omega
theorem encS_pos (r : ByteArray) : 18 ≤ (encS r).size := by
  rw [encS_size, encL_length]; omega
/-- how many bytes records have -/
def szS (l : List ByteArray) : Nat := (encsS l).size
theorem encsS_is (l : List ByteArray) : encsS l = ofL (encsL (l.map fun r => r.data.toList)) := rfl
theorem encsS_app (l m : List ByteArray) : encsS (l ++ m) = encsS l ++ encsS m := by
  rw [encsS_is, encsS_is, encsS_is, ofL_plus, List.map_append, encsL_app]
theorem encsS_nil : encsS [] = ⟨#[]⟩ := rfl
theorem encsS_one (r : ByteArray) : encsS [r] = encS r := by
  rw [encsS_is, encS_is]
  congr 1
  simp [encsL]
theorem encsS_snoc (l : List ByteArray) (r : ByteArray) : encsS (l ++ [r]) = encsS l ++ encS r := by rw [encsS_app, encsS_one]
theorem encsS_cons (r : ByteArray) (l : List ByteArray) : encsS (r :: l) = encS r ++ encsS l := by
  rw [show r :: l = [r] ++ l from rfl, encsS_app, encsS_one]
theorem szS_snoc (l : List ByteArray) (r : ByteArray) : szS (l ++ [r]) = szS l + (encS r).size := by
  unfold szS; rw [encsS_snoc, ByteArray.size_append]
theorem szS_app (l m : List ByteArray) : szS (l ++ m) = szS l + szS m := by
  unfold szS; rw [encsS_app, ByteArray.size_append]
theorem szS_cons (r : ByteArray) (l : List ByteArray) : szS (r :: l) = (encS r).size + szS l := by
  unfold szS; rw [encsS_cons, ByteArray.size_append]
theorem szS_nil : szS [] = 0 := rfl
theorem szS_le : ∀ (l : List ByteArray) (M : Nat), (∀ r ∈ l, r.size ≤ M) → szS l ≤ l.length * (2 * M + 19)
  | [], M, _ => by rw [szS_nil]; exact Nat.zero_le _
  | r :: l, M, h => by
    have h1 := encS_le r
    have h2 := h r (by simp)
    have h3 := szS_le l M (fun x hx => h x (by simp [hx]))
    rw [szS_cons, List.length_cons, Nat.add_mul]
    omega
theorem szS_many {l : List ByteArray} (h : ∀ r ∈ l, r.size ≤ 4096) (hl : l.length ≤ 4096) : szS l ≤ 40000000 := by
  have h1 := szS_le l 4096 h
  have h2 := Nat.mul_le_mul_right (2 * 4096 + 19) hl
  omega
theorem szS_len : ∀ l : List ByteArray, l.length ≤ szS l
  | [] => Nat.le_refl _
  | r :: l => by
    have := encS_pos r
    have := szS_len l
    rw [szS_cons, List.length_cons]; omega

/-- what first returns -/
def fV (s : ByteArray) : ByteArray := (firstS s).getD ⟨#[]⟩
def fN (s : ByteArray) : Nat := match firstS s with
  | some r => (encS r).size
  | none => 0
def fB (s : ByteArray) : Bool := (firstS s).isSome
theorem f_none {s : ByteArray} (h : firstL s.data.toList = none) : fV s = ⟨#[]⟩ ∧ fN s = 0 ∧ fB s = false := by
  have e : firstS s = none := by unfold firstS; rw [h]; rfl
  unfold fV fN fB; rw [e]; exact ⟨rfl, rfl, rfl⟩
theorem f_some {s r : ByteArray} (h : firstL s.data.toList = some r.data.toList) : fV s = r ∧ fN s = (encS r).size ∧ fB s = true := by
  have e : firstS s = some r := by
    unfold firstS; rw [h]
    show some (ofL r.data.toList) = some r
    rw [ofL_back]
  unfold fV fN fB; rw [e]; exact ⟨rfl, rfl, rfl⟩
theorem not_mem_dec (n : Nat) : (58 : UInt8) ∉ Lib.decDigits n := fun h => by
  have := List.all_eq_true.1 (dec_all n) _ h
  exact absurd this (by decide)
/-- where a record stands, the number and the rest are found by cutting -/
theorem first_cuts {s : ByteArray} {r : List UInt8} (h : firstL s.data.toList = some r) :
    readI (cutBef s ⟨#[58]⟩).data.toList = ((r.length : Int), 0) ∧ r.length ≤ 4096 ∧ r.length ≤ (cutAft s ⟨#[58]⟩).size ∧ (cutAft s ⟨#[58]⟩).data.toList.take r.length = r ∧ encL r <+: s.data.toList := by
  obtain ⟨h1, t, h2⟩ := first_back h
  have e : s = ofL (Lib.decDigits r.length ++ 58 :: (r ++ (txtL r ++ [10] ++ t))) := by
    rw [← ofL_back s, ← h2]
    congr 1
    unfold encL
    simp
  obtain ⟨_, c2, c3⟩ := cut_made (Lib.decDigits r.length) (r ++ (txtL r ++ [10] ++ t)) 58 (not_mem_dec _)
  rw [← e] at c2 c3
  refine ⟨?_, h1, ?_, ?_, t, h2⟩
  · rw [c2, ← Lib.itoa_nonneg]
    exact readI_itoa _ (by omega) (by omega)
  · rw [← L_len, c3, List.length_append]; omega
  · rw [c3, List.take_left' rfl]
theorem first_no {s : ByteArray} (h : ∀ r, firstL s.data.toList = some r → False) : firstL s.data.toList = none := by
  cases e : firstL s.data.toList with
  | none => rfl
  | some r => exact (h r e).elim
theorem first_bad {s : ByteArray} {v e : Int} (hr : readI (cutBef s ⟨#[58]⟩).data.toList = (v, e)) (h : e ≠ 0 ∨ v < 0 ∨ 4096 < v ∨ ((cutAft s ⟨#[58]⟩).size : Int) < v) : firstL s.data.toList = none := first_no fun r hf => by
  obtain ⟨h1, h2, h3, _, _⟩ := first_cuts hf
  rw [hr] at h1
  injection h1 with a b
  omega
theorem ext_take (y : ByteArray) (n : Nat) : (y.extract 0 n).data.toList = y.data.toList.take n := by
  rw [Lib.extract_upto]
theorem first_miss {s : ByteArray} {n : Nat} (hr : readI (cutBef s ⟨#[58]⟩).data.toList = ((n : Int), 0)) (h : Lib.hasPrefix s.data.toList (encS ((cutAft s ⟨#[58]⟩).extract 0 n)).data.toList = false) : firstL s.data.toList = none := first_no fun r hf => by
  obtain ⟨h1, h2, h3, h4, h5⟩ := first_cuts hf
  rw [hr] at h1
  injection h1 with a _
  have : n = r.length := by omega
  subst this
  have e : (encS ((cutAft s ⟨#[58]⟩).extract 0 r.length)).data.toList = encL r := by
    rw [encS_is, ofL_L, ext_take, h4]
  rw [e] at h
  unfold Lib.hasPrefix at h
  rw [List.isPrefixOf_iff_prefix.2 h5] at h
  cases h
theorem first_hit {s : ByteArray} {n : Nat} (h4 : n ≤ 4096) (hy : n ≤ (cutAft s ⟨#[58]⟩).size) (h : Lib.hasPrefix s.data.toList (encS ((cutAft s ⟨#[58]⟩).extract 0 n)).data.toList = true) : firstL s.data.toList = some ((cutAft s ⟨#[58]⟩).extract 0 n).data.toList := by
  unfold Lib.hasPrefix at h
  rw [List.isPrefixOf_iff_prefix, encS_is, ofL_L] at h
  refine first_some ?_ h
  rw [ext_take, List.length_take, L_len]; omega

/-- the specification's loop: digits, their value -/
theorem rf_big {s : List UInt8} {i : Nat} (h : (s.take i).all digB = true) (hv : 4096 < valD (s.take i)) : firstL s = none := by
  have e : (s.takeWhile digB).take i = s.take i := by
    have h1 : s.take i ++ s.drop i = s := List.take_append_drop i s
    have h2 : s.takeWhile digB = s.take i ++ (s.drop i).takeWhile digB := by
      conv => lhs; rw [← h1]
      exact List.takeWhile_append_of_pos fun a ha => List.all_eq_true.1 h a ha
    rw [h2]
    by_cases hl : i ≤ s.length
    · rw [List.take_append_of_le_length (by rw [List.length_take]; omega), List.take_take, Nat.min_self]
    · rw [List.drop_eq_nil_of_le (by omega)]; simp [List.take_take]
  have := valD_take_le (s.takeWhile digB) i
  rw [e] at this
  unfold firstL
  rw [if_neg (by omega)]
theorem rf_while {s : List UInt8} {i : Nat} (hi : i ≤ s.length) (h : (s.take i).all digB = true) (hn : ∀ c, s[i]? = some c → digB c = false) : s.takeWhile digB = s.take i := by
  conv => lhs; rw [← List.take_append_drop i s]
  rw [List.takeWhile_append_of_pos fun a ha => List.all_eq_true.1 h a ha]
  cases e : s.drop i with
  | nil => simp
  | cons c t =>
    have : s[i]? = some c := by
      have := congrArg (·[0]?) e
      simpa [List.getElem?_drop] using this
    rw [List.takeWhile_cons, hn c this]; simp
theorem rf_short {s : List UInt8} {i : Nat} (hi : i ≤ s.length) (h : (s.take i).all digB = true) (hn : ∀ c, s[i]? = some c → digB c = false) (hs : s.length < i + 1 + valD (s.take i)) : firstL s = none := first_none fun r hr hp => by
  obtain ⟨t, ht⟩ := hp
  have e : s = Lib.decDigits r.length ++ 58 :: (r ++ (txtL r ++ [10] ++ t)) := by rw [← ht]; unfold encL; simp
  have hw := rf_while hi h hn
  have h2 : s.takeWhile digB = Lib.decDigits r.length := by rw [e]; exact dec_take _ _
  rw [← hw, h2, val_dec] at hs
  have h3 := congrArg List.length e
  have h4 : i = (Lib.decDigits r.length).length := by
    rw [← h2, hw, List.length_take]; omega
  simp only [List.length_append, List.length_cons, txtL_length] at h3
  omega
theorem rf_eq {s : List UInt8} {i : Nat} (hi : i ≤ s.length) (h : (s.take i).all digB = true) (hn : ∀ c, s[i]? = some c → digB c = false) (hv : valD (s.take i) ≤ 4096) :
    firstL s = if (encL ((s.drop (i + 1)).take (valD (s.take i)))).isPrefixOf s then some ((s.drop (i + 1)).take (valD (s.take i))) else none := by
  unfold firstL
  rw [rf_while hi h hn, if_pos hv, List.length_take, Nat.min_eq_left hi]

/-- the records of a string, further on -/
structure DeP (s : ByteArray) (n : Nat) (out : List ByteArray) : Prop where
  le : n ≤ s.size
  sz : szS out = n
  dec : decS s = out ++ (decL (s.data.toList.drop n)).map ofL
  len : out.length ≤ n
  sm : ∀ r ∈ out, r.size ≤ 4096
theorem dep_start (s : ByteArray) : DeP s 0 [] := ⟨Nat.zero_le _, rfl, rfl, Nat.zero_le _, (by intro r hr; cases hr)⟩
theorem ext_drop (s : ByteArray) (n : Nat) : (s.extract n s.size).data.toList = s.data.toList.drop n := by
  rw [Lib.extract_from]
theorem DeP.more {s : ByteArray} {n : Nat} {out : List ByteArray} {r : ByteArray} (h : DeP s n out) (hf : firstL (s.extract n s.size).data.toList = some r.data.toList) : DeP s (n + (encS r).size) (out ++ [r]) := by
  rw [ext_drop] at hf
  obtain ⟨h1, h2⟩ := first_back hf
  have hl := h2.length_le
  rw [List.length_drop, L_len] at hl
  have he := encS_size r
  have hp := encS_pos r
  refine ⟨by have := h.le; omega, by rw [szS_snoc, h.sz], ?_, ?_, ?_⟩
  · rw [h.dec, decL_some hf, List.drop_drop, he, List.map_cons, ofL_back]
    simp
  · rw [List.length_append, List.length_singleton]; have := h.len; omega
  · intro x hx
    rcases List.mem_append.1 hx with hx | hx
    · exact h.sm x hx
    · rw [List.mem_singleton.1 hx, ← L_len]; exact h1
theorem DeP.last {s : ByteArray} {n : Nat} {out : List ByteArray} (h : DeP s n out) (hf : firstL (s.extract n s.size).data.toList = none) : decS s = out ∧ szS (decS s) = n := by
  rw [ext_drop] at hf
  have e : decS s = out := by rw [h.dec, decL_none hf]; simp
  exact ⟨e, by rw [e]; exact h.sz⟩
theorem first_or (s : ByteArray) : firstL s.data.toList = none ∨ ∃ r : ByteArray, firstL s.data.toList = some r.data.toList := by
  cases h : firstL s.data.toList with
  | none => exact .inl rfl
  | some r => exact .inr ⟨ofL r, rfl⟩
theorem map_ofL (l : List ByteArray) : (l.map fun r => r.data.toList).map ofL = l := by
  rw [List.map_map]
  conv => rhs; rw [← List.map_id l]
  apply List.map_congr_left
  intro r _
  exact ofL_back r
theorem decS_small {s r : ByteArray} (h : r ∈ decS s) : r.size ≤ 4096 := by
  unfold decS at h
  obtain ⟨l, hl, rfl⟩ := List.mem_map.1 h
  have := decL_small _ l hl
  rw [Lib.size_mk]; exact this
theorem decS_encs {l : List ByteArray} (h : ∀ r ∈ l, r.size ≤ 4096) : decS (encsS l) = l := by
  show (decL (encsS l).data.toList).map ofL = l
  rw [encsS_is, ofL_L, decL_back, map_ofL]
  intro r hr
  obtain ⟨x, hx, rfl⟩ := List.mem_map.1 hr
  rw [L_len]; exact h x hx
/-- a prefix of the bytes of records -/
theorem decS_take {l : List ByteArray} (k : Nat) (h : ∀ r ∈ l, r.size ≤ 4096) : ∃ m, m ≤ l.length ∧ decS ((encsS l).extract 0 k) = l.take m ∧ szS (l.take m) ≤ k ∧ (m = l.length ∨ k < szS (l.take (m + 1))) := by
  obtain ⟨m, h1, h2, h3, h4⟩ := decL_take (l.map fun r => r.data.toList) k (fun r hr => by
    obtain ⟨x, hx, rfl⟩ := List.mem_map.1 hr
    rw [L_len]; exact h x hx)
  rw [List.length_map] at h1 h4
  refine ⟨m, h1, ?_, ?_, ?_⟩
  · show (decL ((encsS l).extract 0 k).data.toList).map ofL = _
    rw [ext_take, encsS_is, ofL_L, h2, ← List.map_take, map_ofL]
  · unfold szS
    rw [encsS_is, ofL_sz, List.map_take]; exact h3
  · rcases h4 with h4 | h4
    · exact .inl h4
    · refine .inr ?_
      unfold szS
      rw [encsS_is, ofL_sz, List.map_take]; exact h4

end Go.Proofs.YtafecnaeoeanmaaDoor
