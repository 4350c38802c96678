/-
  Plain functions for reading calendar forms: which byte may stand where, the six numbers of a form, the instant of a date and a time. Nothing of the program stands here. No condition.
-/
import Derived.Test.YtnncfifpgjlpaabDoorClkDig
set_option linter.unusedVariables false
set_option linter.unusedSimpArgs false
set_option linter.unnecessarySimpa false
namespace Go.Proofs.YtnncfifpgjlpaabDoor
open Go.RowKit Go.PlainAid

/-- the calendar forms, 48 in place of each digit -/
def frmS : List Nat := [48, 48, 48, 48, 45, 48, 48, 45, 48, 48, 84, 48, 48, 58, 48, 48, 58, 48, 48, 90]
def frmN : List Nat := 48 :: frmS
def okC (f : Nat) (c : UInt8) : Bool := if f = 48 then digB c else decide (c.toNat = f)
def allOk (F : List Nat) (l : List UInt8) : Bool := (List.range F.length).all fun j => okC (F.getD j 0) (l.getD j 0)
/-- parts ended before byte i -/
def partC (F : List Nat) : Nat → Nat
  | 0 => 0
  | i + 1 => if F.getD i 0 = 48 then partC F i else partC F i + 1
/-- the six numbers behind i bytes -/
def pv (F : List Nat) (l : List UInt8) : Nat → List Nat
  | 0 => [0, 0, 0, 0, 0, 0]
  | i + 1 => if F.getD i 0 = 48 then (pv F l i).set (partC F i) (10 * (pv F l i).getD (partC F i) 0 + ((l.getD i 0).toNat - 48)) else pv F l i
/-- how many digits they have -/
def cv (F : List Nat) : Nat → List Nat
  | 0 => [0, 0, 0, 0, 0, 0]
  | i + 1 => if F.getD i 0 = 48 then (cv F i).set (partC F i) ((cv F i).getD (partC F i) 0 + 1) else cv F i
theorem pv_len (F : List Nat) (l : List UInt8) : ∀ i, (pv F l i).length = 6
  | 0 => rfl
  | i + 1 => by unfold pv; split <;> simp [pv_len F l i]
theorem cv_len (F : List Nat) : ∀ i, (cv F i).length = 6
  | 0 => rfl
  | i + 1 => by unfold cv; split <;> simp [cv_len F i]
theorem getD_set {α : Type} (l : List α) (a b : Nat) (v d : α) (h : a < l.length) : (l.set a v).getD b d = if b = a then v else l.getD b d := by
  rw [List.getD_eq_getElem?_getD, List.getD_eq_getElem?_getD, List.getElem?_set]
  by_cases e : a = b
  · subst e; rw [if_pos rfl, if_pos h, if_pos rfl]; rfl
  · rw [if_neg e, if_neg (fun x => e x.symm)]
theorem pv_lt (F : List Nat) (l : List UInt8) : ∀ i, (∀ j, j < i → okC (F.getD j 0) (l.getD j 0) = true) → (∀ j, j < i → partC F j < 6) → ∀ j, (pv F l i).getD j 0 < 10 ^ (cv F i).getD j 0
  | 0, _, _, j => by
    show ([0, 0, 0, 0, 0, 0] : List Nat).getD j 0 < 10 ^ ([0, 0, 0, 0, 0, 0] : List Nat).getD j 0
    rcases j with _ | _ | _ | _ | _ | _ | j <;> simp
  | i + 1, h, hp, j => by
    have ih := pv_lt F l i (fun j hj => h j (by omega)) (fun j hj => hp j (by omega)) j
    unfold pv cv
    by_cases e : F.getD i 0 = 48
    · rw [if_pos e, if_pos e, getD_set _ _ _ _ _ (by rw [pv_len]; exact hp i (by omega)), getD_set _ _ _ _ _ (by rw [cv_len]; exact hp i (by omega))]
      by_cases e2 : j = partC F i
      · rw [if_pos e2, if_pos e2, ← e2, Nat.pow_succ]
        have hd := h i (by omega)
        unfold okC at hd
        rw [if_pos e] at hd
        have := digB_bounds hd
        omega
      · rw [if_neg e2, if_neg e2]; exact ih
    · rw [if_neg e, if_neg e]; exact ih
theorem short_part : ∀ i, i < 20 → partC frmS i < 6 := by decide
theorem long_part : ∀ i, i < 21 → partC frmN i < 6 := by decide
theorem short_cv : ∀ i, i < 21 → ∀ j, j < 6 → (cv frmS i).getD j 0 ≤ 5 := by decide
theorem long_cv : ∀ i, i < 22 → ∀ j, j < 6 → (cv frmN i).getD j 0 ≤ 5 := by decide

/-- n bytes from a on -/
def seg (l : List UInt8) (a n : Nat) : List UInt8 := (l.drop a).take n
def sepB (l : List UInt8) (k : Nat) : Bool := decide ((l.getD k 0).toNat = 45) && decide ((l.getD (k + 3) 0).toNat = 45) && decide ((l.getD (k + 6) 0).toNat = 84) && decide ((l.getD (k + 9) 0).toNat = 58) && decide ((l.getD (k + 12) 0).toNat = 58) && decide ((l.getD (k + 15) 0).toNat = 90)
def segB (l : List UInt8) (k : Nat) : Bool := digAll (seg l 0 k) && digAll (seg l (k + 1) 2) && digAll (seg l (k + 4) 2) && digAll (seg l (k + 7) 2) && digAll (seg l (k + 10) 2) && digAll (seg l (k + 13) 2)
def segV (l : List UInt8) (k : Nat) : List Nat := [valD (seg l 0 k), valD (seg l (k + 1) 2), valD (seg l (k + 4) 2), valD (seg l (k + 7) 2), valD (seg l (k + 10) 2), valD (seg l (k + 13) 2)]

theorem split20 (l : List UInt8) (h : l.length = 20) : ∃ a b c d e f g h i j k m n o p q r s t u : UInt8, l = [a, b, c, d, e, f, g, h, i, j, k, m, n, o, p, q, r, s, t, u] := by
  match l, h with
  | [a, b, c, d, e, f, g, h, i, j, k, m, n, o, p, q, r, s, t, u], _ => exact ⟨a, b, c, d, e, f, g, h, i, j, k, m, n, o, p, q, r, s, t, u, rfl⟩
theorem range20 : List.range 20 = [0, 1, 2, 3, 4, 5, 6, 7, 8, 9, 10, 11, 12, 13, 14, 15, 16, 17, 18, 19] := by decide
theorem allOk_short (l : List UInt8) (hlen : l.length = 20) : allOk frmS l = (sepB l 4 && segB l 4) := by
  obtain ⟨a, b, c, d, e, f, g, h, i, j, k, m, n, o, p, q, r, s, t, u, rfl⟩ := split20 l hlen
  have e1 : allOk frmS [a, b, c, d, e, f, g, h, i, j, k, m, n, o, p, q, r, s, t, u] = (digB a && (digB b && (digB c && (digB d && (decide (e.toNat = 45) && (digB f && (digB g && (decide (h.toNat = 45) && (digB i && (digB j && (decide (k.toNat = 84) && (digB m && (digB n && (decide (o.toNat = 58) && (digB p && (digB q && (decide (r.toNat = 58) && (digB s && (digB t && (decide (u.toNat = 90) && true)))))))))))))))))))) := by
    unfold allOk
    rw [show frmS.length = 20 from rfl, range20]
    rfl
  have e2 : sepB [a, b, c, d, e, f, g, h, i, j, k, m, n, o, p, q, r, s, t, u] 4 = (decide (e.toNat = 45) && decide (h.toNat = 45) && decide (k.toNat = 84) && decide (o.toNat = 58) && decide (r.toNat = 58) && decide (u.toNat = 90)) := rfl
  have e3 : segB [a, b, c, d, e, f, g, h, i, j, k, m, n, o, p, q, r, s, t, u] 4 = ((digB a && (digB b && (digB c && (digB d && true)))) && (digB f && (digB g && true)) && (digB i && (digB j && true)) && (digB m && (digB n && true)) && (digB p && (digB q && true)) && (digB s && (digB t && true))) := rfl
  rw [e1, e2, e3]
  simp only [Bool.and_true, Bool.true_and, Bool.and_assoc, Bool.and_comm, Bool.and_left_comm]
theorem pv_short (l : List UInt8) (hlen : l.length = 20) : pv frmS l 20 = segV l 4 := by
  obtain ⟨a, b, c, d, e, f, g, h, i, j, k, m, n, o, p, q, r, s, t, u, rfl⟩ := split20 l hlen
  rfl
theorem frmN_get (j : Nat) : frmN.getD (j + 1) 0 = frmS.getD j 0 := rfl
theorem partC_long : ∀ i, partC frmN (i + 1) = partC frmS i
  | 0 => rfl
  | i + 1 => by
    show (if frmN.getD (i + 1) 0 = 48 then partC frmN (i + 1) else partC frmN (i + 1) + 1) = (if frmS.getD i 0 = 48 then partC frmS i else partC frmS i + 1)
    rw [frmN_get, partC_long i]
theorem split21 (l : List UInt8) (h : l.length = 21) : ∃ z a b c d e f g h i j k m n o p q r s t u : UInt8, l = [z, a, b, c, d, e, f, g, h, i, j, k, m, n, o, p, q, r, s, t, u] := by
  match l, h with
  | [z, a, b, c, d, e, f, g, h, i, j, k, m, n, o, p, q, r, s, t, u], _ => exact ⟨z, a, b, c, d, e, f, g, h, i, j, k, m, n, o, p, q, r, s, t, u, rfl⟩
theorem range21 : List.range 21 = [0, 1, 2, 3, 4, 5, 6, 7, 8, 9, 10, 11, 12, 13, 14, 15, 16, 17, 18, 19, 20] := by decide
theorem allOk_long (l : List UInt8) (hlen : l.length = 21) : allOk frmN l = (sepB l 5 && segB l 5) := by
  obtain ⟨z, a, b, c, d, e, f, g, h, i, j, k, m, n, o, p, q, r, s, t, u, rfl⟩ := split21 l hlen
  have e1 : allOk frmN [z, a, b, c, d, e, f, g, h, i, j, k, m, n, o, p, q, r, s, t, u] = (digB z && (digB a && (digB b && (digB c && (digB d && (decide (e.toNat = 45) && (digB f && (digB g && (decide (h.toNat = 45) && (digB i && (digB j && (decide (k.toNat = 84) && (digB m && (digB n && (decide (o.toNat = 58) && (digB p && (digB q && (decide (r.toNat = 58) && (digB s && (digB t && (decide (u.toNat = 90) && true))))))))))))))))))))) := by
    unfold allOk
    rw [show frmN.length = 21 from rfl, range21]
    rfl
  have e2 : sepB [z, a, b, c, d, e, f, g, h, i, j, k, m, n, o, p, q, r, s, t, u] 5 = (decide (e.toNat = 45) && decide (h.toNat = 45) && decide (k.toNat = 84) && decide (o.toNat = 58) && decide (r.toNat = 58) && decide (u.toNat = 90)) := rfl
  have e3 : segB [z, a, b, c, d, e, f, g, h, i, j, k, m, n, o, p, q, r, s, t, u] 5 = ((digB z && (digB a && (digB b && (digB c && (digB d && true))))) && (digB f && (digB g && true)) && (digB i && (digB j && true)) && (digB m && (digB n && true)) && (digB p && (digB q && true)) && (digB s && (digB t && true))) := rfl
  rw [e1, e2, e3]
  simp only [Bool.and_true, Bool.true_and, Bool.and_assoc, Bool.and_comm, Bool.and_left_comm]
theorem pv_long (l : List UInt8) (hlen : l.length = 21) : pv frmN l 21 = segV l 5 := by
  obtain ⟨z, a, b, c, d, e, f, g, h, i, j, k, m, n, o, p, q, r, s, t, u, rfl⟩ := split21 l hlen
  rfl

/-- a calendar form -/
def fitB (l : List UInt8) : Bool := (decide (l.length = 20) && sepB l 4 && segB l 4) || (decide (l.length = 21) && !decide ((l.getD 0 0).toNat = 48) && sepB l 5 && segB l 5)
def prsV (l : List UInt8) : List Nat := segV l (l.length - 16)
/-- the seconds from the instant 0 to a date and a time -/
def secs (y m d h i s : Nat) : Int := 86400 * (((dby y : Nat) : Int) - 719528 + ((cumM y (m - 1) : Nat) : Int) + (d : Int) - 1) + 3600 * (h : Int) + 60 * (i : Int) + (s : Int)
def okT (y m d h i s : Nat) : Prop := 1970 ≤ y ∧ 1 ≤ m ∧ m ≤ 12 ∧ 1 ≤ d ∧ d ≤ mlen y m ∧ h ≤ 23 ∧ i ≤ 59 ∧ s ≤ 59 ∧ secs y m d h i s ≤ 1099511627776
instance (y m d h i s : Nat) : Decidable (okT y m d h i s) := by unfold okT; infer_instance
def dateR (v : List Nat) : Int × Int := if okT (v.getD 0 0) (v.getD 1 0) (v.getD 2 0) (v.getD 3 0) (v.getD 4 0) (v.getD 5 0) then (secs (v.getD 0 0) (v.getD 1 0) (v.getD 2 0) (v.getD 3 0) (v.getD 4 0) (v.getD 5 0), 0) else (0, 27)
/-- Parse's answer -/
def parseR (l : List UInt8) : Int × Int := if fitB l then dateR (prsV l) else (0, 4)

theorem seg_len (l : List UInt8) (a n : Nat) : (seg l a n).length ≤ n := by unfold seg; rw [List.length_take]; omega
theorem valD_bd (l : List UInt8) (k : Nat) (h : digAll l = true) (hl : l.length ≤ k) : valD l < 10 ^ k :=
  Nat.lt_of_lt_of_le (valD_lt l h) (Nat.pow_le_pow_right (by omega) hl)

end Go.Proofs.YtnncfifpgjlpaabDoor
