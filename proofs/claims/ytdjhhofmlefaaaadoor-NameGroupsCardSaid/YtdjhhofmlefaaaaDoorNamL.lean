/-
  Plain functions for distinguished names on lists of bytes: where a separator stands that is not escaped, the pieces of a text, the value that is written, the text of a component. No condition.
-/
import Derived.Test.YtdjhhofmlefaaaaDoorFoldB
set_option linter.unusedVariables false
set_option linter.unusedSimpArgs false
set_option linter.unnecessarySimpa false
namespace Go.Proofs.YtdjhhofmlefaaaaDoor
open Go.PlainAid

def spec4 (c : UInt8) : Bool := c == 44 || c == 61 || c == 43 || c == 92
/-- where the first c that is not escaped stands, or the length -/
def nextP (c : UInt8) : List UInt8 → Nat
  | [] => 0
  | x :: r => if x = c then 0 else if x = 92 then (match r with
      | [] => 1
      | _ :: r' => nextP c r' + 2) else nextP c r + 1
/-- the value that is written as a piece, unless it is in no right form -/
def valP : List UInt8 → Option (List UInt8)
  | [] => some []
  | x :: r => if x = 92 then (match r with
      | [] => none
      | y :: r' => if spec4 y then (valP r').map (y :: ·) else none) else if x = 61 ∨ x = 43 then none else (valP r).map (x :: ·)
/-- the same, where a comma that is not escaped is refused, too -/
def valQ : List UInt8 → Option (List UInt8)
  | [] => some []
  | x :: r => if x = 92 then (match r with
      | [] => none
      | y :: r' => if spec4 y then (valQ r').map (y :: ·) else none) else if spec4 x then none else (valQ r).map (x :: ·)
def escB (c : UInt8) : List UInt8 := if spec4 c then [92, c] else [c]
def escV (l : List UInt8) : List UInt8 := l.flatMap escB
/-- no c that is not escaped, and no escape at the end -/
def clos (c : UInt8) : List UInt8 → Bool
  | [] => true
  | x :: r => if x = c then false else if x = 92 then (match r with
      | [] => false
      | _ :: r' => clos c r') else clos c r
/-- no c that is not escaped -/
def nocut (c : UInt8) (l : List UInt8) : Prop := nextP c l = l.length

theorem nextP_le (c : UInt8) : ∀ l, nextP c l ≤ l.length
  | [] => Nat.le_refl _
  | [x] => by
    unfold nextP
    by_cases h : x = c
    · rw [if_pos h]; exact Nat.zero_le _
    · rw [if_neg h]
      by_cases h2 : x = 92
      · rw [if_pos h2]; exact Nat.le_refl _
      · rw [if_neg h2]; simp [nextP]
  | x :: y :: r => by
    unfold nextP
    by_cases h : x = c
    · rw [if_pos h]; exact Nat.zero_le _
    · rw [if_neg h]
      by_cases h2 : x = 92
      · rw [if_pos h2]; have := nextP_le c r; simp; exact this
      · rw [if_neg h2]; have := nextP_le c (y :: r); simp at this ⊢; exact this
theorem nextP_clos (c : UInt8) (b : List UInt8) : ∀ a, clos c a = true → nextP c (a ++ b) = a.length + nextP c b
  | [], _ => by simp
  | [x], h => by
    unfold clos at h
    by_cases h1 : x = c
    · rw [if_pos h1] at h; cases h
    · rw [if_neg h1] at h
      by_cases h2 : x = 92
      · rw [if_pos h2] at h; cases h
      · show nextP c (x :: b) = _
        rw [show nextP c (x :: b) = nextP c b + 1 by conv => lhs; unfold nextP; rw [if_neg h1, if_neg h2]]
        simp; omega
  | x :: y :: r, h => by
    unfold clos at h
    by_cases h1 : x = c
    · rw [if_pos h1] at h; cases h
    · rw [if_neg h1] at h
      by_cases h2 : x = 92
      · rw [if_pos h2] at h
        have := nextP_clos c b r h
        show nextP c (x :: y :: (r ++ b)) = _
        rw [show nextP c (x :: y :: (r ++ b)) = nextP c (r ++ b) + 2 by conv => lhs; unfold nextP; rw [if_neg h1, if_pos h2], this]
        simp; omega
      · rw [if_neg h2] at h
        have := nextP_clos c b (y :: r) h
        show nextP c (x :: (y :: r ++ b)) = _
        rw [show nextP c (x :: (y :: r ++ b)) = nextP c (y :: r ++ b) + 1 by conv => lhs; unfold nextP; rw [if_neg h1, if_neg h2], this]
        simp; omega
theorem clos_app (c : UInt8) (b : List UInt8) (hb : clos c b = true) : ∀ a, clos c a = true → clos c (a ++ b) = true
  | [], _ => hb
  | [x], h => by
    unfold clos at h
    by_cases h1 : x = c
    · rw [if_pos h1] at h; cases h
    · rw [if_neg h1] at h
      by_cases h2 : x = 92
      · rw [if_pos h2] at h; cases h
      · show clos c (x :: b) = true
        unfold clos; rw [if_neg h1, if_neg h2]; exact hb
  | x :: y :: r, h => by
    unfold clos at h
    by_cases h1 : x = c
    · rw [if_pos h1] at h; cases h
    · rw [if_neg h1] at h
      by_cases h2 : x = 92
      · rw [if_pos h2] at h
        show clos c (x :: y :: (r ++ b)) = true
        unfold clos; rw [if_neg h1, if_pos h2]; exact clos_app c b hb r h
      · rw [if_neg h2] at h
        show clos c (x :: (y :: r ++ b)) = true
        unfold clos; rw [if_neg h1, if_neg h2]; exact clos_app c b hb (y :: r) h
theorem nocut_of_clos (c : UInt8) (l : List UInt8) (h : clos c l = true) : nocut c l := by
  have := nextP_clos c [] l h
  rw [List.append_nil] at this
  unfold nocut; rw [this]; rfl
theorem clos_plain (c : UInt8) : ∀ l : List UInt8, (∀ x ∈ l, x ≠ c ∧ x ≠ 92) → clos c l = true
  | [], _ => rfl
  | x :: r, h => by
    have h0 := h x (by simp)
    unfold clos; rw [if_neg h0.1, if_neg h0.2]; exact clos_plain c r (fun y hy => h y (by simp [hy]))
theorem spec4_iff (c : UInt8) : spec4 c = true ↔ c = 44 ∨ c = 61 ∨ c = 43 ∨ c = 92 := by
  unfold spec4; simp [or_assoc]
theorem clos_escV (c : UInt8) (hc : spec4 c = true) (h92 : c ≠ 92) : ∀ l, clos c (escV l) = true
  | [] => rfl
  | x :: r => by
    have ih := clos_escV c hc h92 r
    show clos c (escB x ++ escV r) = true
    unfold escB
    by_cases h : spec4 x = true
    · rw [if_pos h]
      show clos c (92 :: x :: escV r) = true
      unfold clos; rw [if_neg (Ne.symm h92), if_pos rfl]; exact ih
    · rw [if_neg h]
      have h1 : x ≠ c := fun e => h (by rw [e]; exact hc)
      have h2 : x ≠ 92 := fun e => h (by rw [e]; rfl)
      show clos c (x :: escV r) = true
      unfold clos; rw [if_neg h1, if_neg h2]; exact ih
theorem valP_escV : ∀ l, valP (escV l) = some l
  | [] => rfl
  | x :: r => by
    have ih := valP_escV r
    show valP (escB x ++ escV r) = _
    unfold escB
    by_cases h : spec4 x = true
    · rw [if_pos h]
      show valP (92 :: x :: escV r) = _
      unfold valP; rw [if_pos rfl]
      show (if spec4 x = true then (valP (escV r)).map (x :: ·) else none) = _
      rw [if_pos h, ih]; rfl
    · rw [if_neg h]
      have h2 : x ≠ 92 := fun e => h (by rw [e]; rfl)
      have h3 : ¬ (x = 61 ∨ x = 43) := fun e => h (by rcases e with e | e <;> (rw [e]; rfl))
      show valP (x :: escV r) = _
      unfold valP; rw [if_neg h2, if_neg h3, ih]; rfl
/-- where no comma stands that is not escaped, both ways of reading a value are one -/
theorem valQ_valP : ∀ l, nocut 44 l → valQ l = valP l
  | [], _ => rfl
  | [x], h => by
    unfold nocut nextP at h
    by_cases h1 : x = 44
    · rw [if_pos h1] at h; simp at h
    · unfold valQ valP
      by_cases h2 : x = 92
      · rw [if_pos h2, if_pos h2]
      · rw [if_neg h2, if_neg h2]
        by_cases h3 : x = 61 ∨ x = 43
        · rw [if_pos h3, if_pos (by rw [spec4_iff]; rcases h3 with h3 | h3 <;> simp [h3])]
        · rw [if_neg h3, if_neg (by rw [spec4_iff]; simp at h3; simp [h1, h2, h3])]; rfl
  | x :: y :: r, h => by
    unfold nocut nextP at h
    by_cases h1 : x = 44
    · rw [if_pos h1] at h; simp at h
    · rw [if_neg h1] at h
      unfold valQ valP
      by_cases h2 : x = 92
      · rw [if_pos h2] at h
        rw [if_pos h2, if_pos h2]
        show (if spec4 y = true then (valQ r).map (y :: ·) else none) = (if spec4 y = true then (valP r).map (y :: ·) else none)
        rw [valQ_valP r (by unfold nocut; simp at h; exact h)]
      · rw [if_neg h2] at h
        rw [if_neg h2, if_neg h2, valQ_valP (y :: r) (by unfold nocut; simp at h ⊢; exact h)]
        by_cases h3 : x = 61 ∨ x = 43
        · rw [if_pos h3, if_pos (by rw [spec4_iff]; rcases h3 with h3 | h3 <;> simp [h3])]
        · rw [if_neg h3, if_neg (by rw [spec4_iff]; simp at h3; simp [h1, h2, h3])]
/-- what stands before the first c holds none -/
theorem nocut_take (c : UInt8) (hc : c ≠ 92) : ∀ l : List UInt8, nocut c (l.take (nextP c l))
  | [] => by unfold nocut; simp [nextP]
  | [x] => by
    unfold nocut
    conv => lhs; arg 2; arg 1; unfold nextP
    conv => rhs; arg 1; arg 1; unfold nextP
    by_cases h1 : x = c
    · rw [if_pos h1]; simp [nextP]
    · rw [if_neg h1]
      by_cases h2 : x = 92
      · rw [if_pos h2]; simp [nextP, h1, h2]; exact fun e => absurd e.symm hc
      · rw [if_neg h2]; simp [nextP, h1, h2]
  | x :: y :: r => by
    unfold nocut
    conv => lhs; arg 2; arg 1; unfold nextP
    conv => rhs; arg 1; arg 1; unfold nextP
    by_cases h1 : x = c
    · rw [if_pos h1]; simp [nextP]
    · rw [if_neg h1]
      by_cases h2 : x = 92
      · have ih := nocut_take c hc r
        unfold nocut at ih
        rw [if_pos h2]
        show nextP c (x :: y :: r.take (nextP c r)) = (x :: y :: r.take (nextP c r)).length
        rw [show nextP c (x :: y :: r.take (nextP c r)) = nextP c (r.take (nextP c r)) + 2 by conv => lhs; unfold nextP; rw [if_neg h1, if_pos h2], ih]
        simp
      · have ih := nocut_take c hc (y :: r)
        unfold nocut at ih
        rw [if_neg h2]
        show nextP c (x :: (y :: r).take (nextP c (y :: r))) = (x :: (y :: r).take (nextP c (y :: r))).length
        rw [show nextP c (x :: (y :: r).take (nextP c (y :: r))) = nextP c ((y :: r).take (nextP c (y :: r))) + 1 by conv => lhs; unfold nextP; rw [if_neg h1, if_neg h2], ih]
        simp
/-- and so does what stands behind another separator -/
theorem nocut_drop (c d : UInt8) (hd : d ≠ 92) (hcd : c ≠ d) : ∀ l : List UInt8, nocut c l → nextP d l < l.length → nocut c (l.drop (nextP d l + 1))
  | [], _, h => by simp [nextP] at h
  | [x], h, h0 => by
    have : nextP d [x] = 0 := by simp at h0; exact h0
    rw [this]; unfold nocut; simp [nextP]
  | x :: y :: r, h, h0 => by
    have e0 : nextP d (x :: y :: r) = if x = d then 0 else if x = 92 then nextP d r + 2 else nextP d (y :: r) + 1 := by conv => lhs; unfold nextP
    have e1 : nextP c (x :: y :: r) = if x = c then 0 else if x = 92 then nextP c r + 2 else nextP c (y :: r) + 1 := by conv => lhs; unfold nextP
    unfold nocut at h
    rw [e1] at h
    have hxc : x ≠ c := fun e => by rw [if_pos e] at h; simp at h
    rw [if_neg hxc] at h
    rw [e0] at h0 ⊢
    by_cases h1 : x = d
    · rw [if_pos h1]
      have h2 : x ≠ 92 := fun e => hd (h1.symm.trans e)
      rw [if_neg h2] at h
      unfold nocut; simp at h ⊢; exact h
    · rw [if_neg h1] at h0 ⊢
      by_cases h2 : x = 92
      · rw [if_pos h2] at h h0 ⊢
        have := nocut_drop c d hd hcd r (by unfold nocut; simp at h; exact h) (by simp at h0; exact h0)
        simpa using this
      · rw [if_neg h2] at h h0 ⊢
        have := nocut_drop c d hd hcd (y :: r) (by unfold nocut; simp at h ⊢; exact h) (by simp at h0 ⊢; exact h0)
        simpa using this

theorem nocut_pre (c : UInt8) : ∀ a b : List UInt8, nocut c (a ++ b) → nocut c a
  | [], _, _ => by unfold nocut; simp [nextP]
  | [x], b, h => by
    unfold nocut at *
    have e1 : nextP c ([x] ++ b) = nextP c (x :: b) := rfl
    by_cases h1 : x = c
    · rw [e1] at h
      unfold nextP at h
      rw [if_pos h1] at h; simp at h
    · have e : nextP c [x] = if x = c then 0 else if x = 92 then 1 else nextP c [] + 1 := by conv => lhs; unfold nextP
      rw [e, if_neg h1]
      split <;> simp [nextP]
  | x :: y :: r, b, h => by
    have e0 : ∀ m, nextP c (x :: y :: m) = if x = c then 0 else if x = 92 then nextP c m + 2 else nextP c (y :: m) + 1 := fun m => by conv => lhs; unfold nextP
    unfold nocut at h ⊢
    rw [List.cons_append, List.cons_append, e0] at h
    rw [e0]
    by_cases h1 : x = c
    · rw [if_pos h1] at h; simp at h
    · rw [if_neg h1] at h ⊢
      by_cases h2 : x = 92
      · rw [if_pos h2] at h ⊢
        have := nocut_pre c r b (by unfold nocut; simp at h ⊢; omega)
        unfold nocut at this; rw [this]; rfl
      · rw [if_neg h2] at h ⊢
        have := nocut_pre c (y :: r) b (by unfold nocut; simp at h ⊢; omega)
        unfold nocut at this; rw [this]; rfl
theorem nocut_32 (c : UInt8) (hc : c ≠ 32) (l : List UInt8) (h : nocut c (32 :: l)) : nocut c l := by
  unfold nocut at *
  have e : nextP c (32 :: l) = nextP c l + 1 := by conv => lhs; unfold nextP; rw [if_neg (fun e => hc e.symm), if_neg (by decide)]
  rw [e] at h
  simpa using h
theorem nocut_left (c : UInt8) (hc : c ≠ 32) : ∀ l : List UInt8, nocut c l → nocut c (Lib.trimLeftB l 32)
  | [], h => h
  | x :: l, h => by
    unfold Lib.trimLeftB
    rw [List.dropWhile_cons]
    by_cases hx : (x == 32) = true
    · rw [if_pos hx]
      have e : x = 32 := by simpa using hx
      rw [e] at h
      exact nocut_left c hc l (nocut_32 c hc l h)
    · rw [if_neg hx]; exact h
theorem nocut_right (c : UInt8) (l : List UInt8) (h : nocut c l) : nocut c (Lib.trimRightB l 32) := by
  refine nocut_pre c _ (l.reverse.takeWhile (· == 32)).reverse ?_
  have e : Lib.trimRightB l 32 ++ (l.reverse.takeWhile (· == 32)).reverse = l := by
    unfold Lib.trimRightB
    rw [← List.reverse_append, List.takeWhile_append_dropWhile, List.reverse_reverse]
  rw [e]; exact h
theorem nocut_trim (c : UInt8) (hc : c ≠ 32) (l : List UInt8) (h : nocut c l) : nocut c (trimR l) := by
  unfold trimR; exact nocut_right c _ (nocut_left c hc l h)

/-- the pieces between the c that are not escaped -/
def headOn (a : List UInt8) : List (List UInt8) → List (List UInt8)
  | [] => [a]
  | p :: ps => (a ++ p) :: ps
def pieces (c : UInt8) : List UInt8 → List (List UInt8)
  | [] => [[]]
  | x :: r => if x = c then [] :: pieces c r else if x = 92 then (match r with
      | [] => [[x]]
      | y :: r' => headOn [x, y] (pieces c r')) else headOn [x] (pieces c r)
theorem pieces_cut (c : UInt8) : ∀ l, pieces c l = l.take (nextP c l) :: (if nextP c l < l.length then pieces c (l.drop (nextP c l + 1)) else [])
  | [] => by simp [pieces, nextP]
  | [x] => by
    unfold pieces
    conv => rhs; unfold nextP
    by_cases h1 : x = c
    · rw [if_pos h1, if_pos h1]; simp [pieces]
    · rw [if_neg h1, if_neg h1]
      by_cases h2 : x = 92
      · rw [if_pos h2, if_pos h2]; simp
      · rw [if_neg h2, if_neg h2]; simp [pieces, nextP, headOn]
  | x :: y :: r => by
    have e1 : nextP c (x :: y :: r) = if x = c then 0 else if x = 92 then nextP c r + 2 else nextP c (y :: r) + 1 := by conv => lhs; unfold nextP
    have e2 : pieces c (x :: y :: r) = if x = c then [] :: pieces c (y :: r) else if x = 92 then headOn [x, y] (pieces c r) else headOn [x] (pieces c (y :: r)) := by conv => lhs; unfold pieces
    rw [e1, e2]
    by_cases h1 : x = c
    · rw [if_pos h1, if_pos h1]; simp
    · rw [if_neg h1, if_neg h1]
      by_cases h2 : x = 92
      · rw [if_pos h2, if_pos h2, pieces_cut c r]; simp [headOn]
      · rw [if_neg h2, if_neg h2, pieces_cut c (y :: r)]; simp [headOn]

end Go.Proofs.YtdjhhofmlefaaaaDoor
