/-
  Plain facts on cutting a string at one byte. No condition.
-/
import Derived.Test.YtafecnaeoeanmaaDoorCodecC
import Derived.Test.YtafecnaeoeanmaaDoorCodecIntP
import Derived.Test.YtafecnaeoeanmaaDoorShelfB
set_option linter.unusedVariables false
set_option linter.unusedSimpArgs false
set_option linter.unnecessarySimpa false
namespace Go.Proofs.YtafecnaeoeanmaaDoor
open Go.RowKit Go.PlainAid
/-- pieces with the byte b between them -/
def bar (b : UInt8) : List (List UInt8) → List UInt8
  | [] => []
  | [p] => p
  | p :: q :: r => p ++ b :: bar b (q :: r)
theorem bar_cons (b : UInt8) (c : UInt8) (p : List UInt8) (r : List (List UInt8)) : bar b ((c :: p) :: r) = c :: bar b (p :: r) := by
  cases r with
  | nil => rfl
  | cons q r => rfl
theorem pieces_cat (b : UInt8) (l : List UInt8) : ∀ p : List UInt8, b ∉ p → pieces b (p ++ b :: l) = p :: pieces b l
  | [], _ => by
    show pieces b (b :: l) = _
    conv => lhs; unfold pieces
    rw [if_pos rfl]
  | c :: r, h => by
    have h1 : c ≠ b := fun e => h (by rw [e]; simp)
    have h2 : b ∉ r := fun e => h (by simp [e])
    have ih := pieces_cat b l r h2
    show pieces b (c :: (r ++ b :: l)) = _
    conv => lhs; unfold pieces
    rw [if_neg h1, ih]
theorem pieces_ne (b : UInt8) : ∀ l : List UInt8, pieces b l ≠ []
  | [] => by simp [pieces]
  | c :: l => by
    unfold pieces
    split
    · simp
    · split <;> simp
theorem bar_pieces (b : UInt8) : ∀ l : List UInt8, bar b (pieces b l) = l
  | [] => rfl
  | c :: l => by
    have ih := bar_pieces b l
    have hne := pieces_ne b l
    unfold pieces
    by_cases hc : c = b
    · rw [if_pos hc]
      cases h : pieces b l with
      | nil => exact absurd h hne
      | cons p r =>
        rw [h] at ih
        show [] ++ b :: bar b (p :: r) = _
        rw [ih, hc]; rfl
    · rw [if_neg hc]
      cases h : pieces b l with
      | nil => exact absurd h hne
      | cons p r =>
        rw [h] at ih
        show bar b ((c :: p) :: r) = _
        rw [bar_cons, ih]
/-- Cut at one byte that stands there -/
theorem cut_form (t : ByteArray) (b : UInt8) (h : cutOk t ⟨#[b]⟩ = true) : t.data.toList = (cutBef t ⟨#[b]⟩).data.toList ++ b :: (cutAft t ⟨#[b]⟩).data.toList := by
  rcases cut_one t b with k | k
  · have h1 := bar_pieces b t.data.toList
    rw [k.2.1] at h1
    have hne := pieces_ne b (cutAft t ⟨#[b]⟩).data.toList
    have h2 := bar_pieces b (cutAft t ⟨#[b]⟩).data.toList
    cases e : pieces b (cutAft t ⟨#[b]⟩).data.toList with
    | nil => exact absurd e hne
    | cons q r =>
      rw [e] at h1 h2
      rw [← h1, ← h2]
      rfl
  · rw [k.1] at h; cases h
theorem cut_made (x y : List UInt8) (b : UInt8) (hx : b ∉ x) : cutOk (ofL (x ++ b :: y)) ⟨#[b]⟩ = true ∧ (cutBef (ofL (x ++ b :: y)) ⟨#[b]⟩).data.toList = x ∧ (cutAft (ofL (x ++ b :: y)) ⟨#[b]⟩).data.toList = y := by
  have e0 : (ofL (x ++ b :: y)).data.toList = x ++ b :: y := rfl
  have hp := pieces_cat b y x hx
  rcases cut_one (ofL (x ++ b :: y)) b with k | k
  · have k2 := k.2.1
    rw [e0, hp] at k2
    injection k2 with h1 h2
    refine ⟨k.1, h1.symm, ?_⟩
    rw [← bar_pieces b (cutAft (ofL (x ++ b :: y)) ⟨#[b]⟩).data.toList, ← h2, bar_pieces]
  · have k2 := k.2.1
    rw [e0, hp] at k2
    injection k2 with h1 h2
    exact absurd h2 (pieces_ne b y)
theorem cut_b (t : ByteArray) (b : UInt8) (w : World) (ht : t.size ≤ 1000000000) (hm : MaxOk w) :
    Calls Tryd.prog 45 #[.string t, .string ⟨#[b]⟩] w fun e w' => e = .returned (.tuple #[.string (cutBef t ⟨#[b]⟩), .string (cutAft t ⟨#[b]⟩), .bool (cutOk t ⟨#[b]⟩)]) ∧ Below w.heap.size w w' := by
  obtain ⟨m, hm⟩ := hm
  refine (Tryd.strings_Cut t ⟨#[b]⟩ m w (by omega) hm).mono fun e w' h => ⟨h.1, ?_⟩
  obtain ⟨n, rfl⟩ := h.2
  exact ⟨rfl, rfl, rfl, Nat.le_refl _, fun _ _ => rfl⟩

end Go.Proofs.YtafecnaeoeanmaaDoor
