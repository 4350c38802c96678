/-
  Plain facts: reading pairs gives back what was written, and what is read has just this form. No condition.
-/
import Derived.Test.YtelddbgnhfhkiabDoorCodecQ
import Derived.Test.YtelddbgnhfhkiabDoorCodecRPs
set_option linter.unusedVariables false
set_option linter.unusedSimpArgs false
set_option linter.unnecessarySimpa false
namespace Go.Proofs.YtelddbgnhfhkiabDoor
open Go.PlainAid

theorem prL_form (p : Pr) : prL p = escL p.1.data.toList ++ 61 :: escL p.2.data.toList := by simp [prL]
theorem prL_no124 (p : Pr) : 124 ∉ prL p := by
  rw [prL_form]
  intro h
  rcases List.mem_append.1 h with h | h
  · exact escL_no124 _ h
  · rcases List.mem_cons.1 h with h | h
    · exact absurd h (by decide)
    · exact escL_no124 _ h
/-- Cut at one byte that stands there -/
theorem cut_form (t : ByteArray) (b : UInt8) (h : cutOk t ⟨#[b]⟩ = true) : t.data.toList = (cutBef t ⟨#[b]⟩).data.toList ++ b :: (cutAft t ⟨#[b]⟩).data.toList := by
  rcases cut_one t b with k | k
  · have h1 := bar_pieces b t.data.toList
    rw [k.2.1] at h1
    have hne := pieces_ne b (cutAft t ⟨#[b]⟩).data.toList
    have h2 := bar_pieces b (cutAft t ⟨#[b]⟩).data.toList
    cases e : pieces b (cutAft t ⟨#[b]⟩).data.toList with
    | nil => exact absurd e hne
    | cons q r =>
      rw [e] at h1 h2
      rw [← h1, ← h2]
      rfl
  · rw [k.1] at h; cases h
theorem cut_made (x y : List UInt8) (b : UInt8) (hx : b ∉ x) : cutOk (ofL (x ++ b :: y)) ⟨#[b]⟩ = true ∧ (cutBef (ofL (x ++ b :: y)) ⟨#[b]⟩).data.toList = x ∧ (cutAft (ofL (x ++ b :: y)) ⟨#[b]⟩).data.toList = y := by
  have e0 : (ofL (x ++ b :: y)).data.toList = x ++ b :: y := rfl
  have hp := pieces_cat b y x hx
  rcases cut_one (ofL (x ++ b :: y)) b with k | k
  · have k2 := k.2.1
    rw [e0, hp] at k2
    injection k2 with h1 h2
    refine ⟨k.1, h1.symm, ?_⟩
    rw [← bar_pieces b (cutAft (ofL (x ++ b :: y)) ⟨#[b]⟩).data.toList, ← h2, bar_pieces]
  · have k2 := k.2.1
    rw [e0, hp] at k2
    injection k2 with h1 h2
    exact absurd h2 (pieces_ne b y)
theorem rpO_form (p : Pr) : rpO (ofL (prL p)) = some p := by
  rw [prL_form]
  obtain ⟨h1, h2, h3⟩ := cut_made (escL p.1.data.toList) (escL p.2.data.toList) 61 (escL_no61 _)
  unfold rpO
  rw [h1, if_pos rfl, h2, h3, unesc_esc, unesc_esc]
  show some (ofL p.1.data.toList, ofL p.2.data.toList) = some p
  rw [ofL_data, ofL_data]
theorem rpO_inv (t : ByteArray) (p : Pr) (h : rpO t = some p) : prL p = t.data.toList := by
  unfold rpO at h
  split at h
  · rename_i hk
    split at h
    · rename_i x hx
      split at h
      · rename_i y hy
        cases h
        rw [prL_form, cut_form t 61 hk]
        show escL x ++ 61 :: escL y = _
        rw [esc_unesc _ _ hx, esc_unesc _ _ hy]
      · cases h
    · cases h
  · cases h
theorem readPr_form : ∀ ps : List Pr, readPr (ps.map prL) = some ps
  | [] => rfl
  | p :: r => by
    show readPr (prL p :: r.map prL) = _
    unfold readPr
    rw [rpO_form, readPr_form r]; rfl
theorem readPr_inv : ∀ (l : List (List UInt8)) (ps : List Pr), readPr l = some ps → ps.map prL = l
  | [], ps, h => by unfold readPr at h; cases h; rfl
  | p :: r, ps, h => by
    unfold readPr at h
    split at h
    · rename_i x hx
      obtain ⟨y, hy, rfl⟩ := Option.map_eq_some_iff.1 h
      rw [List.map_cons, rpO_inv _ _ hx, readPr_inv r y hy]
      rfl
    · cases h
theorem prL_ne (p : Pr) : prL p ≠ [] := by rw [prL_form]; simp
theorem bar_ne (ps : List Pr) (h : ps ≠ []) : bar 124 (ps.map prL) ≠ [] := by
  match ps, h with
  | [p], _ => exact prL_ne p
  | p :: q :: r, _ =>
    intro e
    have : prL p ++ 124 :: bar 124 ((q :: r).map prL) = [] := e
    simp at this
theorem rps_pairs (ps : List Pr) : rpsS (pairsS ps) = ps ∧ rpsE (pairsS ps) = 0 := by
  have h : rpsL (pairsS ps).data.toList = some ps := by
    show rpsL (bar 124 (ps.map prL)) = some ps
    unfold rpsL
    by_cases h0 : ps = []
    · rw [h0]; rfl
    · rw [if_neg (bar_ne ps h0), pieces_bar 124 _ (by simpa using h0) (fun p hp => by
        obtain ⟨x, _, rfl⟩ := List.mem_map.1 hp
        exact prL_no124 x), readPr_form]
  unfold rpsS rpsE
  rw [h]
  exact ⟨rfl, rfl⟩
theorem pairs_rps (s : ByteArray) (ps : List Pr) (h : rpsL s.data.toList = some ps) : rpsS s = ps ∧ rpsE s = 0 ∧ pairsS ps = s := by
  refine ⟨by unfold rpsS; rw [h]; rfl, by unfold rpsE; rw [h], ?_⟩
  unfold pairsS
  unfold rpsL at h
  split at h
  · rename_i h0
    cases h
    rw [← ofL_data s, h0]; rfl
  · rw [readPr_inv _ _ h, bar_pieces, ofL_data]
theorem pairsS_le (ps : List Pr) (m n : Nat) (hp : ∀ j, j < ps.length → (prAt ps j).1.size ≤ m ∧ (prAt ps j).2.size ≤ m) (hn : ps.length ≤ n) : (pairsS ps).size ≤ n * (6 * m + 2) := by
  have h1 := bar_len 124 (6 * m + 1) (ps.map prL) (fun p hq => by
    obtain ⟨q, hq1, rfl⟩ := List.mem_map.1 hq
    obtain ⟨j, hj, rfl⟩ := List.getElem_of_mem hq1
    have := hp j hj
    unfold prAt at this
    rw [List.getD_eq_getElem?_getD, List.getElem?_eq_getElem hj, Option.getD_some] at this
    have h3 := prL_length ps[j]
    omega)
  have h2 : (ps.map prL).length ≤ n := by simp; exact hn
  have h3 := Nat.mul_le_mul_right (6 * m + 1 + 1) h2
  exact Nat.le_trans h1 h3

end Go.Proofs.YtelddbgnhfhkiabDoor
