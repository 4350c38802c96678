/-
  Plain facts for the specification's Match: what its scan from left to right finds is what Cut finds in the piece between beginning and end. No condition.
-/
import Derived.Test.YtelddbgnhfhkiaaDoorFoldE
import Derived.Lib.IndexLaws
set_option linter.unusedVariables false
set_option linter.unusedSimpArgs false
set_option linter.unnecessarySimpa false
namespace Go.Proofs.YtelddbgnhfhkiaaDoor
open Go.PlainAid

/-- p stands in t at place i -/
def occI (t p : ByteArray) (i : Nat) : Bool := decide (i + p.size ≤ t.size) && Lib.occAt t.data.toList p.data.toList i
theorem occI_raw (t p : ByteArray) (i : Nat) (h : i + p.size ≤ t.size) : ((t.extract i (i + p.size)).toList == p.toList) = occI t p i := by
  have h' : i + p.data.toList.length ≤ t.data.toList.length := by rw [← Lib.size_eq, ← Lib.size_eq]; exact h
  unfold occI
  rw [Lib.occAt_iff_take _ _ _ h', Lib.extract_toList, Lib.toList_data, Nat.add_sub_cancel_left, Lib.size_eq p]
  simp [h]
  try omega
theorem occI_far (t p : ByteArray) (i : Nat) (h : t.size < i + p.size) : occI t p i = false := by
  unfold occI; simp; omega
/-- the piece of t from a to e -/
def segS (t : ByteArray) (e a : Nat) : ByteArray := ⟨((t.data.toList.take e).drop a).toArray⟩
theorem seg_data (t : ByteArray) (e a : Nat) : (segS t e a).data.toList = (t.data.toList.take e).drop a := rfl
theorem seg_len (t : ByteArray) (e a : Nat) (he : e ≤ t.size) : ((t.data.toList.take e).drop a).length = e - a := by
  rw [List.length_drop, List.length_take, ← Lib.size_eq]; omega
theorem occ_seg (t p : ByteArray) (e a j : Nat) (he : e ≤ t.size) (ha : a ≤ j) (hj : j + p.size ≤ e) : Lib.occAt (segS t e a).data.toList p.data.toList (j - a) = occI t p j := by
  have h1 : j - a + p.data.toList.length ≤ (segS t e a).data.toList.length := by rw [seg_data, seg_len t e a he, ← Lib.size_eq]; omega
  have h2 : j + p.data.toList.length ≤ t.data.toList.length := by rw [← Lib.size_eq, ← Lib.size_eq]; omega
  unfold occI
  rw [Lib.occAt_iff_take _ _ _ h1, Lib.occAt_iff_take _ _ _ h2, seg_data, List.drop_drop]
  have e1 : a + (j - a) = j := by omega
  rw [e1, List.drop_take, List.take_take, ← Lib.size_eq]
  have e2 : min p.size (e - j) = p.size := by omega
  rw [e2]
  simp
  omega
theorem scan_hit (t p : ByteArray) (e a i : Nat) (he : e ≤ t.size) (ha : a ≤ i) (hi : i + p.size ≤ e) (ho : occI t p i = true) (hn : ∀ j, a ≤ j → j < i → occI t p j = false) :
    cutOk (segS t e a) p = true ∧ cutAft (segS t e a) p = segS t e (i + p.size) := by
  have hidx : Lib.index (segS t e a).data.toList p.data.toList = ((i - a : Nat) : Int) := by
    refine Lib.index_first ?_ ?_ ?_
    · rw [seg_data, seg_len t e a he]; omega
    · rw [occ_seg t p e a i he ha hi]; exact ho
    · intro j hj
      have e1 : j = (a + j) - a := by omega
      rw [e1, occ_seg t p e a (a + j) he (by omega) (by omega)]
      exact hn _ (by omega) (by omega)
  have hcut : Lib.cut (segS t e a).data.toList p.data.toList = ((segS t e a).data.toList.take (i - a), (segS t e a).data.toList.drop (i - a + p.data.toList.length), true) := by
    unfold Lib.cut
    rw [hidx, if_pos (by omega)]
    simp
  unfold cutOk cutAft
  rw [hcut]
  refine ⟨rfl, ?_⟩
  show (⟨((segS t e a).data.toList.drop (i - a + p.data.toList.length)).toArray⟩ : ByteArray) = _
  unfold segS
  rw [List.toList_toArray, List.drop_drop, ← Lib.size_eq]
  congr 3
  omega
theorem scan_miss (t p : ByteArray) (e a i : Nat) (he : e ≤ t.size) (ha : a ≤ e) (hi : e < i + p.size) (hn : ∀ j, a ≤ j → j < i → occI t p j = false) : cutOk (segS t e a) p = false := by
  have hidx : Lib.index (segS t e a).data.toList p.data.toList = -1 := by
    refine Lib.index_none fun j hj => ?_
    rw [seg_data, seg_len t e a he] at hj
    cases h : Lib.occAt (segS t e a).data.toList p.data.toList j with
    | false => rfl
    | true =>
      exfalso
      have room : a + j + p.size ≤ e := by
        rcases Lib.occAt_room h with hr | hr
        · rw [seg_data, seg_len t e a he, ← Lib.size_eq] at hr; omega
        · rw [Lib.size_eq, hr]; simp; omega
      by_cases hji : a + j < i
      · have e1 : j = (a + j) - a := by omega
        rw [e1, occ_seg t p e a (a + j) he (by omega) room, hn _ (by omega) hji] at h
        exact absurd h (by simp)
      · omega
  unfold cutOk Lib.cut
  rw [hidx]; rfl

theorem pre_occ (t f : ByteArray) : preOk t f = occI t f 0 := by
  unfold preOk occI Lib.hasPrefix Lib.occAt
  rw [List.drop_zero, Nat.zero_add]
  cases h : f.data.toList.isPrefixOf t.data.toList with
  | false => simp
  | true =>
    have := (List.isPrefixOf_iff_prefix.1 h).length_le
    rw [← Lib.size_eq, ← Lib.size_eq] at this
    simp [this]
theorem pre_cut (t f : ByteArray) (h : occI t f 0 = true) : (preCut t f).data.toList = t.data.toList.drop f.size := by
  rw [← pre_occ] at h
  unfold preCut Lib.trimPrefix
  unfold preOk at h
  rw [h, if_pos rfl, ← Lib.size_eq]
theorem occI_le (t f : ByteArray) (i : Nat) (h : occI t f i = true) : i + f.size ≤ t.size := by
  unfold occI at h; simp at h; exact h.1
theorem suf_short (t f l : ByteArray) (h : occI t f 0 = true) (hs : t.size < f.size + l.size) : sufOk (preCut t f) l = false := by
  have hl := occI_le t f 0 h
  unfold sufOk
  rw [← Lib.hasSuffix_of_drop, pre_cut t f h, List.length_drop, ← Lib.size_eq, ← Lib.size_eq]
  have : decide (l.size ≤ t.size - f.size) = false := by simp; omega
  rw [this]; rfl
theorem suf_occ (t f l : ByteArray) (h : occI t f 0 = true) (hs : f.size + l.size ≤ t.size) : sufOk (preCut t f) l = occI t l (t.size - l.size) := by
  have h2 : t.size - l.size + l.data.toList.length ≤ t.data.toList.length := by rw [← Lib.size_eq, ← Lib.size_eq]; omega
  unfold sufOk occI
  rw [← Lib.hasSuffix_of_drop, pre_cut t f h, List.length_drop, ← Lib.size_eq, ← Lib.size_eq, Lib.occAt_iff_take _ _ _ h2, List.drop_drop]
  have e1 : f.size + (t.size - f.size - l.size) = t.size - l.size := by omega
  have e2 : (t.data.toList.drop (t.size - l.size)).take l.data.toList.length = t.data.toList.drop (t.size - l.size) := by
    rw [List.take_of_length_le]; rw [List.length_drop, ← Lib.size_eq, ← Lib.size_eq]; omega
  rw [e1, e2]
  have d1 : decide (l.size ≤ t.size - f.size) = true := by simp; omega
  have d2 : decide (t.size - l.size + l.size ≤ t.size) = true := by simp; omega
  rw [d1, d2]
theorem suf_cut (t f l : ByteArray) (h : occI t f 0 = true) (hs : f.size + l.size ≤ t.size) (ho : occI t l (t.size - l.size) = true) : sufCut (preCut t f) l = segS t (t.size - l.size) f.size := by
  rw [← suf_occ t f l h hs] at ho
  unfold sufCut Lib.trimSuffix segS
  unfold sufOk at ho
  rw [ho, if_pos rfl, pre_cut t f h, List.length_drop, ← Lib.size_eq, ← Lib.size_eq, List.drop_take]
  congr 3
  omega

end Go.Proofs.YtelddbgnhfhkiaaDoor
