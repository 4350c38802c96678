/-
  Contracts of Parent in the program and in the specification. Condition: at most 1000000 bytes.
-/
import Derived.Test.YtdjhhofmlefaaaaDoorNamH
set_option linter.unusedVariables false
set_option linter.unusedSimpArgs false
set_option linter.unnecessarySimpa false
namespace Go.Proofs.YtdjhhofmlefaaaaDoor
open Go.RowKit Go.PlainAid

theorem small_drop {l : List Pr} (h : Small l) (k : Nat) : Small (l.drop k) := small_of _ (by have := h.1; rw [List.length_drop]; omega) fun p hp => h.mem p (List.mem_of_mem_drop hp)
theorem small_take {l : List Pr} (h : Small l) (k : Nat) : Small (l.take k) := small_of _ (by have := h.1; rw [List.length_take]; omega) fun p hp => h.mem p (List.mem_of_mem_take hp)
theorem parent_none {s : ByteArray} (h : compsV s = []) : parentB s = false ∧ parentV s = ByteArray.empty := by unfold parentB parentV; rw [h]; exact ⟨rfl, rfl⟩
theorem parent_some {s : ByteArray} (h : 0 < (compsV s).length) : parentB s = true ∧ parentV s = fmtV ((compsV s).drop 1) ∧ fmtE ((compsV s).drop 1) = 0 ∧ normB s = true := by
  have h1 : (compsV s).isEmpty = false := by cases e : compsV s with | nil => rw [e] at h; simp at h | cons a l => rfl
  have h2 : parentB s = true := by unfold parentB; rw [h1]; rfl
  have hn := (parent_norm h2).1
  exact ⟨h2, by unfold parentV; rw [h1]; rfl, ((comps_norm hn).1.drop 1).fmt, hn⟩

set_option maxRecDepth 100000 in
set_option maxHeartbeats 2000000 in
theorem parent_s (s : ByteArray) (w : World) (hs : s.size ≤ 1000000) :
    Calls Tryd.prog 25 #[.string s] w fun e w' => e = .returned (.tuple #[.string (parentV s), .bool (parentB s)]) ∧ Below w.heap.size w w' := by
  go_enter Tryd.func25, Tryd.ntmps25
  go_wp2_with fail
  refine (components_s s _ hs).mono ?_
  rintro e w1 ⟨v, rfl, hown, hb⟩
  by_cases h0 : 0 < (compsV s).length
  · have HP := Lib.hid (parent_some h0)
    obtain ⟨ao, cap, rfl, hat⟩ := pairs_own hown rfl
    obtain ⟨g, cap2, hv⟩ := own_addr hown h0
    cases hv
    rw [HP.out.2.2.2]
    have hq : (((compsV s).length : Int) == 0) = false := beq_eq_false_iff_ne.2 (by omega)
    have hsm := small_drop (small_comps s) 1
    have h8 := compsV_few s
    have hcap := hat.2.1
    have hmax := hat.2.2.1
    have HAT := Lib.hid hat
    generalize hl : compsV s = l at *
    have HL := Lib.hid hl; clear hl
    by_cases hc : cap = 1
    · subst hc
      have hl1 : l.length = 1 := by omega
      have hd : l.drop 1 = [] := List.drop_eq_nil_of_le (by omega)
      rw [hd] at HP hsm
      clear hat hown
      rw [hl1] at hq HAT ⊢
      go_wp2_with fail
      refine (format_s _ _ _ [] _ (pairs_nil _ _ _ (by unfold maxLen; omega)) hsm).mono ?_
      rintro e w2 ⟨rfl, hb2⟩
      rw [HP.out.2.2.1]
      go_wp2
      go_ret2
      exact ⟨by rw [HP.out.1, HP.out.2.1]; rfl, hb.trans (hb2.mono hb.size)⟩
    · have hc1 : 1 < cap := by omega
      have HT := HAT.out.tail 1 h0
      obtain ⟨d, hd⟩ : ∃ d, d = l.drop 1 := ⟨_, rfl⟩
      rw [← hd] at HT HP hsm
      clear hat hown hd
      go_wp2_with fail
      refine (format_s _ _ _ d _ HT hsm).mono ?_
      rintro e w2 ⟨rfl, hb2⟩
      rw [HP.out.2.2.1]
      go_wp2
      go_ret2
      exact ⟨by rw [HP.out.1, HP.out.2.1]; rfl, hb.trans (hb2.mono hb.size)⟩
  · have hnil : compsV s = [] := List.length_eq_zero_iff.1 (by omega)
    have HP := Lib.hid (parent_none hnil)
    rw [hnil] at hown
    obtain ⟨ao, cap, rfl⟩ := own_slice hown
    clear hnil h0
    cases normB s
    · go_wp2
      go_ret2
      exact ⟨by rw [HP.out.1, HP.out.2]; rfl, hb⟩
    · go_wp2
      go_ret2
      exact ⟨by rw [HP.out.1, HP.out.2]; rfl, hb⟩

set_option maxRecDepth 100000 in
set_option maxHeartbeats 2000000 in
theorem rparent_s (s : ByteArray) (w : World) (hs : s.size ≤ 1000000) :
    Calls Tryd.prog 26 #[.string s] w fun e w' => e = .returned (.tuple #[.string (parentV s), .bool (parentB s)]) ∧ Below w.heap.size w w' := by
  go_enter Tryd.func26, Tryd.ntmps26
  go_wp2_with fail
  refine (rparts_s s _ hs).mono ?_
  rintro e w1 ⟨v, rfl, hown, hb⟩
  by_cases h0 : 0 < (compsV s).length
  · have HP := Lib.hid (parent_some h0)
    obtain ⟨ao, cap, rfl, hat⟩ := pairs_own hown rfl
    obtain ⟨g, cap2, hv⟩ := own_addr hown h0
    cases hv
    rw [HP.out.2.2.2]
    have hq : (((compsV s).length : Int) == 0) = false := beq_eq_false_iff_ne.2 (by omega)
    have hsm := small_drop (small_comps s) 1
    have h8 := compsV_few s
    have hcap := hat.2.1
    have hmax := hat.2.2.1
    have HAT := Lib.hid hat
    generalize hl : compsV s = l at *
    have HL := Lib.hid hl; clear hl
    by_cases hc : cap = 1
    · subst hc
      have hl1 : l.length = 1 := by omega
      have hd : l.drop 1 = [] := List.drop_eq_nil_of_le (by omega)
      rw [hd] at HP hsm
      clear hat hown
      rw [hl1] at hq HAT ⊢
      go_wp2_with fail
      refine (rformat_s _ _ _ [] _ (pairs_nil _ _ _ (by unfold maxLen; omega)) hsm).mono ?_
      rintro e w2 ⟨rfl, hb2⟩
      generalize fmtE _ = e0
      go_wp2
      go_ret2
      exact ⟨by rw [HP.out.1, HP.out.2.1]; rfl, hb.trans (hb2.mono hb.size)⟩
    · have hc1 : 1 < cap := by omega
      have HT := HAT.out.tail 1 h0
      obtain ⟨d, hd⟩ : ∃ d, d = l.drop 1 := ⟨_, rfl⟩
      rw [← hd] at HT HP hsm
      clear hat hown hd
      go_wp2_with fail
      refine (rformat_s _ _ _ d _ HT hsm).mono ?_
      rintro e w2 ⟨rfl, hb2⟩
      generalize fmtE _ = e0
      go_wp2
      go_ret2
      exact ⟨by rw [HP.out.1, HP.out.2.1]; rfl, hb.trans (hb2.mono hb.size)⟩
  · have hnil : compsV s = [] := List.length_eq_zero_iff.1 (by omega)
    have HP := Lib.hid (parent_none hnil)
    rw [hnil] at hown
    obtain ⟨ao, cap, rfl⟩ := own_slice hown
    clear hnil h0
    cases normB s
    · go_wp2
      go_ret2
      exact ⟨by rw [HP.out.1, HP.out.2]; rfl, hb⟩
    · go_wp2
      go_ret2
      exact ⟨by rw [HP.out.1, HP.out.2]; rfl, hb⟩

end Go.Proofs.YtdjhhofmlefaaaaDoor
