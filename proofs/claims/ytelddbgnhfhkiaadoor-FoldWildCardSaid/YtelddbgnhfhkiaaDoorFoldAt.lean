/-
  Contracts of few and of the two Match at a slice of strings that came in, nil and empty too. Condition: strings of at most 300 bytes, parts as few allows.
-/
import Derived.Test.YtelddbgnhfhkiaaDoorLawFrame
import Derived.Test.YtelddbgnhfhkiaaDoorFoldRMatch
import Derived.Test.YtelddbgnhfhkiaaDoorFoldAlive
set_option linter.unusedVariables false
set_option linter.unusedSimpArgs false
set_option linter.unnecessarySimpa false
namespace Go.Proofs.YtelddbgnhfhkiaaDoor
open Go.RowKit Go.PlainAid

def shortB (ps : List ByteArray) : Bool := ps.all fun p => decide (p.size ≤ 60)
def fewB (ps : List ByteArray) : Bool := shortB ps && decide (ps.length ≤ 8)
theorem short_at {ps : List ByteArray} (h : shortB ps = true) : ∀ p ∈ ps, p.size ≤ 60 := fun p hp => by
  have := List.all_eq_true.1 h p hp; simpa using this
theorem short_false {ps : List ByteArray} (k : Nat) (hk : k < ps.length) (h : 60 < (partAt ps k).size) : shortB ps = false := by
  unfold shortB; rw [List.all_eq_false]
  refine ⟨ps[k], List.getElem_mem hk, ?_⟩
  unfold partAt at h
  rw [List.getD_eq_getElem?_getD, List.getElem?_eq_getElem hk] at h
  simp at h ⊢; exact h
theorem short_true {ps : List ByteArray} (h : ∀ j, j < ps.length → (partAt ps j).size ≤ 60) : shortB ps = true := by
  unfold shortB; rw [List.all_eq_true]
  intro p hp
  obtain ⟨j, hj, rfl⟩ := List.getElem_of_mem hp
  have := h j hj
  unfold partAt at this
  rw [List.getD_eq_getElem?_getD, List.getElem?_eq_getElem hj] at this
  simpa using this

set_option maxRecDepth 100000 in
set_option maxHeartbeats 1000000 in
theorem few_some (b off cap : Nat) (ps : List ByteArray) (w : World) (hm : ps.length ≤ maxLen) (hs : IsStrs w b off ps) :
    Calls Tryd.prog 30 #[.slice (some ⟨b, off, none⟩) ps.length cap] w fun e w' => e = .returned (.bool (fewB ps)) ∧ w = w' := by
  unfold maxLen at hm
  have HS := Lib.hid hs.2
  clear hs
  go_enter Tryd.func30, Tryd.ntmps30
  go_wp2
  go_loop [3] (fun i => ∃ k : Nat, k ≤ ps.length ∧ i = .int .i64 k ∧ Hid (∀ j, j < k → (partAt ps j).size ≤ 60)) (fun i => ps.length - (intOf i).toNat)
  case atStart => exact ⟨0, Nat.zero_le _, rfl, Lib.hid fun j hj => absurd hj (Nat.not_lt_zero _)⟩
  case round =>
    obtain ⟨k, hk, rfl, HA⟩ := hrel
    by_cases hlt : k < ps.length
    · have hcell := HS.out k hlt
      obtain ⟨p, hpe⟩ : ∃ p, p = partAt ps k := ⟨_, rfl⟩
      rw [← hpe] at hcell
      have HP := Lib.hid hpe; clear hpe
      by_cases h60 : 60 < p.size
      · have HE := Lib.hid (show fewB ps = false by unfold fewB; rw [short_false k hlt (by rw [← HP.out]; exact h60)]; rfl)
        go_wp2
        go_ret
        exact ⟨by rw [HE.out]; rfl, rfl⟩
      · go_wp2
        go_round
        case rel =>
          refine ⟨k + 1, by omega, by go_num, Lib.hid fun j hj => ?_⟩
          by_cases e : j = k
          · rw [e, ← HP.out]; omega
          · exact HA.out j (by omega)
        case measure => simp [intOf]; omega
    · have HB := Lib.hid (short_true (ps := ps) fun j hj => HA.out j (by omega))
      by_cases h8 : ps.length ≤ 8
      · have HE := Lib.hid (show fewB ps = true by unfold fewB; rw [HB.out]; simp [h8])
        have hd : decide ((ps.length : Int) ≤ 8) = true := by simp; omega
        go_wp2
        go_ret
        exact ⟨by rw [HE.out]; rfl, rfl⟩
      · have HE := Lib.hid (show fewB ps = false by unfold fewB; simp [h8])
        have hd : decide ((ps.length : Int) ≤ 8) = false := by simp; omega
        go_wp2
        go_ret
        exact ⟨by rw [HE.out]; rfl, rfl⟩

set_option maxRecDepth 100000 in
theorem few_none (ao : Option Addr) (cap : Nat) (w : World) :
    Calls Tryd.prog 30 #[.slice ao 0 cap] w fun e w' => e = .returned (.bool (fewB [])) ∧ w = w' := by
  have HE := Lib.hid (show fewB [] = true from rfl)
  go_enter Tryd.func30, Tryd.ntmps30
  go_wp2
  refine wp_loop_rounds 1 ?_
  rw [rounds_succ]
  go_wp2
  go_ret
  exact ⟨by rw [HE.out]; rfl, rfl⟩

theorem few_at (ao : Option Addr) (n cap : Nat) (ps : List ByteArray) (w : World) (h : StrsAt w ao n cap ps) :
    Calls Tryd.prog 30 #[.slice ao n cap] w fun e w' => e = .returned (.bool (fewB ps)) ∧ w = w' := by
  obtain ⟨hl, hc, hm, ha⟩ := h
  subst hl
  by_cases hn : 0 < ps.length
  · obtain ⟨b, off, rfl, hi⟩ := ha hn
    exact few_some b off cap ps w (Nat.le_trans hc hm) hi
  · obtain rfl : ps = [] := by cases ps <;> simp_all
    exact few_none ao cap w

theorem fmatch_at (s : ByteArray) (ao : Option Addr) (n cap : Nat) (ps : List ByteArray) (w : World) (h : StrsAt w ao n cap ps) (hs : s.size ≤ 1000000000) (hf : fewB ps = true) (hm : MaxOk w) :
    Calls Tryd.prog 31 #[.string s, .slice ao n cap] w fun e w' => e = .returned (.bool (matchB s ps)) ∧ Below w.heap.size w w' := by
  obtain ⟨hl, hc, hm', ha⟩ := h
  have hf1 : shortB ps = true ∧ ps.length ≤ 8 := by unfold fewB at hf; simpa using hf
  subst hl
  by_cases h2 : ps.length < 2
  · refine (match_short s ao ps.length cap ps w h2 rfl).mono fun e w' ⟨he, hw⟩ => ⟨he, ?_⟩
    subst hw; exact Below.refl _ _
  · obtain ⟨b, off, rfl, hi⟩ := ha (by omega)
    exact match_s s b off cap ps w hs (fun p hp => Nat.le_trans (short_at hf1.1 p hp) (by omega)) (by omega) hc (by omega) hi hm
theorem rmatch_at (s : ByteArray) (ao : Option Addr) (n cap : Nat) (ps : List ByteArray) (w : World) (h : StrsAt w ao n cap ps) (hs : s.size ≤ 1000000000) (hf : fewB ps = true) :
    Calls Tryd.prog 32 #[.string s, .slice ao n cap] w fun e w' => e = .returned (.bool (matchB s ps)) ∧ Below w.heap.size w w' := by
  obtain ⟨hl, hc, hm', ha⟩ := h
  have hf1 : shortB ps = true ∧ ps.length ≤ 8 := by unfold fewB at hf; simpa using hf
  subst hl
  by_cases h2 : ps.length < 2
  · refine (rMatch_short s ao ps.length cap ps w h2 rfl).mono fun e w' ⟨he, hw⟩ => ⟨he, ?_⟩
    subst hw; exact Below.refl _ _
  · obtain ⟨b, off, rfl, hi⟩ := ha (by omega)
    exact rMatch_s s b off cap ps w hs (fun p hp => Nat.le_trans (short_at hf1.1 p hp) (by omega)) (by omega) hc (by omega) hi

end Go.Proofs.YtelddbgnhfhkiaaDoor
