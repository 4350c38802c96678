/-
  A slice of windows as it lies in memory, and the contract of the specification's Same. No condition.
-/
import Derived.Test.YtnncfifpgjlpaabDoorClkC
import Derived.Test.YtnncfifpgjlpaabDoorWinA
import Derived.Deep.RegionHeld3
set_option linter.unusedVariables false
set_option linter.unusedSimpArgs false
set_option linter.unnecessarySimpa false
namespace Go.Proofs.YtnncfifpgjlpaabDoor
open Go.RowKit Go.PlainAid

def wnAt (ps : List Wn) (j : Nat) : Wn := ps.getD j (0, 0)
/-- a slice's windows, as they lie in memory -/
def IsWins (w : World) (b off : Nat) (ps : List Wn) : Prop :=
  b < w.heap.size ∧ ∀ j, j < ps.length → w.cell? ⟨b, off + j * 2, none⟩ = some (.int .i64 (wnAt ps j).1) ∧ w.cell? ⟨b, off + j * 2 + 1, none⟩ = some (.int .i64 (wnAt ps j).2)
theorem IsWins.below {w w' : World} {b off : Nat} {ps : List Wn} (h : IsWins w b off ps) {B : Nat} (hb : Below B w w') (hB : b < B) : IsWins w' b off ps :=
  ⟨Nat.lt_of_lt_of_le h.1 hb.size, fun j hj => by
    rw [hb.cell (p := ⟨b, off + j * 2, none⟩) hB, hb.cell (p := ⟨b, off + j * 2 + 1, none⟩) hB]; exact h.2 j hj⟩
def WinsAt (w : World) (ao : Option Addr) (n cap : Nat) (ps : List Wn) : Prop :=
  ps.length = n ∧ n ≤ cap ∧ cap ≤ maxLen ∧ (0 < n → ∃ b off, ao = some ⟨b, off, none⟩ ∧ IsWins w b off ps)
theorem WinsAt.below {w w' : World} {ao : Option Addr} {n cap : Nat} {ps : List Wn} (h : WinsAt w ao n cap ps) (hb : Below w.heap.size w w') : WinsAt w' ao n cap ps :=
  ⟨h.1, h.2.1, h.2.2.1, fun hn => by
    obtain ⟨b, off, e, hi⟩ := h.2.2.2 hn
    exact ⟨b, off, e, hi.below hb hi.1⟩⟩

theorem wins_ext {ps qs : List Wn} (hl : ps.length = qs.length) (h : ∀ j, j < ps.length → wnAt ps j = wnAt qs j) : ps = qs := by
  apply List.ext_getElem hl
  intro j h1 h2
  have := h j h1
  unfold wnAt at this
  rw [List.getD_eq_getElem?_getD, List.getD_eq_getElem?_getD, List.getElem?_eq_getElem h1, List.getElem?_eq_getElem h2] at this
  simpa using this

set_option maxRecDepth 100000 in
set_option maxHeartbeats 4000000 in
theorem same_s (ao bo : Option Addr) (n m cap dap : Nat) (ps qs : List Wn) (w : World) (h : WinsAt w ao n cap ps) (k : WinsAt w bo m dap qs) :
    Calls Tryd.prog 23 #[.slice ao n cap, .slice bo m dap] w fun e w' => e = .returned (.bool (decide (ps = qs))) ∧ Below w.heap.size w w' := by
  obtain ⟨h1, h2, h3, h4⟩ := h
  obtain ⟨k1, k2, k3, k4⟩ := k
  subst h1
  subst k1
  unfold maxLen at h3 k3
  have H4 := Lib.hid h4; clear h4
  have K4 := Lib.hid k4; clear k4
  by_cases hne : ps.length = qs.length
  · have hn1 : ((ps.length : Int) != (qs.length : Int)) = false := by simp; omega
    go_enter Tryd.func23, Tryd.ntmps23
    go_wp2
    go_loopw [5] (fun i wr => ∃ k : Nat, k ≤ ps.length ∧ i = .int .i64 k ∧ Hid (∀ j, j < k → wnAt ps j = wnAt qs j) ∧ Below w.heap.size w wr) (fun i _ => ps.length - (intOf i).toNat)
    case atStart => exact ⟨0, Nat.zero_le _, rfl, Lib.hid (fun j hj => absurd hj (Nat.not_lt_zero _)), Below.refl _ _⟩
    case round =>
      obtain ⟨k, hk, rfl, HA, hbel⟩ := hrel
      by_cases hlt : k < ps.length
      · obtain ⟨b, off, rfl, hs⟩ := H4.out (by omega)
        obtain ⟨c, off2, rfl, hs2⟩ := K4.out (by omega)
        obtain ⟨hc1, hc2⟩ := (hs.below hbel hs.1).2 k hlt
        obtain ⟨hd1, hd2⟩ := (hs2.below hbel hs2.1).2 k (by omega)
        clear hs hs2
        obtain ⟨⟨p1, p2⟩, hpe⟩ : ∃ p, p = wnAt ps k := ⟨_, rfl⟩
        obtain ⟨⟨q1, q2⟩, hqe⟩ : ∃ q, q = wnAt qs k := ⟨_, rfl⟩
        rw [← hpe] at hc1 hc2
        rw [← hqe] at hd1 hd2
        simp only [] at hc1 hc2 hd1 hd2
        have HP := Lib.hid hpe; clear hpe
        have HQ := Lib.hid hqe; clear hqe
        have k1 : (0 : Int) ≤ (k : Int) := by omega
        have k2 : (k : Int) < (ps.length : Int) := by omega
        have k3 : (k : Int) < (qs.length : Int) := by omega
        by_cases hpq : p1 = q1
        · have hq1 : (p1 == q1) = true := beq_iff_eq.2 hpq
          have HPQ := Lib.hid hpq; clear hpq
          by_cases hpq : p2 = q2
          · have hq2 : (p2 == q2) = true := beq_iff_eq.2 hpq
            have HPQ2 := Lib.hid hpq; clear hpq
            go_wp2_with fail
            go_region_held3 (fun w' => w'.cell? ⟨b, off + k * 2, none⟩ = some (.int .i64 p1) ∧ w'.cell? ⟨b, off + k * 2 + 1, none⟩ = some (.int .i64 p2) ∧ w'.cell? ⟨c, off2 + k * 2, none⟩ = some (.int .i64 q1) ∧ w'.cell? ⟨c, off2 + k * 2 + 1, none⟩ = some (.int .i64 q2)) (go_keep) (fail)
            go_wp2
            go_roundw
            case rel =>
              refine ⟨k + 1, by omega, by go_num, Lib.hid fun j hj => ?_, hbel.drew⟩
              by_cases e : j = k
              · rw [e, ← HP.out, ← HQ.out, HPQ.out, HPQ2.out]
              · exact HA.out j (by omega)
            case measure => simp [intOf]; omega
          · have HE := Lib.hid (show decide (ps = qs) = false from decide_eq_false fun e => hpq (by
              have h1 := HP.out; have h2 := HQ.out
              rw [e, ← h2] at h1
              exact (Prod.mk.inj h1).2))
            have hq2 : (p2 == q2) = false := beq_false_of_ne hpq
            clear hpq
            go_wp2_with fail
            go_region_held3 (fun w' => w'.cell? ⟨b, off + k * 2, none⟩ = some (.int .i64 p1) ∧ w'.cell? ⟨b, off + k * 2 + 1, none⟩ = some (.int .i64 p2) ∧ w'.cell? ⟨c, off2 + k * 2, none⟩ = some (.int .i64 q1) ∧ w'.cell? ⟨c, off2 + k * 2 + 1, none⟩ = some (.int .i64 q2)) (go_keep) (fail)
            go_wp2
            go_ret
            exact ⟨by rw [HE.out]; rfl, hbel.drew⟩
        · have HE := Lib.hid (show decide (ps = qs) = false from decide_eq_false fun e => hpq (by
            have h1 := HP.out; have h2 := HQ.out
            rw [e, ← h2] at h1
            exact (Prod.mk.inj h1).1))
          have hq1 : (p1 == q1) = false := beq_false_of_ne hpq
          clear hpq
          go_wp2_with fail
          go_region_held3 (fun w' => w'.cell? ⟨b, off + k * 2, none⟩ = some (.int .i64 p1) ∧ w'.cell? ⟨b, off + k * 2 + 1, none⟩ = some (.int .i64 p2) ∧ w'.cell? ⟨c, off2 + k * 2, none⟩ = some (.int .i64 q1) ∧ w'.cell? ⟨c, off2 + k * 2 + 1, none⟩ = some (.int .i64 q2)) (go_keep) (fail)
          go_wp2
          go_ret
          exact ⟨by rw [HE.out]; rfl, hbel.drew⟩
      · have HE := Lib.hid (show decide (ps = qs) = true from decide_eq_true (wins_ext hne fun j hj => HA.out j (by omega)))
        go_wp2
        go_ret
        exact ⟨by rw [HE.out]; rfl, hbel⟩
  · have HE := Lib.hid (show decide (ps = qs) = false from decide_eq_false fun e => hne (by rw [e]))
    have hn1 : ((ps.length : Int) != (qs.length : Int)) = true := by simp; omega
    go_enter Tryd.func23, Tryd.ntmps23
    go_wp2
    go_ret
    exact ⟨by rw [HE.out]; rfl, Below.refl _ _⟩

end Go.Proofs.YtnncfifpgjlpaabDoor
