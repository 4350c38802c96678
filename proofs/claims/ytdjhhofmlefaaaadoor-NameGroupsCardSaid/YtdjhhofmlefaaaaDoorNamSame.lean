/-
  The contract of the specification's SamePairs. No condition.
-/
import Derived.Test.YtdjhhofmlefaaaaDoorNamS
import Derived.Deep.RegionHeld3
set_option linter.unusedVariables false
set_option linter.unusedSimpArgs false
set_option linter.unnecessarySimpa false
namespace Go.Proofs.YtdjhhofmlefaaaaDoor
open Go.RowKit Go.PlainAid

theorem pairs_ext {ps qs : List Pr} (hl : ps.length = qs.length) (h : ∀ j, j < ps.length → prAt ps j = prAt qs j) : ps = qs := by
  apply List.ext_getElem hl
  intro j h1 h2
  have := h j h1
  unfold prAt at this
  rw [List.getD_eq_getElem?_getD, List.getD_eq_getElem?_getD, List.getElem?_eq_getElem h1, List.getElem?_eq_getElem h2] at this
  simpa using this

set_option maxRecDepth 100000 in
set_option maxHeartbeats 4000000 in
theorem samePairs_s (ao bo : Option Addr) (n m cap dap : Nat) (ps qs : List Pr) (w : World) (h : PairsAt w ao n cap ps) (k : PairsAt w bo m dap qs) :
    Calls Tryd.prog 15 #[.slice ao n cap, .slice bo m dap] w fun e w' => e = .returned (.bool (decide (ps = qs))) ∧ Below w.heap.size w w' := by
  obtain ⟨h1, h2, h3, h4⟩ := h
  obtain ⟨k1, k2, k3, k4⟩ := k
  subst h1
  subst k1
  unfold maxLen at h3 k3
  have H4 := Lib.hid h4; clear h4
  have K4 := Lib.hid k4; clear k4
  by_cases hne : ps.length = qs.length
  · have hn1 : ((ps.length : Int) != (qs.length : Int)) = false := by simp; omega
    go_enter Tryd.func15, Tryd.ntmps15
    go_wp2
    go_loopw [5] (fun i wr => ∃ k : Nat, k ≤ ps.length ∧ i = .int .i64 k ∧ Hid (∀ j, j < k → prAt ps j = prAt qs j) ∧ Below w.heap.size w wr) (fun i _ => ps.length - (intOf i).toNat)
    case atStart => exact ⟨0, Nat.zero_le _, rfl, Lib.hid (fun j hj => absurd hj (Nat.not_lt_zero _)), Below.refl _ _⟩
    case round =>
      obtain ⟨k, hk, rfl, HA, hbel⟩ := hrel
      by_cases hlt : k < ps.length
      · obtain ⟨b, off, rfl, hs⟩ := H4.out (by omega)
        obtain ⟨c, off2, rfl, hs2⟩ := K4.out (by omega)
        obtain ⟨hc1, hc2⟩ := (hs.below hbel hs.1).2 k hlt
        obtain ⟨hd1, hd2⟩ := (hs2.below hbel hs2.1).2 k (by omega)
        clear hs hs2
        obtain ⟨⟨p1, p2⟩, hpe⟩ : ∃ p, p = prAt ps k := ⟨_, rfl⟩
        obtain ⟨⟨q1, q2⟩, hqe⟩ : ∃ q, q = prAt qs k := ⟨_, rfl⟩
        rw [← hpe] at hc1 hc2
        rw [← hqe] at hd1 hd2
        simp only [] at hc1 hc2 hd1 hd2
        have HP := Lib.hid hpe; clear hpe
        have HQ := Lib.hid hqe; clear hqe
        have k1 : (0 : Int) ≤ (k : Int) := by omega
        have k2 : (k : Int) < (ps.length : Int) := by omega
        have k3 : (k : Int) < (qs.length : Int) := by omega
        by_cases hpq : p1 = q1
        · have hq1 : (p1.toList == q1.toList) = true := by rw [hpq]; exact beq_self_eq_true _
          have HPQ := Lib.hid hpq; clear hpq
          by_cases hpq : p2 = q2
          · have hq2 : (p2.toList == q2.toList) = true := by rw [hpq]; exact beq_self_eq_true _
            have HPQ2 := Lib.hid hpq; clear hpq
            go_wp2_with fail
            go_region_held3 (fun w' => w'.cell? ⟨b, off + k * 2, none⟩ = some (.string p1) ∧ w'.cell? ⟨b, off + k * 2 + 1, none⟩ = some (.string p2) ∧ w'.cell? ⟨c, off2 + k * 2, none⟩ = some (.string q1) ∧ w'.cell? ⟨c, off2 + k * 2 + 1, none⟩ = some (.string q2)) (go_keep) (fail)
            go_wp2
            go_roundw
            case rel =>
              refine ⟨k + 1, by omega, by go_num, Lib.hid fun j hj => ?_, hbel.drew⟩
              by_cases e : j = k
              · rw [e, ← HP.out, ← HQ.out, HPQ.out, HPQ2.out]
              · exact HA.out j (by omega)
            case measure => simp [intOf]; omega
          · have HE := Lib.hid (show decide (ps = qs) = false from decide_eq_false fun e => hpq (by
              have h1 := HP.out; have h2 := HQ.out
              rw [e, ← h2] at h1
              exact (Prod.mk.inj h1).2))
            have hq2 : (p2.toList == q2.toList) = false := by
              rw [Lib.toList_data, Lib.toList_data]
              exact beq_false_of_ne fun e => hpq (by rw [← Lib.mk_data p2, ← Lib.mk_data q2, e])
            clear hpq
            go_wp2_with fail
            go_region_held3 (fun w' => w'.cell? ⟨b, off + k * 2, none⟩ = some (.string p1) ∧ w'.cell? ⟨b, off + k * 2 + 1, none⟩ = some (.string p2) ∧ w'.cell? ⟨c, off2 + k * 2, none⟩ = some (.string q1) ∧ w'.cell? ⟨c, off2 + k * 2 + 1, none⟩ = some (.string q2)) (go_keep) (fail)
            go_wp2
            go_ret
            exact ⟨by rw [HE.out]; rfl, hbel.drew⟩
        · have HE := Lib.hid (show decide (ps = qs) = false from decide_eq_false fun e => hpq (by
            have h1 := HP.out; have h2 := HQ.out
            rw [e, ← h2] at h1
            exact (Prod.mk.inj h1).1))
          have hq1 : (p1.toList == q1.toList) = false := by
            rw [Lib.toList_data, Lib.toList_data]
            exact beq_false_of_ne fun e => hpq (by rw [← Lib.mk_data p1, ← Lib.mk_data q1, e])
          clear hpq
          go_wp2_with fail
          go_region_held3 (fun w' => w'.cell? ⟨b, off + k * 2, none⟩ = some (.string p1) ∧ w'.cell? ⟨b, off + k * 2 + 1, none⟩ = some (.string p2) ∧ w'.cell? ⟨c, off2 + k * 2, none⟩ = some (.string q1) ∧ w'.cell? ⟨c, off2 + k * 2 + 1, none⟩ = some (.string q2)) (go_keep) (fail)
          go_wp2
          go_ret
          exact ⟨by rw [HE.out]; rfl, hbel.drew⟩
      · have HE := Lib.hid (show decide (ps = qs) = true from decide_eq_true (pairs_ext hne fun j hj => HA.out j (by omega)))
        go_wp2
        go_ret
        exact ⟨by rw [HE.out]; rfl, hbel⟩
  · have HE := Lib.hid (show decide (ps = qs) = false from decide_eq_false fun e => hne (by rw [e]))
    have hn1 : ((ps.length : Int) != (qs.length : Int)) = true := by simp; omega
    go_enter Tryd.func15, Tryd.ntmps15
    go_wp2
    go_ret
    exact ⟨by rw [HE.out]; rfl, Below.refl _ _⟩

end Go.Proofs.YtdjhhofmlefaaaaDoor
