/-
  Contracts of the specification's Same and the law's few and sign. No condition.
-/
import Derived.Test.YtcnhkoijphfibaaDoorCsnC6
set_option maxRecDepth 100000
set_option linter.unusedVariables false
set_option linter.unusedSimpArgs false
set_option linter.unnecessarySimpa false
namespace Go.Proofs.YtcnhkoijphfibaaDoor
open Go.RowKit Go.PlainAid

theorem few_s (ao : Option Addr) (n cap : Nat) (w : World) :
    Calls Tryd.prog 24 #[.slice ao n cap] w fun e w' => e = .returned (.bool (decide (n ≤ 12))) ∧ w = w' := by
  by_cases h : n ≤ 12
  · have d0 : decide ((n : Int) ≤ 12) = true := decide_eq_true (by omega)
    rw [decide_eq_true h]
    clear h
    go_enter Tryd.func24, Tryd.ntmps24
    go_wp2
    go_ret
    exact ⟨rfl, rfl⟩
  · have d0 : decide ((n : Int) ≤ 12) = false := decide_eq_false (by omega)
    rw [decide_eq_false h]
    clear h
    go_enter Tryd.func24, Tryd.ntmps24
    go_wp2
    go_ret
    exact ⟨rfl, rfl⟩
def sgnC (a b : ByteArray) : Int := if Op.bytesLess a.toList b.toList = true then -1 else if (a.toList == b.toList) = true then 0 else 1
theorem sign_s (a b : ByteArray) (w : World) :
    Calls Tryd.prog 20 #[.string a, .string b] w fun e w' => e = .returned (.int .i64 (sgnC a b)) ∧ w = w' := by
  cases h1 : Op.bytesLess a.toList b.toList
  · cases h2 : (a.toList == b.toList)
    · have HF := Lib.hid (show sgnC a b = 1 by unfold sgnC; rw [h1, h2]; rfl)
      rw [HF.out]
      go_enter Tryd.func20, Tryd.ntmps20
      go_wp2
      go_ret
      exact ⟨rfl, rfl⟩
    · have HF := Lib.hid (show sgnC a b = 0 by unfold sgnC; rw [h1, h2]; rfl)
      rw [HF.out]
      go_enter Tryd.func20, Tryd.ntmps20
      go_wp2
      go_ret
      exact ⟨rfl, rfl⟩
  · have HF := Lib.hid (show sgnC a b = -1 by unfold sgnC; rw [h1]; rfl)
    rw [HF.out]
    go_enter Tryd.func20, Tryd.ntmps20
    go_wp2
    go_ret
    exact ⟨rfl, rfl⟩
set_option maxHeartbeats 8000000 in
theorem same_s (ao bo : Option Addr) (n m cap dap : Nat) (ps qs : List Cn) (w : World) (h : CnsAt w ao n cap ps) (k : CnsAt w bo m dap qs) :
    Calls Tryd.prog 30 #[.slice ao n cap, .slice bo m dap] w fun e w' => e = .returned (.bool (decide (ps = qs))) ∧ Below w.heap.size w w' := by
  obtain ⟨h1, h2, h3, h4, _⟩ := h
  obtain ⟨k1, k2, k3, k4, _⟩ := k
  subst h1
  subst k1
  unfold maxLen at h3 k3
  have H4 := Lib.hid h4; clear h4
  have K4 := Lib.hid k4; clear k4
  by_cases hne : ps.length = qs.length
  · have hn1 : ((ps.length : Int) != (qs.length : Int)) = false := by simp; omega
    have HNE := Lib.hid hne
    go_enter Tryd.func30, Tryd.ntmps30
    go_wp2_with fail
    go_loopw [5] (fun i wr => ∃ k : Nat, k ≤ ps.length ∧ i = .int .i64 k ∧ Hid (∀ j, j < k → cnA ps j = cnA qs j) ∧ Hid (Below w.heap.size w wr)) (fun i _ => ps.length - (intOf i).toNat)
    case atStart => exact ⟨0, Nat.zero_le _, rfl, Lib.hid (fun j hj => absurd hj (Nat.not_lt_zero _)), Lib.hid (Below.refl _ _)⟩
    case round =>
      obtain ⟨k, hk, rfl, HA, HB⟩ := hrel
      by_cases hlt : k < ps.length
      · obtain ⟨b, off, rfl, hs⟩ := H4.out (by omega)
        obtain ⟨c, off2, rfl, hs2⟩ := K4.out (by omega)
        obtain ⟨hc1, hc2, hc3⟩ := (hs.below HB.out hs.1).2 k hlt
        obtain ⟨hd1, hd2, hd3⟩ := (hs2.below HB.out hs2.1).2 k (by omega)
        clear hs hs2
        obtain ⟨⟨p0, p1, p2⟩, hpe⟩ : ∃ p, cnA ps k = p := ⟨_, rfl⟩
        obtain ⟨⟨q0, q1, q2⟩, hqe⟩ : ∃ q, cnA qs k = q := ⟨_, rfl⟩
        rw [hpe] at hc1 hc2 hc3
        rw [hqe] at hd1 hd2 hd3
        dsimp only at hc1 hc2 hc3 hd1 hd2 hd3
        have HP := Lib.hid hpe; clear hpe
        have HQ := Lib.hid hqe; clear hqe
        have k1 : (0 : Int) ≤ (k : Int) := by omega
        have k2 : (k : Int) < (ps.length : Int) := by omega
        have k3 : (k : Int) < (qs.length : Int) := by omega
        clear hne
        have HBD := Lib.hid (fun q => show Below w.heap.size w (wr.drewN q) from HB.out.trans ⟨rfl, rfl, rfl, Nat.le_refl _, fun _ _ => rfl⟩)
        by_cases g0 : p0 = q0
        · subst g0
          by_cases g1 : p1 = q1
          · subst g1
            by_cases g2 : p2 = q2
            · subst g2
              have HN := Lib.hid (fun j (hj : j < k + 1) => show cnA ps j = cnA qs j from if e : j = k then by rw [e, HP.out, HQ.out] else HA.out j (by omega))
              go_wp2_with fail
              go_quiet (fail)
              go_wp2_with fail
              go_roundw
              case rel => exact ⟨k + 1, by omega, by go_num, HN, Lib.hid (HBD.out _)⟩
              case measure => simp [intOf]; omega
            · have b0 : (p2 == q2) = false := by simpa using g2
              have HE := Lib.hid (show decide (ps = qs) = false from decide_eq_false fun e => g2 (by have := HP.out; rw [e, HQ.out] at this; simpa using this.symm))
              clear g2
              go_wp2_with fail
              go_quiet (fail)
              go_wp2_with fail
              go_ret
              exact ⟨by rw [HE.out]; rfl, HBD.out _⟩
          · have b0 : (p1 == q1) = false := by simpa using g1
            have HE := Lib.hid (show decide (ps = qs) = false from decide_eq_false fun e => g1 (by have := HP.out; rw [e, HQ.out] at this; simp at this; exact this.1.symm))
            clear g1
            go_wp2_with fail
            go_quiet (fail)
            go_wp2_with fail
            go_ret
            exact ⟨by rw [HE.out]; rfl, HBD.out _⟩
        · have b0 : (p0 == q0) = false := by simpa using g0
          have HE := Lib.hid (show decide (ps = qs) = false from decide_eq_false fun e => g0 (by have := HP.out; rw [e, HQ.out] at this; simp at this; exact this.1.symm))
          clear g0
          go_wp2_with fail
          go_quiet (fail)
          go_wp2_with fail
          go_ret
          exact ⟨by rw [HE.out]; rfl, HBD.out _⟩
      · have HE := Lib.hid (show decide (ps = qs) = true from decide_eq_true (cns_ext HNE.out fun j hj => HA.out j (by omega)))
        have k2 : ¬ (k : Int) < (ps.length : Int) := by omega
        clear hne
        go_wp2_with fail
        go_ret
        exact ⟨by rw [HE.out]; rfl, HB.out⟩
  · have hn1 : ((ps.length : Int) != (qs.length : Int)) = true := by simp; omega
    have HE := Lib.hid (show decide (ps = qs) = false from decide_eq_false fun e => hne (by rw [e]))
    clear hne
    go_enter Tryd.func30, Tryd.ntmps30
    go_wp2_with fail
    go_ret
    exact ⟨by rw [HE.out]; rfl, Below.refl _ _⟩

end Go.Proofs.YtcnhkoijphfibaaDoor
