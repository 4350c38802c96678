/-
  The contract of the law's light; the numbers of NewLocks. Condition: the calls as they came in.
-/
import Derived.Test.YtclecajbcmmddaaSlkI
import Derived.Test.YtclecajbcmmddaaSecLaws
set_option maxRecDepth 100000
set_option linter.unusedVariables false
set_option linter.unusedSimpArgs false
set_option linter.unnecessarySimpa false
namespace Go.Proofs.Ytclecajbcmmddaa
open Go.RowKit Go.PlainAid

theorem lkN_of {most win lock x y : Int} (h : lkOk most win lock = true) (hx : limI win = x) (hy : limI lock = y) : LkN most x y := by
  unfold lkOk at h
  rw [hx, hy] at h
  simp only [Bool.and_eq_true, decide_eq_true_eq] at h
  have h1 := limI_bd win
  have h2 := limI_bd lock
  rw [hx] at h1
  rw [hy] at h2
  exact ⟨h.1.1.1, h.1.1.2, h.1.2, h1.2, h.2, h2.2⟩
/-- few calls with short names -/
def lightB (ll : List Op) : Bool := decide (ll.length ≤ 30) && (List.range ll.length).all fun j => decide ((opA ll j).2.2.size ≤ 100)
theorem lightB_out {ll : List Op} (h : lightB ll = true) : ll.length ≤ 30 ∧ ∀ j, j < ll.length → (opA ll j).2.2.size ≤ 100 := by
  unfold lightB at h
  rw [Bool.and_eq_true, decide_eq_true_eq, List.all_eq_true] at h
  exact ⟨h.1, fun j hj => of_decide_eq_true (h.2 j (List.mem_range.2 hj))⟩
theorem lightB_yes {ll : List Op} (h1 : ll.length ≤ 30) (h2 : ∀ j, j < ll.length → (opA ll j).2.2.size ≤ 100) : lightB ll = true := by
  unfold lightB
  rw [Bool.and_eq_true, decide_eq_true_eq, List.all_eq_true]
  exact ⟨h1, fun j hj => decide_eq_true (h2 j (List.mem_range.1 hj))⟩
theorem lightB_long {ll : List Op} (h : 30 < ll.length) : lightB ll = false := by
  rw [Bool.eq_false_iff]; intro e; have := (lightB_out e).1; omega
theorem lightB_big {ll : List Op} {i : Nat} (hi : i < ll.length) (h : 100 < (opA ll i).2.2.size) : lightB ll = false := by
  rw [Bool.eq_false_iff]; intro e; have := (lightB_out e).2 i hi; omega
set_option maxHeartbeats 4000000 in
theorem light_k (l : Option Addr) (n c : Nat) (ll : List Op) (x : Bool) (w : World) (h : OpsAt w l n c ll) (hx : lightB ll = x) :
    Calls Try.prog 4 #[.slice l n c] w fun e w' => e = .returned (.bool x) ∧ w = w' := by
  have HL := Lib.hid h
  have HX := Lib.hid hx
  clear hx
  obtain ⟨hl1, hl2, hl3, _, _⟩ := h
  subst hl1
  unfold maxLen at hl3
  go_enter Try.func4, Try.ntmps4
  go_wp2_with fail
  go_loopw [3] (fun iv wr => ∃ i : Nat, i ≤ ll.length ∧ i ≤ 30 ∧ iv = .int .i64 i ∧ wr = w ∧ Hid (∀ j, j < i → (opA ll j).2.2.size ≤ 100)) (fun iv _ => 30 - (intOf iv).toNat)
  case atStart => exact ⟨0, Nat.zero_le _, Nat.zero_le _, rfl, rfl, Lib.hid (fun j hj => absurd hj (Nat.not_lt_zero _))⟩
  case round =>
    obtain ⟨i, hi, hi3, rfl, rfl, HS⟩ := hrel
    by_cases hlt : i < ll.length
    · have di : (i : Int) < (ll.length : Int) := by omega
      by_cases h30 : i < 30
      · have d30 : (i : Int) < 30 := by omega
        obtain ⟨lb, lo, hla, hls⟩ := HL.out.2.2.2.1 (by omega)
        subst hla
        obtain ⟨c0, c1, c2⟩ := hls.2 i hlt
        clear hls
        obtain ⟨⟨q, m, u⟩, hc⟩ : ∃ c, opA ll i = c := ⟨_, rfl⟩
        rw [hc] at c0 c1 c2
        have HC := Lib.hid hc
        clear hc
        dsimp only at c0 c1 c2
        by_cases hu : 100 < u.size
        · have du : (100 : Int) < (u.size : Int) := by omega
          have HE := Lib.hid (HX.out.symm.trans (lightB_big hlt (by rw [HC.out]; exact hu)))
          go_wp2_with fail
          go_ret
          exact ⟨by rw [HE.out]; rfl, rfl⟩
        · have du : ¬ (100 : Int) < (u.size : Int) := by omega
          have HS1 : Hid (∀ j, j < i + 1 → (opA ll j).2.2.size ≤ 100) := Lib.hid fun j hj => if e : j = i then by rw [e, HC.out]; exact Nat.le_of_not_lt hu else HS.out j (by omega)
          go_wp2_with fail
          go_roundw
          case rel => exact ⟨i + 1, by omega, by omega, by go_num, trivial, HS1⟩
          case measure => simp [intOf]; omega
      · have d30 : ¬ (i : Int) < 30 := by omega
        have dn : ¬ (ll.length : Int) ≤ 30 := by omega
        have HE := Lib.hid (HX.out.symm.trans (lightB_long (by omega)))
        go_wp2_with fail
        go_ret
        exact ⟨by rw [HE.out]; rfl, rfl⟩
    · have di : ¬ (i : Int) < (ll.length : Int) := by omega
      have dn : (ll.length : Int) ≤ 30 := by omega
      have HE := Lib.hid (HX.out.symm.trans (lightB_yes (by omega) fun j hj => HS.out j (by omega)))
      go_wp2_with fail
      go_ret
      exact ⟨by rw [HE.out]; rfl, rfl⟩

end Go.Proofs.Ytclecajbcmmddaa
