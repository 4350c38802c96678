/-
  The contract of name.shared: how many components two lists have in common at their ends. Condition: at most 1000 components.
-/
import Derived.Test.YtdjhhofmlefaaaaDoorNamI
import Derived.WalkSmall
import Derived.BigQuiet
import Derived.Deep.RegionHeld3
import Derived.Deep.QuietTactic
set_option linter.unusedVariables false
set_option linter.unusedSimpArgs false
set_option linter.unnecessarySimpa false
namespace Go.Proofs.YtdjhhofmlefaaaaDoor
open Go.RowKit Go.PlainAid

def sameB (l m : List Pr) (n : Nat) : Bool := decide (n < l.length) && decide (n < m.length) && decide (prAt l (l.length - 1 - n) = prAt m (m.length - 1 - n))
/-- k is the number of common components -/
def ComP (l m : List Pr) (k : Nat) : Prop := (∀ j, j < k → sameB l m j = true) ∧ sameB l m k = false
theorem sameB_iff (l m : List Pr) (n : Nat) : sameB l m n = true ↔ n < l.length ∧ n < m.length ∧ prAt l (l.length - 1 - n) = prAt m (m.length - 1 - n) := by
  unfold sameB; simp [and_assoc]
theorem prAt_app (x m : List Pr) (j : Nat) : prAt (x ++ m) (x.length + j) = prAt m j := by
  unfold prAt; rw [List.getD_eq_getElem?_getD, List.getD_eq_getElem?_getD, List.getElem?_append_right (by omega)]; congr 2; omega
theorem ComP.le {l m : List Pr} {k : Nat} (h : ComP l m k) : k ≤ l.length ∧ k ≤ m.length := by
  rcases Nat.eq_zero_or_pos k with h0 | h0
  · omega
  · have := (sameB_iff _ _ _).1 (h.1 (k - 1) (by omega)); omega
theorem ComP.suf {l m : List Pr} {k : Nat} (h : ComP l m k) : sufB m l = decide (k = m.length) := by
  have hle := h.le
  rw [Bool.eq_iff_iff, sufB_iff, decide_eq_true_eq]
  constructor
  · rintro ⟨x, rfl⟩
    rcases Nat.lt_or_ge k m.length with hlt | hge
    · have h2 : sameB (x ++ m) m k = true := by
        rw [sameB_iff, List.length_append]
        refine ⟨by omega, hlt, ?_⟩
        rw [show x.length + m.length - 1 - k = x.length + (m.length - 1 - k) by omega, prAt_app]
      rw [h.2] at h2; cases h2
    · omega
  · intro e
    subst e
    refine ⟨l.take (l.length - m.length), ?_⟩
    conv => lhs; rw [← List.take_append_drop (l.length - m.length) l]
    congr 1
    refine pairs_ext (by rw [List.length_drop]; omega) fun j hj => ?_
    rw [List.length_drop] at hj
    have := ((sameB_iff _ _ _).1 (h.1 (m.length - 1 - j) (by omega))).2.2
    rw [show m.length - 1 - (m.length - 1 - j) = j by omega, show l.length - 1 - (m.length - 1 - j) = l.length - m.length + j by omega] at this
    rw [← this]
    unfold prAt; rw [List.getD_eq_getElem?_getD, List.getD_eq_getElem?_getD, List.getElem?_drop]

set_option maxRecDepth 100000 in
set_option maxHeartbeats 4000000 in
theorem same_s (x y : Nat) (ao bo : Option Addr) (n cap m dap : Nat) (l q : List Pr) (k : Nat) (w : World) (hx : w.cell? ⟨x, 0, none⟩ = some (.slice ao n cap)) (hy : w.cell? ⟨y, 0, none⟩ = some (.slice bo m dap))
    (hl : PairsAt w ao n cap l) (hq : PairsAt w bo m dap q) (hk : k ≤ 1000) (hn : n ≤ 1000) (hm : m ≤ 1000) :
    Calls Tryd.prog 73 #[.int .i64 k, .pointer (some ⟨x, 0, none⟩), .pointer (some ⟨y, 0, none⟩)] w fun e w' => e = .returned (.bool (sameB l q k)) ∧ Below w.heap.size w w' := by
  by_cases h1 : k < n
  · by_cases h2 : k < m
    · obtain ⟨b, off, rfl, hs⟩ := hl.2.2.2 (by omega)
      obtain ⟨c, off2, rfl, hs2⟩ := hq.2.2.2 (by omega)
      obtain ⟨i, hi⟩ : ∃ i, n - 1 - k = i := ⟨_, rfl⟩
      obtain ⟨j, hj⟩ : ∃ j, m - 1 - k = j := ⟨_, rfl⟩
      have hl1 := hl.1
      have hq1 := hq.1
      obtain ⟨hc1, hc2⟩ := hs.2 i (by omega)
      obtain ⟨hd1, hd2⟩ := hs2.2 j (by omega)
      have HB : Hid (sameB l q k = decide (prAt l i = prAt q j)) := Lib.hid (by
        unfold sameB; rw [hl1, hq1, hi, hj, decide_eq_true h1, decide_eq_true h2]; rfl)
      obtain ⟨⟨p1, p2⟩, hpe⟩ : ∃ p, prAt l i = p := ⟨_, rfl⟩
      obtain ⟨⟨q1, q2⟩, hqe⟩ : ∃ q', prAt q j = q' := ⟨_, rfl⟩
      rw [hpe] at hc1 hc2 HB
      rw [hqe] at hd1 hd2 HB
      simp only [] at hc1 hc2 hd1 hd2
      have d1 : decide ((k : Int) < (n : Int)) = true := decide_eq_true (by omega)
      have d2 : decide ((k : Int) < (m : Int)) = true := decide_eq_true (by omega)
      have g1 : (k : Int) < (n : Int) := by omega
      have g2 : (k : Int) < (m : Int) := by omega
      have e1 : IntKind.i64.wrap ((n : Int) - 1) = (n : Int) - 1 := IntWalk.i64_in _ (by omega)
      have e2 : IntKind.i64.wrap ((n : Int) - 1 - (k : Int)) = (i : Int) := by rw [IntWalk.i64_in _ (by omega)]; omega
      have e3 : IntKind.i64.wrap ((m : Int) - 1) = (m : Int) - 1 := IntWalk.i64_in _ (by omega)
      have e4 : IntKind.i64.wrap ((m : Int) - 1 - (k : Int)) = (j : Int) := by rw [IntWalk.i64_in _ (by omega)]; omega
      have i1 : (0 : Int) ≤ (i : Int) := by omega
      have i2 : (i : Int) < (n : Int) := by omega
      have j1 : (0 : Int) ≤ (j : Int) := by omega
      have j2 : (j : Int) < (m : Int) := by omega
      clear hi hj hl1 hq1 hpe hqe hs hs2
      have t1 := str_eq p1 q1
      have t2 := str_eq p2 q2
      by_cases u1 : p1 = q1
      · by_cases u2 : p2 = q2
        · have HS := Lib.hid (show sameB l q k = true by rw [HB.out, u1, u2]; simp)
          rw [decide_eq_true u1] at t1
          rw [decide_eq_true u2] at t2
          clear u1 u2
          go_enter Tryd.func73, Tryd.ntmps73
          go_wp2_with fail
          go_region_held3 (fun w' => w'.cell? ⟨x, 0, none⟩ = some (.slice (some ⟨b, off, none⟩) n cap) ∧ w'.cell? ⟨y, 0, none⟩ = some (.slice (some ⟨c, off2, none⟩) m dap) ∧ w'.cell? ⟨b, off + i * 2, none⟩ = some (.string p1) ∧ w'.cell? ⟨b, off + i * 2 + 1, none⟩ = some (.string p2) ∧ w'.cell? ⟨c, off2 + j * 2, none⟩ = some (.string q1) ∧ w'.cell? ⟨c, off2 + j * 2 + 1, none⟩ = some (.string q2)) (go_keep) (fail)
          go_wp2
          go_ret
          exact ⟨by rw [HS.out]; rfl, (Below.refl _ _).drew⟩
        · have HS := Lib.hid (show sameB l q k = false by rw [HB.out]; exact decide_eq_false fun e => u2 (Prod.mk.inj e).2)
          rw [decide_eq_true u1] at t1
          rw [decide_eq_false u2] at t2
          clear u1 u2
          go_enter Tryd.func73, Tryd.ntmps73
          go_wp2_with fail
          go_region_held3 (fun w' => w'.cell? ⟨x, 0, none⟩ = some (.slice (some ⟨b, off, none⟩) n cap) ∧ w'.cell? ⟨y, 0, none⟩ = some (.slice (some ⟨c, off2, none⟩) m dap) ∧ w'.cell? ⟨b, off + i * 2, none⟩ = some (.string p1) ∧ w'.cell? ⟨b, off + i * 2 + 1, none⟩ = some (.string p2) ∧ w'.cell? ⟨c, off2 + j * 2, none⟩ = some (.string q1) ∧ w'.cell? ⟨c, off2 + j * 2 + 1, none⟩ = some (.string q2)) (go_keep) (fail)
          go_wp2
          go_ret
          exact ⟨by rw [HS.out]; rfl, (Below.refl _ _).drew⟩
      · have HS := Lib.hid (show sameB l q k = false by rw [HB.out]; exact decide_eq_false fun e => u1 (Prod.mk.inj e).1)
        rw [decide_eq_false u1] at t1
        clear u1 t2
        go_enter Tryd.func73, Tryd.ntmps73
        go_wp2_with fail
        go_region_held3 (fun w' => w'.cell? ⟨x, 0, none⟩ = some (.slice (some ⟨b, off, none⟩) n cap) ∧ w'.cell? ⟨y, 0, none⟩ = some (.slice (some ⟨c, off2, none⟩) m dap) ∧ w'.cell? ⟨b, off + i * 2, none⟩ = some (.string p1) ∧ w'.cell? ⟨b, off + i * 2 + 1, none⟩ = some (.string p2) ∧ w'.cell? ⟨c, off2 + j * 2, none⟩ = some (.string q1) ∧ w'.cell? ⟨c, off2 + j * 2 + 1, none⟩ = some (.string q2)) (go_keep) (fail)
        go_wp2
        go_ret
        exact ⟨by rw [HS.out]; rfl, (Below.refl _ _).drew⟩
    · have HS := Lib.hid (show sameB l q k = false by rw [Bool.eq_false_iff]; intro e; have := (sameB_iff _ _ _).1 e; have := hq.1; omega)
      have d1 : decide ((k : Int) < (n : Int)) = true := decide_eq_true (by omega)
      have d2 : decide ((k : Int) < (m : Int)) = false := decide_eq_false (by omega)
      have g1 : (k : Int) < (n : Int) := by omega
      go_enter Tryd.func73, Tryd.ntmps73
      go_wp2
      go_quiet (fail)
      go_wp2
      go_ret
      exact ⟨by rw [HS.out]; rfl, below_drewN (Below.refl _ _) _⟩
  · have HS := Lib.hid (show sameB l q k = false by rw [Bool.eq_false_iff]; intro e; have := (sameB_iff _ _ _).1 e; have := hl.1; omega)
    have d1 : decide ((k : Int) < (n : Int)) = false := decide_eq_false (by omega)
    go_enter Tryd.func73, Tryd.ntmps73
    go_wp2
    go_quiet (fail)
    go_wp2
    go_ret
    exact ⟨by rw [HS.out]; rfl, below_drewN (Below.refl _ _) _⟩

end Go.Proofs.YtdjhhofmlefaaaaDoor
