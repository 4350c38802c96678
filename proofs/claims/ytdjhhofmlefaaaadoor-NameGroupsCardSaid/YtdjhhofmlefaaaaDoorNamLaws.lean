/-
  What the proofs of the name laws share: pairs that came in, whether there are many, two equal lists of pairs. No condition.
-/
import Derived.Test.YtdjhhofmlefaaaaDoorLawFrame0
import Derived.Test.YtdjhhofmlefaaaaDoorNamOpen
import Derived.Test.YtdjhhofmlefaaaaDoorNamLv
import Derived.Lib.SmallJoins
set_option linter.unusedVariables false
set_option linter.unusedSimpArgs false
set_option linter.unnecessarySimpa false
namespace Go.Proofs.YtdjhhofmlefaaaaDoor
open Go.ChangeShapes Go.WideShapes Go.ChangeAt Go.RowKit Go.PlainAid

theorem open_pair {H : Type} {enc : TypeId × Value → H} {W : World} {base : Nat} {v : Value} {d : DataW H} {p : List MemPlace} (hval : Value.okWide Tryd.prog W .any base 36 v)
    (h0 : DataW.Trod enc Tryd.prog W 0 (fun _ => true) true 36 v d p) : ∃ u : Pr, v = .agg #[.string u.1, .string u.2] := by
  obtain ⟨v0, v1, y0, y1, n, rfl, _, _, h1, h2⟩ := Go.Joins.open_agg2 Tryd.underlying36 (by kernel_rfl) cells_pair hval h0
  obtain ⟨a, ha, _⟩ := DataW.trod_string Tryd.underlying9 h1
  obtain ⟨b, hb, _⟩ := DataW.trod_string Tryd.underlying9 h2
  simp only [List.cons.injEq, and_true] at ha hb
  rw [ha, hb]
  exact ⟨(a, b), rfl⟩
theorem samePairs_k (ao bo : Option Addr) (n m cap dap : Nat) (ps qs : List Pr) (r : Bool) (w : World) (h : PairsAt w ao n cap ps) (k : PairsAt w bo m dap qs) (hr : decide (ps = qs) = r) :
    Calls Tryd.prog 15 #[.slice ao n cap, .slice bo m dap] w fun e w' => e = .returned (.bool r) ∧ Below w.heap.size w w' := by
  obtain rfl := hr
  exact samePairs_s ao bo n m cap dap ps qs w h k
def longP (p : Pr) : Bool := decide (300 < p.1.size) || decide (300 < p.2.size)
def manyB (l : List Pr) : Bool := decide (12 < l.length) || l.any longP
theorem manyB_false {l : List Pr} (h1 : ¬ 12 < l.length) (h : ∀ j, j < l.length → longP (prAt l j) = false) : manyB l = false := by
  unfold manyB
  rw [decide_eq_false h1, Bool.false_or, Bool.eq_false_iff]
  intro e
  obtain ⟨p, hp, hl⟩ := List.any_eq_true.1 e
  obtain ⟨j, hj, rfl⟩ := prAt_mem l hp
  rw [h j hj] at hl; cases hl
theorem manyB_small {l : List Pr} (h : manyB l = false) : l.length ≤ 12 ∧ Small l ∧ ∀ p ∈ l, p.1.size ≤ 300 ∧ p.2.size ≤ 300 := by
  unfold manyB at h
  rw [Bool.or_eq_false_iff, decide_eq_false_iff_not, Bool.eq_false_iff] at h
  have h2 : ∀ p ∈ l, p.1.size ≤ 300 ∧ p.2.size ≤ 300 := fun p hp => by
    have h3 : ¬ longP p = true := fun e => h.2 (List.any_eq_true.2 ⟨p, hp, e⟩)
    unfold longP at h3
    simp at h3
    omega
  exact ⟨by omega, small_of l (by omega) (fun p hp => by have := h2 p hp; omega), h2⟩
set_option maxRecDepth 100000 in
set_option maxHeartbeats 4000000 in
theorem many_s (ao : Option Addr) (n cap : Nat) (l : List Pr) (w : World) (h : PairsAt w ao n cap l) :
    Calls Tryd.prog 16 #[.slice ao n cap] w fun e w' => e = .returned (.bool (manyB l)) ∧ w = w' := by
  obtain ⟨h1, h2, h3, h4⟩ := h
  subst h1
  unfold maxLen at h3
  have H4 := Lib.hid h4
  clear h4
  by_cases h12 : 12 < l.length
  · have HF := Lib.hid (show manyB l = true by unfold manyB; rw [decide_eq_true h12]; rfl)
    have hd : decide ((12 : Int) < (l.length : Int)) = true := decide_eq_true (by omega)
    go_enter Tryd.func16, Tryd.ntmps16
    go_wp2
    go_ret
    exact ⟨by rw [HF.out]; rfl, rfl⟩
  · have hd : decide ((12 : Int) < (l.length : Int)) = false := decide_eq_false (by omega)
    go_enter Tryd.func16, Tryd.ntmps16
    go_wp2
    go_loop [9] (fun i => ∃ k : Nat, k ≤ l.length ∧ i = .int .i64 k ∧ Hid (∀ j, j < k → longP (prAt l j) = false)) (fun i => l.length - (intOf i).toNat)
    case atStart => exact ⟨0, Nat.zero_le _, rfl, Lib.hid fun j hj => absurd hj (Nat.not_lt_zero _)⟩
    case round =>
      obtain ⟨k, hk, rfl, HA⟩ := hrel
      by_cases hlt : k < l.length
      · obtain ⟨b, off, rfl, hs⟩ := H4.out (by omega)
        obtain ⟨hc1, hc2⟩ := hs.2 k hlt
        have HM := Lib.hid (fun (e : longP (prAt l k) = true) => show manyB l = true by unfold manyB; rw [List.any_eq_true.2 ⟨_, mem_prAt l hlt, e⟩, Bool.or_true])
        have HN := Lib.hid (fun (e : longP (prAt l k) = false) => show ∀ j, j < k + 1 → longP (prAt l j) = false from fun j hj => if e2 : j = k then by rw [e2]; exact e else HA.out j (by omega))
        obtain ⟨⟨p, q⟩, hpe⟩ : ∃ p, p = prAt l k := ⟨_, rfl⟩
        rw [← hpe] at hc1 hc2 HM HN
        simp only [] at hc1 hc2
        clear hs hpe
        by_cases u1 : 300 < p.size
        · have HF := Lib.hid (HM.out (by unfold longP; rw [decide_eq_true u1]; rfl))
          go_wp2_with (go_at_call 11; refine (long_yes p _ u1).mono ?_; rintro e w' ⟨rfl, rfl⟩)
          go_ret
          exact ⟨by rw [HF.out]; rfl, rfl⟩
        · by_cases u2 : 300 < q.size
          · have HF := Lib.hid (HM.out (by unfold longP; rw [decide_eq_true u2, Bool.or_true]))
            go_wp2_with (first
              | (go_at_call 11; (with_reducible refine (long_no p _ u1).mono ?_); rintro e w' ⟨rfl, rfl⟩)
              | (go_at_call 11; (with_reducible refine (long_yes q _ u2).mono ?_); rintro e w' ⟨rfl, rfl⟩))
            go_ret
            exact ⟨by rw [HF.out]; rfl, rfl⟩
          · have HF := Lib.hid (HN.out (by unfold longP; rw [decide_eq_false u1, decide_eq_false u2]; rfl))
            go_wp2_with (first
              | (go_at_call 11; (with_reducible refine (long_no p _ u1).mono ?_); rintro e w' ⟨rfl, rfl⟩)
              | (go_at_call 11; (with_reducible refine (long_no q _ u2).mono ?_); rintro e w' ⟨rfl, rfl⟩))
            go_round
            case rel => exact ⟨k + 1, by omega, by go_num, HF⟩
            case measure => simp [intOf]; omega
      · have HF := Lib.hid (manyB_false h12 (fun j hj => HA.out j (by omega)))
        go_wp2
        go_ret
        exact ⟨by rw [HF.out]; rfl, rfl⟩
theorem many_k (ao : Option Addr) (n cap : Nat) (l : List Pr) (r : Bool) (w : World) (h : PairsAt w ao n cap l) (hr : manyB l = r) :
    Calls Tryd.prog 16 #[.slice ao n cap] w fun e w' => e = .returned (.bool r) ∧ w = w' := by
  obtain rfl := hr
  exact many_s ao n cap l w h

end Go.Proofs.YtdjhhofmlefaaaaDoor
