/-
  Contracts of the specification's Compare, and of Next in the program and in the specification. No condition.
-/
import Derived.Test.YtcnhkoijphfibaaDoorCsnP2
set_option maxRecDepth 100000
set_option linter.unusedVariables false
set_option linter.unusedSimpArgs false
set_option linter.unnecessarySimpa false
namespace Go.Proofs.YtcnhkoijphfibaaDoor
open Go.RowKit Go.PlainAid

set_option maxHeartbeats 4000000 in
theorem rcmp_s (a b : Cn) (w : World) :
    Calls Tryd.prog 14 #[cnV a, cnV b] w fun e w' => e = .returned (.int .i64 (cmpC a b)) ∧ Below w.heap.size w w' := by
  obtain ⟨a0, a1, a2⟩ := a
  obtain ⟨b0, b1, b2⟩ := b
  show Calls _ _ #[.agg #[.int .i64 a0, .int .i64 a1, .int .i64 a2], .agg #[.int .i64 b0, .int .i64 b1, .int .i64 b2]] w _
  have L0 := Lib.hid (below_allocs [cnB (a0, a1, a2), cnB (b0, b1, b2)] _ _ _ (Below.refl w.heap.size w) (Nat.le_refl _))
  unfold cnB at L0
  dsimp only [List.foldl] at L0
  obtain ⟨x, hx⟩ : ∃ x, cmpC (a0, a1, a2) (b0, b1, b2) = x := ⟨_, rfl⟩
  rw [hx]
  by_cases h1 : a0 = b0
  · have e1 : (a0 != b0) = false := by simpa using h1
    by_cases h2 : a1 = b1
    · have e2 : (a1 != b1) = false := by simpa using h2
      have HX := Lib.hid (show cmpN a2 b2 = x by rw [← hx]; unfold cmpC; rw [if_neg (fun k => k h1), if_neg (fun k => k h2)])
      clear hx h1 h2
      go_enter Tryd.func14, Tryd.ntmps14
      go_wp2_with (go_at_call 39; refine (order_k _ _ x _ HX.out).mono ?_; rintro e w' ⟨rfl, rfl⟩)
      go_ret
      exact ⟨rfl, L0.out⟩
    · have e2 : (a1 != b1) = true := by simpa using h2
      have HX := Lib.hid (show cmpN a1 b1 = x by rw [← hx]; unfold cmpC; rw [if_neg (fun k => k h1), if_pos h2])
      clear hx h1 h2
      go_enter Tryd.func14, Tryd.ntmps14
      go_wp2_with (go_at_call 39; refine (order_k _ _ x _ HX.out).mono ?_; rintro e w' ⟨rfl, rfl⟩)
      go_ret
      exact ⟨rfl, L0.out⟩
  · have e1 : (a0 != b0) = true := by simpa using h1
    have HX := Lib.hid (show cmpN a0 b0 = x by rw [← hx]; unfold cmpC; rw [if_pos h1])
    clear hx h1
    go_enter Tryd.func14, Tryd.ntmps14
    go_wp2_with (go_at_call 39; refine (order_k _ _ x _ HX.out).mono ?_; rintro e w' ⟨rfl, rfl⟩)
    go_ret
    exact ⟨rfl, L0.out⟩

theorem nxt_args {c : Cn} {now r : Int} (h : ¬ Vld c ∨ r < 0 ∨ 8 ≤ r) : nxtE c now r = 2 ∧ nxtV c now r = (0, 0, 0) := by
  have e : nxtE c now r = 2 := if_pos h
  exact ⟨e, by unfold nxtV; rw [e]; rfl⟩
theorem nxt_later {c : Cn} {now r : Int} (h : ¬ (¬ Vld c ∨ r < 0 ∨ 8 ≤ r)) (k : c.1 < insI now) : nxtE c now r = 0 ∧ nxtV c now r = (insI now, 0, r) := by
  have e : nxtE c now r = 0 := by unfold nxtE; rw [if_neg h, if_pos k]
  exact ⟨e, by unfold nxtV; rw [e, if_neg (fun k => k rfl), if_pos k]⟩
theorem nxt_full {c : Cn} {now r : Int} (h : ¬ (¬ Vld c ∨ r < 0 ∨ 8 ≤ r)) (k : ¬ c.1 < insI now) (s : c.2.1 = 4294967295) : nxtE c now r = 27 ∧ nxtV c now r = (0, 0, 0) := by
  have e : nxtE c now r = 27 := by unfold nxtE; rw [if_neg h, if_neg k, if_pos s]
  exact ⟨e, by unfold nxtV; rw [e]; rfl⟩
theorem nxt_more {c : Cn} {now r : Int} (h : ¬ (¬ Vld c ∨ r < 0 ∨ 8 ≤ r)) (k : ¬ c.1 < insI now) (s : c.2.1 ≠ 4294967295) : nxtE c now r = 0 ∧ nxtV c now r = (c.1, c.2.1 + 1, r) := by
  have e : nxtE c now r = 0 := by unfold nxtE; rw [if_neg h, if_neg k, if_neg s]
  exact ⟨e, by unfold nxtV; rw [e, if_neg (fun k => k rfl), if_neg k]⟩
theorem insI_min {t now : Int} (h : 0 ≤ t) : (t < insI now ↔ t < min now 1099511627776) ∧ (t < insI now → insI now = min now 1099511627776) := by
  unfold insI
  split
  · exact ⟨by omega, by omega⟩
  · split
    · exact ⟨by omega, by omega⟩
    · exact ⟨by omega, by omega⟩
set_option maxHeartbeats 8000000 in
theorem next_s (c : Cn) (now r : Int) (w : World) :
    Calls Tryd.prog 21 #[cnV c, .int .i64 now, .int .i64 r] w fun e w' => e = .returned (.tuple #[cnV (nxtV c now r), .int .i64 (nxtE c now r)]) ∧ Below w.heap.size w w' := by
  obtain ⟨t, s, q⟩ := c
  show Calls _ _ #[.agg #[.int .i64 t, .int .i64 s, .int .i64 q], .int .i64 now, .int .i64 r] w _
  have hv1 := vld_k (t, s, q)
  dsimp only at hv1
  cases hv : vldC (t, s, q)
  · have HF := Lib.hid (nxt_args (c := (t, s, q)) (now := now) (r := r) (.inl fun k => by rw [(vldC_iff _).2 k] at hv; cases hv))
    go_enter Tryd.func21, Tryd.ntmps21
    go_wp2_with (go_at_call 12; refine (hv1 false _ hv).mono ?_; rintro e w' ⟨rfl, rfl⟩)
    refine bodyPost_ret (v := .tuple #[.agg #[.int .i64 0, .int .i64 0, .int .i64 0], .int .i64 2]) (by simp [results, Tryd.results21, go_sem]) rfl ⟨by rw [HF.out.1, HF.out.2]; rfl, ?_⟩
    exact below_allocs [_, _, _] _ _ _ (Below.refl _ _) (Nat.le_refl _)
  · have hV := (vldC_iff _).1 hv
    unfold Vld at hV
    dsimp only at hV
    obtain ⟨v0, v1, v2, v3, v4, v5⟩ := hV
    cases hrb : (decide (0 ≤ r) && decide (r < 8))
    · have HF := Lib.hid (nxt_args (c := (t, s, q)) (now := now) (r := r) (.inr (by rw [Bool.and_eq_false_iff, decide_eq_false_iff_not, decide_eq_false_iff_not] at hrb; omega)))
      go_enter Tryd.func21, Tryd.ntmps21
      go_wp2_with (first | (go_at_call 12; refine (hv1 true _ hv).mono ?_; rintro e w' ⟨rfl, rfl⟩) | (go_at_call 38; refine (isrep_k r false _ hrb).mono ?_; rintro e w' ⟨rfl, rfl⟩))
      refine bodyPost_ret (v := .tuple #[.agg #[.int .i64 0, .int .i64 0, .int .i64 0], .int .i64 2]) (by simp [results, Tryd.results21, go_sem]) rfl ⟨by rw [HF.out.1, HF.out.2]; rfl, ?_⟩
      exact below_allocs [_, _, _] _ _ _ (Below.refl _ _) (Nat.le_refl _)
    · have hr0 : ¬ (¬ Vld (t, s, q) ∨ r < 0 ∨ 8 ≤ r) := by
        rw [Bool.and_eq_true, decide_eq_true_iff, decide_eq_true_iff] at hrb
        exact fun k => k.elim (fun k => k ((vldC_iff _).1 hv)) (by omega)
      obtain ⟨x, hx⟩ : ∃ x, min now 1099511627776 = x := ⟨_, rfl⟩
      have HI := Lib.hid (insI_min (now := now) v0)
      rw [hx] at HI
      by_cases hl : t < x
      · have HF := Lib.hid (nxt_later hr0 (HI.out.1.2 hl))
        rw [HI.out.2 (HI.out.1.2 hl)] at HF
        clear hr0
        have d1 : decide (t < x) = true := decide_eq_true hl
        go_enter Tryd.func21, Tryd.ntmps21
        go_wp2_with (first | (go_at_call 12; refine (hv1 true _ hv).mono ?_; rintro e w' ⟨rfl, rfl⟩) | (go_at_call 38; refine (isrep_k r true _ hrb).mono ?_; rintro e w' ⟨rfl, rfl⟩))
        refine bodyPost_ret (v := .tuple #[.agg #[.int .i64 x, .int .i64 0, .int .i64 r], .int .i64 0]) (by simp [results, Tryd.results21, go_sem]) rfl ⟨by rw [HF.out.1, HF.out.2]; rfl, ?_⟩
        exact below_allocs [_, _, _, _] _ _ _ (Below.refl _ _) (Nat.le_refl _)
      · have hl2 : ¬ (t, s, q).1 < insI now := fun k => hl (HI.out.1.1 k)
        have d1 : decide (t < x) = false := decide_eq_false hl
        by_cases hs : s = 4294967295
        · have HF := Lib.hid (nxt_full hr0 hl2 hs)
          clear hr0 hl2
          subst hs
          go_enter Tryd.func21, Tryd.ntmps21
          go_wp2_with (first | (go_at_call 12; refine (hv1 true _ hv).mono ?_; rintro e w' ⟨rfl, rfl⟩) | (go_at_call 38; refine (isrep_k r true _ hrb).mono ?_; rintro e w' ⟨rfl, rfl⟩))
          refine bodyPost_ret (v := .tuple #[.agg #[.int .i64 0, .int .i64 0, .int .i64 0], .int .i64 27]) (by simp [results, Tryd.results21, go_sem]) rfl ⟨by rw [HF.out.1, HF.out.2]; rfl, ?_⟩
          exact below_allocs [_, _, _, _] _ _ _ (Below.refl _ _) (Nat.le_refl _)
        · have HF := Lib.hid (nxt_more hr0 hl2 hs)
          clear hr0 hl2
          have d2 : ¬ 4294967295 < s + 1 := by omega
          go_enter Tryd.func21, Tryd.ntmps21
          go_wp2_with (first | (go_at_call 12; refine (hv1 true _ hv).mono ?_; rintro e w' ⟨rfl, rfl⟩) | (go_at_call 38; refine (isrep_k r true _ hrb).mono ?_; rintro e w' ⟨rfl, rfl⟩))
          refine bodyPost_ret (v := .tuple #[.agg #[.int .i64 t, .int .i64 (s + 1), .int .i64 r], .int .i64 0]) (by simp [results, Tryd.results21, go_sem]) rfl ⟨by rw [HF.out.1, HF.out.2]; rfl, ?_⟩
          exact below_allocs [_, _, _, _] _ _ _ (Below.refl _ _) (Nat.le_refl _)
set_option maxHeartbeats 8000000 in
theorem rnext_s (c : Cn) (now r : Int) (w : World) :
    Calls Tryd.prog 22 #[cnV c, .int .i64 now, .int .i64 r] w fun e w' => e = .returned (.tuple #[cnV (nxtV c now r), .int .i64 (nxtE c now r)]) ∧ Below w.heap.size w w' := by
  obtain ⟨t, s, q⟩ := c
  show Calls _ _ #[.agg #[.int .i64 t, .int .i64 s, .int .i64 q], .int .i64 now, .int .i64 r] w _
  have hv1 := rvld_k (t, s, q)
  dsimp only at hv1
  cases hv : vldC (t, s, q)
  · have HF := Lib.hid (nxt_args (c := (t, s, q)) (now := now) (r := r) (.inl fun k => by rw [(vldC_iff _).2 k] at hv; cases hv))
    go_enter Tryd.func22, Tryd.ntmps22
    go_wp2_with (go_at_call 13; refine (hv1 false _ hv).mono ?_; rintro e w' ⟨rfl, rfl⟩)
    refine bodyPost_ret (v := .tuple #[.agg #[.int .i64 0, .int .i64 0, .int .i64 0], .int .i64 2]) (by simp [results, Tryd.results22, go_sem]) rfl ⟨by rw [HF.out.1, HF.out.2]; rfl, ?_⟩
    exact below_allocs [_, _, _] _ _ _ (Below.refl _ _) (Nat.le_refl _)
  · have hV := (vldC_iff _).1 hv
    unfold Vld at hV
    dsimp only at hV
    obtain ⟨v0, v1, v2, v3, v4, v5⟩ := hV
    by_cases h0 : r < 0
    · have HF := Lib.hid (nxt_args (c := (t, s, q)) (now := now) (r := r) (.inr (.inl h0)))
      have d0 : decide (r < 0) = true := decide_eq_true h0
      go_enter Tryd.func22, Tryd.ntmps22
      go_wp2_with (go_at_call 13; refine (hv1 true _ hv).mono ?_; rintro e w' ⟨rfl, rfl⟩)
      refine bodyPost_ret (v := .tuple #[.agg #[.int .i64 0, .int .i64 0, .int .i64 0], .int .i64 2]) (by simp [results, Tryd.results22, go_sem]) rfl ⟨by rw [HF.out.1, HF.out.2]; rfl, ?_⟩
      exact below_allocs [_, _, _] _ _ _ (Below.refl _ _) (Nat.le_refl _)
    · have d0 : decide (r < 0) = false := decide_eq_false h0
      by_cases h8 : 8 ≤ r
      · have HF := Lib.hid (nxt_args (c := (t, s, q)) (now := now) (r := r) (.inr (.inr h8)))
        have d8 : decide (8 ≤ r) = true := decide_eq_true h8
        go_enter Tryd.func22, Tryd.ntmps22
        go_wp2_with (go_at_call 13; refine (hv1 true _ hv).mono ?_; rintro e w' ⟨rfl, rfl⟩)
        refine bodyPost_ret (v := .tuple #[.agg #[.int .i64 0, .int .i64 0, .int .i64 0], .int .i64 2]) (by simp [results, Tryd.results22, go_sem]) rfl ⟨by rw [HF.out.1, HF.out.2]; rfl, ?_⟩
        exact below_allocs [_, _, _] _ _ _ (Below.refl _ _) (Nat.le_refl _)
      · have d8 : decide (8 ≤ r) = false := decide_eq_false h8
        have hr0 : ¬ (¬ Vld (t, s, q) ∨ r < 0 ∨ 8 ≤ r) := fun k => k.elim (fun k => k ((vldC_iff _).1 hv)) (by omega)
        obtain ⟨x, hx⟩ : ∃ x, insI now = x := ⟨_, rfl⟩
        by_cases hl : t < x
        · have HF := Lib.hid (nxt_later (now := now) hr0 (by rw [hx]; exact hl))
          rw [hx] at HF
          have HX := Lib.hid hx
          clear hr0 hx
          go_enter Tryd.func22, Tryd.ntmps22
          go_wp2_with (first | (go_at_call 13; refine (hv1 true _ hv).mono ?_; rintro e w' ⟨rfl, rfl⟩) | (go_at_call 23; refine (instant_k now x _ HX.out).mono ?_; rintro e w' ⟨rfl, rfl⟩))
          refine bodyPost_ret (v := .tuple #[.agg #[.int .i64 x, .int .i64 0, .int .i64 r], .int .i64 0]) (by simp [results, Tryd.results22, go_sem]) rfl ⟨by rw [HF.out.1, HF.out.2]; rfl, ?_⟩
          exact below_allocs [_, _, _] _ _ _ (Below.refl _ _) (Nat.le_refl _)
        · have hl2 : ¬ (t, s, q).1 < insI now := by rw [hx]; exact hl
          have HX := Lib.hid hx
          clear hx
          by_cases hs : s = 4294967295
          · have HF := Lib.hid (nxt_full hr0 hl2 hs)
            clear hr0 hl2
            subst hs
            go_enter Tryd.func22, Tryd.ntmps22
            go_wp2_with (first | (go_at_call 13; refine (hv1 true _ hv).mono ?_; rintro e w' ⟨rfl, rfl⟩) | (go_at_call 23; refine (instant_k now x _ HX.out).mono ?_; rintro e w' ⟨rfl, rfl⟩))
            refine bodyPost_ret (v := .tuple #[.agg #[.int .i64 0, .int .i64 0, .int .i64 0], .int .i64 27]) (by simp [results, Tryd.results22, go_sem]) rfl ⟨by rw [HF.out.1, HF.out.2]; rfl, ?_⟩
            exact below_allocs [_, _, _] _ _ _ (Below.refl _ _) (Nat.le_refl _)
          · have HF := Lib.hid (nxt_more hr0 hl2 hs)
            clear hr0 hl2
            have d2 : (s == 4294967295) = false := by simpa using hs
            go_enter Tryd.func22, Tryd.ntmps22
            go_wp2_with (first | (go_at_call 13; refine (hv1 true _ hv).mono ?_; rintro e w' ⟨rfl, rfl⟩) | (go_at_call 23; refine (instant_k now x _ HX.out).mono ?_; rintro e w' ⟨rfl, rfl⟩))
            refine bodyPost_ret (v := .tuple #[.agg #[.int .i64 t, .int .i64 (s + 1), .int .i64 r], .int .i64 0]) (by simp [results, Tryd.results22, go_sem]) rfl ⟨by rw [HF.out.1, HF.out.2]; rfl, ?_⟩
            exact below_allocs [_, _, _] _ _ _ (Below.refl _ _) (Nat.le_refl _)

end Go.Proofs.YtcnhkoijphfibaaDoor
