/-
  Contracts of Code, Counter, Verify, VerifyAt on both sides, with the search for a code. Condition: strings of at most 1000000 bytes.
-/
import Derived.Test.YtmkcojgdhdmnnaaDoorOtpA
import Derived.Test.YtmkcojgdhdmnnaaDoorKbC
import Derived.Deep.RegionHeld3
set_option maxRecDepth 100000
set_option linter.unusedVariables false
set_option linter.unusedSimpArgs false
set_option linter.unnecessarySimpa false
namespace Go.Proofs.YtmkcojgdhdmnnaaDoor
open Go.RowKit Go.PlainAid

theorem codeOf_k (s : ByteArray) (c : Int) (x : ByteArray) (w : World) (hs : s.size ≤ 1000000) (h0 : 0 ≤ c) (h1 : c ≤ mostC) (ho : PowOk w) (hx : codeS s c = x) :
    Calls Tryd.prog 30 #[.string s, .int .i64 c] w fun e w' => e = .returned (.string x) ∧ Below w.heap.size w w' := by
  subst hx; exact codeOf_s s c w hs h0 h1 ho
set_option maxHeartbeats 2000000 in
theorem code_k (s : ByteArray) (c : Int) (x : ByteArray) (z : Int) (w : World) (hs : s.size ≤ 1000000) (ho : PowOk w) (hx : codR s c = (x, z)) :
    Calls Tryd.prog 10 #[.string s, .int .i64 c] w fun e w' => e = .returned (.tuple #[.string x, .int .i64 z]) ∧ Below w.heap.size w w' := by
  have HO := Lib.hid ho
  clear ho
  unfold codR mostC at hx
  cases hc : cleanB s
  · rw [hc, if_neg (by decide)] at hx
    obtain ⟨rfl, rfl⟩ := Prod.mk.inj hx
    have HC := Lib.hid hc
    clear hx hc
    go_enter Tryd.func10, Tryd.ntmps10
    go_wp2_with fail
    refine (clean_k s false _ (by omega) HC.out).mono ?_
    rintro e w' ⟨rfl, rfl⟩
    go_wp2_with fail
    go_ret2
    exact ⟨rfl, Below.refl _ _⟩
  · rw [hc, if_pos rfl] at hx
    have HC := Lib.hid hc
    clear hc
    by_cases h0 : c < 0
    · rw [if_neg (by omega)] at hx
      obtain ⟨rfl, rfl⟩ := Prod.mk.inj hx
      clear hx
      go_enter Tryd.func10, Tryd.ntmps10
      go_wp2_with fail
      refine (clean_k s true _ (by omega) HC.out).mono ?_
      rintro e w' ⟨rfl, rfl⟩
      go_wp2_with fail
      go_ret2
      exact ⟨rfl, Below.refl _ _⟩
    · by_cases h1 : 36650387592 < c
      · rw [if_neg (by omega)] at hx
        obtain ⟨rfl, rfl⟩ := Prod.mk.inj hx
        clear hx
        have d2 : decide (36650387592 < c) = true := decide_eq_true h1
        go_enter Tryd.func10, Tryd.ntmps10
        go_wp2_with fail
        refine (clean_k s true _ (by omega) HC.out).mono ?_
        rintro e w' ⟨rfl, rfl⟩
        go_wp2_with fail
        go_ret2
        exact ⟨rfl, Below.refl _ _⟩
      · rw [if_pos ⟨by omega, by omega⟩] at hx
        obtain ⟨hx2, rfl⟩ := Prod.mk.inj hx
        have HX := Lib.hid hx2
        clear hx hx2
        have d2 : decide (36650387592 < c) = false := decide_eq_false h1
        go_enter Tryd.func10, Tryd.ntmps10
        go_wp2_with fail
        refine (clean_k s true _ (by omega) HC.out).mono ?_
        rintro e w' ⟨rfl, rfl⟩
        go_wp2_with fail
        refine (codeOf_k s c x _ hs (by omega) (by unfold mostC; omega) HO.out HX.out).mono ?_
        rintro e w1 ⟨rfl, hb⟩
        go_wp2_with fail
        go_ret2
        exact ⟨rfl, hb⟩
set_option maxHeartbeats 2000000 in
theorem rcode_k (s : ByteArray) (c : Int) (x : ByteArray) (z : Int) (w : World) (hs : s.size ≤ 1000000) (b0 : -9223372036854775808 ≤ c) (b1 : c ≤ 9223372036854775807) (hx : codR s c = (x, z)) :
    Calls Tryd.prog 11 #[.string s, .int .i64 c] w fun e w' => e = .returned (.tuple #[.string x, .int .i64 z]) ∧ Below w.heap.size w w' := by
  unfold codR mostC at hx
  cases hc : cleanB s
  · rw [hc, if_neg (by decide)] at hx
    obtain ⟨rfl, rfl⟩ := Prod.mk.inj hx
    have HC := Lib.hid hc
    clear hx hc
    go_enter Tryd.func11, Tryd.ntmps11
    go_wp2_with fail
    refine (rclean_k s false _ (by omega) HC.out).mono ?_
    rintro e w' ⟨rfl, rfl⟩
    go_wp2_with fail
    go_ret2
    exact ⟨rfl, Below.refl _ _⟩
  · rw [hc, if_pos rfl] at hx
    have HC := Lib.hid hc
    clear hc
    by_cases h0 : c < 0
    · rw [if_neg (by omega)] at hx
      obtain ⟨rfl, rfl⟩ := Prod.mk.inj hx
      clear hx
      go_enter Tryd.func11, Tryd.ntmps11
      go_wp2_with fail
      refine (rclean_k s true _ (by omega) HC.out).mono ?_
      rintro e w' ⟨rfl, rfl⟩
      go_wp2_with fail
      go_ret2
      exact ⟨rfl, Below.refl _ _⟩
    · by_cases h1 : 36650387592 < c
      · rw [if_neg (by omega)] at hx
        obtain ⟨rfl, rfl⟩ := Prod.mk.inj hx
        clear hx
        go_enter Tryd.func11, Tryd.ntmps11
        go_wp2_with fail
        refine (rclean_k s true _ (by omega) HC.out).mono ?_
        rintro e w' ⟨rfl, rfl⟩
        go_wp2_with fail
        go_ret2
        exact ⟨rfl, Below.refl _ _⟩
      · rw [if_pos ⟨by omega, by omega⟩] at hx
        obtain ⟨hx2, rfl⟩ := Prod.mk.inj hx
        clear hx
        obtain ⟨y, hy⟩ : ∃ y, intS c = y := ⟨_, rfl⟩
        have hys : y.size ≤ 21 := by rw [← hy]; exact intS_size c (by omega) (by omega)
        obtain ⟨m, hm⟩ : ∃ m, macS s y = m := ⟨_, rfl⟩
        have hms : m.size = 16 := by rw [← hm]; exact macS_size _ _
        obtain ⟨n, hn⟩ : ∃ n, sumN m.data.toList = n := ⟨_, rfl⟩
        obtain ⟨q, hq⟩ : ∃ q, n % 1000000 = q := ⟨_, rfl⟩
        have hq6 : q < 1000000 := by rw [← hq]; exact Nat.mod_lt _ (by decide)
        have hql : (q : Int) < 1000000 := by omega
        have HX := Lib.hid (show ofL (padL q) = x by rw [← hx2]; unfold codeS codeN; rw [hy, hm, hn, hq])
        have HY := Lib.hid hy
        have HM := Lib.hid hm
        have HN := Lib.hid hn
        have r1 : (n : Int) % 1000000 = (q : Int) := by rw [← hq]; rfl
        clear hx2 hy hm hn hq
        have hmL := Lib.hid (And.intro r1 hql)
        clear r1 hql
        go_enter Tryd.func11, Tryd.ntmps11
        go_wp2_with fail
        refine (rclean_k s true _ (by omega) HC.out).mono ?_
        rintro e w' ⟨rfl, rfl⟩
        go_wp2_with fail
        refine (rint_k c y _ (by omega) (by omega) HY.out).mono ?_
        rintro e w1 ⟨rfl, hb⟩
        have HB := Lib.hid hb
        clear hb
        go_wp2_with fail
        refine (rmac_k s y m _ (by omega) (by omega) HM.out).mono ?_
        rintro e w' ⟨rfl, rfl⟩
        go_wp2_with fail
        refine (rsum_k m n _ (by omega) HN.out).mono ?_
        rintro e w' ⟨rfl, rfl⟩
        obtain ⟨r1, hql⟩ := hmL.out
        go_wp2_with fail
        refine (six_k q x _ hq6 HX.out).mono ?_
        rintro e w2 ⟨rfl, hb⟩
        have HB := Lib.hid (HB.out.trans (hb.mono HB.out.size))
        clear hb
        go_wp2_with fail
        go_ret2
        exact ⟨rfl, HB.out⟩
set_option maxHeartbeats 2000000 in
theorem counter_k (t x : Int) (w : World) (hx : ctrI t = x) :
    Calls Tryd.prog 12 #[.int .i64 t] w fun e w' => e = .returned (.int .i64 x) ∧ w = w' := by
  obtain ⟨y, hy⟩ : ∃ y, addI t 0 = y := ⟨_, rfl⟩
  have hl := limI_bd t
  have e : y = limI t := by rw [← hy]; unfold addI; rw [show limI 0 = 0 from rfl, Int.add_zero]; unfold limI at hl ⊢; omega
  have h0 : 0 ≤ y := by omega
  have h1 : y ≤ 1099511627776 := by omega
  have HE := Lib.hid (show y / 30 = x by rw [← hx, e]; rfl)
  have HY := Lib.hid (show Calls Tryd.prog 26 #[.int .i64 t, .int .i64 0] w fun e w' => e = .returned (.int .i64 y) ∧ w = w' by rw [← hy]; exact add_s t 0 w)
  clear hx hy e hl
  go_enter Tryd.func12, Tryd.ntmps12
  go_wp2_with fail
  refine HY.out.mono ?_
  rintro e w' ⟨rfl, rfl⟩
  go_wp2_with fail
  go_ret
  exact ⟨by first | (rw [← HE.out]; rfl) | (rw [← HE.out, Int.tdiv_eq_ediv_of_nonneg h0]; rfl), rfl⟩
set_option maxHeartbeats 2000000 in
theorem rcounter_k (t x : Int) (w : World) (hx : ctrI t = x) :
    Calls Tryd.prog 13 #[.int .i64 t] w fun e w' => e = .returned (.int .i64 x) ∧ w = w' := by
  obtain ⟨y, hy⟩ : ∃ y, limI t = y := ⟨_, rfl⟩
  have hl := limI_bd t
  have h0 : 0 ≤ y := by omega
  have h1 : y ≤ 1099511627776 := by omega
  have HE := Lib.hid (show y / 30 = x by rw [← hx, ← hy]; rfl)
  have HY := Lib.hid hy
  clear hx hy hl
  go_enter Tryd.func13, Tryd.ntmps13
  go_wp2_with fail
  refine (limit_k t y _ HY.out).mono ?_
  rintro e w' ⟨rfl, rfl⟩
  go_wp2_with fail
  go_ret
  exact ⟨by first | (rw [← HE.out]; rfl) | (rw [← HE.out, Int.tdiv_eq_ediv_of_nonneg h0]; rfl), rfl⟩
theorem isLast_k (n : Int) (x : Bool) (w : World) (hx : lstB n = x) :
    Calls Tryd.prog 38 #[.int .i64 n] w fun e w' => e = .returned (.bool x) ∧ w = w' := by
  unfold lstB mostC at hx
  by_cases h0 : -1 ≤ n
  · by_cases h1 : n ≤ 36650387592
    · rw [decide_eq_true h0, decide_eq_true h1] at hx
      have d1 := decide_eq_true h0
      have d2 := decide_eq_true h1
      subst hx
      go_enter Tryd.func38, Tryd.ntmps38
      go_wp2_with fail
      go_ret
      exact ⟨rfl, rfl⟩
    · rw [decide_eq_true h0, decide_eq_false h1] at hx
      have d1 := decide_eq_true h0
      have d2 := decide_eq_false h1
      subst hx
      go_enter Tryd.func38, Tryd.ntmps38
      go_wp2_with fail
      go_ret
      exact ⟨rfl, rfl⟩
  · rw [decide_eq_false h0, Bool.false_and] at hx
    have d1 := decide_eq_false h0
    subst hx
    go_enter Tryd.func38, Tryd.ntmps38
    go_wp2_with fail
    go_ret
    exact ⟨rfl, rfl⟩

/-! ### the search -/
set_option maxHeartbeats 4000000 in
theorem fits_k (b1 b2 : Nat) (s code : ByteArray) (c : Int) (r : Bool) (w : World) (hs : s.size ≤ 1000000) (h0 : 0 ≤ c) (h1 : c ≤ mostC) (ho : PowOk w)
    (k1 : KbC w b1 (.cells #[.string s] 9)) (k2 : KbC w b2 (.cells #[.string code] 9)) (hr : decide (codeS s c = code) = r) :
    Calls Tryd.prog 53 #[.int .i64 c, .pointer (some ⟨b1, 0, none⟩), .pointer (some ⟨b2, 0, none⟩)] w fun e w' => e = .returned (.bool r) ∧ Below w.heap.size w w' := by
  have HO := Lib.hid ho
  clear ho
  obtain ⟨x, hx⟩ : ∃ x, codeS s c = x := ⟨_, rfl⟩
  rw [hx] at hr
  have d1 : (x.toList == code.toList) = r := by rw [str_eq]; exact hr
  have HX := Lib.hid hx
  have HB := Lib.hid (Below.refl w.heap.size w).drew
  have HSt : Hid (∀ V, Below w.heap.size w V → V.cell? ⟨b1, 0, none⟩ = some (.string s) ∧ V.cell? ⟨b2, 0, none⟩ = some (.string code) ∧ Hid (Below w.heap.size w V)) := Lib.hid fun V hV => ⟨(k1.step hV).cell rfl, (k2.step hV).cell rfl, Lib.hid hV⟩
  have S0 := HSt.out _ HB.out
  clear k1 k2 hx hr
  go_enter Tryd.func53, Tryd.ntmps53
  go_wp2_with fail
  refine wp_region_held_drew (S := fun V => V.cell? ⟨b1, 0, none⟩ = some (.string s) ∧ V.cell? ⟨b2, 0, none⟩ = some (.string code) ∧ Hid (Below w.heap.size w V)) (by kernel_rfl) (S0) (fun hS => ?_)
  refine wpAnyH_take (i := 0) (oi := { dst := some 5, op := _, type := _, pos := _, after := _, guard := _ }) (v := ?_) rfl (by kernel_rfl) (by kernel_rfl) (by kernel_rfl) (fun _ _ _ h => h) (Or.inl ⟨by rfl, ?_⟩) (by assumption) ?_
  rotate_left
  · intro w hSw
    try dsimp only at hSw
    go_simp
    try with_reducible rfl
  try simp only [Act.put, List.setIfInBounds_toArray, List.set_cons_zero, List.set_cons_succ]
  refine wpAnyH_take (i := 1) (oi := { dst := some 6, op := _, type := _, pos := _, after := _, guard := _ }) (v := ?_) rfl (by kernel_rfl) (by kernel_rfl) (by kernel_rfl) (fun _ _ _ h => h) (Or.inl ⟨by rfl, ?_⟩) (by assumption) ?_
  rotate_left
  · intro w hSw
    try dsimp only at hSw
    go_simp
    try with_reducible rfl
  try simp only [Act.put, List.setIfInBounds_toArray, List.set_cons_zero, List.set_cons_succ]
  refine wpAnyH_take (i := 3) (oi := { dst := some 8, op := _, type := _, pos := _, after := _, guard := _ }) (v := ?_) rfl (by kernel_rfl) (by kernel_rfl) (by kernel_rfl) (fun _ _ _ h => h) (Or.inl ⟨by rfl, ?_⟩) (by assumption) ?_
  rotate_left
  · intro w hSw
    try dsimp only at hSw
    go_simp
    try with_reducible rfl
  try simp only [Act.put, List.setIfInBounds_toArray, List.set_cons_zero, List.set_cons_succ]
  refine wpAnyH_ready (rs := [2]) (by kernel_rfl) (by simp) ?_
  refine AllReadyH.cons rfl (fun K hK => ?_) AllReadyH.nil
  go_simp
  refine (codeOf_k s c x _ hs h0 h1 (HO.out.below HB.out) HX.out).mono ?_
  rintro e w1 ⟨rfl, hb⟩
  have HB := Lib.hid (HB.out.trans (hb.mono HB.out.size))
  clear hb
  go_wp2_with fail
  refine hK.out _ _ ?_ (fun hHeld => ?_)
  · exact HSt.out _ HB.out
  clear hK K
  try simp only [Act.put, List.setIfInBounds_toArray, List.set_cons_zero, List.set_cons_succ]
  refine wpAnyH_take (i := 4) (oi := { dst := some 9, op := _, type := _, pos := _, after := _, guard := _ }) (v := ?_) rfl (by kernel_rfl) (by kernel_rfl) (by kernel_rfl) (fun _ _ _ h => h) (Or.inl ⟨by rfl, ?_⟩) (by assumption) ?_
  rotate_left
  · intro w hSw
    try dsimp only at hSw
    go_simp
    try with_reducible rfl
  try simp only [Act.put, List.setIfInBounds_toArray, List.set_cons_zero, List.set_cons_succ]
  refine wpAnyH_take (i := 5) (oi := { dst := some 4, op := _, type := _, pos := _, after := _, guard := _ }) (v := ?_) rfl (by kernel_rfl) (by kernel_rfl) (by kernel_rfl) (fun _ _ _ h => h) (Or.inl ⟨by rfl, ?_⟩) (by assumption) ?_
  rotate_left
  · intro w hSw
    try dsimp only at hSw
    go_simp
    try with_reducible rfl
  try simp only [Act.put, List.setIfInBounds_toArray, List.set_cons_zero, List.set_cons_succ]
  refine wpAnyH_done (by kernel_rfl) ?_ _
  go_wp2_with fail
  go_ret
  exact ⟨rfl, HB.out⟩
end Go.Proofs.YtmkcojgdhdmnnaaDoor
