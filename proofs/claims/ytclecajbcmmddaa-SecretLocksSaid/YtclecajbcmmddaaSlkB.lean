/-
  Contracts of the specification's Locked and Failures. Condition: at most 1000 users, of each at most 256 failures.
-/
import Derived.Test.YtclecajbcmmddaaSlkA
import Derived.Test.YtclecajbcmmddaaSecO
set_option maxRecDepth 100000
set_option linter.unusedVariables false
set_option linter.unusedSimpArgs false
set_option linter.unnecessarySimpa false
namespace Go.Proofs.Ytclecajbcmmddaa
open Go.RowKit Go.PlainAid

theorem bool_dec {a b : Int} (r : Bool) (h : decide (a < b) = r) : decide (a < b) = r := h
set_option maxHeartbeats 4000000 in
theorem rlocked_k (S : Nat → Prop) (b : Nat) (most win lock : Int) (A : Us) (u : ByteArray) (now : Int) (r : Bool) (w : World) (h : RL w S b most win lock A) (hr : lockedA A u now = r) :
    Calls Try.prog 13 #[.pointer (some ⟨b, 0, none⟩), .string u, .int .i64 now] w fun e w' => e = .returned (.bool r) ∧ Below w.heap.size w w' := by
  obtain ⟨L, v, hx, rfl⟩ := h
  have HX := Lib.hid hx
  obtain ⟨y, hy⟩ : ∃ y, limI now = y := ⟨_, rfl⟩
  have HY := Lib.hid hy
  unfold lockedA at hr
  rw [hy] at hr
  rcases find_cases L u with ⟨k, h1, h2, h3, h4, h5⟩ | ⟨h3, h4, h5⟩
  · rw [h5] at hr
    have hr : decide (y < (rA L k).n) = r := hr
    have HI := Lib.hid h4
    obtain ⟨ao, cap, rfl, s1, s2, s3⟩ := hx.shape
    obtain ⟨g, rfl, hgb, hc⟩ := s3 (by omega)
    obtain ⟨_, _, d2⟩ := hc k h1
    obtain ⟨_, _, _, _, c4⟩ := hx.flat
    obtain ⟨n, hn⟩ : ∃ n, (rA L k).n = n := ⟨_, rfl⟩
    rw [hn] at d2 hr
    unfold maxLen at s2
    have S0 : w.drew.cell? ⟨b, 4, none⟩ = some (.slice (some ⟨g, 0, none⟩) L.length cap) ∧ w.drew.cell? ⟨g, k * 3 + 2, none⟩ = some (.int .i64 n) := ⟨c4, d2⟩
    have HS0 := Lib.hid S0
    have k0 : (0 : Int) ≤ (k : Int) := by omega
    have k0' : decide ((0 : Int) ≤ (k : Int)) = true := decide_eq_true k0
    have k1 : (k : Int) < (L.length : Int) := by omega
    have HR := Lib.hid hr
    clear hx h2 h3 h4 h5 hy hn s3 hc c4 d2 hr
    go_enter Try.func13, Try.ntmps13
    go_wp2_with fail
    refine (rmade_k S b most win lock L _ _ HX.out).mono ?_
    rintro e w' ⟨rfl, rfl⟩
    go_wp2_with fail
    refine (rfind_k S b most win lock L _ u k _ HX.out HI.out).mono ?_
    rintro e w' ⟨rfl, rfl⟩
    go_wp2_with fail
    refine wp_region_held_drew (S := fun V => V.cell? ⟨b, 4, none⟩ = some (.slice (some ⟨g, 0, none⟩) L.length cap) ∧ V.cell? ⟨g, k * 3 + 2, none⟩ = some (.int .i64 n)) (by kernel_rfl) (S0) (fun hS => ?_)
    refine wpAnyH_take (i := 0) (oi := { dst := some 14, op := _, type := _, pos := _, after := _, guard := _ }) (v := ?_) rfl (by kernel_rfl) (by kernel_rfl) (by kernel_rfl) (fun _ _ _ h => h) (Or.inl ⟨by rfl, ?_⟩) (by assumption) ?_
    rotate_left
    · intro w hSw
      try dsimp only at hSw
      go_simp
      try with_reducible rfl
    try simp only [Act.put, List.setIfInBounds_toArray, List.set_cons_zero, List.set_cons_succ]
    refine wpAnyH_take (i := 1) (oi := { dst := some 15, op := _, type := _, pos := _, after := _, guard := _ }) (v := ?_) rfl (by kernel_rfl) (by kernel_rfl) (by kernel_rfl) (fun _ _ _ h => h) (Or.inl ⟨by rfl, ?_⟩) (by assumption) ?_
    rotate_left
    · intro w hSw
      try dsimp only at hSw
      go_simp
      try with_reducible rfl
    try simp only [Act.put, List.setIfInBounds_toArray, List.set_cons_zero, List.set_cons_succ]
    refine wpAnyH_take (i := 2) (oi := { dst := some 16, op := _, type := _, pos := _, after := _, guard := _ }) (v := ?_) rfl (by kernel_rfl) (by kernel_rfl) (by kernel_rfl) (fun _ _ _ h => h) (Or.inl ⟨by rfl, ?_⟩) (by assumption) ?_
    rotate_left
    · intro w hSw
      try dsimp only at hSw
      go_simp
      try with_reducible rfl
    try simp only [Act.put, List.setIfInBounds_toArray, List.set_cons_zero, List.set_cons_succ]
    refine wpAnyH_take (i := 3) (oi := { dst := some 17, op := _, type := _, pos := _, after := _, guard := _ }) (v := ?_) rfl (by kernel_rfl) (by kernel_rfl) (by kernel_rfl) (fun _ _ _ h => h) (Or.inl ⟨by rfl, ?_⟩) (by assumption) ?_
    rotate_left
    · intro w hSw
      try dsimp only at hSw
      go_simp
      try with_reducible rfl
    try simp only [Act.put, List.setIfInBounds_toArray, List.set_cons_zero, List.set_cons_succ]
    refine wpAnyH_take (i := 5) (oi := { dst := some 19, op := _, type := _, pos := _, after := _, guard := _ }) (v := ?_) rfl (by kernel_rfl) (by kernel_rfl) (by kernel_rfl) (fun _ _ _ h => h) (Or.inl ⟨by rfl, ?_⟩) (by assumption) ?_
    rotate_left
    · intro w hSw
      try dsimp only at hSw
      go_simp
      try with_reducible rfl
    try simp only [Act.put, List.setIfInBounds_toArray, List.set_cons_zero, List.set_cons_succ]
    refine wpAnyH_take (i := 6) (oi := { dst := some 20, op := _, type := _, pos := _, after := _, guard := _ }) (v := ?_) rfl (by kernel_rfl) (by kernel_rfl) (by kernel_rfl) (fun _ _ _ h => h) (Or.inl ⟨by rfl, ?_⟩) (by assumption) ?_
    rotate_left
    · intro w hSw
      try dsimp only at hSw
      go_simp
      try with_reducible rfl
    try simp only [Act.put, List.setIfInBounds_toArray, List.set_cons_zero, List.set_cons_succ]
    refine wpAnyH_take (i := 7) (oi := { dst := some 21, op := _, type := _, pos := _, after := _, guard := _ }) (v := ?_) rfl (by kernel_rfl) (by kernel_rfl) (by kernel_rfl) (fun _ _ _ h => h) (Or.inl ⟨by rfl, ?_⟩) (by assumption) ?_
    rotate_left
    · intro w hSw
      try dsimp only at hSw
      go_simp
      try with_reducible rfl
    try simp only [Act.put, List.setIfInBounds_toArray, List.set_cons_zero, List.set_cons_succ]
    refine wpAnyH_take (i := 8) (oi := { dst := some 22, op := _, type := _, pos := _, after := _, guard := _ }) (v := ?_) rfl (by kernel_rfl) (by kernel_rfl) (by kernel_rfl) (fun _ _ _ h => h) (Or.inl ⟨by rfl, ?_⟩) (by assumption) ?_
    rotate_left
    · intro w hSw
      try dsimp only at hSw
      go_simp
      try with_reducible rfl
    try simp only [Act.put, List.setIfInBounds_toArray, List.set_cons_zero, List.set_cons_succ]
    refine wpAnyH_take (i := 9) (oi := { dst := some 23, op := _, type := _, pos := _, after := _, guard := _ }) (v := ?_) rfl (by kernel_rfl) (by kernel_rfl) (by kernel_rfl) (fun _ _ _ h => h) (Or.inl ⟨by rfl, ?_⟩) (by assumption) ?_
    rotate_left
    · intro w hSw
      try dsimp only at hSw
      go_simp
      try with_reducible rfl
    try simp only [Act.put, List.setIfInBounds_toArray, List.set_cons_zero, List.set_cons_succ]
    refine wpAnyH_take (i := 10) (oi := { dst := some 24, op := _, type := _, pos := _, after := _, guard := _ }) (v := ?_) rfl (by kernel_rfl) (by kernel_rfl) (by kernel_rfl) (fun _ _ _ h => h) (Or.inl ⟨by rfl, ?_⟩) (by assumption) ?_
    rotate_left
    · intro w hSw
      try dsimp only at hSw
      go_simp
      try with_reducible rfl
    try simp only [Act.put, List.setIfInBounds_toArray, List.set_cons_zero, List.set_cons_succ]
    refine wpAnyH_take (i := 11) (oi := { dst := some 25, op := _, type := _, pos := _, after := _, guard := _ }) (v := ?_) rfl (by kernel_rfl) (by kernel_rfl) (by kernel_rfl) (fun _ _ _ h => h) (Or.inl ⟨by rfl, ?_⟩) (by assumption) ?_
    rotate_left
    · intro w hSw
      try dsimp only at hSw
      go_simp
      try with_reducible rfl
    try simp only [Act.put, List.setIfInBounds_toArray, List.set_cons_zero, List.set_cons_succ]
    refine wpAnyH_take (i := 12) (oi := { dst := some 26, op := _, type := _, pos := _, after := _, guard := _ }) (v := ?_) rfl (by kernel_rfl) (by kernel_rfl) (by kernel_rfl) (fun _ _ _ h => h) (Or.inl ⟨by rfl, ?_⟩) (by assumption) ?_
    rotate_left
    · intro w hSw
      try dsimp only at hSw
      go_simp
      try with_reducible rfl
    try simp only [Act.put, List.setIfInBounds_toArray, List.set_cons_zero, List.set_cons_succ]
    refine wpAnyH_ready (rs := [4]) (by kernel_rfl) (by simp) ?_
    refine AllReadyH.cons rfl (fun K hK => ?_) AllReadyH.nil
    go_simp
    refine (rlim_k now y _ HY.out).mono ?_
    rintro e w' ⟨rfl, rfl⟩
    go_wp2_with fail
    refine hK.out _ _ ?_ (fun hHeld => ?_)
    · exact HS0.out
    clear hK K
    try simp only [Act.put, List.setIfInBounds_toArray, List.set_cons_zero, List.set_cons_succ]
    refine wpAnyH_take (i := 13) (oi := { dst := some 27, op := _, type := _, pos := _, after := _, guard := _ }) (v := ?_) rfl (by kernel_rfl) (by kernel_rfl) (by kernel_rfl) (fun _ _ _ h => h) (Or.inl ⟨by rfl, ?_⟩) (by assumption) ?_
    rotate_left
    · intro w hSw
      try dsimp only at hSw
      go_simp
      try with_reducible rfl
    try simp only [Act.put, List.setIfInBounds_toArray, List.set_cons_zero, List.set_cons_succ]
    refine wpAnyH_take (i := 14) (oi := { dst := some 28, op := _, type := _, pos := _, after := _, guard := _ }) (v := ?_) rfl (by kernel_rfl) (by kernel_rfl) (by kernel_rfl) (fun _ _ _ h => h) (Or.inl ⟨by rfl, ?_⟩) (by assumption) ?_
    rotate_left
    · intro w hSw
      try dsimp only at hSw
      go_simp
      try with_reducible rfl
    try simp only [Act.put, List.setIfInBounds_toArray, List.set_cons_zero, List.set_cons_succ]
    refine wpAnyH_take (i := 15) (oi := { dst := some 6, op := _, type := _, pos := _, after := _, guard := _ }) (v := ?_) rfl (by kernel_rfl) (by kernel_rfl) (by kernel_rfl) (fun _ _ _ h => h) (Or.inl ⟨by rfl, ?_⟩) (by assumption) ?_
    rotate_left
    · intro w hSw
      try dsimp only at hSw
      go_simp
      try with_reducible rfl
    try simp only [Act.put, List.setIfInBounds_toArray, List.set_cons_zero, List.set_cons_succ]
    refine wpAnyH_done (by kernel_rfl) ?_ _
    go_wp2_with fail
    go_ret
    exact ⟨by rw [← HR.out]; rfl, (Below.refl _ _).drew⟩
  · rw [h5] at hr
    have hr : decide (y < (0 : Int)) = r := hr
    have hy0 := limI_bd now
    rw [hy] at hy0
    rw [decide_eq_false (by omega)] at hr
    subst hr
    have HI := Lib.hid h4
    clear h3 h4 h5 hy hx hy0
    go_enter Try.func13, Try.ntmps13
    go_wp2_with fail
    refine (rmade_k S b most win lock L v _ HX.out).mono ?_
    rintro e w' ⟨rfl, rfl⟩
    go_wp2_with fail
    refine (rfind_k S b most win lock L v u (-1) _ HX.out HI.out).mono ?_
    rintro e w' ⟨rfl, rfl⟩
    go_wp2_with fail
    go_quiet (fail)
    go_wp2_with fail
    go_ret
    exact ⟨rfl, (Below.refl _ _).trans ⟨rfl, rfl, rfl, Nat.le_refl _, fun _ _ => rfl⟩⟩
set_option maxHeartbeats 4000000 in
theorem rfails_k (S : Nat → Prop) (b : Nat) (most win lock : Int) (A : Us) (u : ByteArray) (now : Int) (m : Nat) (w : World) (h : RL w S b most win lock A) (hok : UsOk A) (hw : win ≤ MT) (hm : failsA win A u now = m) :
    Calls Try.prog 15 #[.pointer (some ⟨b, 0, none⟩), .string u, .int .i64 now] w fun e w' => e = .returned (.int .i64 m) ∧ w = w' := by
  obtain ⟨L, v, hx, rfl⟩ := h
  have HX := Lib.hid hx
  obtain ⟨y, hy⟩ : ∃ y, limI now = y := ⟨_, rfl⟩
  have HY := Lib.hid hy
  have hyb := limI_bd now
  rw [hy] at hyb
  unfold failsA at hm
  rw [hy] at hm
  unfold MT at hw
  obtain ⟨c0, c1, c2, c3, c4⟩ := hx.flat
  rcases find_cases L u with ⟨k, h1, h2, h3, h4, h5⟩ | ⟨h3, h4, h5⟩
  · rw [h5] at hm
    have hm : cntF win (rA L k).t y = m := hm
    have hrc := hok.rc u _ h5
    have HI := Lib.hid h4
    obtain ⟨ao, cap, rfl, s1, s2, s3⟩ := hx.shape
    obtain ⟨g, rfl, hgb, hc⟩ := s3 (by omega)
    obtain ⟨_, d1, _⟩ := hc k h1
    have hir := hx.tm _ (rA_mem h1)
    obtain ⟨⟨ru, rv, rt, rn⟩, hrk⟩ : ∃ r, rA L k = r := ⟨_, rfl⟩
    rw [hrk] at hm hrc d1 hir
    dsimp only at hm hrc d1 hir
    obtain ⟨to, tc, rfl, t1, t2, _⟩ := hir.shape
    have HIr := Lib.hid hir
    have HRc := Lib.hid hrc
    have hrl := hrc.len
    unfold maxLen at s2 t2
    have k0 : (0 : Int) ≤ (k : Int) := by omega
    have k0' : decide ((0 : Int) ≤ (k : Int)) = true := decide_eq_true k0
    have k1 : (k : Int) < (L.length : Int) := by omega
    have HM := Lib.hid hm
    clear hx h2 h3 h4 h5 hy s3 hc hm hir hrc hrk c0 c1 c3 hok
    go_enter Try.func15, Try.ntmps15
    go_wp2_with fail
    refine (rmade_k S b most win lock L _ _ HX.out).mono ?_
    rintro e w' ⟨rfl, rfl⟩
    go_wp2_with fail
    refine (rlim_k now y _ HY.out).mono ?_
    rintro e w' ⟨rfl, rfl⟩
    go_wp2_with fail
    refine (rfind_k S b most win lock L _ u k _ HX.out HI.out).mono ?_
    rintro e w' ⟨rfl, rfl⟩
    go_wp2_with fail
    go_loopw [8, 9] (fun nv jv wr => ∃ (j q : Nat), j ≤ rt.length ∧ q ≤ j ∧ jv = .int .i64 j ∧ nv = .int .i64 q ∧ Hid (cntF win (rt.take j) y = q) ∧ wr = w) (fun _ jv _ => rt.length - (intOf jv).toNat)
    case atStart => exact ⟨0, 0, Nat.zero_le _, Nat.le_refl _, rfl, rfl, Lib.hid rfl, rfl⟩
    case round =>
      obtain ⟨j, q, hj, hq, rfl, rfl, HQ, rfl⟩ := hrel
      by_cases hlt : j < rt.length
      · obtain ⟨hn, _⟩ | ⟨tb, tf, tp, e, _, _, _, _, hcl, _⟩ := HIr.out
        · injection hn with _ hn _; omega
        · injection e with e1 e2 e3
          subst e1
          have d2 := hcl j hlt
          have htb := HRc.out.tm _ (iA_mem hlt)
          obtain ⟨z, hz⟩ : ∃ z, iA rt j = z := ⟨_, rfl⟩
          have hs := cnt_step (win := win) (n := y) hlt
          rw [hz] at d2 htb hs
          rw [HQ.out] at hs
          unfold MT at htb
          have j1 : (j : Int) < (rt.length : Int) := by omega
          have w1 : IntKind.i64.wrap (y - z) = y - z := IntWalk.i64_in _ (by omega)
          clear hcl hz e2 e3
          by_cases a1 : z ≤ y
          · by_cases a2 : y - z < win
            · have a1' : decide (z ≤ y) = true := decide_eq_true a1
              have a2' : decide (y - z < win) = true := decide_eq_true a2
              rw [if_pos ⟨a1, a2⟩] at hs
              have HQ1 := Lib.hid hs
              clear hs
              go_wp2_with fail
              go_roundw
              case rel => exact ⟨j + 1, q + 1, by omega, by omega, by go_num, by go_num, HQ1, (by first | trivial | rfl)⟩
              case measure => simp [intOf]; omega
            · have a1' : decide (z ≤ y) = true := decide_eq_true a1
              have a2' : decide (y - z < win) = false := decide_eq_false a2
              rw [if_neg (by omega), Nat.add_zero] at hs
              have HQ1 := Lib.hid hs
              clear hs
              go_wp2_with fail
              go_roundw
              case rel => exact ⟨j + 1, q, by omega, by omega, by go_num, rfl, HQ1, (by first | trivial | rfl)⟩
              case measure => simp [intOf]; omega
          · have a1' : decide (z ≤ y) = false := decide_eq_false a1
            rw [if_neg (by omega), Nat.add_zero] at hs
            have HQ1 := Lib.hid hs
            clear hs
            go_wp2_with fail
            go_roundw
            case rel => exact ⟨j + 1, q, by omega, by omega, by go_num, rfl, HQ1, (by first | trivial | rfl)⟩
            case measure => simp [intOf]; omega
      · obtain rfl : j = rt.length := by omega
        have HE := Lib.hid (show q = m by have := HQ.out; rw [List.take_length, HM.out] at this; exact this.symm)
        go_wp2_with fail
        go_ret
        exact ⟨by rw [HE.out]; rfl, rfl⟩
  · rw [h5] at hm
    have hm : (0 : Nat) = m := hm
    subst hm
    have HI := Lib.hid h4
    clear h3 h4 h5 hy hx hok c0 c1 c2 c3
    go_enter Try.func15, Try.ntmps15
    go_wp2_with fail
    refine (rmade_k S b most win lock L v _ HX.out).mono ?_
    rintro e w' ⟨rfl, rfl⟩
    go_wp2_with fail
    refine (rlim_k now y _ HY.out).mono ?_
    rintro e w' ⟨rfl, rfl⟩
    go_wp2_with fail
    refine (rfind_k S b most win lock L v u (-1) _ HX.out HI.out).mono ?_
    rintro e w' ⟨rfl, rfl⟩
    go_wp2_with fail
    go_loopw [8, 9] (fun nv jv wr => jv = .int .i64 0 ∧ nv = .int .i64 0 ∧ wr = w) (fun _ jv _ => (intOf jv).toNat)
    case atStart => exact ⟨rfl, rfl, rfl⟩
    case round =>
      obtain ⟨rfl, rfl, rfl⟩ := hrel
      go_wp2_with fail
      go_ret
      exact ⟨rfl, rfl⟩
end Go.Proofs.Ytclecajbcmmddaa
