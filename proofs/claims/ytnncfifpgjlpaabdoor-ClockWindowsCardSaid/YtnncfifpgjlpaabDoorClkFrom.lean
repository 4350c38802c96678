/-
  The contract of clock.fromDays. Condition: the program's table of the lengths of months lies as its text lays it; at most 1000000000 days.
-/
import Derived.Test.YtnncfifpgjlpaabDoorClkCal
import Derived.Test.YtnncfifpgjlpaabDoorShelfS
import Derived.StillTailTactics
set_option linter.unusedVariables false
set_option linter.unusedSimpArgs false
set_option linter.unnecessarySimpa false
namespace Go.Proofs.YtnncfifpgjlpaabDoor
open Go.RowKit Go.PlainAid

theorem daysBefore_q (y : Nat) (v x : Int) (w : World) (hy : y ≤ 100000000000) (hv : v = (y : Int)) (h : ((dby y : Nat) : Int) = x) :
    Calls Tryd.prog 51 #[.int .i64 v] w fun e w' => e = .returned (.int .i64 x) ∧ w' = w := (daysBefore_k y v x w hy hv h).mono fun e w' h => ⟨h.1, h.2.symm⟩
theorem closure_s (i N B : Nat) (W : World) (hi : i ≤ 1000000000) (hN : N ≤ 1000000000000) (hc : W.cell? ⟨B, 0, none⟩ = some (.int .i64 N)) :
    Calls Tryd.prog 54 #[.int .i64 i, .pointer (some ⟨B, 0, none⟩)] W fun e w' => e = .returned (.bool (decide (N < dby (i + 1)))) ∧ ∃ q, w' = W.drewN q := by
  obtain ⟨D, hD⟩ : ∃ D : Nat, dby (i + 1) = D := ⟨_, rfl⟩
  rw [hD]
  have HD := Lib.hid (show ((dby (i + 1) : Nat) : Int) = (D : Int) by rw [hD])
  have k1 : IntKind.i64.wrap ((i : Int) + 1) = (i : Int) + 1 := IntWalk.i64_in _ (by omega)
  have HI := Lib.hid (show (i : Int) + 1 = ((i + 1 : Nat) : Int) by omega)
  have HE := Lib.hid (show decide ((N : Int) < (D : Int)) = decide (N < D) by rw [Bool.eq_iff_iff, decide_eq_true_iff, decide_eq_true_iff]; omega)
  clear hD
  go_enter Tryd.func54, Tryd.ntmps54
  go_wp2_with fail
  go_quiet ((go_at_call 51; refine Calls.quiet_of_same (daysBefore_q (i + 1) _ D _ (by omega) HI.out HD.out)))
  go_wp2_with fail
  go_ret
  exact ⟨by rw [← HE.out]; rfl, _, rfl⟩

theorem count_lt (y : Nat) : ∀ n : Nat, (List.range n).countP (fun i => decide (i < y)) = min y n
  | 0 => by simp
  | n + 1 => by
    rw [List.range_succ, List.countP_append, count_lt y n]
    by_cases h : n < y
    · simp [h]; omega
    · simp [h]; omega
theorem year_guess {y N : Nat} (h1 : dby y ≤ N) (h2 : N < dby (y + 1)) : y ≤ N / 365 := by have := dby_ge y; omega
theorem year_count {y N : Nat} (h1 : dby y ≤ N) (h2 : N < dby (y + 1)) : (List.range (N / 365)).countP (fun i => !decide (N < dby (i + 1))) = y := by
  have e : (fun i => !decide (N < dby (i + 1))) = fun i => decide (i < y) := by
    funext i
    rw [Bool.eq_iff_iff]
    simp only [Bool.not_eq_true', decide_eq_false_iff_not, decide_eq_true_iff]
    constructor
    · intro h
      rcases Nat.lt_or_ge i y with k | k
      · exact k
      · have := dby_mono (show y + 1 ≤ i + 1 by omega); omega
    · intro h k
      have := dby_mono (show i + 1 ≤ y from h); omega
  rw [e, count_lt]
  have := year_guess h1 h2
  omega
theorem search_s (N y B : Nat) (W : World) (hN : N ≤ 1000000000) (h1 : dby y ≤ N) (h2 : N < dby (y + 1)) (hc : W.cell? ⟨B, 0, none⟩ = some (.int .i64 N)) :
    Calls Tryd.prog 53 #[.int .i64 (N / 365 : Nat), .func (.func 54) #[] #[.pointer (some ⟨B, 0, none⟩)]] W fun e w' => e = .returned (.int .i64 y) ∧ ∃ q os, w' = Go.Sort.grow (W.drewN q) os := by
  have eg : ∀ args w, (callFunc 54 args).run Tryd.prog w = .ok (.enter 54 args) w := enters_of Tryd.func54 (by kernel_rfl) rfl
  have hcon := Any.sort_Search Tryd.layS16 54 #[.pointer (some ⟨B, 0, none⟩)] (N / 365) (fun i => decide (N < dby (i + 1))) W eg (by omega)
    (fun m os i hi => (closure_s i N B _ (by omega) (by omega) (by
      rw [World.cell?_of_block (w := W) (a := ⟨B, 0, none⟩)]
      · exact hc
      · have hb := World.block_lt_of_cell? W _ hc
        show ((W.drewN m).heap ++ os)[B]? = W.heap[B]?
        rw [Array.getElem?_append_left (by show B < W.heap.size; exact hb)]; rfl)).mono fun e w' ⟨a, q, b⟩ => ⟨a, q, #[], by rw [b]; exact (Go.Sort.grow_empty _).symm⟩)
    (fun a b hab hb hp => by
      have := of_decide_eq_true hp
      have h3 := dby_mono (show a + 1 ≤ b + 1 by omega)
      exact decide_eq_true (by omega))
  rw [year_count h1 h2] at hcon
  exact hcon

theorem daysOfMonth_q (y m : Nat) (x : Int) (w : World) (h1 : 1 ≤ m) (h2 : m ≤ 12) (ho : MonOk w) (h : ((mlen y m : Nat) : Int) = x) :
    Calls Tryd.prog 37 #[.int .i64 y, .int .i64 m] w fun e w' => e = .returned (.int .i64 x) ∧ w' = w := by
  subst h; exact (daysOfMonth_s y m w h1 h2 ho).mono fun e w' h => ⟨h.1, h.2.symm⟩

/-- a number that the call keeps in a block of its own -/
structure Box (w W : World) (v : Int) : Prop where
  below : Below w.heap.size w W
  cell : W.cell? ⟨w.heap.size, 0, none⟩ = some (.int .i64 v)
  frozen : W.frozen? ⟨w.heap.size, 0, none⟩ = false
theorem Box.new (w : World) (v : Int) (t : TypeId) : Box w (w.alloc (.cells #[.int .i64 v] t)) v :=
  ⟨(Below.refl _ _).alloc (Nat.le_refl _) _, by rw [World.cell?_alloc_at _ _ _ _ rfl]; rfl, World.frozen?_alloc_at _ _ _ _ rfl⟩
theorem Box.drew {w W : World} {v : Int} (h : Box w W v) : Box w W.drew v := ⟨h.below.drew, h.cell, h.frozen⟩
theorem Box.drewN {w W : World} {v : Int} (h : Box w W v) (q : Nat) : Box w (W.drewN q) v :=
  ⟨h.below.trans ⟨rfl, rfl, rfl, Nat.le_refl _, fun _ _ => rfl⟩, h.cell, h.frozen⟩
theorem Box.put {w W : World} {u : Int} (h : Box w W u) (v : Int) : Box w (W.setCell ⟨w.heap.size, 0, none⟩ (.int .i64 v)) v :=
  ⟨h.below.setCell (p := ⟨w.heap.size, 0, none⟩) (Nat.le_refl _) _, World.cell?_setCell_same W _ _ h.cell, by rw [World.frozen?_setCell]; exact h.frozen⟩
theorem Box.later {w W W' : World} {v : Int} (h : Box w W v) (hb : Below W.heap.size W W') : Box w W' v := by
  have hlt := World.block_lt_of_cell? W _ h.cell
  exact ⟨h.below.trans (hb.mono h.below.size), (hb.cell (p := ⟨w.heap.size, 0, none⟩) hlt).trans h.cell, (hb.frozen (p := ⟨w.heap.size, 0, none⟩) hlt).trans h.frozen⟩
theorem below_grown (w : World) (k : Nat) (os : Array Obj) : Below w.heap.size w (Go.Sort.grow (w.drewN k) os) :=
  ⟨rfl, rfl, rfl, by simp [Go.Sort.grow], fun j hj => by simp [Go.Sort.grow, Array.getElem?_append, hj]⟩

set_option maxHeartbeats 4000000 in
set_option maxRecDepth 100000 in
theorem fromDays_s (y m d n : Nat) (w : World) (hn : n ≤ 100000000) (hd : okD y m d) (he : numD y m d = n + 719528) (ho : MonOk w) :
    Calls Tryd.prog 42 #[.int .i64 n] w fun e w' => e = .returned (.tuple #[.int .i64 y, .int .i64 m, .int .i64 d]) ∧ Below w.heap.size w w' := by
  obtain ⟨a1, a2, a3, a4⟩ := num_in hd
  rw [he] at a1 a2 a3 a4
  have hy := year_guess a1 a2
  have HS := Lib.hid (fun B W (hc : W.cell? ⟨B, 0, none⟩ = some (.int .i64 ((n : Int) + 719528))) => show Calls Tryd.prog 53 #[.int .i64 (((n : Int) + 719528) / 365), .func (.func 54) #[] #[.pointer (some ⟨B, 0, none⟩)]] W fun e w' => e = .returned (.int .i64 y) ∧ ∃ q os, w' = Go.Sort.grow (W.drewN q) os by
    have h := search_s (n + 719528) y B W (by omega) a1 a2 (by rw [hc]; congr 2)
    rwa [show (((n + 719528) / 365 : Nat) : Int) = ((n : Int) + 719528) / 365 by omega] at h)
  have HO := Lib.hid ho; clear ho
  have H70 := Lib.hid (show ((dby 1970 : Nat) : Int) = 719528 by rw [dby_1970]; rfl)
  obtain ⟨R, hR⟩ : ∃ R : Nat, dby y + R = n + 719528 := ⟨n + 719528 - dby y, by omega⟩
  obtain ⟨D, hD⟩ : ∃ D : Nat, dby y = D := ⟨_, rfl⟩
  have HDY := Lib.hid (show ((dby y : Nat) : Int) = (D : Int) by rw [hD])
  rw [hD] at hR a1
  have hm4 : cumM y (m - 1) ≤ R ∧ R < cumM y m := by rw [hD] at a3 a4; omega
  have HM4 := Lib.hid hm4; clear hm4
  have hRB : R ≤ 400 := by
    have := dby_succ y
    have := ylen_le y
    omega
  have HX0 := Lib.hid (Box.new w n 3)
  have HD1 := Lib.hid hd
  have hdd : (d : Int) = (R : Int) - (cumM y (m - 1) : Nat) + 1 := by
    have := hd.2.2.1
    unfold numD at he
    omega
  have HDD := Lib.hid hdd
  have hm1 := hd.1
  have hm2 := hd.2.1
  clear hdd hd he a2 a3 a4 hD
  go_enter Tryd.func42, Tryd.ntmps42
  go_wp2_with fail
  generalize hW0 : w.alloc (.cells #[.int .i64 (n : Int)] 3) = W0
  rw [hW0] at HX0
  clear hW0
  have X0 := HX0.out
  have c0 := X0.cell
  have f0 := X0.frozen
  refine wp_region_still_tail 3 (by kernel_rfl) (by kernel_rfl) ?_
  simp only [List.take_succ_cons, List.take_zero, List.drop_succ_cons, List.drop_zero]
  change wpStill _ _ (World.drew W0) _ _ _
  still_step
  still_call (daysBefore_q 1970 _ 719528 _ (by omega) rfl H70.out)
  still_step
  refine wpStill_nil ?_
  change wpList _ _ _ _ _ (World.drew W0)
  go_wp2_with fail
  have X1 := (X0.put ((n : Int) + 719528)).drew
  refine (HS.out _ _ X1.cell).mono ?_
  rintro e W2 ⟨rfl, q, os, hw2⟩
  have X2 : Box w W2 ((n : Int) + 719528) := by rw [hw2]; exact X1.later (below_grown _ _ _)
  clear hw2 c0 f0 X0 X1 HX0
  have c2 := X2.cell
  have f2 := X2.frozen
  have e3 : (n : Int) + 719528 - (D : Int) = (R : Int) := by omega
  go_wp2_with fail
  refine wp_region_still_tail 4 (by kernel_rfl) (by kernel_rfl) ?_
  simp only [List.take_succ_cons, List.take_zero, List.drop_succ_cons, List.drop_zero]
  change wpStill _ _ (World.drew W2) _ _ _
  still_step
  still_step
  still_call (daysBefore_q y _ D _ (by omega) rfl HDY.out)
  still_step
  refine wpStill_nil ?_
  change wpList _ _ _ _ _ (World.drew W2)
  go_wp2_with fail
  have X3 := (X2.put (R : Int)).drew
  clear c2 f2 X2 e3

  go_loopw [3] (fun mv wr => ∃ k c : Nat, 1 ≤ k ∧ k ≤ m ∧ mv = .int .i64 k ∧ c ≤ R ∧ Hid (c = cumM y (k - 1)) ∧ Hid (Box w wr ((R : Int) - (c : Int)))) (fun mv _ => m - (intOf mv).toNat)
  case atStart => exact ⟨1, 0, Nat.le_refl _, hm1, rfl, Nat.zero_le _, Lib.hid rfl, Lib.hid (by rw [show ((R : Int) - ((0 : Nat) : Int)) = R by omega]; exact X3)⟩
  case round =>
    obtain ⟨k, c, hk1, hk, rfl, hc, HC, HW⟩ := hrel
    have c4 := HW.out.cell
    have HOW := Lib.hid (fun q => HO.out.below (HW.out.drewN q).below)
    obtain ⟨L, hL⟩ : ∃ L : Nat, mlen y k = L := ⟨_, rfl⟩
    have HL := Lib.hid (show ((mlen y k : Nat) : Int) = (L : Int) by rw [hL])
    have hk12 : k ≤ 12 := by omega
    have hsum : cumM y k = c + L := by
      rw [HC.out, ← hL]
      obtain ⟨j, rfl⟩ : ∃ j, k = j + 1 := ⟨k - 1, by omega⟩
      rfl
    by_cases hlt : k < m
    · have hle : c + L ≤ R := by
        have h1 := cum_mono y (show k ≤ m - 1 by omega)
        have h2 := HM4.out.1
        omega
      have HN := Lib.hid (show c + L = cumM y (k + 1 - 1) from hsum.symm)
      have k5 : decide ((L : Int) ≤ (R : Int) - (c : Int)) = true := decide_eq_true (by omega)
      have k6 : (L : Int) ≤ (R : Int) - (c : Int) := by omega
      clear hL hsum
      go_wp2_with fail
      go_quiet ((go_at_call 37; refine Calls.quiet_of_same (daysOfMonth_q y k L _ hk1 hk12 (HOW.out _) HL.out)))
      go_wp2_with fail
      generalize hW : World.drewN wr _ = W4
      have X4 : Box w W4 ((R : Int) - (c : Int)) := by rw [← hW]; exact HW.out.drewN _
      clear hW c4
      have c5 := X4.cell
      have f5 := X4.frozen
      have HO4 := Lib.hid (HO.out.below X4.drew.below)
      refine wp_region_still_tail 5 (by kernel_rfl) (by kernel_rfl) ?_
      simp only [List.take_succ_cons, List.take_zero, List.drop_succ_cons, List.drop_zero]
      change wpStill _ _ (World.drew W4) _ _ _
      still_step
      still_step
      still_step
      still_call (daysOfMonth_q y k L _ hk1 hk12 HO4.out HL.out)
      still_step
      refine wpStill_nil ?_
      change wpList _ _ _ _ _ (World.drew W4)
      go_wp2_with fail
      go_roundw
      case rel => exact ⟨k + 1, c + L, by omega, by omega, by go_num, hle, HN, Lib.hid (by rw [show (R : Int) - ((c + L : Nat) : Int) = (R : Int) - (c : Int) - (L : Int) by omega]; exact (X4.put _).drew)⟩
      case measure => simp [intOf]; omega
    · obtain rfl : k = m := by omega
      have hgt : R < c + L := by have := HM4.out.2; omega
      have k5 : decide ((L : Int) ≤ (R : Int) - (c : Int)) = false := decide_eq_false (by omega)
      have k6 : ¬ (L : Int) ≤ (R : Int) - (c : Int) := by omega
      have HDZ := Lib.hid (show (d : Int) = (R : Int) - (c : Int) + 1 by rw [HC.out]; exact HDD.out)
      clear hL hsum
      go_wp2_with fail
      go_quiet ((go_at_call 37; refine Calls.quiet_of_same (daysOfMonth_q y k L _ hk1 hk12 (HOW.out _) HL.out)))
      go_wp2_with fail
      generalize hW : World.drewN wr _ = W4
      have X4 : Box w W4 ((R : Int) - (c : Int)) := by rw [← hW]; exact HW.out.drewN _
      clear hW c4
      have c5 := X4.cell
      go_quiet (fail)
      go_wp2_with fail
      go_ret3
      exact ⟨by rw [HDZ.out]; rfl, (X4.drewN _).below⟩

end Go.Proofs.YtnncfifpgjlpaabDoor
