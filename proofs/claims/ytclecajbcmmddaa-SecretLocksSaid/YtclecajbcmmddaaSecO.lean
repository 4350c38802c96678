/-
  Contracts of the locks' made and count, of limited and NewLocks. Condition: the locks lie in memory as SecM says.
-/
import Derived.Test.YtclecajbcmmddaaSecN
import Derived.LaidEqlPtr
set_option maxRecDepth 100000
set_option maxRecDepth 100000
set_option linter.unusedVariables false
set_option linter.unusedSimpArgs false
set_option linter.unnecessarySimpa false
namespace Go.Proofs.Ytclecajbcmmddaa
open Go.RowKit Go.PlainAid

theorem eq_self (b : Nat) (w : World) : (binOp .eql 25 (.pointer (some ⟨b, 0, none⟩)) (.pointer (some ⟨b, 0, none⟩))).run Try.prog w = .ok (.bool true) w := by
  obtain ⟨j, hj⟩ := Option.isSome_iff_exists.1 (show (Try.prog.info? 52).isSome = true by kernel_rfl)
  exact run_eql_ptr_same w ⟨b, 0, none⟩ Try.underlying25 hj
def lkO (b g : Nat) (most win lock : Int) : Obj := .cells #[.pointer (some ⟨b, 0, none⟩), .int .i64 most, .int .i64 win, .int .i64 lock, .map (some g)] 52
theorem made_s (b g : Nat) (most win lock : Int) (w : World) (h : KbC w b (lkO b g most win lock)) :
    Calls Try.prog 24 #[.pointer (some ⟨b, 0, none⟩)] w fun e w' => e = .returned (.bool true) ∧ w = w' := by
  have c0 : w.cell? ⟨b, 0, none⟩ = some (.pointer (some ⟨b, 0, none⟩)) := by unfold lkO at h; exact h.cell rfl
  have he := eq_self b w
  go_enter Try.func24, Try.ntmps24
  go_wp2_with fail
  go_ret
  exact ⟨rfl, rfl⟩
theorem made_nil (w : World) :
    Calls Try.prog 24 #[.pointer none] w fun e w' => e = .returned (.bool false) ∧ w = w' := by
  go_enter Try.func24, Try.ntmps24
  go_wp2_with fail
  go_ret
  exact ⟨rfl, rfl⟩
theorem addI_zero (t : Int) : addI t 0 = limI t := by unfold addI limI; omega
theorem limd_s (t x : Int) (w : World) (hx : limI t = x) :
    Calls Try.prog 22 #[.int .i64 t] w fun e w' => e = .returned (.int .i64 x) ∧ w = w' := by
  have HA := Lib.hid (fun W => show Calls Try.prog 27 #[.int .i64 t, .int .i64 0] W fun e w' => e = .returned (.int .i64 x) ∧ W = w' from by
    have := add_s t 0 W
    rw [addI_zero, hx] at this
    exact this)
  clear hx
  go_enter Try.func22, Try.ntmps22
  go_wp2_with fail
  refine (HA.out _).mono ?_
  rintro e w' ⟨rfl, rfl⟩
  go_wp2_with fail
  go_ret
  exact ⟨rfl, rfl⟩
theorem cnt_step {win n : Int} {l : List Int} {i : Nat} (hi : i < l.length) : cntF win (l.take (i + 1)) n = cntF win (l.take i) n + (if iA l i ≤ n ∧ n - iA l i < win then 1 else 0) := by
  rw [List.take_succ_eq_append_getElem hi, cntF_snoc]
  have : l[i] = iA l i := by unfold iA; rw [List.getD_eq_getElem?_getD, List.getElem?_eq_getElem hi]; rfl
  rw [this]
theorem cnt_step_yes {win n : Int} {l : List Int} {i : Nat} (hi : i < l.length) (h1 : iA l i ≤ n) (h2 : n - iA l i < win) : cntF win (l.take (i + 1)) n = cntF win (l.take i) n + 1 := by rw [cnt_step hi, if_pos ⟨h1, h2⟩]
theorem cnt_step_no {win n : Int} {l : List Int} {i : Nat} (hi : i < l.length) (h : ¬ (iA l i ≤ n ∧ n - iA l i < win)) : cntF win (l.take (i + 1)) n = cntF win (l.take i) n := by rw [cnt_step hi, if_neg h, Nat.add_zero]
set_option maxHeartbeats 8000000 in
theorem countF_s (b g : Nat) (most win lock : Int) (v : Value) (u n : Int) (l : List Int) (x : Nat) (w : World) (hk : KbC w b (lkO b g most win lock)) (hv : IR w v l) (hl : l.length ≤ 256) (ht : ∀ t ∈ l, 0 ≤ t ∧ t ≤ MT)
    (hn0 : 0 ≤ n) (hn1 : n ≤ MT) (hx : cntF win l n = x) :
    Calls Try.prog 26 #[.pointer (some ⟨b, 0, none⟩), rcV v u, .int .i64 n] w fun e w' => e = .returned (.int .i64 x) ∧ Below w.heap.size w w' := by
  unfold MT at ht hn1
  have HV := Lib.hid hv
  have HX := Lib.hid hx
  have HT := Lib.hid ht
  have HL := Lib.hid (fun i => cntF_le win (l.take i) n)
  have HS1 := Lib.hid (fun i (hi : i < l.length) => cnt_step_yes (win := win) (n := n) hi)
  have HS2 := Lib.hid (fun i (hi : i < l.length) => cnt_step_no (win := win) (n := n) hi)
  have HZ := Lib.hid (show cntF win (l.take 0) n = 0 from rfl)
  have HE := Lib.hid (show cntF win (l.take l.length) n = x by rw [List.take_length]; exact hx)
  obtain ⟨ao, cap, rfl, hc1, hc2, hc3⟩ := hv.shape
  unfold maxLen at hc2
  unfold rcV
  have HK := Lib.hid (hk.step (box_below w (.cells #[.slice ao l.length cap, .int .i64 u] 59)))
  have HB := Lib.hid (box_below w (.cells #[.slice ao l.length cap, .int .i64 u] 59))
  have HR := Lib.hid (show ∀ i, i < l.length → ∃ a off, ao = some ⟨a, off, none⟩ ∧ (w.alloc (.cells #[.slice ao l.length cap, .int .i64 u] 59)).cell? ⟨a, off + i, none⟩ = some (.int .i64 (iA l i)) from fun i hi => by
    rcases HV.out.keep HB.out.size (fun j e => HB.out.block j (HV.out.lt e)) with ⟨q, q2⟩ | ⟨a, off, cap', q, _, _, _, _, q5, _⟩
    · subst q2; exact absurd hi (Nat.not_lt_zero _)
    · injection q with q _ _
      exact ⟨a, off, q, q5 i hi⟩)
  unfold lkO at HK
  clear hx ht hv hk
  go_enter Try.func26, Try.ntmps26
  go_wp2_with fail
  go_loopw [7, 13] (fun cv iv wr => ∃ i : Nat, i ≤ l.length ∧ iv = .int .i64 i ∧ cv = .int .i64 (cntF win (l.take i) n) ∧ wr = w.alloc (.cells #[.slice ao l.length cap, .int .i64 u] 59)) (fun _ iv _ => l.length - (intOf iv).toNat)
  case atStart => exact ⟨0, Nat.zero_le _, rfl, by rw [HZ.out]; rfl, rfl⟩
  case round =>
    obtain ⟨i, hi, rfl, rfl, rfl⟩ := hrel
    have hle := HL.out i
    rw [List.length_take] at hle
    by_cases hlt : i < l.length
    · have d1 : (i : Int) < (l.length : Int) := by omega
      obtain ⟨a, off, rfl, hcell⟩ := HR.out i hlt
      obtain ⟨ht0, ht1⟩ := HT.out (iA l i) (iA_mem hlt)
      have S1 := Lib.hid (HS1.out i hlt)
      have S2 := Lib.hid (HS2.out i hlt)
      have hwin := HK.out.cell (i := 2) rfl
      obtain ⟨t, het⟩ : ∃ t, iA l i = t := ⟨_, rfl⟩
      rw [het] at hcell ht0 ht1 S1 S2
      clear het
      by_cases h1 : t ≤ n
      · by_cases h2 : n - t < win
        · have HN := Lib.hid (S1.out h1 h2)
          go_wp2_with fail
          go_roundw
          case rel => exact ⟨i + 1, by omega, by go_num, by rw [HN.out]; go_num, trivial⟩
          case measure => simp [intOf]; omega
        · have HN := Lib.hid (S2.out (fun k => h2 k.2))
          go_wp2_with fail
          go_roundw
          case rel => exact ⟨i + 1, by omega, by go_num, by rw [HN.out], trivial⟩
          case measure => simp [intOf]; omega
      · have HN := Lib.hid (S2.out (fun k => h1 k.1))
        go_wp2_with fail
        go_roundw
        case rel => exact ⟨i + 1, by omega, by go_num, by rw [HN.out], trivial⟩
        case measure => simp [intOf]; omega
    · obtain rfl : i = l.length := by omega
      go_wp2_with fail
      go_ret
      exact ⟨by rw [← HE.out]; rfl, HB.out⟩

/-- the arguments of NewLocks are accepted -/
def lkOk (most win lock : Int) : Bool := decide (1 ≤ most) && decide (most ≤ 256) && decide (1 ≤ limI win) && decide (1 ≤ limI lock)
theorem lk_new (w : World) (most win lock : Int) (h : LkN most win lock) : LK ((w.alloc (.map #[] 0)).alloc (lkO (w.heap.size + 1) w.heap.size most win lock)) (fun i => w.heap.size ≤ i ∧ i < w.heap.size + 2) (w.heap.size + 1) most win lock [] := by
  have hb := kbc_new (w.alloc (.map #[] 0)) (lkO (w.heap.size + 1) w.heap.size most win lock)
  rw [World.size_alloc] at hb
  exact ⟨w.heap.size, fun _ => .slice none 0 0, hb, h, usOk_nil, ((smap_made w).keep (Below.heap_alloc _ _ _ (by simp))).fn (fun k => rfl), by omega, by omega, by omega,
    fun k r hk => (by cases hk), fun k r hk => (by cases hk), fun k k' r r' hk => (by cases hk)⟩
theorem newLocks_bad (most win lock : Int) (w : World) (h : lkOk most win lock = false) :
    Calls Try.prog 6 #[.int .i64 most, .int .i64 win, .int .i64 lock] w fun e w' => e = .returned (.tuple #[.pointer none, .int .i64 2]) ∧ w = w' := by
  obtain ⟨x, hx⟩ : ∃ x, limI win = x := ⟨_, rfl⟩
  obtain ⟨y, hy⟩ : ∃ y, limI lock = y := ⟨_, rfl⟩
  unfold lkOk at h
  rw [hx, hy] at h
  have HX := Lib.hid hx
  have HY := Lib.hid hy
  clear hx hy
  by_cases h1 : 1 ≤ most
  · by_cases h2 : most ≤ 256
    · by_cases h3 : 1 ≤ x
      · have h4 : ¬ 1 ≤ y := fun h4 => by simp [h1, h2, h3, h4] at h
        clear h
        have d1 : ¬ most < 1 := by omega
        have d2 : ¬ 256 < most := by omega
        have d3 : ¬ x < 1 := by omega
        have d4 : y < 1 := by omega
        go_enter Try.func6, Try.ntmps6
        go_wp2_with fail
        refine (limd_s win x _ HX.out).mono ?_
        rintro e w' ⟨rfl, rfl⟩
        go_wp2_with fail
        refine (limd_s lock y _ HY.out).mono ?_
        rintro e w' ⟨rfl, rfl⟩
        go_wp2_with fail
        go_ret2
        exact ⟨rfl, rfl⟩
      · clear h
        have d1 : ¬ most < 1 := by omega
        have d2 : ¬ 256 < most := by omega
        have d3 : x < 1 := by omega
        go_enter Try.func6, Try.ntmps6
        go_wp2_with fail
        refine (limd_s win x _ HX.out).mono ?_
        rintro e w' ⟨rfl, rfl⟩
        go_wp2_with fail
        refine (limd_s lock y _ HY.out).mono ?_
        rintro e w' ⟨rfl, rfl⟩
        go_wp2_with fail
        go_ret2
        exact ⟨rfl, rfl⟩
    · clear h
      have d1 : ¬ most < 1 := by omega
      have d2 : 256 < most := by omega
      go_enter Try.func6, Try.ntmps6
      go_wp2_with fail
      refine (limd_s win x _ HX.out).mono ?_
      rintro e w' ⟨rfl, rfl⟩
      go_wp2_with fail
      refine (limd_s lock y _ HY.out).mono ?_
      rintro e w' ⟨rfl, rfl⟩
      go_wp2_with fail
      go_ret2
      exact ⟨rfl, rfl⟩
  · clear h
    have d1 : most < 1 := by omega
    go_enter Try.func6, Try.ntmps6
    go_wp2_with fail
    refine (limd_s win x _ HX.out).mono ?_
    rintro e w' ⟨rfl, rfl⟩
    go_wp2_with fail
    refine (limd_s lock y _ HY.out).mono ?_
    rintro e w' ⟨rfl, rfl⟩
    go_wp2_with fail
    go_ret2
    exact ⟨rfl, rfl⟩
theorem newLocks_s (most win lock x y : Int) (w : World) (hx : limI win = x) (hy : limI lock = y) (h : LkN most x y) :
    Calls Try.prog 6 #[.int .i64 most, .int .i64 win, .int .i64 lock] w fun e w' => ∃ b, e = .returned (.tuple #[.pointer (some ⟨b, 0, none⟩), .int .i64 0]) ∧ LK w' (fun i => w.heap.size ≤ i ∧ i < w'.heap.size) b most x y [] ∧ Below w.heap.size w w' := by
  have HX := Lib.hid hx
  have HY := Lib.hid hy
  have HN := Lib.hid (lk_new w most x y h)
  have HB := Lib.hid ((box_below w (.map #[] 0)).trans ((box_below (w.alloc (.map #[] 0)) (lkO (w.heap.size + 1) w.heap.size most x y)).mono (by simp)))
  obtain ⟨m0, m1, w0, w1, l0, l1⟩ := h
  have d1 : ¬ most < 1 := by omega
  have d2 : ¬ 256 < most := by omega
  have d3 : ¬ x < 1 := by omega
  have d4 : ¬ y < 1 := by omega
  clear hx hy m0 m1 w0 w1 l0 l1
  have hmm := @run_makeMap Try.prog
  go_enter Try.func6, Try.ntmps6
  go_wp2_with fail
  refine (limd_s win x _ HX.out).mono ?_
  rintro e w' ⟨rfl, rfl⟩
  go_wp2_with fail
  refine (limd_s lock y _ HY.out).mono ?_
  rintro e w' ⟨rfl, rfl⟩
  go_wp2_with fail
  go_ret2
  refine ⟨w.heap.size + 1, rfl, ?_, HB.out⟩
  have := HN.out
  rw [show w.heap.size + 2 = ((w.alloc (.map #[] 0)).alloc (lkO (w.heap.size + 1) w.heap.size most x y)).heap.size by simp] at this
  exact this

end Go.Proofs.Ytclecajbcmmddaa
