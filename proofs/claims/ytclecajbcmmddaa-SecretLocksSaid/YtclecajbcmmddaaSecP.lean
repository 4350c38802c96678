/-
  Contracts of secret's isPassword, usable, hash, Make, Valid and of the specification's Password, Make, Valid. Condition: at most 1000000 bytes.
-/
import Derived.Test.YtclecajbcmmddaaSecM
import Derived.Test.YtclecajbcmmddaaDigRead
import Derived.Test.YtclecajbcmmddaaDigRRead
set_option maxRecDepth 100000
set_option maxRecDepth 100000
set_option linter.unusedVariables false
set_option linter.unusedSimpArgs false
set_option linter.unnecessarySimpa false
namespace Go.Proofs.Ytclecajbcmmddaa
open Go.RowKit Go.PlainAid

theorem box_below (w : World) (o : Obj) : Below w.heap.size w (w.alloc o) := (Below.refl w.heap.size w).alloc (Nat.le_refl _) o
theorem cleanP_lt {c : Int} (h : cleanP c = true) : ¬ c < 32 ∧ ¬ 126 < c := by
  unfold cleanP at h
  simp only [Bool.and_eq_true, decide_eq_true_eq] at h
  omega
set_option maxHeartbeats 2000000 in
theorem isPw_s (s : ByteArray) (w : World) (hs : s.size ≤ 1000000000) :
    Calls Try.prog 33 #[.string s] w fun e w' => e = .returned (.bool (pwB s)) ∧ w = w' := by
  have hb := get_bt s
  have HBad := Lib.hid (fun k (hk : k < s.size) h => pwB_bad (s := s) hk h)
  have HGood := Lib.hid (fun h1 h2 h => pwB_good (s := s) h1 h2 h)
  have HS := Lib.hid (fun h => pwB_short (s := s) h)
  have HL := Lib.hid (fun h => pwB_long (s := s) h)
  obtain ⟨r, hr⟩ : ∃ r, pwB s = r := ⟨_, rfl⟩
  rw [hr] at HBad HGood HS HL ⊢
  clear hr
  go_enter Try.func33, Try.ntmps33
  go_wp2
  go_loop [6] (fun i => ∃ k : Nat, k ≤ s.size ∧ i = .int .i64 k ∧ Hid (∀ j, j < k → cleanP (bt s j) = true)) (fun i => s.size - (intOf i).toNat)
  case atStart => exact ⟨0, Nat.zero_le _, rfl, Lib.hid fun j hj => absurd hj (Nat.not_lt_zero _)⟩
  case round =>
    obtain ⟨k, hk, rfl, HA⟩ := hrel
    by_cases hlt : k < s.size
    · by_cases c1 : bt s k < 32
      · have HE := Lib.hid (HBad.out k hlt (cleanP_low c1))
        go_wp2
        go_ret
        exact ⟨by rw [HE.out]; rfl, rfl⟩
      · by_cases c2 : 126 < bt s k
        · have HE := Lib.hid (HBad.out k hlt (cleanP_high c2))
          go_wp2
          go_ret
          exact ⟨by rw [HE.out]; rfl, rfl⟩
        · have HN := Lib.hid (all_next HA.out (cleanP_yes (Int.not_lt.1 c1) (Int.not_lt.1 c2)))
          go_wp2
          go_round
          case rel => exact ⟨k + 1, by omega, by go_num, HN⟩
          case measure => simp [intOf]; omega
    · have HB : Hid (∀ j, j < s.size → cleanP (bt s j) = true) := Lib.hid (fun j hj => HA.out j (by omega))
      clear HA
      by_cases h1 : 8 ≤ s.size
      · by_cases h2 : s.size ≤ 256
        · have HE := Lib.hid (HGood.out h1 h2 HB.out)
          have d1 : decide ((s.size : Int) ≤ 256) = true := decide_eq_true (by omega)
          go_wp2
          go_ret
          exact ⟨by rw [HE.out]; rfl, rfl⟩
        · have HE := Lib.hid (HL.out (Nat.lt_of_not_le h2))
          have d1 : decide ((s.size : Int) ≤ 256) = false := decide_eq_false (by omega)
          go_wp2
          go_ret
          exact ⟨by rw [HE.out]; rfl, rfl⟩
      · have HE := Lib.hid (HS.out (Nat.lt_of_not_le h1))
        go_wp2
        go_ret
        exact ⟨by rw [HE.out]; rfl, rfl⟩

theorem usB_no1 {a : ByteArray} (r : Int) (h : wordB a = false) : usB a r = false := by unfold usB; rw [h]; rfl
theorem usB_no2 (a : ByteArray) {r : Int} (h : ¬ 1 ≤ r) : usB a r = false := by unfold usB; rw [decide_eq_false h]; simp
theorem usB_no3 (a : ByteArray) {r : Int} (h : ¬ r ≤ 64) : usB a r = false := by unfold usB; rw [decide_eq_false h]; simp
theorem usB_yes {a : ByteArray} {r : Int} (h : wordB a = true) (h1 : 1 ≤ r) (h2 : r ≤ 64) : usB a r = true := by unfold usB; rw [h, decide_eq_true h1, decide_eq_true h2]; rfl
theorem usB_cases {a : ByteArray} {r : Int} (h : usB a r = true) : wordB a = true ∧ 1 ≤ r ∧ r ≤ 64 := by
  unfold usB at h
  simp only [Bool.and_eq_true, decide_eq_true_eq] at h
  exact ⟨h.1.1, h.1.2, h.2⟩
set_option maxHeartbeats 2000000 in
theorem usable_s (a h : ByteArray) (r : Int) (w : World) (hs : a.size ≤ 1000000000) :
    Calls Try.prog 32 #[.agg #[.string a, .int .i64 r, .string h]] w fun e w' => e = .returned (.bool (usB a r)) ∧ Below w.heap.size w w' := by
  have HB := Lib.hid (box_below w (.cells #[.string a, .int .i64 r, .string h] 40))
  have HW := Lib.hid (fun (b : Bool) W (h : wordB a = b) => show Calls Try.prog 25 #[.string a] W fun e w' => e = .returned (.bool b) ∧ W = w' from h ▸ word_s a W hs)
  have HN1 := Lib.hid (fun h => usB_no1 (a := a) r h)
  have HN2 := Lib.hid (fun h => usB_no2 a (r := r) h)
  have HN3 := Lib.hid (fun h => usB_no3 a (r := r) h)
  have HY := Lib.hid (fun h h1 h2 => usB_yes (a := a) (r := r) h h1 h2)
  obtain ⟨q, hq⟩ : ∃ q, usB a r = q := ⟨_, rfl⟩
  rw [hq] at HN1 HN2 HN3 HY ⊢
  clear hq
  cases hb : wordB a
  · have HF := Lib.hid (HN1.out hb)
    go_enter Try.func32, Try.ntmps32
    go_wp2_with fail
    refine (HW.out false _ hb).mono ?_
    rintro e w' ⟨rfl, rfl⟩
    go_wp2_with fail
    go_ret
    exact ⟨by rw [HF.out]; rfl, HB.out⟩
  · by_cases h1 : 1 ≤ r
    · by_cases h2 : r ≤ 64
      · have HF := Lib.hid (HY.out hb h1 h2)
        go_enter Try.func32, Try.ntmps32
        go_wp2_with fail
        refine (HW.out true _ hb).mono ?_
        rintro e w' ⟨rfl, rfl⟩
        go_wp2_with fail
        go_ret
        exact ⟨by rw [HF.out]; rfl, HB.out⟩
      · have HF := Lib.hid (HN3.out h2)
        have d1 : decide (r ≤ 64) = false := decide_eq_false h2
        go_enter Try.func32, Try.ntmps32
        go_wp2_with fail
        refine (HW.out true _ hb).mono ?_
        rintro e w' ⟨rfl, rfl⟩
        go_wp2_with fail
        go_ret
        exact ⟨by rw [HF.out]; rfl, HB.out⟩
    · have HF := Lib.hid (HN2.out h1)
      go_enter Try.func32, Try.ntmps32
      go_wp2_with fail
      refine (HW.out true _ hb).mono ?_
      rintro e w' ⟨rfl, rfl⟩
      go_wp2_with fail
      go_ret
      exact ⟨by rw [HF.out]; rfl, HB.out⟩
theorem usable_k (a h : ByteArray) (r : Int) (x : Bool) (w : World) (hs : a.size ≤ 1000000000) (hx : usB a r = x) :
    Calls Try.prog 32 #[.agg #[.string a, .int .i64 r, .string h]] w fun e w' => e = .returned (.bool x) ∧ Below w.heap.size w w' := hx ▸ usable_s a h r w hs
theorem iter_k (salt s x : ByteArray) (r : Int) (w : World) (hk : salt.size ≤ 1000000) (hs : s.size ≤ 1000000) (h0 : -9223372036854775808 ≤ r) (h1 : r ≤ 9223372036854775807) (hx : iterS salt s r = x) :
    Calls Try.prog 17 #[.string salt, .string s, .int .i64 r] w fun e w' => e = .returned (.string x) ∧ Below w.heap.size w w' := hx ▸ iterate_s salt s r w hk hs h0 h1
set_option maxHeartbeats 2000000 in
theorem hash_s (a h p x : ByteArray) (r : Int) (w : World) (ha : a.size ≤ 1000000) (hp : p.size ≤ 1000000) (h0 : -9223372036854775808 ≤ r) (h1 : r ≤ 9223372036854775807) (hx : iterS a p r = x) :
    Calls Try.prog 34 #[.agg #[.string a, .int .i64 r, .string h], .string p] w fun e w' => e = .returned (.string x) ∧ Below w.heap.size w w' := by
  have HB := Lib.hid (box_below w (.cells #[.string a, .int .i64 r, .string h] 40))
  go_enter Try.func34, Try.ntmps34
  go_wp2_with fail
  refine (iter_k a p x r _ ha hp h0 h1 hx).mono ?_
  rintro e w1 ⟨rfl, hb⟩
  have HB := Lib.hid (HB.out.trans (hb.mono HB.out.size))
  clear hb
  go_wp2_with fail
  go_ret
  exact ⟨rfl, HB.out⟩

end Go.Proofs.Ytclecajbcmmddaa
