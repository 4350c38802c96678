/-
  Contract of journal's first. Condition: at most 1000000000 bytes.
-/
import Derived.Test.YtafecnaeoeanmaaDoorJouE
import Derived.Lib.MinMax
set_option maxRecDepth 100000
set_option linter.unusedVariables false
set_option linter.unusedSimpArgs false
set_option linter.unnecessarySimpa false
namespace Go.Proofs.YtafecnaeoeanmaaDoor
open Go.RowKit Go.PlainAid

theorem readInt_k (s : ByteArray) (v c : Int) (w : World) (hs : s.size ≤ 1000000000) (ho : WJ w) (h : readI s.data.toList = (v, c)) :
    Calls Tryd.prog 46 #[.string s] w fun e w' => e = .returned (.tuple #[.int .i64 v, .int .i64 c]) ∧ Below w.heap.size w w' := by
  have := readInt_s s w hs ho.io
  rw [h] at this
  exact this
theorem cutB_size (u : ByteArray) (b : UInt8) : (cutBef u ⟨#[b]⟩).size ≤ u.size := by
  rcases cut_one u b with h | h
  · exact h.2.2.2.1
  · rw [h.2.2.1]; exact Nat.le_refl _
theorem cutA_size (u : ByteArray) (b : UInt8) : (cutAft u ⟨#[b]⟩).size ≤ u.size := by
  rcases cut_one u b with h | h
  · exact Nat.le_of_lt h.2.2.1
  · rw [h.2.2.2]; exact Nat.zero_le _
theorem pref_k (s p : ByteArray) (r : Bool) (w : World) (h : Lib.hasPrefix s.data.toList p.data.toList = r) :
    Calls Tryd.prog 47 #[.string s, .string p] w fun e w' => e = .returned (.bool r) ∧ w' = w := by
  subst h; exact Tryd.strings_HasPrefix s p w
theorem encode_k (r q : ByteArray) (w : World) (hr : r.size ≤ 1000000) (ho : WJ w) (hq : encS r = q) :
    Calls Tryd.prog 12 #[.string r] w fun e w' => e = .returned (.string q) ∧ Below w.heap.size w w' := by subst hq; exact encode_s r w hr ho
theorem rencode_k (r q : ByteArray) (w : World) (hr : r.size ≤ 1000000) (hq : encS r = q) :
    Calls Tryd.prog 13 #[.string r] w fun e w' => e = .returned (.string q) ∧ Below w.heap.size w w' := by subst hq; exact rencode_s r w hr
set_option maxHeartbeats 4000000 in
theorem first_s (s : ByteArray) (w : World) (hs : s.size ≤ 1000000000) (ho : WJ w) :
    Calls Tryd.prog 31 #[.string s] w fun e w' => e = .returned (.tuple #[.string (fV s), .int .i64 (fN s : Nat), .bool (fB s)]) ∧ Below w.heap.size w w' := by
  have HO := Lib.hid ho
  have HC := Lib.hid (cut_b s 58 w hs ho.mx)
  clear ho
  obtain ⟨x, hx⟩ : ∃ x, cutBef s ⟨#[58]⟩ = x := ⟨_, rfl⟩
  obtain ⟨y, hy⟩ : ∃ x, cutAft s ⟨#[58]⟩ = x := ⟨_, rfl⟩
  obtain ⟨z, hz⟩ : ∃ x, cutOk s ⟨#[58]⟩ = x := ⟨_, rfl⟩
  have hx1 : x.size ≤ 1000000000 := by rw [← hx]; exact Nat.le_trans (cutB_size s 58) hs
  have hy1 : y.size ≤ 1000000000 := by rw [← hy]; exact Nat.le_trans (cutA_size s 58) hs
  rw [hx, hy, hz] at HC
  obtain ⟨⟨v, c⟩, hr⟩ : ∃ p, readI x.data.toList = p := ⟨_, rfl⟩
  have HX := Lib.hid hx
  have HY := Lib.hid hy
  have HR := Lib.hid hr
  clear hx hy hz hr
  have hy0 : (0 : Int) ≤ (y.size : Int) := by omega
  by_cases hc : c = 0
  · have q0 : (c != 0) = false := by rw [hc]; rfl
    have HC0 := Lib.hid hc
    clear hc
    by_cases hv : v < 0
    · have HN := Lib.hid (f_none (first_bad (s := s) (v := v) (e := c) (by rw [HX.out]; exact HR.out) (.inr (.inl hv))))
      go_enter Tryd.func31, Tryd.ntmps31
      go_wp2_with fail
      refine HC.out.mono ?_
      rintro e w1 ⟨rfl, hb1⟩
      go_wp2_with fail
      refine (readInt_k x v c _ hx1 (HO.out.below hb1) HR.out).mono ?_
      rintro e w2 ⟨rfl, hb2⟩
      go_wp2_with fail
      go_ret3
      exact ⟨by rw [HN.out.1, HN.out.2.1, HN.out.2.2]; rfl, hb1.trans (hb2.mono hb1.size)⟩
    · obtain ⟨n, rfl⟩ := Int.eq_ofNat_of_zero_le (show 0 ≤ v by omega)
      by_cases hm : n ≤ 4096 ∧ n ≤ y.size
      · obtain ⟨m1, m2⟩ := hm
        have d1 : decide (min (4096 : Int) (y.size : Int) < (n : Int)) = false := decide_eq_false (by omega)
        obtain ⟨r, hr⟩ : ∃ r, y.extract 0 n = r := ⟨_, rfl⟩
        have hr1 : r.size ≤ 1000000 := by rw [← hr, ByteArray.size_extract]; omega
        obtain ⟨q, hq⟩ : ∃ q, encS r = q := ⟨_, rfl⟩
        have HRr := Lib.hid hr
        have HQ := Lib.hid hq
        clear hq
        obtain ⟨k, hk⟩ : ∃ k, Lib.hasPrefix s.data.toList q.data.toList = k := ⟨_, rfl⟩
        have HK := Lib.hid hk
        clear hk
        go_enter Tryd.func31, Tryd.ntmps31
        go_wp2_with fail
        refine HC.out.mono ?_
        rintro e w1 ⟨rfl, hb1⟩
        have HO1 := Lib.hid (HO.out.below hb1)
        go_wp2_with fail
        refine (readInt_k x n c _ hx1 HO1.out HR.out).mono ?_
        rintro e w2 ⟨rfl, hb2⟩
        have HO2 := Lib.hid (HO1.out.below hb2)
        go_wp2_with fail
        refine (encode_k r q _ hr1 HO2.out HQ.out).mono ?_
        rintro e w3 ⟨rfl, hb3⟩
        go_wp2_with fail
        refine (pref_k s q k _ HK.out).mono ?_
        rintro e w' ⟨rfl, rfl⟩
        have HB := Lib.hid ((hb1.trans (hb2.mono hb1.size)).trans (hb3.mono (Nat.le_trans hb1.size hb2.size)))
        cases k
        · have HN := Lib.hid (f_none (first_miss (s := s) (n := n) (by rw [HX.out, HR.out, HC0.out]) (by rw [HY.out, HRr.out, HQ.out]; exact HK.out)))
          go_wp2_with fail
          go_ret3
          exact ⟨by rw [HN.out.1, HN.out.2.1, HN.out.2.2]; rfl, HB.out⟩
        · have HN := Lib.hid (f_some (s := s) (r := r) (by
            have := first_hit (s := s) (n := n) m1 (by rw [HY.out]; exact m2) (by rw [HY.out, HRr.out, HQ.out]; exact HK.out)
            rw [HY.out, HRr.out] at this
            exact this))
          go_wp2_with fail
          go_ret3
          exact ⟨by rw [HN.out.1, HN.out.2.1, HN.out.2.2, HQ.out, ← HRr.out]; rfl, HB.out⟩
      · have d1 : decide (min (4096 : Int) (y.size : Int) < (n : Int)) = true := decide_eq_true (by omega)
        have HN := Lib.hid (f_none (first_bad (s := s) (v := n) (e := c) (by rw [HX.out]; exact HR.out) (by rw [HY.out]; omega)))
        clear hm
        go_enter Tryd.func31, Tryd.ntmps31
        go_wp2_with fail
        refine HC.out.mono ?_
        rintro e w1 ⟨rfl, hb1⟩
        go_wp2_with fail
        refine (readInt_k x n c _ hx1 (HO.out.below hb1) HR.out).mono ?_
        rintro e w2 ⟨rfl, hb2⟩
        go_wp2_with fail
        go_ret3
        exact ⟨by rw [HN.out.1, HN.out.2.1, HN.out.2.2]; rfl, hb1.trans (hb2.mono hb1.size)⟩
  · have q0 : (c != 0) = true := by simpa using hc
    have HN := Lib.hid (f_none (first_bad (s := s) (v := v) (e := c) (by rw [HX.out]; exact HR.out) (.inl hc)))
    clear hc
    go_enter Tryd.func31, Tryd.ntmps31
    go_wp2_with fail
    refine HC.out.mono ?_
    rintro e w1 ⟨rfl, hb1⟩
    go_wp2_with fail
    refine (readInt_k x v c _ hx1 (HO.out.below hb1) HR.out).mono ?_
    rintro e w2 ⟨rfl, hb2⟩
    go_wp2_with fail
    go_ret3
    exact ⟨by rw [HN.out.1, HN.out.2.1, HN.out.2.2]; rfl, hb1.trans (hb2.mono hb1.size)⟩

end Go.Proofs.YtafecnaeoeanmaaDoor
