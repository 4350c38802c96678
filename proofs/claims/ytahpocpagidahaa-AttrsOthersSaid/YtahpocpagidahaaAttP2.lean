/-
  Contracts of slices.BinarySearchFunc at attributes and of attrs.around. Condition: at most 1000 attributes whose names ascend.
-/
import Derived.Test.YtahpocpagidahaaAttP1
import Derived.Test.YtahpocpagidahaaShelfA
set_option linter.unusedVariables false
set_option linter.unusedSimpArgs false
set_option linter.unnecessarySimpa false
namespace Go.Proofs.Ytahpocpagidahaa
open Go.RowKit Go.PlainAid

theorem cmp_s (a b : ByteArray) (w : World) : Calls Try.prog 74 #[.string a, .string b] w fun e w' => e = .returned (.int .i64 (cmpS a b)) ∧ w' = w := Try.strings_Compare a b w
set_option maxRecDepth 100000 in
theorem closure_s (nm lw : ByteArray) (hd : Value) (w : World) :
    Calls Try.prog 73 #[.agg #[.string nm, hd], .string lw] w fun e w' => e = .returned (.int .i64 (cmpS nm lw)) ∧ Below w.heap.size w w' := by
  have X := (abox_new w nm hd).cells
  obtain ⟨x0, x1⟩ := X
  have hb : Below w.heap.size w (w.alloc (.cells #[.string nm, hd] 42)) := (Below.refl _ w).alloc (Nat.le_refl _) _
  go_enter Try.func73, Try.ntmps73
  go_wp2_with fail
  refine (cmp_s nm lw _).mono ?_
  rintro e w1 ⟨rfl, rfl⟩
  go_wp2_with fail
  go_ret
  exact ⟨rfl, hb⟩
theorem asc_mono {T : List Tr} (hA : Asc ((tats T).map (·.1))) {i j : Nat} (hij : i < j) (hj : j < T.length) : cmpS (trD T i).1 (trD T j).1 < 0 := by
  unfold Asc tats at hA
  rw [List.map_map, List.pairwise_map] at hA
  have := List.pairwise_iff_getElem.1 hA i j (by omega) hj hij
  rw [tr_get T i (by omega), tr_get T j hj]
  exact this
theorem cs_le_lt {a b c : ByteArray} (h1 : ¬ cmpS b a < 0) (h2 : cmpS b c < 0) : cmpS a c < 0 := by
  rcases cs_tri a b with k | k | k
  · exact cs_trans k h2
  · rw [k]; exact h2
  · exact absurd k h1
def geS (a b : ByteArray) : Prop := ¬ cmpS a b < 0
/-- what the search finds -/
def Found (T : List Tr) (lw : ByteArray) (i : Nat) : Prop := i ≤ T.length ∧ (∀ t, t < i → cmpS (trD T t).1 lw < 0) ∧ ∀ t, i ≤ t → t < T.length → geS (trD T t).1 lw
set_option maxRecDepth 100000 in
set_option maxHeartbeats 4000000 in
theorem search_s (ao : Option Addr) (n cap : Nat) (T : List Tr) (lw : ByteArray) (w : World) (h : TsAt w ao n cap T) (hA : Asc ((tats T).map (·.1))) (hn : n ≤ 1000) :
    Calls Try.prog 72 #[.slice ao n cap, .string lw, .func (.func 73) #[] #[]] w fun e w' =>
      ∃ i : Nat, e = .returned (.tuple #[.int .i64 i, .bool (decide (i < n ∧ (trD T i).1 = lw))]) ∧ Found T lw i ∧ Below w.heap.size w w' := by
  have HT := Lib.hid h
  have hTl : T.length = n := h.1
  have HA := Lib.hid hA
  clear h hA
  subst hTl
  go_enter Try.func72, Try.ntmps72
  go_wp2
  go_loopw [9, 10, 11] (fun s9 s10 s11 wr => ∃ lo hi : Nat, s9 = .int .i64 lo ∧ s10 = .int .i64 hi ∧ lo ≤ hi ∧ hi ≤ T.length ∧ Hid (∀ t, t < lo → cmpS (trD T t).1 lw < 0) ∧ Hid (∀ t, hi ≤ t → t < T.length → geS (trD T t).1 lw) ∧ Hid (Below w.heap.size w wr)) (fun s9 s10 _ _ => (intOf s10).toNat - (intOf s9).toNat)
  case atStart => exact ⟨0, T.length, rfl, rfl, Nat.zero_le _, Nat.le_refl _, Lib.hid (fun t ht => absurd ht (Nat.not_lt_zero _)), Lib.hid (fun t h1 h2 => absurd h2 (by omega)), Lib.hid (Below.refl _ _)⟩
  case round =>
    obtain ⟨lo, hi, rfl, rfl, hlh, hin, HLO, HHI, HB⟩ := hrel
    by_cases hlt : lo < hi
    · obtain ⟨b, off, rfl, hblt, _⟩ := HT.out.2.2.2 (by omega)
      obtain ⟨a0, a1⟩ := ts_at HT.out ((lo + hi) / 2) (by omega)
      have a0 := cell_later HB.out a0
      have a1 := cell_later HB.out a1
      obtain ⟨m, hm⟩ : ∃ x, (lo + hi) / 2 = x := ⟨_, rfl⟩
      have hm1 : lo ≤ m := by omega
      have hm2 : m < hi := by omega
      have em : ((lo : Int) + (hi : Int)) / 2 = (m : Int) := by omega
      rw [hm] at a0 a1
      have HLM := Lib.hid (fun (e : cmpS (trD T m).1 lw < 0) t (ht : t < m + 1) => if h : t = m then (by rw [h]; exact e : cmpS (trD T t).1 lw < 0) else cs_trans (asc_mono HA.out (show t < m by omega) (show m < T.length by omega)) e)
      have HHM := Lib.hid (fun (e : ¬ cmpS (trD T m).1 lw < 0) t (ht : m ≤ t) (htl : t < T.length) => if h : t = m then (by rw [h]; exact e : geS (trD T t).1 lw) else fun k => e (cs_trans (asc_mono HA.out (show m < t by omega) htl) k))
      clear hm
      obtain ⟨x, hx⟩ : ∃ x, trD T m = x := ⟨_, rfl⟩
      rw [hx] at a0 a1 HLM HHM
      clear hx
      obtain ⟨p, hd, vs⟩ := x
      simp only [] at a0 a1 HLM HHM
      by_cases hp : cmpS p lw < 0
      · have d1 : decide (cmpS p lw < 0) = true := decide_eq_true hp
        have H2 := Lib.hid (HLM.out hp)
        clear hp
        go_wp2_with fail
        refine (closure_s p lw hd _).mono ?_
        rintro e w1 ⟨rfl, hb⟩
        have HB2 := Lib.hid (HB.out.trans (hb.mono HB.out.size))
        go_wp2_with fail
        go_roundw
        case rel => exact ⟨m + 1, hi, by go_num, rfl, by omega, hin, H2, HHI, HB2⟩
        case measure => simp [intOf]; omega
      · have d1 : decide (cmpS p lw < 0) = false := decide_eq_false hp
        have H2 := Lib.hid (HHM.out hp)
        clear hp
        go_wp2_with fail
        refine (closure_s p lw hd _).mono ?_
        rintro e w1 ⟨rfl, hb⟩
        have HB2 := Lib.hid (HB.out.trans (hb.mono HB.out.size))
        go_wp2_with fail
        go_roundw
        case rel => exact ⟨lo, m, rfl, by go_num, by omega, by omega, HLO, H2, HB2⟩
        case measure => simp [intOf]; omega
    · obtain rfl : hi = lo := by omega
      have HFD := Lib.hid (show Found T lw hi from ⟨hin, HLO.out, HHI.out⟩)
      by_cases hl2 : hi < T.length
      · obtain ⟨b, off, rfl, hblt, _⟩ := HT.out.2.2.2 (by omega)
        obtain ⟨a0, a1⟩ := ts_at HT.out hi hl2
        have a0 := cell_later HB.out a0
        have a1 := cell_later HB.out a1
        obtain ⟨x, hx⟩ : ∃ x, trD T hi = x := ⟨_, rfl⟩
        have HX := Lib.hid hx
        rw [hx] at a0 a1
        clear hx
        obtain ⟨p, hd, vs⟩ := x
        simp only [] at a0 a1
        obtain ⟨z, hz⟩ : ∃ x, decide (p = lw) = x := ⟨_, rfl⟩
        have q1 : (cmpS p lw == 0) = z := by rw [← hz, Bool.eq_iff_iff]; simp [cmpS_ord.zero]
        have HZ := Lib.hid (show decide (hi < T.length ∧ (trD T hi).1 = lw) = z by rw [HX.out, ← hz]; simp [hl2])
        clear hz
        have d2 : (hi : Int) < (T.length : Int) := by omega
        go_wp2_with fail
        refine (closure_s p lw hd _).mono ?_
        rintro e w1 ⟨rfl, hb⟩
        have HB2 := Lib.hid (HB.out.trans (hb.mono HB.out.size))
        go_wp2_with fail
        go_ret2
        exact ⟨hi, by rw [HZ.out]; rfl, HFD.out, HB2.out⟩
      · have HZ := Lib.hid (show decide (hi < T.length ∧ (trD T hi).1 = lw) = false from decide_eq_false fun e => hl2 e.1)
        have d2 : decide ((hi : Int) < (T.length : Int)) = false := decide_eq_false (by omega)
        go_wp2_with fail
        go_ret2
        exact ⟨hi, by rw [HZ.out]; rfl, HFD.out, HB.out⟩

end Go.Proofs.Ytahpocpagidahaa
