/-
  Contracts of secret's Quality and of the specification's contains and Quality. Condition: at most 1000000 bytes; the library's MaxLen is there.
-/
import Derived.Test.YtclecajbcmmddaaSecK
set_option maxRecDepth 100000
set_option maxRecDepth 100000
set_option linter.unusedVariables false
set_option linter.unusedSimpArgs false
set_option linter.unnecessarySimpa false
namespace Go.Proofs.Ytclecajbcmmddaa
open Go.RowKit Go.PlainAid

theorem con_hit {s p : ByteArray} {i : Nat} (hi : i + p.size ≤ s.size) (h : ((s.extract i (i + p.size)).toList == p.toList) = true) : conB s p = true := by
  rw [← Lib.occ_of_piece s p i hi] at h
  unfold conB Lib.contains
  rcases Lib.index_spec s.data.toList p.data.toList with ⟨_, h2⟩ | ⟨j, h1, _⟩
  · have := h2 i (by rw [← Lib.size_eq]; omega)
    rw [this] at h; cases h
  · rw [h1]; exact decide_eq_true (by omega)
theorem con_no {s p : ByteArray} {n : Nat} (hn : s.size < n + p.size) (h : ∀ i, i < n → i + p.size ≤ s.size → ((s.extract i (i + p.size)).toList == p.toList) = false) : conB s p = false := by
  unfold conB Lib.contains
  rcases Lib.index_spec s.data.toList p.data.toList with ⟨h1, _⟩ | ⟨j, h1, h2, h3, _⟩
  · rw [h1]; rfl
  · exfalso
    rw [← Lib.size_eq] at h2
    have hroom := Lib.index_room s.data.toList p.data.toList (by rw [h1]; omega)
    rw [h1, ← Lib.size_eq, ← Lib.size_eq] at hroom
    have hj : j + p.size ≤ s.size := by omega
    have := h j (by omega) hj
    rw [← Lib.occ_of_piece s p j hj, h3] at this
    cases this
theorem con_s (s p : ByteArray) (x : Bool) (w : World) (hs : s.size ≤ 1000000) (ho : MaxOk w) (hx : conB s p = x) :
    Calls Try.prog 38 #[.string s, .string p] w fun e w' => e = .returned (.bool x) ∧ w = w' := by
  obtain ⟨m, hm⟩ := ho
  subst hx
  exact (Try.strings_Contains s p m w (by omega) hm).mono fun e w' h => ⟨h.1, h.2.symm⟩
theorem lower_k (s r : ByteArray) (w : World) (hs : s.size ≤ 1000000000) (hr : lowS s = r) :
    Calls Try.prog 39 #[.string s] w fun e w' => e = .returned (.string r) ∧ Below w.heap.size w w' := hr ▸ lower_s s w hs
theorem qu_form {p u : ByteArray} (h : pwB p = false) : quE p u = 4 := by unfold quE; rw [if_neg (by rw [h]; decide)]
theorem qu_few {p u : ByteArray} (h : pwB p = true) (h1 : cntK p < 3) : quE p u = 11 := by unfold quE; rw [if_pos h, if_pos h1]
theorem qu_short {p u : ByteArray} (h : pwB p = true) (h1 : ¬ cntK p < 3) (h2 : ¬ 3 ≤ u.size) : quE p u = 0 := by unfold quE; rw [if_pos h, if_neg h1, if_neg (fun k => h2 k.1)]
theorem qu_in {p u : ByteArray} (h : pwB p = true) (h1 : ¬ cntK p < 3) (h2 : 3 ≤ u.size) (h3 : conB (lowS p) (lowS u) = true) : quE p u = 11 := by unfold quE; rw [if_pos h, if_neg h1, if_pos ⟨h2, h3⟩]
theorem qu_ok {p u : ByteArray} (h : pwB p = true) (h1 : ¬ cntK p < 3) (h3 : conB (lowS p) (lowS u) = false) : quE p u = 0 := by unfold quE; rw [if_pos h, if_neg h1, if_neg (fun k => by rw [h3] at k; cases k.2)]
set_option maxHeartbeats 8000000 in
theorem quality_k (p u : ByteArray) (x : Int) (w : World) (hp : p.size ≤ 1000000) (hu : u.size ≤ 1000000) (ho : MaxOk w) (hx : quE p u = x) :
    Calls Try.prog 20 #[.string p, .string u] w fun e w' => e = .returned (.int .i64 x) ∧ Below w.heap.size w w' := by
  have HO := Lib.hid ho
  have H1 := Lib.hid (fun h => hx.symm.trans (qu_form (u := u) h))
  have H2 := Lib.hid (fun h h1 => hx.symm.trans (qu_few (u := u) h h1))
  have H3 := Lib.hid (fun h h1 h2 => hx.symm.trans (qu_short h h1 h2))
  have H4 := Lib.hid (fun h h1 h2 h3 => hx.symm.trans (qu_in h h1 h2 h3))
  have H5 := Lib.hid (fun h h1 h3 => hx.symm.trans (qu_ok (u := u) h h1 h3))
  have hz1 := lowS_size p
  have hz2 := lowS_size u
  obtain ⟨lp, hlp⟩ : ∃ lp, lowS p = lp := ⟨_, rfl⟩
  obtain ⟨lu, hlu⟩ : ∃ lu, lowS u = lu := ⟨_, rfl⟩
  rw [hlp] at H4 H5 hz1
  rw [hlu] at H4 H5 hz2
  have HP := Lib.hid hlp
  have HU := Lib.hid hlu
  have hz3 : lp.size ≤ 1000000 := by omega
  have hz4 : lu.size ≤ 1000000 := by omega
  clear ho hx hlp hlu hz1 hz2
  cases hq : pwB p
  · have HF := Lib.hid (H1.out hq)
    go_enter Try.func20, Try.ntmps20
    go_wp2_with fail
    refine (isPw_k p false _ (by omega) hq).mono ?_
    rintro e w' ⟨rfl, rfl⟩
    go_wp2_with fail
    go_ret
    exact ⟨by rw [HF.out]; rfl, Below.refl _ _⟩
  · obtain ⟨n, hn⟩ : ∃ n, cntK p = n := ⟨_, rfl⟩
    rw [hn] at H2 H3 H4 H5
    have HN := Lib.hid hn
    clear hn
    by_cases h1 : n < 3
    · have HF := Lib.hid (H2.out hq h1)
      have d1 : (n : Int) < 3 := by omega
      go_enter Try.func20, Try.ntmps20
      go_wp2_with fail
      refine (isPw_k p true _ (by omega) hq).mono ?_
      rintro e w' ⟨rfl, rfl⟩
      go_wp2_with fail
      refine (count_k p n _ hp HN.out).mono ?_
      rintro e w1 ⟨rfl, hb⟩
      have HB := Lib.hid hb
      clear hb
      go_wp2_with fail
      go_ret
      exact ⟨by rw [HF.out]; rfl, HB.out⟩
    · have d1 : ¬ (n : Int) < 3 := by omega
      by_cases h2 : 3 ≤ u.size
      · have d2 : (3 : Int) ≤ (u.size : Int) := by omega
        obtain ⟨q, hc⟩ : ∃ q, conB lp lu = q := ⟨_, rfl⟩
        have HF : Hid (x = if q = true then 11 else 0) := Lib.hid (by
          cases q
          · rw [if_neg (by decide)]; exact H5.out hq h1 hc
          · rw [if_pos rfl]; exact H4.out hq h1 h2 hc)
        have HC := Lib.hid hc
        clear hc
        go_enter Try.func20, Try.ntmps20
        go_wp2_with fail
        refine (isPw_k p true _ (by omega) hq).mono ?_
        rintro e w' ⟨rfl, rfl⟩
        go_wp2_with fail
        refine (count_k p n _ hp HN.out).mono ?_
        rintro e w1 ⟨rfl, hb⟩
        have HB := Lib.hid hb
        clear hb
        go_wp2_with fail
        refine (lower_k p lp _ (by omega) HP.out).mono ?_
        rintro e w2 ⟨rfl, hb⟩
        have HB := Lib.hid (HB.out.trans (hb.mono HB.out.size))
        clear hb
        go_wp2_with fail
        refine (lower_k u lu _ (by omega) HU.out).mono ?_
        rintro e w3 ⟨rfl, hb⟩
        have HB := Lib.hid (HB.out.trans (hb.mono HB.out.size))
        clear hb
        go_wp2_with fail
        refine (con_s lp lu q _ hz3 (HO.out.below HB.out HO.out.lt) HC.out).mono ?_
        rintro e w' ⟨rfl, rfl⟩
        cases q
        · go_wp2_with fail
          go_ret
          exact ⟨by rw [HF.out]; rfl, HB.out⟩
        · go_wp2_with fail
          go_ret
          exact ⟨by rw [HF.out]; rfl, HB.out⟩
      · have d2 : ¬ (3 : Int) ≤ (u.size : Int) := by omega
        have HF := Lib.hid (H3.out hq h1 h2)
        go_enter Try.func20, Try.ntmps20
        go_wp2_with fail
        refine (isPw_k p true _ (by omega) hq).mono ?_
        rintro e w' ⟨rfl, rfl⟩
        go_wp2_with fail
        refine (count_k p n _ hp HN.out).mono ?_
        rintro e w1 ⟨rfl, hb⟩
        have HB := Lib.hid hb
        clear hb
        go_wp2_with fail
        go_ret
        exact ⟨by rw [HF.out]; rfl, HB.out⟩

end Go.Proofs.Ytclecajbcmmddaa
