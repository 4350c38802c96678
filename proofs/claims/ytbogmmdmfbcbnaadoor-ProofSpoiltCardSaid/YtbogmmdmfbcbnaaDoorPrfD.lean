/-
  Contract of the specification's Bound; the contract of the law's long. Condition: at most 1000000 bytes; the library's variables are there.
-/
import Derived.Test.YtbogmmdmfbcbnaaDoorPrfC
set_option maxRecDepth 100000
set_option linter.unusedVariables false
set_option linter.unusedSimpArgs false
set_option linter.unnecessarySimpa false
namespace Go.Proofs.YtbogmmdmfbcbnaaDoor
open Go.RowKit Go.PlainAid Go.Maps

set_option maxHeartbeats 4000000 in
theorem rbound_k (sec ses st r : ByteArray) (x : Int) (w : World) (h1 : sec.size ≤ 1000000) (h2 : ses.size ≤ 1000000) (h3 : st.size ≤ 1000000) (hx : BdE sec ses st (r, x)) :
    Calls Tryd.prog 25 #[.string sec, .string ses, .string st] w fun e w' => e = .returned (.tuple #[.string r, .int .i64 x]) ∧ w = w' := by
  have hb := get_bt st
  have W1 := Lib.hid (show IntKind.i64.wrap ((st.size : Int) - 17) = (st.size : Int) - 17 from IntWalk.i64_in _ (by omega))
  cases hs : plB ses with
  | false =>
    obtain ⟨rfl, rfl⟩ := bd_plain hx hs
    have HS := Lib.hid hs
    have w1 := W1.out
    clear hx hs
    go_enter Tryd.func25, Tryd.ntmps25
    go_wp2_with fail
    refine (rplain_k ses false _ (by omega) HS.out).mono ?_
    rintro e w' ⟨rfl, rfl⟩
    go_wp2_with fail
    go_ret2
    exact ⟨rfl, rfl⟩
  | true =>
    have HS := Lib.hid hs
    by_cases h17 : 17 ≤ st.size
    · obtain ⟨K, hK⟩ : ∃ K, st.size - 17 = K := ⟨_, rfl⟩
      have w1 : IntKind.i64.wrap ((st.size : Int) - 17) = (K : Int) := by rw [W1.out]; omega
      have w2 : IntKind.i64.wrap ((K : Int) + 1) = ((K + 1 : Nat) : Int) := by rw [IntWalk.i64_in _ (by omega)]; omega
      have k0 : ¬ (K : Int) < 0 := by omega
      have k1 : (K : Int) < (st.size : Int) := by omega
      have k2 : K < st.size := by omega
      by_cases h46 : bt st K = 46
      · have e1 : (bt st K != 46) = false := by rw [h46]; rfl
        obtain ⟨q, hq⟩ : ∃ q, st.extract 0 K = q := ⟨_, rfl⟩
        obtain ⟨c, hc⟩ : ∃ c, st.extract (K + 1) st.size = c := ⟨_, rfl⟩
        have zq : q.size ≤ 1000000000 := by rw [← hq, ByteArray.size_extract]; omega
        have zc : c.size ≤ 1000000000 := by rw [← hc, ByteArray.size_extract]; omega
        cases hp : plB q with
        | false =>
          obtain ⟨rfl, rfl⟩ := bd_none hx fun p hn => by
            have := nm_ref hn
            rw [hK] at this
            obtain ⟨code, _, h5, _⟩ := hn
            rw [← this.2.2.1, hq, hp] at h5; cases h5
          have HP := Lib.hid hp
          clear hx hs hp hK h46
          go_enter Tryd.func25, Tryd.ntmps25
          go_wp2_with fail
          refine (rplain_k ses true _ (by omega) HS.out).mono ?_
          rintro e w' ⟨rfl, rfl⟩
          go_wp2_with fail
          refine (rplain_k q false _ zq HP.out).mono ?_
          rintro e w' ⟨rfl, rfl⟩
          go_wp2_with fail
          go_ret2
          exact ⟨rfl, rfl⟩
        | true =>
          have HP := Lib.hid hp
          obtain ⟨n, hn⟩ : ∃ n, rdV c.data.toList = n := ⟨_, rfl⟩
          by_cases he : rdE c.data.toList = 0
          · have HRd := Lib.hid (And.intro hn he)
            have hnm : Nm st q := by
              have := ref_nm h17 (by rw [hK]; exact h46) (by rw [hK, hq]; exact hp) (by rw [hK, hc]; exact he)
              rw [hK, hq] at this; exact this
            obtain ⟨t, ht⟩ : ∃ t, bndS sec ses q = t := ⟨_, rfl⟩
            have HT := Lib.hid ht
            by_cases hts : t = st
            · obtain ⟨rfl, rfl⟩ := bd_same hx hs hnm (by rw [ht]; exact hts)
              subst hts
              obtain ⟨q1, q2⟩ := str_eq t
              clear hx hs hp hK h46 hn he hnm ht
              go_enter Tryd.func25, Tryd.ntmps25
              go_wp2_with fail
              refine (rplain_k ses true _ (by omega) HS.out).mono ?_
              rintro e w' ⟨rfl, rfl⟩
              go_wp2_with fail
              refine (rplain_k r true _ zq HP.out).mono ?_
              rintro e w' ⟨rfl, rfl⟩
              go_wp2_with fail
              refine (rreadHex_k c n 0 _ zc HRd.out).mono ?_
              rintro e w' ⟨rfl, rfl⟩
              go_wp2_with fail
              refine (rbind_k sec ses r t _ h1 h2 (by have := plB_size HP.out; omega) HT.out).mono ?_
              rintro e w' ⟨rfl, rfl⟩
              go_wp2_with fail
              go_ret2
              exact ⟨rfl, rfl⟩
            · obtain ⟨rfl, rfl⟩ := bd_other hx hs hnm (by rw [ht]; exact hts)
              obtain ⟨q1, q2⟩ := str_ne hts
              clear hx hs hp hK h46 hn he hnm ht hts
              go_enter Tryd.func25, Tryd.ntmps25
              go_wp2_with fail
              refine (rplain_k ses true _ (by omega) HS.out).mono ?_
              rintro e w' ⟨rfl, rfl⟩
              go_wp2_with fail
              refine (rplain_k q true _ zq HP.out).mono ?_
              rintro e w' ⟨rfl, rfl⟩
              go_wp2_with fail
              refine (rreadHex_k c n 0 _ zc HRd.out).mono ?_
              rintro e w' ⟨rfl, rfl⟩
              go_wp2_with fail
              refine (rbind_k sec ses q t _ h1 h2 (by have := plB_size HP.out; omega) HT.out).mono ?_
              rintro e w' ⟨rfl, rfl⟩
              go_wp2_with fail
              go_ret2
              exact ⟨rfl, rfl⟩
          · obtain ⟨rfl, rfl⟩ := bd_none hx fun p hn => by
              have := (nm_ref hn).2.2.2
              rw [hK, hc] at this; exact he this
            have HRd := Lib.hid (And.intro hn (rdE_ok he))
            clear hx hs hp hK h46 hn he
            go_enter Tryd.func25, Tryd.ntmps25
            go_wp2_with fail
            refine (rplain_k ses true _ (by omega) HS.out).mono ?_
            rintro e w' ⟨rfl, rfl⟩
            go_wp2_with fail
            refine (rplain_k q true _ zq HP.out).mono ?_
            rintro e w' ⟨rfl, rfl⟩
            go_wp2_with fail
            refine (rreadHex_k c n 4 _ zc HRd.out).mono ?_
            rintro e w' ⟨rfl, rfl⟩
            go_wp2_with fail
            go_ret2
            exact ⟨rfl, rfl⟩
      · obtain ⟨rfl, rfl⟩ := bd_none hx fun p hn => by
          have := (nm_ref hn).2.1
          rw [hK] at this; exact h46 this
        have e1 : (bt st K != 46) = true := by simp [h46]
        clear hx hs hK h46
        go_enter Tryd.func25, Tryd.ntmps25
        go_wp2_with fail
        refine (rplain_k ses true _ (by omega) HS.out).mono ?_
        rintro e w' ⟨rfl, rfl⟩
        go_wp2_with fail
        go_ret2
        exact ⟨rfl, rfl⟩
    · obtain ⟨rfl, rfl⟩ := bd_none hx fun p hn => h17 (nm_ref hn).1
      have k0 : (st.size : Int) - 17 < 0 := by omega
      have w1 := W1.out
      clear hx hs
      go_enter Tryd.func25, Tryd.ntmps25
      go_wp2_with fail
      refine (rplain_k ses true _ (by omega) HS.out).mono ?_
      rintro e w' ⟨rfl, rfl⟩
      go_wp2_with fail
      go_ret2
      exact ⟨rfl, rfl⟩
/-! ### long -/
def lgB (l : List ByteArray) : Bool := l.any fun s => decide (300 < s.size)
theorem lg_at {l : List ByteArray} {j : Nat} (hj : j < l.length) (h : 300 < (partAt l j).size) : lgB l = true := by
  unfold lgB
  rw [List.any_eq_true]
  refine ⟨partAt l j, ?_, decide_eq_true h⟩
  unfold partAt
  rw [List.getD_eq_getElem?_getD, List.getElem?_eq_getElem hj]; exact List.getElem_mem hj
theorem lg_no {l : List ByteArray} (h : ∀ j, j < l.length → (partAt l j).size ≤ 300) : lgB l = false := by
  unfold lgB
  rw [List.any_eq_false]
  intro s hs
  obtain ⟨j, hj, rfl⟩ := List.mem_iff_getElem.1 hs
  have := h j hj
  unfold partAt at this
  rw [List.getD_eq_getElem?_getD, List.getElem?_eq_getElem hj] at this
  simpa using this
theorem lg_out {l : List ByteArray} (h : lgB l = false) : ∀ s ∈ l, s.size ≤ 300 := by
  unfold lgB at h
  rw [List.any_eq_false] at h
  intro s hs
  simpa using h s hs
set_option maxHeartbeats 2000000 in
theorem long_k (b n : Nat) (l : List ByteArray) (x : Bool) (w : World) (h : IsStrs w b 0 l) (hn : l.length = n) (hl : n ≤ 1000) (hx : lgB l = x) :
    Calls Tryd.prog 9 #[.slice (some ⟨b, 0, none⟩) n n] w fun e w' => e = .returned (.bool x) ∧ w = w' := by
  have H := Lib.hid h.2
  have HX := Lib.hid hx
  have HN := Lib.hid hn
  clear h hx
  go_enter Tryd.func9, Tryd.ntmps9
  go_wp2_with fail
  go_loopw [6] (fun iv wr => ∃ i : Nat, i ≤ n ∧ iv = .int .i64 i ∧ wr = w ∧ Hid (∀ j, j < i → (partAt l j).size ≤ 300)) (fun iv _ => n - (intOf iv).toNat)
  case atStart => exact ⟨0, Nat.zero_le _, rfl, rfl, Lib.hid (fun j hj => absurd hj (Nat.not_lt_zero _))⟩
  case round =>
    obtain ⟨i, hi, rfl, rfl, HS⟩ := hrel
    by_cases hlt : i < n
    · have di : (i : Int) < (n : Int) := by omega
      have c0 := H.out i (by rw [HN.out]; exact hlt)
      rw [Nat.zero_add] at c0
      obtain ⟨u, hu⟩ : ∃ u, partAt l i = u := ⟨_, rfl⟩
      rw [hu] at c0
      have HU := Lib.hid hu
      clear hu
      by_cases h3 : 300 < u.size
      · have d3 : (300 : Int) < (u.size : Int) := by omega
        have HE := Lib.hid (HX.out.symm.trans (lg_at (by rw [HN.out]; exact hlt) (by rw [HU.out]; exact h3)))
        clear hn
        go_wp2_with fail
        go_ret
        exact ⟨by rw [HE.out]; rfl, rfl⟩
      · have d3 : ¬ (300 : Int) < (u.size : Int) := by omega
        have HS1 : Hid (∀ j, j < i + 1 → (partAt l j).size ≤ 300) := Lib.hid fun j hj => if e : j = i then by rw [e, HU.out]; omega else HS.out j (by omega)
        clear hn
        go_wp2_with fail
        go_roundw
        case rel => exact ⟨i + 1, by omega, by go_num, trivial, HS1⟩
        case measure => simp [intOf]; omega
    · have HE := Lib.hid (HX.out.symm.trans (lg_no fun j hj => HS.out j (by rw [HN.out] at hj; omega)))
      have di : ¬ (i : Int) < (n : Int) := by omega
      clear hn
      go_wp2_with fail
      go_ret
      exact ⟨by rw [HE.out]; rfl, rfl⟩
end Go.Proofs.YtbogmmdmfbcbnaaDoor
