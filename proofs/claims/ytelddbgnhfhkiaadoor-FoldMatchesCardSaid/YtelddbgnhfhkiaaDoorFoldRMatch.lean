/-
  Contracts of the specification's occurs and Match. Condition: strings of at most 1000000000 bytes, at most 1000000 parts.
-/
import Derived.Test.YtelddbgnhfhkiaaDoorFoldFold
import Derived.Test.YtelddbgnhfhkiaaDoorFoldH
import Derived.Deep.RegionHeld3
set_option linter.unusedVariables false
set_option linter.unusedSimpArgs false
set_option linter.unnecessarySimpa false
namespace Go.Proofs.YtelddbgnhfhkiaaDoor
open Go.RowKit Go.PlainAid

theorem occurs_s (t p : ByteArray) (i : Nat) (w : World) (ht : t.size ≤ 1000000000) (hp : p.size ≤ 1000000000) (hi : i ≤ 2000000000) :
    Calls Tryd.prog 60 #[.string t, .string p, .int .i64 i] w fun e w' => e = .returned (.bool (occI t p i)) ∧ w = w' := by
  by_cases h : i + p.size ≤ t.size
  · have HE := Lib.hid (occI_raw t p i h)
    go_enter Tryd.func60, Tryd.ntmps60
    go_wp2
    go_ret
    refine ⟨?_, rfl⟩
    rw [← HE.out]
    rfl
  · have HE := Lib.hid (occI_far t p i (by omega))
    go_enter Tryd.func60, Tryd.ntmps60
    go_wp2
    go_ret
    exact ⟨by rw [HE.out]; rfl, rfl⟩

theorem occurs_0 (t p : ByteArray) (w : World) (ht : t.size ≤ 1000000000) (hp : p.size ≤ 1000000000) :
    Calls Tryd.prog 60 #[.string t, .string p, .int .i64 0] w fun e w' => e = .returned (.bool (occI t p 0)) ∧ w = w' := occurs_s t p 0 w ht hp (by omega)

set_option maxRecDepth 100000 in
theorem rMatch_short (s : ByteArray) (a : Option Addr) (n cap : Nat) (ps : List ByteArray) (w : World) (hn : n < 2) (hl : ps.length = n) :
    Calls Tryd.prog 32 #[.string s, .slice a n cap] w fun e w' => e = .returned (.bool (matchB s ps)) ∧ w = w' := by
  have HE := Lib.hid (show matchB s ps = false by unfold matchB; simp; omega)
  clear hl
  go_enter Tryd.func32, Tryd.ntmps32
  go_wp2
  go_ret
  exact ⟨by rw [HE.out]; rfl, rfl⟩

set_option maxRecDepth 100000 in
set_option maxHeartbeats 4000000 in
theorem rMatch_s (s : ByteArray) (b off cap : Nat) (ps : List ByteArray) (w : World) (hs : s.size ≤ 1000000000) (hp : ∀ p ∈ ps, p.size ≤ 1000000000) (hn : ps.length ≤ 1000000) (hcap : ps.length ≤ cap)
    (h2 : 2 ≤ ps.length) (hst : IsStrs w b off ps) :
    Calls Tryd.prog 32 #[.string s, .slice (some ⟨b, off, none⟩) ps.length cap] w fun e w' => e = .returned (.bool (matchB s ps)) ∧ Below w.heap.size w w' := by
  have hbw := hst.1
  have hB := Below.refl w.heap.size w
  have hsub : IntKind.i64.wrap ((ps.length : Int) - 1) = ((ps.length - 1 : Nat) : Int) := by rw [IntWalk.i64_in _ ⟨by omega, by omega⟩]; omega
  have hpp : ∀ j, (partAt ps j).size ≤ 1000000000 := fun j => by
    unfold partAt; rw [List.getD_eq_getElem?_getD]
    by_cases h : j < ps.length
    · rw [List.getElem?_eq_getElem h]; exact hp _ (List.getElem_mem h)
    · rw [List.getElem?_eq_none (by omega)]; show (0 : Nat) ≤ _; omega
  have hp0 := hpp 0
  have hpl := hpp (ps.length - 1)
  have HPP := Lib.hid hpp; clear hpp hp
  have HE := Lib.hid (show matchB s ps = (preOk (foldS s) (lowS (partAt ps 0)) && sufOk (preCut (foldS s) (lowS (partAt ps 0))) (lowS (partAt ps (ps.length - 1))) && occB (sufCut (preCut (foldS s) (lowS (partAt ps 0))) (lowS (partAt ps (ps.length - 1)))) (between ps)) by
    unfold matchB restS; simp [h2])
  have hz0 := lowS_size (partAt ps 0)
  have hzl := lowS_size (partAt ps (ps.length - 1))
  have hzt := foldS_size s
  obtain ⟨p0, hp0e⟩ : ∃ p, p = partAt ps 0 := ⟨_, rfl⟩
  have HC0 := Lib.hid (hst.2 0 (by omega))
  rw [← hp0e] at hp0 HE hz0 HC0
  obtain ⟨pl, hple⟩ : ∃ p, p = partAt ps (ps.length - 1) := ⟨_, rfl⟩
  have HCL := Lib.hid (hst.2 (ps.length - 1) (by omega))
  rw [← hple] at hpl HE hzl HCL
  rw [Nat.add_zero] at HC0
  clear hp0e hple
  have hi0 : 0 < ps.length := by omega
  have hl2 : ps.length - 1 < ps.length := by omega
  have hd2 : decide ((ps.length : Int) < 2) = false := by simp; omega
  have hl0 : (0 : Int) ≤ ((ps.length - 1 : Nat) : Int) := by omega
  have hl1 : ((ps.length - 1 : Nat) : Int) < (ps.length : Int) := by omega
  have hf0 : (lowS p0).size ≤ 1000000000 := by omega
  have hfl : (lowS pl).size ≤ 1000000000 := by omega
  have hft : (foldS s).size ≤ 1000000000 := by omega
  clear hz0 hzl hzt
  go_enter Tryd.func32, Tryd.ntmps32
  go_wp2_with (go_at_call 21; refine (rFold_s _ _ hs).mono ?_; rintro e w1 ⟨rfl, hb1⟩; have hc0 := cell_later hb1 HC0.out; have hcl := cell_later hb1 HCL.out)
  obtain ⟨t, ht⟩ : ∃ t, t = foldS s := ⟨_, rfl⟩
  rw [← ht] at HE hft ⊢
  have HT := Lib.hid ht; clear ht
  go_region_held3 (fun w' => w'.cell? ⟨b, off, none⟩ = some (.string p0) ∧ w'.cell? ⟨b, off + (ps.length - 1), none⟩ = some (.string pl))
    (first | go_keep | exact ⟨cell_later (W := w1.drew) hbl hc0, cell_later (W := w1.drew) hbl hcl⟩ | exact ⟨cell_later hbk (cell_later (W := w1.drew) hbl hc0), cell_later hbk (cell_later (W := w1.drew) hbl hcl)⟩ | exact ⟨cell_later (W := w1.drew) hbk hc0, cell_later (W := w1.drew) hbk hcl⟩ | exact ⟨cell_later hbl (cell_later (W := w1.drew) hbk hc0), cell_later hbl (cell_later (W := w1.drew) hbk hcl)⟩)
    (first | (go_at_call 17; (with_reducible refine (rLower_s p0 _ hp0).mono ?_); rintro e wl ⟨rfl, hbl⟩) | (go_at_call 17; (with_reducible refine (rLower_s pl _ hpl).mono ?_); rintro e wk ⟨rfl, hbk⟩))
  have hB : Below w.heap.size w wk := (hb1.drew).trans ((hbl.mono hb1.size).trans (hbk.mono (Nat.le_trans hb1.size hbl.size)))
  have hst' := hst.below hB hbw
  clear hst'
  clear hbl hbk hb1 hc0 hcl HC0 HCL hp0 hpl hl0 hl1 hl2 hsub hs HT
  obtain ⟨f, hf⟩ : ∃ f, f = lowS p0 := ⟨_, rfl⟩
  obtain ⟨l, hl⟩ : ∃ l, l = lowS pl := ⟨_, rfl⟩
  rw [← hf, ← hl] at HE
  rw [← hf] at hf0 ⊢
  rw [← hl] at hfl ⊢
  clear hf hl
  cases c1 : occI t f 0
  · have HF := Lib.hid (show matchB s ps = false by rw [HE.out, pre_occ, c1]; rfl)
    go_wp2_with (go_at_call 60; refine (occurs_0 _ _ _ hft hf0).mono ?_; rintro e w' ⟨rfl, rfl⟩)
    go_ret
    exact ⟨by rw [HF.out]; rfl, hB⟩
  · by_cases hlen : t.size < f.size + l.size
    · have HF := Lib.hid (show matchB s ps = false by rw [HE.out, suf_short t f l c1 hlen]; simp)
      go_wp2_with (go_at_call 60; refine (occurs_0 _ _ _ hft hf0).mono ?_; rintro e w' ⟨rfl, rfl⟩)
      go_ret
      exact ⟨by rw [HF.out]; rfl, hB⟩
    · obtain ⟨e, he⟩ : ∃ e, e = t.size - l.size := ⟨_, rfl⟩
      have hsub2 : IntKind.i64.wrap ((t.size : Int) - (l.size : Int)) = ((e : Nat) : Int) := by rw [IntWalk.i64_in _ ⟨by omega, by omega⟩]; omega
      have he1 : e ≤ t.size := by omega
      have he2 : f.size ≤ e := by omega
      have HX := Lib.hid he; clear he
      have hd3 : decide (e < f.size) = false := by simp; omega
      cases c2 : occI t l e
      · have HF := Lib.hid (show matchB s ps = false by rw [HE.out, suf_occ t f l c1 (by omega), ← HX.out, c2]; simp)
        go_wp2_with (first | (go_at_call 60; (with_reducible refine (occurs_0 t f _ hft hf0).mono ?_); rintro e w' ⟨rfl, rfl⟩) | (go_at_call 60; (with_reducible refine (occurs_s t l e _ hft hfl (by omega)).mono ?_); rintro e w' ⟨rfl, rfl⟩))
        go_ret
        exact ⟨by rw [HF.out]; rfl, hB⟩
      · have HM := Lib.hid (show matchB s ps = occB (segS t e f.size) (between ps) by
          rw [HE.out, suf_occ t f l c1 (by omega), ← HX.out, c2, pre_occ, c1, suf_cut t f l c1 (by omega) (by rw [← HX.out]; exact c2), ← HX.out]; rfl)
        go_wp2_with (first | (go_at_call 60; (with_reducible refine (occurs_0 t f _ hft hf0).mono ?_); rintro e w' ⟨rfl, rfl⟩) | (go_at_call 60; (with_reducible refine (occurs_s t l e _ hft hfl (by omega)).mono ?_); rintro e w' ⟨rfl, rfl⟩))
        clear HE hsub2 hlen HX
        clear hf0 hfl c1 c2 hd2
        go_loopw [9, 10] (fun av iv wr => ∃ k a : Nat, 1 ≤ k ∧ k + 1 ≤ ps.length ∧ iv = .int .i64 k ∧ av = .int .i64 a ∧ a ≤ e ∧ Hid (matchB s ps = occB (segS t e a) ((between ps).drop (k - 1))) ∧ Below w.heap.size w wr)
          (fun _ iv _ => ps.length - (intOf iv).toNat)
        case atStart => exact ⟨1, f.size, by omega, by omega, rfl, rfl, he2, by rw [Nat.sub_self, List.drop_zero]; exact HM, hB⟩
        case round =>
          obtain ⟨k, a, hk1, hk2, rfl, rfl, ha, HO, hbel⟩ := hrel
          have hstr := hst.below hbel hbw
          clear HM
          by_cases hlt : k + 1 < ps.length
          · have hin : k - 1 < (between ps).length := by rw [between_length]; omega
            have HN := Lib.hid (occ_next (segS t e a) (between ps) (k - 1) hin)
            have hpk := HPP.out k
            have hpe : partAt (between ps) (k - 1) = partAt ps k := by rw [between_at ps (k - 1) (by omega)]; congr 1; omega
            rw [hpe] at HN
            have hcell := hstr.2 k (by omega)
            have hkk : k < ps.length := by omega
            obtain ⟨pk, hpke⟩ : ∃ p, p = partAt ps k := ⟨_, rfl⟩
            have hzk := lowS_size (partAt ps k)
            rw [← hpke] at hcell hpk HN hzk
            obtain ⟨q, hq⟩ : ∃ q, q = lowS pk := ⟨_, rfl⟩
            have hqs : q.size ≤ 1000000000 := by rw [hq]; omega
            have HQ := Lib.hid hq
            rw [← hq] at HN
            clear hq hzk hpke hpe hin
            go_wp2_with (go_at_call 17; refine (rLower_s _ _ hpk).mono ?_; rintro e' wl ⟨rfl, hbl⟩)
            rw [← HQ.out]
            have hbel2 : Below w.heap.size w wl := hbel.trans (hbl.mono hbel.size)
            clear hbl hcell hstr hbel hst HQ
            go_loop [9] (fun av => ∃ i : Nat, a ≤ i ∧ i ≤ e + 1 ∧ av = .int .i64 i ∧ Hid (∀ j, a ≤ j → j < i → occI t q j = false)) (fun av => e + 1 - (intOf av).toNat)
            case atStart => exact ⟨a, Nat.le_refl _, by omega, rfl, Lib.hid fun j h1 h2 => absurd h1 (by omega)⟩
            case round =>
              obtain ⟨i, hi1, hi2, rfl, HI⟩ := hrel
              by_cases hroom : i + q.size ≤ e
              · cases c : occI t q i
                · have HI2 := Lib.hid (show ∀ j, a ≤ j → j < i + 1 → occI t q j = false from fun j h1 h2 => by
                    by_cases e' : j = i
                    · rw [e']; exact c
                    · exact HI.out j h1 (by omega))
                  go_wp2_with (go_at_call 60; (with_reducible refine (occurs_s t q i _ hft hqs (by omega)).mono ?_); rintro e' w' ⟨rfl, rfl⟩)
                  go_round
                  case rel => exact ⟨i + 1, by omega, by omega, by go_num, HI2⟩
                  case measure => simp [intOf]; omega
                · have HS := Lib.hid (scan_hit t q e a i he1 hi1 hroom c HI.out)
                  have HF := Lib.hid (show matchB s ps = occB (segS t e (i + q.size)) ((between ps).drop (k + 1 - 1)) by
                    rw [HO.out, HN.out, HS.out.1, HS.out.2, Bool.true_and]; congr 2; omega)
                  go_wp2_with (go_at_call 60; (with_reducible refine (occurs_s t q i _ hft hqs (by omega)).mono ?_); rintro e' w' ⟨rfl, rfl⟩)
                  go_roundw
                  case rel => exact ⟨k + 1, i + q.size, by omega, by omega, by go_num, by go_num, by omega, HF, hbel2⟩
                  case measure => simp [intOf]; omega
              · have HS := Lib.hid (scan_miss t q e a i he1 ha (by omega) HI.out)
                have HF := Lib.hid (show matchB s ps = false by rw [HO.out, HN.out, HS.out]; rfl)
                go_wp2
                go_ret
                exact ⟨by rw [HF.out]; rfl, hbel2⟩
          · have HF := Lib.hid (show matchB s ps = true by rw [HO.out, occ_end _ _ _ (by rw [between_length]; omega)])
            go_wp2
            go_ret
            exact ⟨by rw [HF.out]; rfl, hbel⟩

end Go.Proofs.YtelddbgnhfhkiaaDoor
