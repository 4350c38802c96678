/-
  Contracts of CutPrefix, CutSuffix, Cut, fold.occur and fold.Match. Condition: strings of at most 1000000000 bytes, at most 1000000 parts.
-/
import Derived.Test.YtelddbgnhfhkiaaDoorFoldKind
import Derived.Test.YtelddbgnhfhkiaaDoorFoldE
import Derived.Deep.RegionHeld3
set_option linter.unusedVariables false
set_option linter.unusedSimpArgs false
set_option linter.unnecessarySimpa false
namespace Go.Proofs.YtelddbgnhfhkiaaDoor
open Go.RowKit Go.PlainAid

theorem cut_s (t p : ByteArray) (w : World) (ht : t.size ≤ 1000000000) (hm : MaxOk w) :
    Calls Tryd.prog 71 #[.string t, .string p] w fun e w' => e = .returned (.tuple #[.string (cutBef t p), .string (cutAft t p), .bool (cutOk t p)]) ∧ Below w.heap.size w w' := by
  obtain ⟨m, hm⟩ := hm
  refine (Tryd.strings_Cut t p m w (by omega) hm).mono fun e w' h => ⟨h.1, ?_⟩
  obtain ⟨n, rfl⟩ := h.2
  exact ⟨rfl, rfl, rfl, Nat.le_refl _, fun _ _ => rfl⟩
theorem cutPrefix_s (t p : ByteArray) (w : World) :
    Calls Tryd.prog 57 #[.string t, .string p] w fun e w' => e = .returned (.tuple #[.string (preCut t p), .bool (preOk t p)]) ∧ w = w' :=
  (Tryd.strings_CutPrefix t p w).mono fun _ _ h => ⟨h.1, h.2.symm⟩
theorem cutSuffix_s (t p : ByteArray) (w : World) (ht : t.size ≤ 1000000000) :
    Calls Tryd.prog 58 #[.string t, .string p] w fun e w' => e = .returned (.tuple #[.string (sufCut t p), .bool (sufOk t p)]) ∧ w = w' :=
  (Tryd.strings_CutSuffix t p w (by omega)).mono fun _ _ h => ⟨h.1, h.2.symm⟩

set_option maxRecDepth 100000 in
set_option maxHeartbeats 1000000 in
theorem occur_s (t : ByteArray) (b off cap : Nat) (ps : List ByteArray) (w : World) (ht : t.size ≤ 1000000000) (hp : ∀ p ∈ ps, p.size ≤ 1000000000) (hn : ps.length ≤ 1000000)
    (hs : IsStrs w b off ps) (hm : MaxOk w) :
    Calls Tryd.prog 59 #[.string t, .slice (some ⟨b, off, none⟩) ps.length cap] w fun e w' => e = .returned (.bool (occB t ps)) ∧ Below w.heap.size w w' := by
  have HP := Lib.hid hp; clear hp
  have hbw := hs.1
  have hmw := hm.lt
  go_enter Tryd.func59, Tryd.ntmps59
  go_wp2
  go_loopw [0, 12] (fun tv i wr => ∃ (k : Nat) (u : ByteArray), k ≤ ps.length ∧ i = .int .i64 k ∧ tv = .string u ∧ u.size ≤ 1000000000 ∧ Hid (occB t ps = occB u (ps.drop k)) ∧ Below w.heap.size w wr)
    (fun _ i _ => ps.length - (intOf i).toNat)
  case atStart => exact ⟨0, t, Nat.zero_le _, rfl, rfl, ht, Lib.hid rfl, Below.refl _ _⟩
  case round =>
    obtain ⟨k, u, hk, rfl, rfl, hu, HO, hbel⟩ := hrel
    have hsr := hs.below hbel hbw
    have hmr := hm.below hbel hmw
    by_cases hlt : k < ps.length
    · have HN := Lib.hid (occ_next u ps k hlt)
      have hcell := hsr.2 k hlt
      have hpk : (partAt ps k).size ≤ 1000000000 := by
        unfold partAt; rw [List.getD_eq_getElem?_getD, List.getElem?_eq_getElem hlt]; exact HP.out _ (List.getElem_mem hlt)
      obtain ⟨p, hpe⟩ : ∃ p, p = partAt ps k := ⟨_, rfl⟩
      rw [← hpe] at hcell hpk HN
      clear hpe
      cases c : cutOk u (lowS p)
      · have HF := Lib.hid (show occB t ps = false by rw [HO.out, HN.out, c]; rfl)
        go_wp2_with (first
          | (go_at_call 16; refine (lower_s _ _ hpk).mono ?_; rintro e w1 ⟨rfl, hb1⟩)
          | (go_at_call 71; refine (cut_s _ _ _ hu (hmr.below hb1 hmr.lt)).mono ?_; rintro e w2 ⟨rfl, hb2⟩))
        go_ret
        exact ⟨by rw [HF.out]; rfl, hbel.trans ((hb1.mono hbel.size).trans (hb2.mono (Nat.le_trans hbel.size hb1.size)))⟩
      · have HF := Lib.hid (show occB t ps = occB (cutAft u (lowS p)) (ps.drop (k + 1)) by rw [HO.out, HN.out, c]; rfl)
        have hsz := cutAft_size u (lowS p)
        go_wp2_with (first
          | (go_at_call 16; refine (lower_s _ _ hpk).mono ?_; rintro e w1 ⟨rfl, hb1⟩)
          | (go_at_call 71; refine (cut_s _ _ _ hu (hmr.below hb1 hmr.lt)).mono ?_; rintro e w2 ⟨rfl, hb2⟩))
        go_roundw
        case rel => exact ⟨k + 1, _, by omega, by go_num, rfl, by omega, HF, hbel.trans ((hb1.mono hbel.size).trans (hb2.mono (Nat.le_trans hbel.size hb1.size)))⟩
        case measure => simp [intOf]; omega
    · have HF := Lib.hid (show occB t ps = true by rw [HO.out, occ_end u ps k (by omega)])
      go_wp2
      go_ret
      exact ⟨by rw [HF.out]; rfl, hbel⟩

theorem occur_n (t : ByteArray) (b off cap n : Nat) (ps : List ByteArray) (w : World) (hl : ps.length = n) (ht : t.size ≤ 1000000000) (hp : ∀ p ∈ ps, p.size ≤ 1000000000) (hn : n ≤ 1000000)
    (hs : IsStrs w b off ps) (hm : MaxOk w) :
    Calls Tryd.prog 59 #[.string t, .slice (some ⟨b, off, none⟩) n cap] w fun e w' => e = .returned (.bool (occB t ps)) ∧ Below w.heap.size w w' := by
  subst hl
  exact occur_s t b off cap ps w ht hp hn hs hm

set_option maxRecDepth 100000 in
theorem match_short (s : ByteArray) (a : Option Addr) (n cap : Nat) (ps : List ByteArray) (w : World) (hn : n < 2) (hl : ps.length = n) :
    Calls Tryd.prog 31 #[.string s, .slice a n cap] w fun e w' => e = .returned (.bool (matchB s ps)) ∧ w = w' := by
  have HE := Lib.hid (show matchB s ps = false by unfold matchB; simp; omega)
  clear hl
  go_enter Tryd.func31, Tryd.ntmps31
  go_wp2
  go_ret
  exact ⟨by rw [HE.out]; rfl, rfl⟩

set_option maxRecDepth 100000 in
set_option maxHeartbeats 1000000 in
theorem match_s (s : ByteArray) (b off cap : Nat) (ps : List ByteArray) (w : World) (hs : s.size ≤ 1000000000) (hp : ∀ p ∈ ps, p.size ≤ 1000000000) (hn : ps.length ≤ 1000000) (hcap : ps.length ≤ cap)
    (h2 : 2 ≤ ps.length) (hst : IsStrs w b off ps) (hm : MaxOk w) :
    Calls Tryd.prog 31 #[.string s, .slice (some ⟨b, off, none⟩) ps.length cap] w fun e w' => e = .returned (.bool (matchB s ps)) ∧ Below w.heap.size w w' := by
  have hbw := hst.1
  have hc0 := hst.2 0 (by omega)
  have hsub : IntKind.i64.wrap ((ps.length : Int) - 1) = ((ps.length - 1 : Nat) : Int) := by rw [IntWalk.i64_in _ ⟨by omega, by omega⟩]; omega
  rw [Nat.add_zero] at hc0
  have hpp : ∀ j, (partAt ps j).size ≤ 1000000000 := fun j => by
    unfold partAt; rw [List.getD_eq_getElem?_getD]
    by_cases h : j < ps.length
    · rw [List.getElem?_eq_getElem h]; exact hp _ (List.getElem_mem h)
    · rw [List.getElem?_eq_none (by omega)]; show (0 : Nat) ≤ _; omega
  have hp0 := hpp 0
  have HPL := Lib.hid (hpp (ps.length - 1)); clear hpp
  have HP := Lib.hid hp; clear hp
  have HE := Lib.hid (show matchB s ps = (preOk (foldS s) (lowS (partAt ps 0)) && sufOk (restS s ps) (lowS (partAt ps (ps.length - 1))) && occB (sufCut (restS s ps) (lowS (partAt ps (ps.length - 1)))) (between ps)) by
    unfold matchB; simp [h2])
  have HR := Lib.hid (show restS s ps = preCut (foldS s) (lowS (partAt ps 0)) from rfl)
  obtain ⟨p0, hp0e⟩ : ∃ p, p = partAt ps 0 := ⟨_, rfl⟩
  rw [← hp0e] at hc0 hp0 HE HR
  clear hp0e
  have hi0 : 0 < ps.length := by omega
  have hl2 : ps.length - 1 < ps.length := by omega
  have hd2 : decide ((ps.length : Int) < 2) = false := by simp; omega
  have hl0 : (0 : Int) ≤ ((ps.length - 1 : Nat) : Int) := by omega
  have hl1 : ((ps.length - 1 : Nat) : Int) < (ps.length : Int) := by omega
  go_enter Tryd.func31, Tryd.ntmps31
  go_wp2_with fail
  go_region_held3 (fun w' => w'.cell? ⟨b, off, none⟩ = some (.string p0))
    (first | go_keep | exact cell_later (by assumption) (by assumption))
    (first | (go_at_call 20; refine (fold_s _ _ hs).mono ?_; rintro e w1 ⟨rfl, hb1⟩) | (go_at_call 16; refine (lower_s _ _ hp0).mono ?_; rintro e w2 ⟨rfl, hb2⟩) | (go_at_call 57; refine (cutPrefix_s _ _ _).mono ?_; rintro e w' ⟨rfl, rfl⟩))
  have hbel : Below w.heap.size w w2 := ((Below.refl w.heap.size w).drew).trans (hb1.trans (hb2.mono hb1.size))
  have hst2 := hst.below hbel hbw
  have hm2 := hm.below hbel hm.lt
  clear hb1 hb2
  cases c1 : preOk (foldS s) (lowS p0)
  · have HF := Lib.hid (show matchB s ps = false by rw [HE.out, c1]; rfl)
    go_wp2
    go_ret
    exact ⟨by rw [HF.out]; rfl, hbel⟩
  · have hcl := hst2.2 (ps.length - 1) (by omega)
    have HB := Lib.hid (show (restS s ps).size ≤ 1000000000 by rw [HR.out]; have h1 := preCut_size (foldS s) (lowS p0); have h3 := foldS_size s; omega)
    have hpl := HPL.out
    obtain ⟨pl, hple⟩ : ∃ p, p = partAt ps (ps.length - 1) := ⟨_, rfl⟩
    rw [← hple] at hcl hpl HE
    clear hple
    obtain ⟨r, hre⟩ : ∃ r, r = restS s ps := ⟨_, rfl⟩
    have hr : r.size ≤ 1000000000 := by rw [hre]; exact HB.out
    rw [← hre] at HR HE
    rw [← HR.out]
    clear hre
    have HM := Lib.hid (show matchB s ps = (sufOk r (lowS pl) && occB (sufCut r (lowS pl)) (between ps)) by rw [HE.out, c1, Bool.true_and])
    cases c2 : sufOk r (lowS pl)
    · have HF := Lib.hid (show matchB s ps = false by rw [HM.out, c2]; rfl)
      go_wp2_with (first | (go_at_call 16; refine (lower_s _ _ hpl).mono ?_; rintro e w3 ⟨rfl, hb3⟩) | (go_at_call 58; refine (cutSuffix_s _ _ _ hr).mono ?_; rintro e w' ⟨rfl, rfl⟩))
      go_ret
      exact ⟨by rw [HF.out]; rfl, hbel.trans (hb3.mono hbel.size)⟩
    · have HF := Lib.hid (show matchB s ps = occB (sufCut r (lowS pl)) (between ps) by rw [HM.out, c2, Bool.true_and])
      have hsz := sufCut_size r (lowS pl)
      have HQ := Lib.hid (show ∀ p ∈ between ps, p.size ≤ 1000000000 from fun p h => HP.out p (List.mem_of_mem_drop (List.mem_of_mem_take h)))
      have hlen : (between ps).length = ps.length - 1 - 1 := by rw [between_length]; omega
      have HLEN := Lib.hid hlen; clear hlen
      go_wp2_with (first | (go_at_call 16; refine (lower_s _ _ hpl).mono ?_; rintro e w3 ⟨rfl, hb3⟩) | (go_at_call 58; refine (cutSuffix_s _ _ _ hr).mono ?_; rintro e w' ⟨rfl, rfl⟩) | (go_at_call 59; refine (occur_n _ _ _ _ _ (between ps) _ HLEN.out (by omega) HQ.out (by omega) (hst2.between.below hb3 hst2.1) (hm2.below hb3 hm2.lt)).mono ?_; rintro e w4 ⟨rfl, hb4⟩))
      go_ret
      exact ⟨by rw [HF.out]; rfl, hbel.trans ((hb3.mono hbel.size).trans (hb4.mono (Nat.le_trans hbel.size hb3.size)))⟩

end Go.Proofs.YtelddbgnhfhkiaaDoor
