/-
  Proved: identitylaw24.KeysTexts returns true for all arguments (the tied card). No condition beyond the row's own.
-/
import Derived.Deep.RegionHeld3
import Derived.Test.YtgepcbggkfjlgaaGreatDoorM16

section
/-
  Proved: identitylaw24.KeysTexts returns true for all arguments (the tied card). No condition beyond the row's own.
-/
set_option linter.unusedVariables false
set_option linter.unusedSimpArgs false
set_option linter.unnecessarySimpa false
namespace Go.Proofs.YtgepcbggkfjlgaaGreatDoor
open Go.ChangeShapes Go.WideShapes Go.ChangeAt Go.RowKit Go.PlainAid
open Go.ChangeMaps (open_string shut_string)

theorem word_small {s : ByteArray} (h : wordB s = true) : s.size ≤ 1000000 := by
  unfold wordB at h
  simp only [Bool.and_eq_true, decide_eq_true_eq] at h
  omega
theorem clean_small {s : ByteArray} (h : cleanB s = true) : s.size ≤ 1000000 := by
  unfold cleanB at h
  simp only [Bool.and_eq_true, decide_eq_true_eq] at h
  omega
set_option maxRecDepth 100000 in
set_option maxHeartbeats 16000000 in
theorem ktexts_s (l : Option Addr) (ln lc : Nat) (ll : List Ky) (ss : ByteArray) (w : World) (hl : KsAt w l ln lc ll) (il : ∀ g ∈ ll, InK g) (ho : WK w) :
    Calls Tryz.prog 8 #[.slice l ln lc, .string ss] w fun e w' => e = .returned (.bool true) ∧ Below w.heap.size w w' := by
  have HO := Lib.hid ho
  have HK := Lib.hid hl
  have HB := Lib.hid (Below.refl w.heap.size w)
  have hlc := hl.2.1
  have hlm := hl.2.2.1
  unfold maxLen at hlm
  have HLn := Lib.hid hl.1
  clear ho
  cases hg : greatB ll 20
  · by_cases h1 : 600 < ss.size
    · have HG := Lib.hid hg
      have d1 : (600 : Int) < (ss.size : Int) := by omega
      clear hg hl h1
      go_enter Tryz.func8, Tryz.ntmps8
      go_wp2_with fail
      refine (great_k l ln lc ll 20 false _ HK.out HG.out).mono ?_
      rintro e w' ⟨rfl, rfl⟩
      go_wp2_with fail
      refine (live_s _ (HO.out.below HB.out)).mono ?_
      rintro e wc1 ⟨rfl, hb⟩
      have HB := Lib.hid (HB.out.trans (hb.mono HB.out.size))
      have HK := Lib.hid (HK.out.below hb)
      clear hb
      go_wp2_with fail
      go_ret
      exact ⟨rfl, HB.out⟩
    · have d1 : ¬ (600 : Int) < (ss.size : Int) := by omega
      have HS := Lib.hid (show ∀ k ∈ ll, k.id.size ≤ 1000000 ∧ k.sec.size ≤ 1000000 from fun k hk => ⟨Nat.le_trans ((great_no hg).2 k hk).1 (by omega), Nat.le_trans ((great_no hg).2 k hk).2 (by omega)⟩)
      have HG := Lib.hid hg
      obtain ⟨⟨t, e⟩, ht⟩ : ∃ p, txtK ll = p := ⟨_, rfl⟩
      obtain ⟨⟨m, i, g⟩, hp⟩ : ∃ p, parK ss = p := ⟨_, rfl⟩
      have HT := Lib.hid ht
      have HP := Lib.hid hp
      have hss : ss.size ≤ 1000000 := by omega
      have hts : t.size ≤ 1000000 := by
        unfold txtK at ht
        split at ht
        · rw [← (Prod.mk.inj ht).1]; exact Nat.zero_le _
        · split at ht
          · rw [← (Prod.mk.inj ht).1]; exact Nat.zero_le _
          · next h => rw [← (Prod.mk.inj ht).1]; show (txL ll).length ≤ _; omega
      have e1 := bne_s t
      have e2 := bne_i e
      have e3 := bne_i i
      have e4 := bne_i g
      clear ht hp hg hl h1
      cases qg : (g == 0)
      · have hgn : ¬ g = 0 := by simpa using qg
        cases qe : (e != 0)
        · have he0 : e = 0 := by simpa using qe
          subst he0
          have HB2 := Lib.hid (text_par HT.out)
          clear qg qe e2
          go_enter Tryz.func8, Tryz.ntmps8
          go_wp2_with fail
          refine (great_k l ln lc ll 20 false _ HK.out HG.out).mono ?_
          rintro e w' ⟨rfl, rfl⟩
          go_wp2_with fail
          refine (text_k l ln lc ll t 0 _ HK.out HS.out (HO.out.below HB.out).io HT.out).mono ?_
          rintro e wc2 ⟨rfl, hb⟩
          have HB := Lib.hid (HB.out.trans (hb.mono HB.out.size))
          have HK := Lib.hid (HK.out.below hb)
          clear hb
          go_wp2_with fail
          refine (rtext_k l ln lc ll t 0 _ HK.out HS.out HT.out).mono ?_
          rintro e wc3 ⟨rfl, hb⟩
          have HB := Lib.hid (HB.out.trans (hb.mono HB.out.size))
          have HK := Lib.hid (HK.out.below hb)
          clear hb
          go_wp2_with fail
          refine (parse_k ss m i g _ hss (HO.out.below HB.out).io (HO.out.below HB.out).mx (HO.out.below HB.out).mx.lt HP.out).mono ?_
          rintro e wc4 ⟨mo, mc, rfl, hm, hb⟩
          have HB := Lib.hid (HB.out.trans (hb.mono HB.out.size))
          have HK := Lib.hid (HK.out.below hb)
          have HM := Lib.hid hm
          have hm1 := hm.2.1
          have hm2 := hm.2.2.1
          unfold maxLen at hm2
          clear hm
          clear hb
          go_wp2_with fail
          refine (rparse_k ss m i g _ hss HP.out).mono ?_
          rintro e wc5 ⟨no, nc, rfl, hm, hb⟩
          have HB := Lib.hid (HB.out.trans (hb.mono HB.out.size))
          have HK := Lib.hid (HK.out.below hb)
          have HM := Lib.hid (HM.out.below hb)
          have HN := Lib.hid hm
          have hn1 := hm.2.1
          have hn2 := hm.2.2.1
          unfold maxLen at hn2
          clear hm
          clear hb
          go_wp2_with fail
          refine (same_k mo _ mc m no _ nc m true _ HM.out HN.out (decide_eq_true rfl)).mono ?_
          rintro e wc6 ⟨rfl, hb⟩
          have HB := Lib.hid (HB.out.trans (hb.mono HB.out.size))
          have HK := Lib.hid (HK.out.below hb)
          have HM := Lib.hid (HM.out.below hb)
          clear hb
          go_wp2_with fail
          refine (live_s _ (HO.out.below HB.out)).mono ?_
          rintro e wc7 ⟨rfl, hb⟩
          have HB := Lib.hid (HB.out.trans (hb.mono HB.out.size))
          have HK := Lib.hid (HK.out.below hb)
          have HM := Lib.hid (HM.out.below hb)
          clear hb
          go_wp2_with fail
          refine (parse_k t ll 0 0 _ hts (HO.out.below HB.out).io (HO.out.below HB.out).mx (HO.out.below HB.out).mx.lt HB2.out).mono ?_
          rintro e wc8 ⟨qo, qc, rfl, hm, hb⟩
          have HB := Lib.hid (HB.out.trans (hb.mono HB.out.size))
          have HK := Lib.hid (HK.out.below hb)
          have HM := Lib.hid (HM.out.below hb)
          have HQ := Lib.hid hm
          have hq1 := hm.2.1
          have hq2 := hm.2.2.1
          unfold maxLen at hq2
          clear hm
          clear hb
          go_wp2_with fail
          refine (same_k qo ll.length qc ll l ln lc ll true _ (HQ.out) HK.out (decide_eq_true rfl)).mono ?_
          rintro e wc9 ⟨rfl, hb⟩
          have HB := Lib.hid (HB.out.trans (hb.mono HB.out.size))
          have HK := Lib.hid (HK.out.below hb)
          have HM := Lib.hid (HM.out.below hb)
          clear hb
          go_wp2_with fail
          go_ret
          exact ⟨rfl, HB.out⟩
        · have hen : ¬ e = 0 := by simpa using qe
          clear qg
          go_enter Tryz.func8, Tryz.ntmps8
          go_wp2_with fail
          refine (great_k l ln lc ll 20 false _ HK.out HG.out).mono ?_
          rintro e w' ⟨rfl, rfl⟩
          go_wp2_with fail
          refine (text_k l ln lc ll t e _ HK.out HS.out (HO.out.below HB.out).io HT.out).mono ?_
          rintro e wc10 ⟨rfl, hb⟩
          have HB := Lib.hid (HB.out.trans (hb.mono HB.out.size))
          have HK := Lib.hid (HK.out.below hb)
          clear hb
          go_wp2_with fail
          refine (rtext_k l ln lc ll t e _ HK.out HS.out HT.out).mono ?_
          rintro e wc11 ⟨rfl, hb⟩
          have HB := Lib.hid (HB.out.trans (hb.mono HB.out.size))
          have HK := Lib.hid (HK.out.below hb)
          clear hb
          go_wp2_with fail
          refine (parse_k ss m i g _ hss (HO.out.below HB.out).io (HO.out.below HB.out).mx (HO.out.below HB.out).mx.lt HP.out).mono ?_
          rintro e wc12 ⟨mo, mc, rfl, hm, hb⟩
          have HB := Lib.hid (HB.out.trans (hb.mono HB.out.size))
          have HK := Lib.hid (HK.out.below hb)
          have HM := Lib.hid hm
          have hm1 := hm.2.1
          have hm2 := hm.2.2.1
          unfold maxLen at hm2
          clear hm
          clear hb
          go_wp2_with fail
          refine (rparse_k ss m i g _ hss HP.out).mono ?_
          rintro e wc13 ⟨no, nc, rfl, hm, hb⟩
          have HB := Lib.hid (HB.out.trans (hb.mono HB.out.size))
          have HK := Lib.hid (HK.out.below hb)
          have HM := Lib.hid (HM.out.below hb)
          have HN := Lib.hid hm
          have hn1 := hm.2.1
          have hn2 := hm.2.2.1
          unfold maxLen at hn2
          clear hm
          clear hb
          go_wp2_with fail
          refine (same_k mo _ mc m no _ nc m true _ HM.out HN.out (decide_eq_true rfl)).mono ?_
          rintro e wc14 ⟨rfl, hb⟩
          have HB := Lib.hid (HB.out.trans (hb.mono HB.out.size))
          have HK := Lib.hid (HK.out.below hb)
          have HM := Lib.hid (HM.out.below hb)
          clear hb
          go_wp2_with fail
          refine (live_s _ (HO.out.below HB.out)).mono ?_
          rintro e wc15 ⟨rfl, hb⟩
          have HB := Lib.hid (HB.out.trans (hb.mono HB.out.size))
          have HK := Lib.hid (HK.out.below hb)
          have HM := Lib.hid (HM.out.below hb)
          clear hb
          go_wp2_with fail
          go_ret
          exact ⟨rfl, HB.out⟩
      · have hg0 : g = 0 := by simpa using qg
        subst hg0
        have HB1 := Lib.hid (par_text_back HP.out)
        have HMs : Hid (∀ k ∈ m, k.id.size ≤ 1000000 ∧ k.sec.size ≤ 1000000) := Lib.hid (by
          have hk := okK_of (show chkK m = 0 by
            have := HB1.out
            unfold txtK at this
            split at this
            · next q => exact absurd (Prod.mk.inj this).2 q
            · next q => exact Classical.not_not.1 q)
          intro k hk2
          exact ⟨word_small (hk.word k hk2), clean_small (hk.cln k hk2)⟩)
        have e5 := bne_s ss
        clear qg e4
        cases qe : (e != 0)
        · have he0 : e = 0 := by simpa using qe
          subst he0
          have HB2 := Lib.hid (text_par HT.out)
          clear qe e2
          go_enter Tryz.func8, Tryz.ntmps8
          go_wp2_with fail
          refine (great_k l ln lc ll 20 false _ HK.out HG.out).mono ?_
          rintro e w' ⟨rfl, rfl⟩
          go_wp2_with fail
          refine (text_k l ln lc ll t 0 _ HK.out HS.out (HO.out.below HB.out).io HT.out).mono ?_
          rintro e wc16 ⟨rfl, hb⟩
          have HB := Lib.hid (HB.out.trans (hb.mono HB.out.size))
          have HK := Lib.hid (HK.out.below hb)
          clear hb
          go_wp2_with fail
          refine (rtext_k l ln lc ll t 0 _ HK.out HS.out HT.out).mono ?_
          rintro e wc17 ⟨rfl, hb⟩
          have HB := Lib.hid (HB.out.trans (hb.mono HB.out.size))
          have HK := Lib.hid (HK.out.below hb)
          clear hb
          go_wp2_with fail
          refine (parse_k ss m i 0 _ hss (HO.out.below HB.out).io (HO.out.below HB.out).mx (HO.out.below HB.out).mx.lt HP.out).mono ?_
          rintro e wc18 ⟨mo, mc, rfl, hm, hb⟩
          have HB := Lib.hid (HB.out.trans (hb.mono HB.out.size))
          have HK := Lib.hid (HK.out.below hb)
          have HM := Lib.hid hm
          have hm1 := hm.2.1
          have hm2 := hm.2.2.1
          unfold maxLen at hm2
          clear hm
          clear hb
          go_wp2_with fail
          refine (rparse_k ss m i 0 _ hss HP.out).mono ?_
          rintro e wc19 ⟨no, nc, rfl, hm, hb⟩
          have HB := Lib.hid (HB.out.trans (hb.mono HB.out.size))
          have HK := Lib.hid (HK.out.below hb)
          have HM := Lib.hid (HM.out.below hb)
          have HN := Lib.hid hm
          have hn1 := hm.2.1
          have hn2 := hm.2.2.1
          unfold maxLen at hn2
          clear hm
          clear hb
          go_wp2_with fail
          refine (same_k mo _ mc m no _ nc m true _ HM.out HN.out (decide_eq_true rfl)).mono ?_
          rintro e wc20 ⟨rfl, hb⟩
          have HB := Lib.hid (HB.out.trans (hb.mono HB.out.size))
          have HK := Lib.hid (HK.out.below hb)
          have HM := Lib.hid (HM.out.below hb)
          clear hb
          go_wp2_with fail
          refine (live_s _ (HO.out.below HB.out)).mono ?_
          rintro e wc21 ⟨rfl, hb⟩
          have HB := Lib.hid (HB.out.trans (hb.mono HB.out.size))
          have HK := Lib.hid (HK.out.below hb)
          have HM := Lib.hid (HM.out.below hb)
          clear hb
          go_wp2_with fail
          refine (text_k mo m.length mc m ss 0 _ HM.out HMs.out (HO.out.below HB.out).io HB1.out).mono ?_
          rintro e wc22 ⟨rfl, hb⟩
          have HB := Lib.hid (HB.out.trans (hb.mono HB.out.size))
          have HK := Lib.hid (HK.out.below hb)
          have HM := Lib.hid (HM.out.below hb)
          clear hb
          go_wp2_with fail
          refine (parse_k t ll 0 0 _ hts (HO.out.below HB.out).io (HO.out.below HB.out).mx (HO.out.below HB.out).mx.lt HB2.out).mono ?_
          rintro e wc23 ⟨qo, qc, rfl, hm, hb⟩
          have HB := Lib.hid (HB.out.trans (hb.mono HB.out.size))
          have HK := Lib.hid (HK.out.below hb)
          have HM := Lib.hid (HM.out.below hb)
          have HQ := Lib.hid hm
          have hq1 := hm.2.1
          have hq2 := hm.2.2.1
          unfold maxLen at hq2
          clear hm
          clear hb
          go_wp2_with fail
          refine (same_k qo ll.length qc ll l ln lc ll true _ (HQ.out) HK.out (decide_eq_true rfl)).mono ?_
          rintro e wc24 ⟨rfl, hb⟩
          have HB := Lib.hid (HB.out.trans (hb.mono HB.out.size))
          have HK := Lib.hid (HK.out.below hb)
          have HM := Lib.hid (HM.out.below hb)
          clear hb
          go_wp2_with fail
          go_ret
          exact ⟨rfl, HB.out⟩
        · have hen : ¬ e = 0 := by simpa using qe
          go_enter Tryz.func8, Tryz.ntmps8
          go_wp2_with fail
          refine (great_k l ln lc ll 20 false _ HK.out HG.out).mono ?_
          rintro e w' ⟨rfl, rfl⟩
          go_wp2_with fail
          refine (text_k l ln lc ll t e _ HK.out HS.out (HO.out.below HB.out).io HT.out).mono ?_
          rintro e wc25 ⟨rfl, hb⟩
          have HB := Lib.hid (HB.out.trans (hb.mono HB.out.size))
          have HK := Lib.hid (HK.out.below hb)
          clear hb
          go_wp2_with fail
          refine (rtext_k l ln lc ll t e _ HK.out HS.out HT.out).mono ?_
          rintro e wc26 ⟨rfl, hb⟩
          have HB := Lib.hid (HB.out.trans (hb.mono HB.out.size))
          have HK := Lib.hid (HK.out.below hb)
          clear hb
          go_wp2_with fail
          refine (parse_k ss m i 0 _ hss (HO.out.below HB.out).io (HO.out.below HB.out).mx (HO.out.below HB.out).mx.lt HP.out).mono ?_
          rintro e wc27 ⟨mo, mc, rfl, hm, hb⟩
          have HB := Lib.hid (HB.out.trans (hb.mono HB.out.size))
          have HK := Lib.hid (HK.out.below hb)
          have HM := Lib.hid hm
          have hm1 := hm.2.1
          have hm2 := hm.2.2.1
          unfold maxLen at hm2
          clear hm
          clear hb
          go_wp2_with fail
          refine (rparse_k ss m i 0 _ hss HP.out).mono ?_
          rintro e wc28 ⟨no, nc, rfl, hm, hb⟩
          have HB := Lib.hid (HB.out.trans (hb.mono HB.out.size))
          have HK := Lib.hid (HK.out.below hb)
          have HM := Lib.hid (HM.out.below hb)
          have HN := Lib.hid hm
          have hn1 := hm.2.1
          have hn2 := hm.2.2.1
          unfold maxLen at hn2
          clear hm
          clear hb
          go_wp2_with fail
          refine (same_k mo _ mc m no _ nc m true _ HM.out HN.out (decide_eq_true rfl)).mono ?_
          rintro e wc29 ⟨rfl, hb⟩
          have HB := Lib.hid (HB.out.trans (hb.mono HB.out.size))
          have HK := Lib.hid (HK.out.below hb)
          have HM := Lib.hid (HM.out.below hb)
          clear hb
          go_wp2_with fail
          refine (live_s _ (HO.out.below HB.out)).mono ?_
          rintro e wc30 ⟨rfl, hb⟩
          have HB := Lib.hid (HB.out.trans (hb.mono HB.out.size))
          have HK := Lib.hid (HK.out.below hb)
          have HM := Lib.hid (HM.out.below hb)
          clear hb
          go_wp2_with fail
          refine (text_k mo m.length mc m ss 0 _ HM.out HMs.out (HO.out.below HB.out).io HB1.out).mono ?_
          rintro e wc31 ⟨rfl, hb⟩
          have HB := Lib.hid (HB.out.trans (hb.mono HB.out.size))
          have HK := Lib.hid (HK.out.below hb)
          have HM := Lib.hid (HM.out.below hb)
          clear hb
          go_wp2_with fail
          go_ret
          exact ⟨rfl, HB.out⟩
  · have HG := Lib.hid hg
    clear hg hl
    go_enter Tryz.func8, Tryz.ntmps8
    go_wp2_with fail
    refine (great_k l ln lc ll 20 true _ HK.out HG.out).mono ?_
    rintro e w' ⟨rfl, rfl⟩
    go_wp2_with fail
    refine (live_s _ (HO.out.below HB.out)).mono ?_
    rintro e wc32 ⟨rfl, hb⟩
    have HB := Lib.hid (HB.out.trans (hb.mono HB.out.size))
    have HK := Lib.hid (HK.out.below hb)
    clear hb
    go_wp2_with fail
    go_ret
    exact ⟨rfl, HB.out⟩

theorem ktexts_types : ∀ t ∈ [22, 9], Tryz.prog.readableRec t = true ∧ t < Tryz.prog.types.size := by
  have h : ([22, 9].all fun t => Tryz.prog.readableRec t && decide (t < Tryz.prog.types.size)) = true := by kernel_rfl
  intro t ht
  have := List.all_eq_true.1 h t ht
  simpa using this

set_option maxRecDepth 100000 in
theorem ktexts_contract (H : Type) (enc : TypeId × Value → H) (W : World) (base : Nat) (args : Array Value) (ds gs : List (DataW H)) (before : List MemPlace)
    (hval : ∀ (j : Nat) t v, Tryz.f8.params[j]? = some t → args[j]? = some v → Value.okWide Tryz.prog W .any base t v)
    (hW : DataW.Whole enc Tryz.prog Tryz.f8.params.toList Rows.keysTextsSpec.vars false W args.toList ds gs before) (hL : laidMetH Tryz.prog Rows.keysTextsRow.laid W) (hsh : W.ShapedOpen Tryz.prog) :
    Calls Tryz.prog 8 args W fun e W' => ∃ v, e = .returned v ∧ Rows.keysTextsSpec.post enc Tryz.prog Tryz.f8 false true false false W args v W' := by
  have hW' := hW
  obtain ⟨p, q, hA0, hV, rfl, hfz, hnd⟩ := hW
  have hA : DataW.TrodAll enc Tryz.prog W 0 (fun _ => true) true Tryz.f8.params.toList args.toList ds p := hA0
  obtain ⟨rfl, rfl⟩ := trodVars_none hV
  simp only [List.append_nil] at hW'
  have hlt : ∀ x ∈ p, x.block < W.heap.size := fun x hx => by simpa using hW'.lt x hx
  have fin : ∀ W', Below W.heap.size W W' → DataW.TrodAll enc Tryz.prog W' 0 (fun b => decide (b < W.heap.size)) true [22, 9] args.toList ds p := fun W' hb => by
    rw [Tryz.params8] at hA
    exact trodAll_below hb _ _ _ _ ktexts_types hA hlt
  clear hA0
  rw [Tryz.params8] at hA hval
  obtain ⟨v0, vs0, d0, ds0, p0, q0, hargs, rfl, hp0, h0, r0⟩ := trodAll_cons hA
  obtain ⟨v1, vs1, d1, ds1, p1, q1, rfl, rfl, hp1, h1, r1⟩ := trodAll_cons r0
  obtain ⟨rfl, rfl, rfl⟩ := trodAll_nil r1
  obtain rfl : args = #[v0, v1] := by cases args; simp_all
  obtain ⟨l, ln, lc, ll, rfl, hs0, hi0⟩ := open_ks (hval 0 22 v0 rfl rfl) h0
  obtain ⟨ss, rfl, rfl, rfl, hs1⟩ := open_string Tryz.underlying9 (hval 1 9 v1 rfl rfl) h1
  refine (ktexts_s l ln lc ll ss W hs0 hi0 (wk_of hL hsh)).mono fun e W' ⟨he, hb⟩ => ?_
  subst he
  exact ⟨_, rfl, _, _, _, [], p, [], hW', trodAll_mk1 (shut_bool Tryz.underlying4 _), fin W' hb, rfl, hb.frame _, fun h => by cases h⟩

set_option maxRecDepth 100000 in
theorem ktexts_lifted (os : Os) (started : os.Started) (H : Type) (enc : TypeId × Value → H) (F : Stop.Interp) :
    ReturnsInHanded {} Tryz.checked os 8 .any ((OpenSpec.ofChange Rows.keysTextsSpec).preRow enc Tryz.prog Tryz.f8 Rows.keysTextsRow.domain false Rows.keysTextsRow.laid) (((OpenSpec.ofChange Rows.keysTextsSpec).at F).post enc Tryz.prog Tryz.f8 false true false false) := by
  refine returnsInHanded_of_row (C := Tryz.checked) (s := OpenSpec.ofChange Rows.keysTextsSpec) own started (by kernel_rfl) Tryz.func8
    (witness_row (enc := enc) (C := Tryz.checked) false (World.laidAll Tryz.prog os Rows.keysTextsRow.laid) #[.slice none 0 0, .string ⟨#[]⟩] (World.laidAll_os _ _ _)
      (World.shaped_of_ZipB (by kernel_rfl) (by kernel_rfl)) (by kernel_rfl)
      (OpenSpec.preRow_of_cond 8 (x := ([.nil, .lit (.string [])], [], [])) (by kernel_rfl) (by kernel_rfl) (fun k hk => by cases hk) (by kernel_rfl)
        (by rw [MakeChecks.laidMetH_plain _ _ _ (by kernel_rfl)]; exact laidMet_laidAll _ (by kernel_rfl) (by kernel_rfl)))) ?_
  intro W base args ds gs before hval hW _ _ _ hL hsh _
  exact ktexts_contract H enc W base args ds gs before hval hW hL hsh

set_option maxRecDepth 100000 in
theorem ktexts_said : Rows.KeysTextsSaid :=
  OpenClaim.holds_of_cond 8 Tryz.f8 rfl rfl rfl rfl rfl rfl rfl ⟨rfl, rfl, rfl, rfl, rfl⟩ rfl rfl rfl rfl rfl (by kernel_rfl) Tryz.func8 (by kernel_rfl)
    (of_decide_eq_true (by kernel_rfl)) (by unfold Func.isWrapper; first | (rw [if_pos (by decide +kernel)]; kernel_rfl) | (rw [if_neg (by decide +kernel)]; exact ⟨rfl, rfl⟩))
    (fun os started H enc _ F => by rw [OpenClaim.pre_eq_preRow]; exact ktexts_lifted os started H enc F)

set_option maxRecDepth 100000 in
theorem ktexts_plain (f : FuncId) (fn : Func) (hf : Tryz.pinned.checked.prog.funcNamed "identity/identitylaw24.KeysTexts" = some f) (hfn : Tryz.pinned.checked.prog.funcs[f]? = some fn) :
    true = Tryz.pinned.checked.prog.looks [] ∧ ∀ (j : Nat) t, fn.params[j]? = some t → Tryz.pinned.checked.prog.wantsStandIn t = false := by
  obtain rfl : f = 8 := Option.some.inj ((show Tryz.prog.funcNamed "identity/identitylaw24.KeysTexts" = some 8 by kernel_rfl).symm.trans hf) |>.symm
  obtain rfl : fn = Tryz.f8 := (Option.some.inj (Tryz.func8.symm.trans hfn)).symm
  refine ⟨by kernel_rfl, fun j t ht => ?_⟩
  rw [Tryz.params8] at ht
  have hm : t ∈ [22, 9] := by simpa using Array.mem_of_getElem? ht
  have hall : ([22, 9].all fun u => !Tryz.prog.wantsStandIn u) = true := by kernel_rfl
  exact (show Tryz.prog.wantsStandIn t = false by simpa using List.all_eq_true.1 hall t hm)

/-- THE CARD -/
theorem ktexts_card : Rows.KeysTextsCardSaid :=
  Claim7.holds_tied_plain_at .later [] _ _ _ _ ktexts_said (fun _ h => by cases h) (by kernel_rfl) (fun _ h => by cases h) keysTexts_row_tie rfl ⟨rfl, rfl⟩ (by kernel_rfl) rfl ktexts_plain (by kernel_rfl)
end Go.Proofs.YtgepcbggkfjlgaaGreatDoor
end
