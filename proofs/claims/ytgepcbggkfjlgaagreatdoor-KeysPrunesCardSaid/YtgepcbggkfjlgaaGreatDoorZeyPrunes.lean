/-
  Proved: identitylaw24.KeysPrunes returns true for all arguments (the tied card). No condition beyond the row's own.
-/
import Derived.Deep.RegionHeld3
import Derived.Test.YtgepcbggkfjlgaaGreatDoorM16

section
/-
  Proved: identitylaw24.KeysPrunes returns true for all arguments (the tied card). No condition beyond the row's own.
-/
set_option linter.unusedVariables false
set_option linter.unusedSimpArgs false
set_option linter.unnecessarySimpa false
namespace Go.Proofs.YtgepcbggkfjlgaaGreatDoor
open Go.ChangeShapes Go.WideShapes Go.ChangeAt Go.RowKit Go.PlainAid
open Go.ChangeMaps (open_string shut_string)

theorem signing_q (ao : Option Addr) (n cap : Nat) (l : List Ky) (t : Int) (o : Option Ky) (g : Ky) (b : Bool) (w : World) (h : KsAt w ao n cap l) (hs : ∀ k ∈ l, SmK k) (ho : sgnK l t = o) (hg : o.getD kZ = g) (hb : o.isSome = b) :
    Calls Tryz.prog 14 #[.slice ao n cap, .int .i64 t] w fun e w' => e = .returned (.tuple #[kV g, .bool b]) ∧ Below w.heap.size w w' := by
  subst hg; subst hb; exact signing_k ao n cap l t o w h hs ho
set_option maxRecDepth 100000 in
set_option maxHeartbeats 16000000 in
theorem kprunes_s (l : Option Addr) (ln lc : Nat) (ll : List Ky) (now : Int) (tt : Int) (id : ByteArray) (w : World) (hl : KsAt w l ln lc ll) (il : ∀ g ∈ ll, InK g) (hnow : (Lit.int .i64 now).wf = true) (htt : (Lit.int .i64 tt).wf = true) (ho : WK w) :
    Calls Tryz.prog 7 #[.slice l ln lc, .int .i64 now, .int .i64 tt, .string id] w fun e w' => e = .returned (.bool true) ∧ Below w.heap.size w w' := by
  have HO := Lib.hid ho
  have HK := Lib.hid hl
  have HB := Lib.hid (Below.refl w.heap.size w)
  have hlc := hl.2.1
  have hlm := hl.2.2.1
  unfold maxLen at hlm
  have HLn := Lib.hid hl.1
  clear ho
  cases hg : greatB ll 20
  · by_cases h1 : 300 < id.size
    · have HG := Lib.hid hg
      have d1 : (300 : Int) < (id.size : Int) := by omega
      clear hg hl h1
      go_enter Tryz.func7, Tryz.ntmps7
      go_wp2_with fail
      refine (great_k l ln lc ll 20 false _ HK.out HG.out).mono ?_
      rintro e w' ⟨rfl, rfl⟩
      go_wp2_with fail
      refine (live_s _ (HO.out.below HB.out)).mono ?_
      rintro e wc1 ⟨rfl, hb⟩
      have HB := Lib.hid (HB.out.trans (hb.mono HB.out.size))
      have HK := Lib.hid (HK.out.below hb)
      clear hb
      go_wp2_with fail
      go_ret
      exact ⟨rfl, HB.out⟩
    · have d1 : ¬ (300 : Int) < (id.size : Int) := by omega
      have HS := Lib.hid (sm_of hg)
      have HG := Lib.hid hg
      obtain ⟨m, hm⟩ : ∃ m, pruK ll now = m := ⟨_, rfl⟩
      have HP := Lib.hid hm
      have HSm := Lib.hid (show ∀ k ∈ m, SmK k from fun k hk => HS.out k (by rw [← hm] at hk; exact mem_fil hk))
      have hn : ln ≤ 1000 := by have h5 := (great_no hg).1; have h6 := hl.1; omega
      obtain ⟨z, hz⟩ : ∃ z, chkK ll = z := ⟨_, rfl⟩
      have HZ := Lib.hid hz
      clear hg hl h1
      cases qz : (z != 0)
      · have hz0 : z = 0 := by simpa using qz
        subst hz0
        obtain ⟨x, hx⟩ : ∃ x, limI tt = x := ⟨_, rfl⟩
        obtain ⟨y, hy⟩ : ∃ y, limI now = y := ⟨_, rfl⟩
        have HX := Lib.hid hx
        have HY := Lib.hid hy
        clear qz
        by_cases hlt : x < y
        · clear hx hy hz hm
          go_enter Tryz.func7, Tryz.ntmps7
          go_wp2_with fail
          refine (great_k l ln lc ll 20 false _ HK.out HG.out).mono ?_
          rintro e w' ⟨rfl, rfl⟩
          go_wp2_with fail
          refine (prune_k l ln lc ll m now _ HK.out hn HP.out).mono ?_
          rintro e wc2 ⟨mo, mc, rfl, hm, hb⟩
          have HB := Lib.hid (HB.out.trans (hb.mono HB.out.size))
          have HK := Lib.hid (HK.out.below hb)
          have HM := Lib.hid hm
          have hm1 := hm.2.1
          have hm2 := hm.2.2.1
          unfold maxLen at hm2
          clear hm
          clear hb
          go_wp2_with fail
          refine (rprune_k l ln lc ll m now _ HK.out hn HP.out).mono ?_
          rintro e wc3 ⟨no, nc, rfl, hm, hb⟩
          have HB := Lib.hid (HB.out.trans (hb.mono HB.out.size))
          have HK := Lib.hid (HK.out.below hb)
          have HM := Lib.hid (HM.out.below hb)
          have HN := Lib.hid hm
          have hn1 := hm.2.1
          have hn2 := hm.2.2.1
          unfold maxLen at hn2
          clear hm
          clear hb
          go_wp2_with fail
          refine (same_k mo _ mc m no _ nc m true _ HM.out HN.out (decide_eq_true rfl)).mono ?_
          rintro e wc4 ⟨rfl, hb⟩
          have HB := Lib.hid (HB.out.trans (hb.mono HB.out.size))
          have HK := Lib.hid (HK.out.below hb)
          have HM := Lib.hid (HM.out.below hb)
          clear hb
          go_wp2_with fail
          refine (live_s _ (HO.out.below HB.out)).mono ?_
          rintro e wc5 ⟨rfl, hb⟩
          have HB := Lib.hid (HB.out.trans (hb.mono HB.out.size))
          have HK := Lib.hid (HK.out.below hb)
          have HM := Lib.hid (HM.out.below hb)
          clear hb
          go_wp2_with fail
          refine (check_k l ln lc ll 0 _ HK.out HS.out HZ.out).mono ?_
          rintro e wc6 ⟨rfl, hb⟩
          have HB := Lib.hid (HB.out.trans (hb.mono HB.out.size))
          have HK := Lib.hid (HK.out.below hb)
          have HM := Lib.hid (HM.out.below hb)
          clear hb
          go_wp2_with fail
          refine (inst_k tt x _ HX.out).mono ?_
          rintro e w' ⟨rfl, rfl⟩
          go_wp2_with fail
          refine (inst_k now y _ HY.out).mono ?_
          rintro e w' ⟨rfl, rfl⟩
          go_wp2_with fail
          go_ret
          exact ⟨rfl, HB.out⟩
        · have hle : limI now ≤ limI tt := by omega
          obtain ⟨o, ho⟩ : ∃ o, sgnK ll tt = o := ⟨_, rfl⟩
          have HO1 := Lib.hid ho
          have HO2 := Lib.hid (show sgnK m tt = o by rw [← hm, pru_sign hz hle]; exact ho)
          obtain ⟨⟨fi, fs, fsf, fsu, faf, fau⟩, hf⟩ : ∃ g, o.getD kZ = g := ⟨_, rfl⟩
          obtain ⟨b, hb⟩ : ∃ b, o.isSome = b := ⟨_, rfl⟩
          have hpa := pru_acc id hz hle
          rw [hm] at hpa
          obtain ⟨⟨g, e⟩, hac⟩ : ∃ p, accK ll id tt 0 = p := ⟨_, rfl⟩
          obtain ⟨⟨g2, f⟩, hac2⟩ : ∃ p, accK m id tt 0 = p := ⟨_, rfl⟩
          rw [hac, hac2] at hpa
          obtain ⟨hg2, hef⟩ := hpa
          dsimp only at hg2 hef
          subst hg2
          obtain ⟨gi, gs, gsf, gsu, gaf, gau⟩ := g
          have HF := Lib.hid hf
          have HBs := Lib.hid hb
          have HA1 := Lib.hid hac
          have HA2 := Lib.hid hac2
          clear hx hy hz hm hle ho hf hb hac hac2
          rcases hef with hef | ⟨he1, he2⟩
          · subst hef
            have e1 := beq_i e
            go_enter Tryz.func7, Tryz.ntmps7
            go_wp2_with fail
            refine (great_k l ln lc ll 20 false _ HK.out HG.out).mono ?_
            rintro e w' ⟨rfl, rfl⟩
            go_wp2_with fail
            refine (prune_k l ln lc ll m now _ HK.out hn HP.out).mono ?_
            rintro e wc7 ⟨mo, mc, rfl, hm, hb⟩
            have HB := Lib.hid (HB.out.trans (hb.mono HB.out.size))
            have HK := Lib.hid (HK.out.below hb)
            have HM := Lib.hid hm
            have hm1 := hm.2.1
            have hm2 := hm.2.2.1
            unfold maxLen at hm2
            clear hm
            clear hb
            go_wp2_with fail
            refine (rprune_k l ln lc ll m now _ HK.out hn HP.out).mono ?_
            rintro e wc8 ⟨no, nc, rfl, hm, hb⟩
            have HB := Lib.hid (HB.out.trans (hb.mono HB.out.size))
            have HK := Lib.hid (HK.out.below hb)
            have HM := Lib.hid (HM.out.below hb)
            have HN := Lib.hid hm
            have hn1 := hm.2.1
            have hn2 := hm.2.2.1
            unfold maxLen at hn2
            clear hm
            clear hb
            go_wp2_with fail
            refine (same_k mo _ mc m no _ nc m true _ HM.out HN.out (decide_eq_true rfl)).mono ?_
            rintro e wc9 ⟨rfl, hb⟩
            have HB := Lib.hid (HB.out.trans (hb.mono HB.out.size))
            have HK := Lib.hid (HK.out.below hb)
            have HM := Lib.hid (HM.out.below hb)
            clear hb
            go_wp2_with fail
            refine (live_s _ (HO.out.below HB.out)).mono ?_
            rintro e wc10 ⟨rfl, hb⟩
            have HB := Lib.hid (HB.out.trans (hb.mono HB.out.size))
            have HK := Lib.hid (HK.out.below hb)
            have HM := Lib.hid (HM.out.below hb)
            clear hb
            go_wp2_with fail
            refine (check_k l ln lc ll 0 _ HK.out HS.out HZ.out).mono ?_
            rintro e wc11 ⟨rfl, hb⟩
            have HB := Lib.hid (HB.out.trans (hb.mono HB.out.size))
            have HK := Lib.hid (HK.out.below hb)
            have HM := Lib.hid (HM.out.below hb)
            clear hb
            go_wp2_with fail
            refine (inst_k tt x _ HX.out).mono ?_
            rintro e w' ⟨rfl, rfl⟩
            go_wp2_with fail
            refine (inst_k now y _ HY.out).mono ?_
            rintro e w' ⟨rfl, rfl⟩
            go_wp2_with fail
            refine (signing_q l ln lc ll tt o ⟨fi, fs, fsf, fsu, faf, fau⟩ b _ HK.out HS.out HO1.out HF.out HBs.out).mono ?_
            rintro e wc12 ⟨rfl, hb⟩
            have HB := Lib.hid (HB.out.trans (hb.mono HB.out.size))
            have HK := Lib.hid (HK.out.below hb)
            have HM := Lib.hid (HM.out.below hb)
            clear hb
            have H1 : Hid (KbC (wc12.alloc (.cells #[.string fi, .string fs, .int .i64 fsf, .int .i64 fsu, .int .i64 faf, .int .i64 fau] 31)) wc12.heap.size (.cells #[.string fi, .string fs, .int .i64 fsf, .int .i64 fsu, .int .i64 faf, .int .i64 fau] 31)) := Lib.hid (kbc_new wc12 _)
            have hb := box_below wc12 (.cells #[.string fi, .string fs, .int .i64 fsf, .int .i64 fsu, .int .i64 faf, .int .i64 fau] 31)
            have HB := Lib.hid (HB.out.trans (hb.mono HB.out.size))
            have HK := Lib.hid (HK.out.below hb)
            have HM := Lib.hid (HM.out.below hb)
            clear hb
            unfold kV kcells
            go_wp2_with fail
            refine (signing_q mo m.length mc m tt o ⟨fi, fs, fsf, fsu, faf, fau⟩ b _ HM.out HSm.out HO2.out HF.out HBs.out).mono ?_
            rintro e wc13 ⟨rfl, hb⟩
            have HB := Lib.hid (HB.out.trans (hb.mono HB.out.size))
            have HK := Lib.hid (HK.out.below hb)
            have HM := Lib.hid (HM.out.below hb)
            have H1 := Lib.hid (H1.out.step hb)
            clear hb
            have H2 : Hid (KbC (wc13.alloc (.cells #[.string fi, .string fs, .int .i64 fsf, .int .i64 fsu, .int .i64 faf, .int .i64 fau] 31)) wc13.heap.size (.cells #[.string fi, .string fs, .int .i64 fsf, .int .i64 fsu, .int .i64 faf, .int .i64 fau] 31)) := Lib.hid (kbc_new wc13 _)
            have hb := box_below wc13 (.cells #[.string fi, .string fs, .int .i64 fsf, .int .i64 fsu, .int .i64 faf, .int .i64 fau] 31)
            have HB := Lib.hid (HB.out.trans (hb.mono HB.out.size))
            have HK := Lib.hid (HK.out.below hb)
            have HM := Lib.hid (HM.out.below hb)
            have H1 := Lib.hid (H1.out.step hb)
            clear hb
            unfold kV kcells
            go_wp2_with fail
            refine (accepting_k l ln lc ll id tt 0 e ⟨gi, gs, gsf, gsu, gaf, gau⟩ _ HK.out HA1.out).mono ?_
            rintro e wc14 ⟨rfl, hb⟩
            have HB := Lib.hid (HB.out.trans (hb.mono HB.out.size))
            have HK := Lib.hid (HK.out.below hb)
            have HM := Lib.hid (HM.out.below hb)
            have H1 := Lib.hid (H1.out.step hb)
            have H2 := Lib.hid (H2.out.step hb)
            clear hb
            have H3 : Hid (KbC (wc14.alloc (.cells #[.string gi, .string gs, .int .i64 gsf, .int .i64 gsu, .int .i64 gaf, .int .i64 gau] 31)) wc14.heap.size (.cells #[.string gi, .string gs, .int .i64 gsf, .int .i64 gsu, .int .i64 gaf, .int .i64 gau] 31)) := Lib.hid (kbc_new wc14 _)
            have hb := box_below wc14 (.cells #[.string gi, .string gs, .int .i64 gsf, .int .i64 gsu, .int .i64 gaf, .int .i64 gau] 31)
            have HB := Lib.hid (HB.out.trans (hb.mono HB.out.size))
            have HK := Lib.hid (HK.out.below hb)
            have HM := Lib.hid (HM.out.below hb)
            have H1 := Lib.hid (H1.out.step hb)
            have H2 := Lib.hid (H2.out.step hb)
            clear hb
            unfold kV kcells
            go_wp2_with fail
            refine (accepting_k mo m.length mc m id tt 0 e ⟨gi, gs, gsf, gsu, gaf, gau⟩ _ HM.out HA2.out).mono ?_
            rintro e wc15 ⟨rfl, hb⟩
            have HB := Lib.hid (HB.out.trans (hb.mono HB.out.size))
            have HK := Lib.hid (HK.out.below hb)
            have HM := Lib.hid (HM.out.below hb)
            have H1 := Lib.hid (H1.out.step hb)
            have H2 := Lib.hid (H2.out.step hb)
            have H3 := Lib.hid (H3.out.step hb)
            clear hb
            have H4 : Hid (KbC (wc15.alloc (.cells #[.string gi, .string gs, .int .i64 gsf, .int .i64 gsu, .int .i64 gaf, .int .i64 gau] 31)) wc15.heap.size (.cells #[.string gi, .string gs, .int .i64 gsf, .int .i64 gsu, .int .i64 gaf, .int .i64 gau] 31)) := Lib.hid (kbc_new wc15 _)
            have hb := box_below wc15 (.cells #[.string gi, .string gs, .int .i64 gsf, .int .i64 gsu, .int .i64 gaf, .int .i64 gau] 31)
            have HB := Lib.hid (HB.out.trans (hb.mono HB.out.size))
            have HK := Lib.hid (HK.out.below hb)
            have HM := Lib.hid (HM.out.below hb)
            have H1 := Lib.hid (H1.out.step hb)
            have H2 := Lib.hid (H2.out.step hb)
            have H3 := Lib.hid (H3.out.step hb)
            clear hb
            unfold kV kcells
            have a0 := H1.out.cell (i := 0) (v := .string fi) rfl
            have a1 := H1.out.cell (i := 1) (v := .string fs) rfl
            have a2 := H1.out.cell (i := 2) (v := .int .i64 fsf) rfl
            have a3 := H1.out.cell (i := 3) (v := .int .i64 fsu) rfl
            have a4 := H1.out.cell (i := 4) (v := .int .i64 faf) rfl
            have a5 := H1.out.cell (i := 5) (v := .int .i64 fau) rfl
            have b0 := H2.out.cell (i := 0) (v := .string fi) rfl
            have b1 := H2.out.cell (i := 1) (v := .string fs) rfl
            have b2 := H2.out.cell (i := 2) (v := .int .i64 fsf) rfl
            have b3 := H2.out.cell (i := 3) (v := .int .i64 fsu) rfl
            have b4 := H2.out.cell (i := 4) (v := .int .i64 faf) rfl
            have b5 := H2.out.cell (i := 5) (v := .int .i64 fau) rfl
            have c0 := H3.out.cell (i := 0) (v := .string gi) rfl
            have c1 := H3.out.cell (i := 1) (v := .string gs) rfl
            have c2 := H3.out.cell (i := 2) (v := .int .i64 gsf) rfl
            have c3 := H3.out.cell (i := 3) (v := .int .i64 gsu) rfl
            have c4 := H3.out.cell (i := 4) (v := .int .i64 gaf) rfl
            have c5 := H3.out.cell (i := 5) (v := .int .i64 gau) rfl
            have d0 := H4.out.cell (i := 0) (v := .string gi) rfl
            have d1 := H4.out.cell (i := 1) (v := .string gs) rfl
            have d2 := H4.out.cell (i := 2) (v := .int .i64 gsf) rfl
            have d3 := H4.out.cell (i := 3) (v := .int .i64 gsu) rfl
            have d4 := H4.out.cell (i := 4) (v := .int .i64 gaf) rfl
            have d5 := H4.out.cell (i := 5) (v := .int .i64 gau) rfl
            go_wp2_with fail
            clear a0 a1 a2 a3 a4 a5 b0 b1 b2 b3 b4 b5 c0 c1 c2 c3 c4 c5 d0 d1 d2 d3 d4 d5
            go_ret
            exact ⟨rfl, HB.out⟩
          · subst he1
            subst he2
            go_enter Tryz.func7, Tryz.ntmps7
            go_wp2_with fail
            refine (great_k l ln lc ll 20 false _ HK.out HG.out).mono ?_
            rintro e w' ⟨rfl, rfl⟩
            go_wp2_with fail
            refine (prune_k l ln lc ll m now _ HK.out hn HP.out).mono ?_
            rintro e wc16 ⟨mo, mc, rfl, hm, hb⟩
            have HB := Lib.hid (HB.out.trans (hb.mono HB.out.size))
            have HK := Lib.hid (HK.out.below hb)
            have HM := Lib.hid hm
            have hm1 := hm.2.1
            have hm2 := hm.2.2.1
            unfold maxLen at hm2
            clear hm
            clear hb
            go_wp2_with fail
            refine (rprune_k l ln lc ll m now _ HK.out hn HP.out).mono ?_
            rintro e wc17 ⟨no, nc, rfl, hm, hb⟩
            have HB := Lib.hid (HB.out.trans (hb.mono HB.out.size))
            have HK := Lib.hid (HK.out.below hb)
            have HM := Lib.hid (HM.out.below hb)
            have HN := Lib.hid hm
            have hn1 := hm.2.1
            have hn2 := hm.2.2.1
            unfold maxLen at hn2
            clear hm
            clear hb
            go_wp2_with fail
            refine (same_k mo _ mc m no _ nc m true _ HM.out HN.out (decide_eq_true rfl)).mono ?_
            rintro e wc18 ⟨rfl, hb⟩
            have HB := Lib.hid (HB.out.trans (hb.mono HB.out.size))
            have HK := Lib.hid (HK.out.below hb)
            have HM := Lib.hid (HM.out.below hb)
            clear hb
            go_wp2_with fail
            refine (live_s _ (HO.out.below HB.out)).mono ?_
            rintro e wc19 ⟨rfl, hb⟩
            have HB := Lib.hid (HB.out.trans (hb.mono HB.out.size))
            have HK := Lib.hid (HK.out.below hb)
            have HM := Lib.hid (HM.out.below hb)
            clear hb
            go_wp2_with fail
            refine (check_k l ln lc ll 0 _ HK.out HS.out HZ.out).mono ?_
            rintro e wc20 ⟨rfl, hb⟩
            have HB := Lib.hid (HB.out.trans (hb.mono HB.out.size))
            have HK := Lib.hid (HK.out.below hb)
            have HM := Lib.hid (HM.out.below hb)
            clear hb
            go_wp2_with fail
            refine (inst_k tt x _ HX.out).mono ?_
            rintro e w' ⟨rfl, rfl⟩
            go_wp2_with fail
            refine (inst_k now y _ HY.out).mono ?_
            rintro e w' ⟨rfl, rfl⟩
            go_wp2_with fail
            refine (signing_q l ln lc ll tt o ⟨fi, fs, fsf, fsu, faf, fau⟩ b _ HK.out HS.out HO1.out HF.out HBs.out).mono ?_
            rintro e wc21 ⟨rfl, hb⟩
            have HB := Lib.hid (HB.out.trans (hb.mono HB.out.size))
            have HK := Lib.hid (HK.out.below hb)
            have HM := Lib.hid (HM.out.below hb)
            clear hb
            have H1 : Hid (KbC (wc21.alloc (.cells #[.string fi, .string fs, .int .i64 fsf, .int .i64 fsu, .int .i64 faf, .int .i64 fau] 31)) wc21.heap.size (.cells #[.string fi, .string fs, .int .i64 fsf, .int .i64 fsu, .int .i64 faf, .int .i64 fau] 31)) := Lib.hid (kbc_new wc21 _)
            have hb := box_below wc21 (.cells #[.string fi, .string fs, .int .i64 fsf, .int .i64 fsu, .int .i64 faf, .int .i64 fau] 31)
            have HB := Lib.hid (HB.out.trans (hb.mono HB.out.size))
            have HK := Lib.hid (HK.out.below hb)
            have HM := Lib.hid (HM.out.below hb)
            clear hb
            unfold kV kcells
            go_wp2_with fail
            refine (signing_q mo m.length mc m tt o ⟨fi, fs, fsf, fsu, faf, fau⟩ b _ HM.out HSm.out HO2.out HF.out HBs.out).mono ?_
            rintro e wc22 ⟨rfl, hb⟩
            have HB := Lib.hid (HB.out.trans (hb.mono HB.out.size))
            have HK := Lib.hid (HK.out.below hb)
            have HM := Lib.hid (HM.out.below hb)
            have H1 := Lib.hid (H1.out.step hb)
            clear hb
            have H2 : Hid (KbC (wc22.alloc (.cells #[.string fi, .string fs, .int .i64 fsf, .int .i64 fsu, .int .i64 faf, .int .i64 fau] 31)) wc22.heap.size (.cells #[.string fi, .string fs, .int .i64 fsf, .int .i64 fsu, .int .i64 faf, .int .i64 fau] 31)) := Lib.hid (kbc_new wc22 _)
            have hb := box_below wc22 (.cells #[.string fi, .string fs, .int .i64 fsf, .int .i64 fsu, .int .i64 faf, .int .i64 fau] 31)
            have HB := Lib.hid (HB.out.trans (hb.mono HB.out.size))
            have HK := Lib.hid (HK.out.below hb)
            have HM := Lib.hid (HM.out.below hb)
            have H1 := Lib.hid (H1.out.step hb)
            clear hb
            unfold kV kcells
            go_wp2_with fail
            refine (accepting_k l ln lc ll id tt 0 13 ⟨gi, gs, gsf, gsu, gaf, gau⟩ _ HK.out HA1.out).mono ?_
            rintro e wc23 ⟨rfl, hb⟩
            have HB := Lib.hid (HB.out.trans (hb.mono HB.out.size))
            have HK := Lib.hid (HK.out.below hb)
            have HM := Lib.hid (HM.out.below hb)
            have H1 := Lib.hid (H1.out.step hb)
            have H2 := Lib.hid (H2.out.step hb)
            clear hb
            have H3 : Hid (KbC (wc23.alloc (.cells #[.string gi, .string gs, .int .i64 gsf, .int .i64 gsu, .int .i64 gaf, .int .i64 gau] 31)) wc23.heap.size (.cells #[.string gi, .string gs, .int .i64 gsf, .int .i64 gsu, .int .i64 gaf, .int .i64 gau] 31)) := Lib.hid (kbc_new wc23 _)
            have hb := box_below wc23 (.cells #[.string gi, .string gs, .int .i64 gsf, .int .i64 gsu, .int .i64 gaf, .int .i64 gau] 31)
            have HB := Lib.hid (HB.out.trans (hb.mono HB.out.size))
            have HK := Lib.hid (HK.out.below hb)
            have HM := Lib.hid (HM.out.below hb)
            have H1 := Lib.hid (H1.out.step hb)
            have H2 := Lib.hid (H2.out.step hb)
            clear hb
            unfold kV kcells
            go_wp2_with fail
            refine (accepting_k mo m.length mc m id tt 0 26 ⟨gi, gs, gsf, gsu, gaf, gau⟩ _ HM.out HA2.out).mono ?_
            rintro e wc24 ⟨rfl, hb⟩
            have HB := Lib.hid (HB.out.trans (hb.mono HB.out.size))
            have HK := Lib.hid (HK.out.below hb)
            have HM := Lib.hid (HM.out.below hb)
            have H1 := Lib.hid (H1.out.step hb)
            have H2 := Lib.hid (H2.out.step hb)
            have H3 := Lib.hid (H3.out.step hb)
            clear hb
            have H4 : Hid (KbC (wc24.alloc (.cells #[.string gi, .string gs, .int .i64 gsf, .int .i64 gsu, .int .i64 gaf, .int .i64 gau] 31)) wc24.heap.size (.cells #[.string gi, .string gs, .int .i64 gsf, .int .i64 gsu, .int .i64 gaf, .int .i64 gau] 31)) := Lib.hid (kbc_new wc24 _)
            have hb := box_below wc24 (.cells #[.string gi, .string gs, .int .i64 gsf, .int .i64 gsu, .int .i64 gaf, .int .i64 gau] 31)
            have HB := Lib.hid (HB.out.trans (hb.mono HB.out.size))
            have HK := Lib.hid (HK.out.below hb)
            have HM := Lib.hid (HM.out.below hb)
            have H1 := Lib.hid (H1.out.step hb)
            have H2 := Lib.hid (H2.out.step hb)
            have H3 := Lib.hid (H3.out.step hb)
            clear hb
            unfold kV kcells
            have a0 := H1.out.cell (i := 0) (v := .string fi) rfl
            have a1 := H1.out.cell (i := 1) (v := .string fs) rfl
            have a2 := H1.out.cell (i := 2) (v := .int .i64 fsf) rfl
            have a3 := H1.out.cell (i := 3) (v := .int .i64 fsu) rfl
            have a4 := H1.out.cell (i := 4) (v := .int .i64 faf) rfl
            have a5 := H1.out.cell (i := 5) (v := .int .i64 fau) rfl
            have b0 := H2.out.cell (i := 0) (v := .string fi) rfl
            have b1 := H2.out.cell (i := 1) (v := .string fs) rfl
            have b2 := H2.out.cell (i := 2) (v := .int .i64 fsf) rfl
            have b3 := H2.out.cell (i := 3) (v := .int .i64 fsu) rfl
            have b4 := H2.out.cell (i := 4) (v := .int .i64 faf) rfl
            have b5 := H2.out.cell (i := 5) (v := .int .i64 fau) rfl
            have c0 := H3.out.cell (i := 0) (v := .string gi) rfl
            have c1 := H3.out.cell (i := 1) (v := .string gs) rfl
            have c2 := H3.out.cell (i := 2) (v := .int .i64 gsf) rfl
            have c3 := H3.out.cell (i := 3) (v := .int .i64 gsu) rfl
            have c4 := H3.out.cell (i := 4) (v := .int .i64 gaf) rfl
            have c5 := H3.out.cell (i := 5) (v := .int .i64 gau) rfl
            have d0 := H4.out.cell (i := 0) (v := .string gi) rfl
            have d1 := H4.out.cell (i := 1) (v := .string gs) rfl
            have d2 := H4.out.cell (i := 2) (v := .int .i64 gsf) rfl
            have d3 := H4.out.cell (i := 3) (v := .int .i64 gsu) rfl
            have d4 := H4.out.cell (i := 4) (v := .int .i64 gaf) rfl
            have d5 := H4.out.cell (i := 5) (v := .int .i64 gau) rfl
            go_wp2_with fail
            clear a0 a1 a2 a3 a4 a5 b0 b1 b2 b3 b4 b5 c0 c1 c2 c3 c4 c5 d0 d1 d2 d3 d4 d5
            go_ret
            exact ⟨rfl, HB.out⟩
      · have hzn : ¬ z = 0 := by simpa using qz
        clear hz hm
        go_enter Tryz.func7, Tryz.ntmps7
        go_wp2_with fail
        refine (great_k l ln lc ll 20 false _ HK.out HG.out).mono ?_
        rintro e w' ⟨rfl, rfl⟩
        go_wp2_with fail
        refine (prune_k l ln lc ll m now _ HK.out hn HP.out).mono ?_
        rintro e wc25 ⟨mo, mc, rfl, hm, hb⟩
        have HB := Lib.hid (HB.out.trans (hb.mono HB.out.size))
        have HK := Lib.hid (HK.out.below hb)
        have HM := Lib.hid hm
        have hm1 := hm.2.1
        have hm2 := hm.2.2.1
        unfold maxLen at hm2
        clear hm
        clear hb
        go_wp2_with fail
        refine (rprune_k l ln lc ll m now _ HK.out hn HP.out).mono ?_
        rintro e wc26 ⟨no, nc, rfl, hm, hb⟩
        have HB := Lib.hid (HB.out.trans (hb.mono HB.out.size))
        have HK := Lib.hid (HK.out.below hb)
        have HM := Lib.hid (HM.out.below hb)
        have HN := Lib.hid hm
        have hn1 := hm.2.1
        have hn2 := hm.2.2.1
        unfold maxLen at hn2
        clear hm
        clear hb
        go_wp2_with fail
        refine (same_k mo _ mc m no _ nc m true _ HM.out HN.out (decide_eq_true rfl)).mono ?_
        rintro e wc27 ⟨rfl, hb⟩
        have HB := Lib.hid (HB.out.trans (hb.mono HB.out.size))
        have HK := Lib.hid (HK.out.below hb)
        have HM := Lib.hid (HM.out.below hb)
        clear hb
        go_wp2_with fail
        refine (live_s _ (HO.out.below HB.out)).mono ?_
        rintro e wc28 ⟨rfl, hb⟩
        have HB := Lib.hid (HB.out.trans (hb.mono HB.out.size))
        have HK := Lib.hid (HK.out.below hb)
        have HM := Lib.hid (HM.out.below hb)
        clear hb
        go_wp2_with fail
        refine (check_k l ln lc ll z _ HK.out HS.out HZ.out).mono ?_
        rintro e wc29 ⟨rfl, hb⟩
        have HB := Lib.hid (HB.out.trans (hb.mono HB.out.size))
        have HK := Lib.hid (HK.out.below hb)
        have HM := Lib.hid (HM.out.below hb)
        clear hb
        go_wp2_with fail
        go_ret
        exact ⟨rfl, HB.out⟩
  · have HG := Lib.hid hg
    clear hg hl
    go_enter Tryz.func7, Tryz.ntmps7
    go_wp2_with fail
    refine (great_k l ln lc ll 20 true _ HK.out HG.out).mono ?_
    rintro e w' ⟨rfl, rfl⟩
    go_wp2_with fail
    refine (live_s _ (HO.out.below HB.out)).mono ?_
    rintro e wc30 ⟨rfl, hb⟩
    have HB := Lib.hid (HB.out.trans (hb.mono HB.out.size))
    have HK := Lib.hid (HK.out.below hb)
    clear hb
    go_wp2_with fail
    go_ret
    exact ⟨rfl, HB.out⟩

theorem kprunes_types : ∀ t ∈ [22, 3, 3, 9], Tryz.prog.readableRec t = true ∧ t < Tryz.prog.types.size := by
  have h : ([22, 3, 3, 9].all fun t => Tryz.prog.readableRec t && decide (t < Tryz.prog.types.size)) = true := by kernel_rfl
  intro t ht
  have := List.all_eq_true.1 h t ht
  simpa using this

set_option maxRecDepth 100000 in
theorem kprunes_contract (H : Type) (enc : TypeId × Value → H) (W : World) (base : Nat) (args : Array Value) (ds gs : List (DataW H)) (before : List MemPlace)
    (hval : ∀ (j : Nat) t v, Tryz.f7.params[j]? = some t → args[j]? = some v → Value.okWide Tryz.prog W .any base t v)
    (hW : DataW.Whole enc Tryz.prog Tryz.f7.params.toList Rows.keysPrunesSpec.vars false W args.toList ds gs before) (hL : laidMetH Tryz.prog Rows.keysPrunesRow.laid W) (hsh : W.ShapedOpen Tryz.prog) :
    Calls Tryz.prog 7 args W fun e W' => ∃ v, e = .returned v ∧ Rows.keysPrunesSpec.post enc Tryz.prog Tryz.f7 false true false false W args v W' := by
  have hW' := hW
  obtain ⟨p, q, hA0, hV, rfl, hfz, hnd⟩ := hW
  have hA : DataW.TrodAll enc Tryz.prog W 0 (fun _ => true) true Tryz.f7.params.toList args.toList ds p := hA0
  obtain ⟨rfl, rfl⟩ := trodVars_none hV
  simp only [List.append_nil] at hW'
  have hlt : ∀ x ∈ p, x.block < W.heap.size := fun x hx => by simpa using hW'.lt x hx
  have fin : ∀ W', Below W.heap.size W W' → DataW.TrodAll enc Tryz.prog W' 0 (fun b => decide (b < W.heap.size)) true [22, 3, 3, 9] args.toList ds p := fun W' hb => by
    rw [Tryz.params7] at hA
    exact trodAll_below hb _ _ _ _ kprunes_types hA hlt
  clear hA0
  rw [Tryz.params7] at hA hval
  obtain ⟨v0, vs0, d0, ds0, p0, q0, hargs, rfl, hp0, h0, r0⟩ := trodAll_cons hA
  obtain ⟨v1, vs1, d1, ds1, p1, q1, rfl, rfl, hp1, h1, r1⟩ := trodAll_cons r0
  obtain ⟨v2, vs2, d2, ds2, p2, q2, rfl, rfl, hp2, h2, r2⟩ := trodAll_cons r1
  obtain ⟨v3, vs3, d3, ds3, p3, q3, rfl, rfl, hp3, h3, r3⟩ := trodAll_cons r2
  obtain ⟨rfl, rfl, rfl⟩ := trodAll_nil r3
  obtain rfl : args = #[v0, v1, v2, v3] := by cases args; simp_all
  obtain ⟨l, ln, lc, ll, rfl, hs0, hi0⟩ := open_ks (hval 0 22 v0 rfl rfl) h0
  obtain ⟨now, rfl, rfl, rfl, hs1⟩ := open_int Tryz.underlying3 (hval 1 3 v1 rfl rfl) h1
  obtain ⟨tt, rfl, rfl, rfl, hs2⟩ := open_int Tryz.underlying3 (hval 2 3 v2 rfl rfl) h2
  obtain ⟨id, rfl, rfl, rfl, hs3⟩ := open_string Tryz.underlying9 (hval 3 9 v3 rfl rfl) h3
  refine (kprunes_s l ln lc ll now tt id W hs0 hi0 hs1 hs2 (wk_of hL hsh)).mono fun e W' ⟨he, hb⟩ => ?_
  subst he
  exact ⟨_, rfl, _, _, _, [], p, [], hW', trodAll_mk1 (shut_bool Tryz.underlying4 _), fin W' hb, rfl, hb.frame _, fun h => by cases h⟩

set_option maxRecDepth 100000 in
theorem kprunes_lifted (os : Os) (started : os.Started) (H : Type) (enc : TypeId × Value → H) (F : Stop.Interp) :
    ReturnsInHanded {} Tryz.checked os 7 .any ((OpenSpec.ofChange Rows.keysPrunesSpec).preRow enc Tryz.prog Tryz.f7 Rows.keysPrunesRow.domain false Rows.keysPrunesRow.laid) (((OpenSpec.ofChange Rows.keysPrunesSpec).at F).post enc Tryz.prog Tryz.f7 false true false false) := by
  refine returnsInHanded_of_row (C := Tryz.checked) (s := OpenSpec.ofChange Rows.keysPrunesSpec) own started (by kernel_rfl) Tryz.func7
    (witness_row (enc := enc) (C := Tryz.checked) false (World.laidAll Tryz.prog os Rows.keysPrunesRow.laid) #[.slice none 0 0, .int .i64 0, .int .i64 0, .string ⟨#[]⟩] (World.laidAll_os _ _ _)
      (World.shaped_of_ZipB (by kernel_rfl) (by kernel_rfl)) (by kernel_rfl)
      (OpenSpec.preRow_of_cond 8 (x := ([.nil, .lit (.int .i64 0), .lit (.int .i64 0), .lit (.string [])], [], [])) (by kernel_rfl) (by kernel_rfl) (fun k hk => by cases hk) (by kernel_rfl)
        (by rw [MakeChecks.laidMetH_plain _ _ _ (by kernel_rfl)]; exact laidMet_laidAll _ (by kernel_rfl) (by kernel_rfl)))) ?_
  intro W base args ds gs before hval hW _ _ _ hL hsh _
  exact kprunes_contract H enc W base args ds gs before hval hW hL hsh

set_option maxRecDepth 100000 in
theorem kprunes_said : Rows.KeysPrunesSaid :=
  OpenClaim.holds_of_cond 7 Tryz.f7 rfl rfl rfl rfl rfl rfl rfl ⟨rfl, rfl, rfl, rfl, rfl⟩ rfl rfl rfl rfl rfl (by kernel_rfl) Tryz.func7 (by kernel_rfl)
    (of_decide_eq_true (by kernel_rfl)) (by unfold Func.isWrapper; first | (rw [if_pos (by decide +kernel)]; kernel_rfl) | (rw [if_neg (by decide +kernel)]; exact ⟨rfl, rfl⟩))
    (fun os started H enc _ F => by rw [OpenClaim.pre_eq_preRow]; exact kprunes_lifted os started H enc F)

set_option maxRecDepth 100000 in
theorem kprunes_plain (f : FuncId) (fn : Func) (hf : Tryz.pinned.checked.prog.funcNamed "identity/identitylaw24.KeysPrunes" = some f) (hfn : Tryz.pinned.checked.prog.funcs[f]? = some fn) :
    true = Tryz.pinned.checked.prog.looks [] ∧ ∀ (j : Nat) t, fn.params[j]? = some t → Tryz.pinned.checked.prog.wantsStandIn t = false := by
  obtain rfl : f = 7 := Option.some.inj ((show Tryz.prog.funcNamed "identity/identitylaw24.KeysPrunes" = some 7 by kernel_rfl).symm.trans hf) |>.symm
  obtain rfl : fn = Tryz.f7 := (Option.some.inj (Tryz.func7.symm.trans hfn)).symm
  refine ⟨by kernel_rfl, fun j t ht => ?_⟩
  rw [Tryz.params7] at ht
  have hm : t ∈ [22, 3, 3, 9] := by simpa using Array.mem_of_getElem? ht
  have hall : ([22, 3, 3, 9].all fun u => !Tryz.prog.wantsStandIn u) = true := by kernel_rfl
  exact (show Tryz.prog.wantsStandIn t = false by simpa using List.all_eq_true.1 hall t hm)

/-- THE CARD -/
theorem kprunes_card : Rows.KeysPrunesCardSaid :=
  Claim7.holds_tied_plain_at .later [] _ _ _ _ kprunes_said (fun _ h => by cases h) (by kernel_rfl) (fun _ h => by cases h) keysPrunes_row_tie rfl ⟨rfl, rfl⟩ (by kernel_rfl) rfl kprunes_plain (by kernel_rfl)
end Go.Proofs.YtgepcbggkfjlgaaGreatDoor
end
