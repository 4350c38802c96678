/-
  Proved: identitylaw24.KeysChooses returns true for all arguments (the tied card). No condition beyond the row's own.
-/
import Derived.Deep.RegionHeld3
import Derived.Test.YtgepcbggkfjlgaaGreatDoorM16

section
/-
  Proved: identitylaw24.KeysChooses returns true for all arguments (the tied card). No condition beyond the row's own.
-/
set_option linter.unusedVariables false
set_option linter.unusedSimpArgs false
set_option linter.unnecessarySimpa false
namespace Go.Proofs.YtgepcbggkfjlgaaGreatDoor
open Go.ChangeShapes Go.WideShapes Go.ChangeAt Go.RowKit Go.PlainAid
open Go.ChangeMaps (open_string shut_string)

set_option maxRecDepth 100000 in
set_option maxHeartbeats 16000000 in
theorem kchooses_s (l : Option Addr) (ln lc : Nat) (ll : List Ky) (id : ByteArray) (now : Int) (skew : Int) (w : World) (hl : KsAt w l ln lc ll) (il : ∀ g ∈ ll, InK g) (hnow : (Lit.int .i64 now).wf = true) (hskew : (Lit.int .i64 skew).wf = true) (ho : WK w) :
    Calls Tryz.prog 4 #[.slice l ln lc, .string id, .int .i64 now, .int .i64 skew] w fun e w' => e = .returned (.bool true) ∧ Below w.heap.size w w' := by
  have HO := Lib.hid ho
  have HK := Lib.hid hl
  have HB := Lib.hid (Below.refl w.heap.size w)
  have hlc := hl.2.1
  have hlm := hl.2.2.1
  unfold maxLen at hlm
  have HLn := Lib.hid hl.1
  clear ho
  cases hg : greatB ll 20
  · by_cases h1 : 300 < id.size
    · have HG := Lib.hid hg
      have d1 : (300 : Int) < (id.size : Int) := by omega
      clear hg hl h1
      go_enter Tryz.func4, Tryz.ntmps4
      go_wp2_with fail
      refine (great_k l ln lc ll 20 false _ HK.out HG.out).mono ?_
      rintro e w' ⟨rfl, rfl⟩
      go_wp2_with fail
      refine (live_s _ (HO.out.below HB.out)).mono ?_
      rintro e wc1 ⟨rfl, hb⟩
      have HB := Lib.hid (HB.out.trans (hb.mono HB.out.size))
      have HK := Lib.hid (HK.out.below hb)
      clear hb
      go_wp2_with fail
      go_ret
      exact ⟨rfl, HB.out⟩
    · have d1 : ¬ (300 : Int) < (id.size : Int) := by omega
      have HS := Lib.hid (sm_of hg)
      have HG := Lib.hid hg
      obtain ⟨⟨⟨gi, gs, gsf, gsu, gaf, gau⟩, z⟩, hz⟩ : ∃ p, accK ll id now skew = p := ⟨_, rfl⟩
      have HZ := Lib.hid hz
      have e1 := bne_i z
      clear hz hg hl h1
      cases ho : sgnK ll now with
      | none =>
        have HSg := Lib.hid ho
        clear ho
        go_enter Tryz.func4, Tryz.ntmps4
        go_wp2_with fail
        refine (great_k l ln lc ll 20 false _ HK.out HG.out).mono ?_
        rintro e w' ⟨rfl, rfl⟩
        go_wp2_with fail
        refine (signing_k l ln lc ll now none _ HK.out HS.out HSg.out).mono ?_
        rintro e wc2 ⟨rfl, hb⟩
        have HB := Lib.hid (HB.out.trans (hb.mono HB.out.size))
        have HK := Lib.hid (HK.out.below hb)
        clear hb
        have H1 : Hid (KbC (wc2.alloc (.cells #[.string ⟨#[]⟩, .string ⟨#[]⟩, .int .i64 0, .int .i64 0, .int .i64 0, .int .i64 0] 31)) wc2.heap.size (.cells #[.string ⟨#[]⟩, .string ⟨#[]⟩, .int .i64 0, .int .i64 0, .int .i64 0, .int .i64 0] 31)) := Lib.hid (kbc_new wc2 _)
        have hb := box_below wc2 (.cells #[.string ⟨#[]⟩, .string ⟨#[]⟩, .int .i64 0, .int .i64 0, .int .i64 0, .int .i64 0] 31)
        have HB := Lib.hid (HB.out.trans (hb.mono HB.out.size))
        have HK := Lib.hid (HK.out.below hb)
        clear hb
        unfold kV kcells
        go_wp2_with fail
        refine (rsigning_k l ln lc ll now none _ HK.out HS.out HSg.out).mono ?_
        rintro e wc3 ⟨rfl, hb⟩
        have HB := Lib.hid (HB.out.trans (hb.mono HB.out.size))
        have HK := Lib.hid (HK.out.below hb)
        have H1 := Lib.hid (H1.out.step hb)
        clear hb
        have H2 : Hid (KbC (wc3.alloc (.cells #[.string ⟨#[]⟩, .string ⟨#[]⟩, .int .i64 0, .int .i64 0, .int .i64 0, .int .i64 0] 31)) wc3.heap.size (.cells #[.string ⟨#[]⟩, .string ⟨#[]⟩, .int .i64 0, .int .i64 0, .int .i64 0, .int .i64 0] 31)) := Lib.hid (kbc_new wc3 _)
        have hb := box_below wc3 (.cells #[.string ⟨#[]⟩, .string ⟨#[]⟩, .int .i64 0, .int .i64 0, .int .i64 0, .int .i64 0] 31)
        have HB := Lib.hid (HB.out.trans (hb.mono HB.out.size))
        have HK := Lib.hid (HK.out.below hb)
        have H1 := Lib.hid (H1.out.step hb)
        clear hb
        unfold kV kcells
        go_wp2_with fail
        refine (accepting_k l ln lc ll id now skew z ⟨gi, gs, gsf, gsu, gaf, gau⟩ _ HK.out HZ.out).mono ?_
        rintro e wc4 ⟨rfl, hb⟩
        have HB := Lib.hid (HB.out.trans (hb.mono HB.out.size))
        have HK := Lib.hid (HK.out.below hb)
        have H1 := Lib.hid (H1.out.step hb)
        have H2 := Lib.hid (H2.out.step hb)
        clear hb
        have H3 : Hid (KbC (wc4.alloc (.cells #[.string gi, .string gs, .int .i64 gsf, .int .i64 gsu, .int .i64 gaf, .int .i64 gau] 31)) wc4.heap.size (.cells #[.string gi, .string gs, .int .i64 gsf, .int .i64 gsu, .int .i64 gaf, .int .i64 gau] 31)) := Lib.hid (kbc_new wc4 _)
        have hb := box_below wc4 (.cells #[.string gi, .string gs, .int .i64 gsf, .int .i64 gsu, .int .i64 gaf, .int .i64 gau] 31)
        have HB := Lib.hid (HB.out.trans (hb.mono HB.out.size))
        have HK := Lib.hid (HK.out.below hb)
        have H1 := Lib.hid (H1.out.step hb)
        have H2 := Lib.hid (H2.out.step hb)
        clear hb
        unfold kV kcells
        go_wp2_with fail
        refine (raccepting_k l ln lc ll id now skew z ⟨gi, gs, gsf, gsu, gaf, gau⟩ _ HK.out HZ.out).mono ?_
        rintro e wc5 ⟨rfl, hb⟩
        have HB := Lib.hid (HB.out.trans (hb.mono HB.out.size))
        have HK := Lib.hid (HK.out.below hb)
        have H1 := Lib.hid (H1.out.step hb)
        have H2 := Lib.hid (H2.out.step hb)
        have H3 := Lib.hid (H3.out.step hb)
        clear hb
        have H4 : Hid (KbC (wc5.alloc (.cells #[.string gi, .string gs, .int .i64 gsf, .int .i64 gsu, .int .i64 gaf, .int .i64 gau] 31)) wc5.heap.size (.cells #[.string gi, .string gs, .int .i64 gsf, .int .i64 gsu, .int .i64 gaf, .int .i64 gau] 31)) := Lib.hid (kbc_new wc5 _)
        have hb := box_below wc5 (.cells #[.string gi, .string gs, .int .i64 gsf, .int .i64 gsu, .int .i64 gaf, .int .i64 gau] 31)
        have HB := Lib.hid (HB.out.trans (hb.mono HB.out.size))
        have HK := Lib.hid (HK.out.below hb)
        have H1 := Lib.hid (H1.out.step hb)
        have H2 := Lib.hid (H2.out.step hb)
        have H3 := Lib.hid (H3.out.step hb)
        clear hb
        unfold kV kcells
        have a0 := H1.out.cell (i := 0) (v := .string ⟨#[]⟩) rfl
        have a1 := H1.out.cell (i := 1) (v := .string ⟨#[]⟩) rfl
        have a2 := H1.out.cell (i := 2) (v := .int .i64 0) rfl
        have a3 := H1.out.cell (i := 3) (v := .int .i64 0) rfl
        have a4 := H1.out.cell (i := 4) (v := .int .i64 0) rfl
        have a5 := H1.out.cell (i := 5) (v := .int .i64 0) rfl
        have b0 := H2.out.cell (i := 0) (v := .string ⟨#[]⟩) rfl
        have b1 := H2.out.cell (i := 1) (v := .string ⟨#[]⟩) rfl
        have b2 := H2.out.cell (i := 2) (v := .int .i64 0) rfl
        have b3 := H2.out.cell (i := 3) (v := .int .i64 0) rfl
        have b4 := H2.out.cell (i := 4) (v := .int .i64 0) rfl
        have b5 := H2.out.cell (i := 5) (v := .int .i64 0) rfl
        have c0 := H3.out.cell (i := 0) (v := .string gi) rfl
        have c1 := H3.out.cell (i := 1) (v := .string gs) rfl
        have c2 := H3.out.cell (i := 2) (v := .int .i64 gsf) rfl
        have c3 := H3.out.cell (i := 3) (v := .int .i64 gsu) rfl
        have c4 := H3.out.cell (i := 4) (v := .int .i64 gaf) rfl
        have c5 := H3.out.cell (i := 5) (v := .int .i64 gau) rfl
        have d0 := H4.out.cell (i := 0) (v := .string gi) rfl
        have d1 := H4.out.cell (i := 1) (v := .string gs) rfl
        have d2 := H4.out.cell (i := 2) (v := .int .i64 gsf) rfl
        have d3 := H4.out.cell (i := 3) (v := .int .i64 gsu) rfl
        have d4 := H4.out.cell (i := 4) (v := .int .i64 gaf) rfl
        have d5 := H4.out.cell (i := 5) (v := .int .i64 gau) rfl
        go_wp2_with fail
        clear a0 a1 a2 a3 a4 a5 b0 b1 b2 b3 b4 b5 c0 c1 c2 c3 c4 c5 d0 d1 d2 d3 d4 d5
        refine (live_s _ (HO.out.below HB.out)).mono ?_
        rintro e wc6 ⟨rfl, hb⟩
        have HB := Lib.hid (HB.out.trans (hb.mono HB.out.size))
        have HK := Lib.hid (HK.out.below hb)
        have H1 := Lib.hid (H1.out.step hb)
        have H2 := Lib.hid (H2.out.step hb)
        have H3 := Lib.hid (H3.out.step hb)
        have H4 := Lib.hid (H4.out.step hb)
        clear hb
        have a0 := H1.out.cell (i := 0) (v := .string ⟨#[]⟩) rfl
        have a1 := H1.out.cell (i := 1) (v := .string ⟨#[]⟩) rfl
        have a2 := H1.out.cell (i := 2) (v := .int .i64 0) rfl
        have a3 := H1.out.cell (i := 3) (v := .int .i64 0) rfl
        have a4 := H1.out.cell (i := 4) (v := .int .i64 0) rfl
        have a5 := H1.out.cell (i := 5) (v := .int .i64 0) rfl
        go_wp2_with fail
        go_ret
        exact ⟨rfl, HB.out⟩
      | some g =>
        obtain ⟨hck, hmem, hin⟩ := sgn_mem ho
        have hac := acc_sign (s := skew) ho
        obtain ⟨fi, fs, fsf, fsu, faf, fau⟩ := g
        dsimp only at hin hac
        have HSg := Lib.hid ho
        have HAc := Lib.hid hac
        have HIn := Lib.hid hin
        have HCk := Lib.hid hck
        clear ho hck hmem hin hac
        go_enter Tryz.func4, Tryz.ntmps4
        go_wp2_with fail
        refine (great_k l ln lc ll 20 false _ HK.out HG.out).mono ?_
        rintro e w' ⟨rfl, rfl⟩
        go_wp2_with fail
        refine (signing_k l ln lc ll now (some ⟨fi, fs, fsf, fsu, faf, fau⟩) _ HK.out HS.out HSg.out).mono ?_
        rintro e wc7 ⟨rfl, hb⟩
        have HB := Lib.hid (HB.out.trans (hb.mono HB.out.size))
        have HK := Lib.hid (HK.out.below hb)
        clear hb
        have H1 : Hid (KbC (wc7.alloc (.cells #[.string fi, .string fs, .int .i64 fsf, .int .i64 fsu, .int .i64 faf, .int .i64 fau] 31)) wc7.heap.size (.cells #[.string fi, .string fs, .int .i64 fsf, .int .i64 fsu, .int .i64 faf, .int .i64 fau] 31)) := Lib.hid (kbc_new wc7 _)
        have hb := box_below wc7 (.cells #[.string fi, .string fs, .int .i64 fsf, .int .i64 fsu, .int .i64 faf, .int .i64 fau] 31)
        have HB := Lib.hid (HB.out.trans (hb.mono HB.out.size))
        have HK := Lib.hid (HK.out.below hb)
        clear hb
        unfold kV kcells
        go_wp2_with fail
        refine (rsigning_k l ln lc ll now (some ⟨fi, fs, fsf, fsu, faf, fau⟩) _ HK.out HS.out HSg.out).mono ?_
        rintro e wc8 ⟨rfl, hb⟩
        have HB := Lib.hid (HB.out.trans (hb.mono HB.out.size))
        have HK := Lib.hid (HK.out.below hb)
        have H1 := Lib.hid (H1.out.step hb)
        clear hb
        have H2 : Hid (KbC (wc8.alloc (.cells #[.string fi, .string fs, .int .i64 fsf, .int .i64 fsu, .int .i64 faf, .int .i64 fau] 31)) wc8.heap.size (.cells #[.string fi, .string fs, .int .i64 fsf, .int .i64 fsu, .int .i64 faf, .int .i64 fau] 31)) := Lib.hid (kbc_new wc8 _)
        have hb := box_below wc8 (.cells #[.string fi, .string fs, .int .i64 fsf, .int .i64 fsu, .int .i64 faf, .int .i64 fau] 31)
        have HB := Lib.hid (HB.out.trans (hb.mono HB.out.size))
        have HK := Lib.hid (HK.out.below hb)
        have H1 := Lib.hid (H1.out.step hb)
        clear hb
        unfold kV kcells
        go_wp2_with fail
        refine (accepting_k l ln lc ll id now skew z ⟨gi, gs, gsf, gsu, gaf, gau⟩ _ HK.out HZ.out).mono ?_
        rintro e wc9 ⟨rfl, hb⟩
        have HB := Lib.hid (HB.out.trans (hb.mono HB.out.size))
        have HK := Lib.hid (HK.out.below hb)
        have H1 := Lib.hid (H1.out.step hb)
        have H2 := Lib.hid (H2.out.step hb)
        clear hb
        have H3 : Hid (KbC (wc9.alloc (.cells #[.string gi, .string gs, .int .i64 gsf, .int .i64 gsu, .int .i64 gaf, .int .i64 gau] 31)) wc9.heap.size (.cells #[.string gi, .string gs, .int .i64 gsf, .int .i64 gsu, .int .i64 gaf, .int .i64 gau] 31)) := Lib.hid (kbc_new wc9 _)
        have hb := box_below wc9 (.cells #[.string gi, .string gs, .int .i64 gsf, .int .i64 gsu, .int .i64 gaf, .int .i64 gau] 31)
        have HB := Lib.hid (HB.out.trans (hb.mono HB.out.size))
        have HK := Lib.hid (HK.out.below hb)
        have H1 := Lib.hid (H1.out.step hb)
        have H2 := Lib.hid (H2.out.step hb)
        clear hb
        unfold kV kcells
        go_wp2_with fail
        refine (raccepting_k l ln lc ll id now skew z ⟨gi, gs, gsf, gsu, gaf, gau⟩ _ HK.out HZ.out).mono ?_
        rintro e wc10 ⟨rfl, hb⟩
        have HB := Lib.hid (HB.out.trans (hb.mono HB.out.size))
        have HK := Lib.hid (HK.out.below hb)
        have H1 := Lib.hid (H1.out.step hb)
        have H2 := Lib.hid (H2.out.step hb)
        have H3 := Lib.hid (H3.out.step hb)
        clear hb
        have H4 : Hid (KbC (wc10.alloc (.cells #[.string gi, .string gs, .int .i64 gsf, .int .i64 gsu, .int .i64 gaf, .int .i64 gau] 31)) wc10.heap.size (.cells #[.string gi, .string gs, .int .i64 gsf, .int .i64 gsu, .int .i64 gaf, .int .i64 gau] 31)) := Lib.hid (kbc_new wc10 _)
        have hb := box_below wc10 (.cells #[.string gi, .string gs, .int .i64 gsf, .int .i64 gsu, .int .i64 gaf, .int .i64 gau] 31)
        have HB := Lib.hid (HB.out.trans (hb.mono HB.out.size))
        have HK := Lib.hid (HK.out.below hb)
        have H1 := Lib.hid (H1.out.step hb)
        have H2 := Lib.hid (H2.out.step hb)
        have H3 := Lib.hid (H3.out.step hb)
        clear hb
        unfold kV kcells
        have a0 := H1.out.cell (i := 0) (v := .string fi) rfl
        have a1 := H1.out.cell (i := 1) (v := .string fs) rfl
        have a2 := H1.out.cell (i := 2) (v := .int .i64 fsf) rfl
        have a3 := H1.out.cell (i := 3) (v := .int .i64 fsu) rfl
        have a4 := H1.out.cell (i := 4) (v := .int .i64 faf) rfl
        have a5 := H1.out.cell (i := 5) (v := .int .i64 fau) rfl
        have b0 := H2.out.cell (i := 0) (v := .string fi) rfl
        have b1 := H2.out.cell (i := 1) (v := .string fs) rfl
        have b2 := H2.out.cell (i := 2) (v := .int .i64 fsf) rfl
        have b3 := H2.out.cell (i := 3) (v := .int .i64 fsu) rfl
        have b4 := H2.out.cell (i := 4) (v := .int .i64 faf) rfl
        have b5 := H2.out.cell (i := 5) (v := .int .i64 fau) rfl
        have c0 := H3.out.cell (i := 0) (v := .string gi) rfl
        have c1 := H3.out.cell (i := 1) (v := .string gs) rfl
        have c2 := H3.out.cell (i := 2) (v := .int .i64 gsf) rfl
        have c3 := H3.out.cell (i := 3) (v := .int .i64 gsu) rfl
        have c4 := H3.out.cell (i := 4) (v := .int .i64 gaf) rfl
        have c5 := H3.out.cell (i := 5) (v := .int .i64 gau) rfl
        have d0 := H4.out.cell (i := 0) (v := .string gi) rfl
        have d1 := H4.out.cell (i := 1) (v := .string gs) rfl
        have d2 := H4.out.cell (i := 2) (v := .int .i64 gsf) rfl
        have d3 := H4.out.cell (i := 3) (v := .int .i64 gsu) rfl
        have d4 := H4.out.cell (i := 4) (v := .int .i64 gaf) rfl
        have d5 := H4.out.cell (i := 5) (v := .int .i64 gau) rfl
        go_wp2_with fail
        clear a0 a1 a2 a3 a4 a5 b0 b1 b2 b3 b4 b5 c0 c1 c2 c3 c4 c5 d0 d1 d2 d3 d4 d5
        refine (live_s _ (HO.out.below HB.out)).mono ?_
        rintro e wc11 ⟨rfl, hb⟩
        have HB := Lib.hid (HB.out.trans (hb.mono HB.out.size))
        have HK := Lib.hid (HK.out.below hb)
        have H1 := Lib.hid (H1.out.step hb)
        have H2 := Lib.hid (H2.out.step hb)
        have H3 := Lib.hid (H3.out.step hb)
        have H4 := Lib.hid (H4.out.step hb)
        clear hb
        have a0 := H1.out.cell (i := 0) (v := .string fi) rfl
        have a1 := H1.out.cell (i := 1) (v := .string fs) rfl
        have a2 := H1.out.cell (i := 2) (v := .int .i64 fsf) rfl
        have a3 := H1.out.cell (i := 3) (v := .int .i64 fsu) rfl
        have a4 := H1.out.cell (i := 4) (v := .int .i64 faf) rfl
        have a5 := H1.out.cell (i := 5) (v := .int .i64 fau) rfl
        go_wp2_with fail
        clear a0 a1 a2 a3 a4 a5
        refine (accepting_k l ln lc ll fi now skew 0 ⟨fi, fs, fsf, fsu, faf, fau⟩ _ HK.out HAc.out).mono ?_
        rintro e wc12 ⟨rfl, hb⟩
        have HB := Lib.hid (HB.out.trans (hb.mono HB.out.size))
        have HK := Lib.hid (HK.out.below hb)
        have H1 := Lib.hid (H1.out.step hb)
        have H2 := Lib.hid (H2.out.step hb)
        have H3 := Lib.hid (H3.out.step hb)
        have H4 := Lib.hid (H4.out.step hb)
        clear hb
        have H5 : Hid (KbC (wc12.alloc (.cells #[.string fi, .string fs, .int .i64 fsf, .int .i64 fsu, .int .i64 faf, .int .i64 fau] 31)) wc12.heap.size (.cells #[.string fi, .string fs, .int .i64 fsf, .int .i64 fsu, .int .i64 faf, .int .i64 fau] 31)) := Lib.hid (kbc_new wc12 _)
        have hb := box_below wc12 (.cells #[.string fi, .string fs, .int .i64 fsf, .int .i64 fsu, .int .i64 faf, .int .i64 fau] 31)
        have HB := Lib.hid (HB.out.trans (hb.mono HB.out.size))
        have HK := Lib.hid (HK.out.below hb)
        have H1 := Lib.hid (H1.out.step hb)
        have H2 := Lib.hid (H2.out.step hb)
        have H3 := Lib.hid (H3.out.step hb)
        have H4 := Lib.hid (H4.out.step hb)
        clear hb
        unfold kV kcells
        have a0 := H1.out.cell (i := 0) (v := .string fi) rfl
        have a1 := H1.out.cell (i := 1) (v := .string fs) rfl
        have a2 := H1.out.cell (i := 2) (v := .int .i64 fsf) rfl
        have a3 := H1.out.cell (i := 3) (v := .int .i64 fsu) rfl
        have a4 := H1.out.cell (i := 4) (v := .int .i64 faf) rfl
        have a5 := H1.out.cell (i := 5) (v := .int .i64 fau) rfl
        have b0 := H5.out.cell (i := 0) (v := .string fi) rfl
        have b1 := H5.out.cell (i := 1) (v := .string fs) rfl
        have b2 := H5.out.cell (i := 2) (v := .int .i64 fsf) rfl
        have b3 := H5.out.cell (i := 3) (v := .int .i64 fsu) rfl
        have b4 := H5.out.cell (i := 4) (v := .int .i64 faf) rfl
        have b5 := H5.out.cell (i := 5) (v := .int .i64 fau) rfl
        go_wp2_with fail
        clear a0 a1 a2 a3 a4 a5 b0 b1 b2 b3 b4 b5
        refine (in_q fsf fsu now true _ HIn.out).mono ?_
        rintro e wc13 ⟨rfl, hb⟩
        have HB := Lib.hid (HB.out.trans (hb.mono HB.out.size))
        have HK := Lib.hid (HK.out.below hb)
        have H1 := Lib.hid (H1.out.step hb)
        have H2 := Lib.hid (H2.out.step hb)
        have H3 := Lib.hid (H3.out.step hb)
        have H4 := Lib.hid (H4.out.step hb)
        have H5 := Lib.hid (H5.out.step hb)
        clear hb
        go_wp2_with fail
        refine (check_k l ln lc ll 0 _ HK.out HS.out HCk.out).mono ?_
        rintro e wc14 ⟨rfl, hb⟩
        have HB := Lib.hid (HB.out.trans (hb.mono HB.out.size))
        have HK := Lib.hid (HK.out.below hb)
        have H1 := Lib.hid (H1.out.step hb)
        have H2 := Lib.hid (H2.out.step hb)
        have H3 := Lib.hid (H3.out.step hb)
        have H4 := Lib.hid (H4.out.step hb)
        have H5 := Lib.hid (H5.out.step hb)
        clear hb
        go_wp2_with fail
        go_ret
        exact ⟨rfl, HB.out⟩
  · have HG := Lib.hid hg
    clear hg hl
    go_enter Tryz.func4, Tryz.ntmps4
    go_wp2_with fail
    refine (great_k l ln lc ll 20 true _ HK.out HG.out).mono ?_
    rintro e w' ⟨rfl, rfl⟩
    go_wp2_with fail
    refine (live_s _ (HO.out.below HB.out)).mono ?_
    rintro e wc15 ⟨rfl, hb⟩
    have HB := Lib.hid (HB.out.trans (hb.mono HB.out.size))
    have HK := Lib.hid (HK.out.below hb)
    clear hb
    go_wp2_with fail
    go_ret
    exact ⟨rfl, HB.out⟩

theorem kchooses_types : ∀ t ∈ [22, 9, 3, 3], Tryz.prog.readableRec t = true ∧ t < Tryz.prog.types.size := by
  have h : ([22, 9, 3, 3].all fun t => Tryz.prog.readableRec t && decide (t < Tryz.prog.types.size)) = true := by kernel_rfl
  intro t ht
  have := List.all_eq_true.1 h t ht
  simpa using this

set_option maxRecDepth 100000 in
theorem kchooses_contract (H : Type) (enc : TypeId × Value → H) (W : World) (base : Nat) (args : Array Value) (ds gs : List (DataW H)) (before : List MemPlace)
    (hval : ∀ (j : Nat) t v, Tryz.f4.params[j]? = some t → args[j]? = some v → Value.okWide Tryz.prog W .any base t v)
    (hW : DataW.Whole enc Tryz.prog Tryz.f4.params.toList Rows.keysChoosesSpec.vars false W args.toList ds gs before) (hL : laidMetH Tryz.prog Rows.keysChoosesRow.laid W) (hsh : W.ShapedOpen Tryz.prog) :
    Calls Tryz.prog 4 args W fun e W' => ∃ v, e = .returned v ∧ Rows.keysChoosesSpec.post enc Tryz.prog Tryz.f4 false true false false W args v W' := by
  have hW' := hW
  obtain ⟨p, q, hA0, hV, rfl, hfz, hnd⟩ := hW
  have hA : DataW.TrodAll enc Tryz.prog W 0 (fun _ => true) true Tryz.f4.params.toList args.toList ds p := hA0
  obtain ⟨rfl, rfl⟩ := trodVars_none hV
  simp only [List.append_nil] at hW'
  have hlt : ∀ x ∈ p, x.block < W.heap.size := fun x hx => by simpa using hW'.lt x hx
  have fin : ∀ W', Below W.heap.size W W' → DataW.TrodAll enc Tryz.prog W' 0 (fun b => decide (b < W.heap.size)) true [22, 9, 3, 3] args.toList ds p := fun W' hb => by
    rw [Tryz.params4] at hA
    exact trodAll_below hb _ _ _ _ kchooses_types hA hlt
  clear hA0
  rw [Tryz.params4] at hA hval
  obtain ⟨v0, vs0, d0, ds0, p0, q0, hargs, rfl, hp0, h0, r0⟩ := trodAll_cons hA
  obtain ⟨v1, vs1, d1, ds1, p1, q1, rfl, rfl, hp1, h1, r1⟩ := trodAll_cons r0
  obtain ⟨v2, vs2, d2, ds2, p2, q2, rfl, rfl, hp2, h2, r2⟩ := trodAll_cons r1
  obtain ⟨v3, vs3, d3, ds3, p3, q3, rfl, rfl, hp3, h3, r3⟩ := trodAll_cons r2
  obtain ⟨rfl, rfl, rfl⟩ := trodAll_nil r3
  obtain rfl : args = #[v0, v1, v2, v3] := by cases args; simp_all
  obtain ⟨l, ln, lc, ll, rfl, hs0, hi0⟩ := open_ks (hval 0 22 v0 rfl rfl) h0
  obtain ⟨id, rfl, rfl, rfl, hs1⟩ := open_string Tryz.underlying9 (hval 1 9 v1 rfl rfl) h1
  obtain ⟨now, rfl, rfl, rfl, hs2⟩ := open_int Tryz.underlying3 (hval 2 3 v2 rfl rfl) h2
  obtain ⟨skew, rfl, rfl, rfl, hs3⟩ := open_int Tryz.underlying3 (hval 3 3 v3 rfl rfl) h3
  refine (kchooses_s l ln lc ll id now skew W hs0 hi0 hs2 hs3 (wk_of hL hsh)).mono fun e W' ⟨he, hb⟩ => ?_
  subst he
  exact ⟨_, rfl, _, _, _, [], p, [], hW', trodAll_mk1 (shut_bool Tryz.underlying4 _), fin W' hb, rfl, hb.frame _, fun h => by cases h⟩

set_option maxRecDepth 100000 in
theorem kchooses_lifted (os : Os) (started : os.Started) (H : Type) (enc : TypeId × Value → H) (F : Stop.Interp) :
    ReturnsInHanded {} Tryz.checked os 4 .any ((OpenSpec.ofChange Rows.keysChoosesSpec).preRow enc Tryz.prog Tryz.f4 Rows.keysChoosesRow.domain false Rows.keysChoosesRow.laid) (((OpenSpec.ofChange Rows.keysChoosesSpec).at F).post enc Tryz.prog Tryz.f4 false true false false) := by
  refine returnsInHanded_of_row (C := Tryz.checked) (s := OpenSpec.ofChange Rows.keysChoosesSpec) own started (by kernel_rfl) Tryz.func4
    (witness_row (enc := enc) (C := Tryz.checked) false (World.laidAll Tryz.prog os Rows.keysChoosesRow.laid) #[.slice none 0 0, .string ⟨#[]⟩, .int .i64 0, .int .i64 0] (World.laidAll_os _ _ _)
      (World.shaped_of_ZipB (by kernel_rfl) (by kernel_rfl)) (by kernel_rfl)
      (OpenSpec.preRow_of_cond 8 (x := ([.nil, .lit (.string []), .lit (.int .i64 0), .lit (.int .i64 0)], [], [])) (by kernel_rfl) (by kernel_rfl) (fun k hk => by cases hk) (by kernel_rfl)
        (by rw [MakeChecks.laidMetH_plain _ _ _ (by kernel_rfl)]; exact laidMet_laidAll _ (by kernel_rfl) (by kernel_rfl)))) ?_
  intro W base args ds gs before hval hW _ _ _ hL hsh _
  exact kchooses_contract H enc W base args ds gs before hval hW hL hsh

set_option maxRecDepth 100000 in
theorem kchooses_said : Rows.KeysChoosesSaid :=
  OpenClaim.holds_of_cond 4 Tryz.f4 rfl rfl rfl rfl rfl rfl rfl ⟨rfl, rfl, rfl, rfl, rfl⟩ rfl rfl rfl rfl rfl (by kernel_rfl) Tryz.func4 (by kernel_rfl)
    (of_decide_eq_true (by kernel_rfl)) (by unfold Func.isWrapper; first | (rw [if_pos (by decide +kernel)]; kernel_rfl) | (rw [if_neg (by decide +kernel)]; exact ⟨rfl, rfl⟩))
    (fun os started H enc _ F => by rw [OpenClaim.pre_eq_preRow]; exact kchooses_lifted os started H enc F)

set_option maxRecDepth 100000 in
theorem kchooses_plain (f : FuncId) (fn : Func) (hf : Tryz.pinned.checked.prog.funcNamed "identity/identitylaw24.KeysChooses" = some f) (hfn : Tryz.pinned.checked.prog.funcs[f]? = some fn) :
    true = Tryz.pinned.checked.prog.looks [] ∧ ∀ (j : Nat) t, fn.params[j]? = some t → Tryz.pinned.checked.prog.wantsStandIn t = false := by
  obtain rfl : f = 4 := Option.some.inj ((show Tryz.prog.funcNamed "identity/identitylaw24.KeysChooses" = some 4 by kernel_rfl).symm.trans hf) |>.symm
  obtain rfl : fn = Tryz.f4 := (Option.some.inj (Tryz.func4.symm.trans hfn)).symm
  refine ⟨by kernel_rfl, fun j t ht => ?_⟩
  rw [Tryz.params4] at ht
  have hm : t ∈ [22, 9, 3, 3] := by simpa using Array.mem_of_getElem? ht
  have hall : ([22, 9, 3, 3].all fun u => !Tryz.prog.wantsStandIn u) = true := by kernel_rfl
  exact (show Tryz.prog.wantsStandIn t = false by simpa using List.all_eq_true.1 hall t hm)

/-- THE CARD -/
theorem kchooses_card : Rows.KeysChoosesCardSaid :=
  Claim7.holds_tied_plain_at .later [] _ _ _ _ kchooses_said (fun _ h => by cases h) (by kernel_rfl) (fun _ h => by cases h) keysChooses_row_tie rfl ⟨rfl, rfl⟩ (by kernel_rfl) rfl kchooses_plain (by kernel_rfl)
end Go.Proofs.YtgepcbggkfjlgaaGreatDoor
end
