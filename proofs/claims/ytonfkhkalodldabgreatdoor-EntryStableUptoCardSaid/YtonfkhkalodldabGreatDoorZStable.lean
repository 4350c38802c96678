/-
  The normal form of an entry is normal, and what Apply returns is normal, for every schema, entry and list of modifications of bulk at most 1048576 together. Condition: that bound.
-/
import Derived.Test.YtonfkhkalodldabGreatDoorP18
import Derived.Test.YtonfkhkalodldabGreatDoorP19
import Derived.Test.YtonfkhkalodldabGreatDoorP25
set_option linter.unusedVariables false
set_option linter.unusedSimpArgs false
set_option linter.unnecessarySimpa false

section
/-
  The walk of EntryStable. No condition.
-/
set_option maxRecDepth 100000
set_option linter.unusedVariables false
set_option linter.unusedSimpArgs false
set_option linter.unnecessarySimpa false
namespace Go.Proofs.YtonfkhkalodldabGreatDoor
open Go.RowKit Go.PlainAid

set_option maxHeartbeats 16000000 in
theorem estable_s (to : Option Addr) (tn tc : Nat) (ts : List Ty) (co : Option Addr) (cn cc : Nat) (cs : List Cl) (en : ByteArray) (eo : Option Addr) (ek ec : Nat) (el : List At) (mo : Option Addr) (mk mc : Nat) (ml : List Md) (W : World) (HT : TysAt W to tn tc ts) (RT : RTyU 1048576 ts) (HC : ClsAt W co cn cc cs) (RC : RClU 1048576 cs) (Men : en.size ≤ 1048576) (He : AttrsAt W eo ek ec el) (Re : RAU 1048576 el) (Hm : MdsAt W mo mk mc ml) (Rm : RMU 1048576 ml) (hok : EOk W) :
    Calls Tryz.prog 3 #[.agg #[.slice to tn tc, .slice co cn cc], .agg #[.string en, .slice eo ek ec], .slice mo mk mc] W fun e w' => e = .returned (.bool true) ∧ Below W.heap.size W w' := by
  have Hel := Lib.hid He
  have HEM := Lib.hid (And.intro (Re.sm (Nat.le_refl _)) (Re.fv (Nat.le_refl _)))
  clear He Re
  have HI := Lib.hid (And.intro HT HC)
  have HSM := Lib.hid (And.intro (RT.sm (Nat.le_refl _)) (RC.sm (Nat.le_refl _)))
  clear HT HC RT RC
  have HM := Lib.hid Hm
  have HRm := Lib.hid (Rm.sm (Nat.le_refl _))
  clear Hm Rm
  have HO := Lib.hid hok
  clear hok
  have b0 := below_al W (.cells #[.slice to tn tc, .slice co cn cc] 25)
  have HS : Hid (Kb (W.alloc (.cells #[.slice to tn tc, .slice co cn cc] 25)) W.heap.size (.cells #[.slice to tn tc, .slice co cn cc] 25)) := Lib.hid (kbl_new _ _)
  have a0 := b0
  have b1 := below_al (W.alloc (.cells #[.slice to tn tc, .slice co cn cc] 25)) (.cells #[.string en, .slice eo ek ec] 28)
  have HS := Lib.hid (HS.out.step b1)
  have HX : Hid (Kb ((W.alloc (.cells #[.slice to tn tc, .slice co cn cc] 25)).alloc (.cells #[.string en, .slice eo ek ec] 28)) (W.heap.size + 1) (.cells #[.string en, .slice eo ek ec] 28)) := Lib.hid (by have := kbl_new (W.alloc (.cells #[.slice to tn tc, .slice co cn cc] 25)) (.cells #[.string en, .slice eo ek ec] 28); simpa using this)
  have a1 := a0.trans (b1.mono a0.size)
  have HB := Lib.hid a1
  clear a0 b0 a1 b1
  have s0 := HS.out.cell (i := 0) rfl
  have s1 := HS.out.cell (i := 1) rfl
  have x0 := HX.out.cell (i := 0) rfl
  have x1 := HX.out.cell (i := 1) rfl
  go_enter Tryz.func3, Tryz.ntmps3
  obtain ⟨tt, htt⟩ : ∃ x, soundT ts cs = x := ⟨_, rfl⟩
  obtain ⟨uu, huu⟩ : ∃ x, soundC ts cs = x := ⟨_, rfl⟩
  have HTU := Lib.hid (And.intro htt huu)
  clear htt huu
  obtain ⟨c, hc⟩ : ∃ x, enE tt uu en el = x := ⟨_, rfl⟩
  obtain ⟨N, hN⟩ : ∃ x, enN tt uu en el = x := ⟨_, rfl⟩
  obtain ⟨L, hL⟩ : ∃ x, enL tt uu en el = x := ⟨_, rfl⟩
  have HCT := Lib.hid (And.intro hc (And.intro hN hL))
  have HNo := Lib.hid (show c ≠ 0 → N = ⟨#[]⟩ ∧ L = [] from fun h => by rw [← hN, ← hL]; exact en_none (by rw [hc]; exact h))
  have HNm := Lib.hid (show c = 0 → NmE tt uu N L from fun h => by rw [← hN, ← hL]; exact en_nm (by rw [hc]; exact h))
  clear hc hN hL
  have HCx := Lib.hid (enNormal_s to tn tc co cn cc ts cs en eo ek ec el _ ⟨to, tn, tc, co, cn, cc, rfl, HI.out.1.below HB.out, HI.out.2.below HB.out, HSM.out.1, HSM.out.2⟩ (by omega) (Hel.out.below HB.out) HEM.out.1 HEM.out.2 (HO.out.io.below HB.out))
  go_wp2_with fail
  refine HCx.out.mono ?_
  rintro e w1 hp
  unfold EnP at hp
  rw [HTU.out.1, HTU.out.2, HCT.out.1, HCT.out.2.1, HCT.out.2.2] at hp
  obtain ⟨v1, rfl, ⟨go, gn, gc, rfl, hga⟩, hb⟩ := hp
  have HGa := Lib.hid hga
  clear hga
  have HB := Lib.hid (HB.out.trans (hb.mono HB.out.size))
  have HS := Lib.hid (HS.out.step hb)
  have HX := Lib.hid (HX.out.step hb)
  clear s0 s1 x0 x1
  clear hb HCx
  have s0 := HS.out.cell (i := 0) rfl
  have s1 := HS.out.cell (i := 1) rfl
  have x0 := HX.out.cell (i := 0) rfl
  have x1 := HX.out.cell (i := 1) rfl
  have hbl := below_al w1 (.cells #[.string N, .slice go gn gc] 28)
  have HY := Lib.hid (kbl_new w1 (.cells #[.string N, .slice go gn gc] 28))
  have HB := Lib.hid (HB.out.trans (hbl.mono HB.out.size))
  have HS := Lib.hid (HS.out.step hbl)
  have HX := Lib.hid (HX.out.step hbl)
  have HGa := Lib.hid (HGa.out.below hbl)
  clear s0 s1 x0 x1
  clear hbl
  have s0 := HS.out.cell (i := 0) rfl
  have s1 := HS.out.cell (i := 1) rfl
  have x0 := HX.out.cell (i := 0) rfl
  have x1 := HX.out.cell (i := 1) rfl
  have y0 := HY.out.cell (i := 0) rfl
  have y1 := HY.out.cell (i := 1) rfl
  by_cases h0 : c = 0
  · have d0 : (c != 0) = false := by rw [h0]; rfl
    have hN := HNm.out h0
    have HE := Lib.hid hN.en
    have HZ := Lib.hid hN.sz
    have HNl := Lib.hid hN
    clear hN h0
    have hNs := HZ.out.en
    obtain ⟨c2, hc⟩ : ∃ x, apE tt uu N L ml = x := ⟨_, rfl⟩
    obtain ⟨N2, hN⟩ : ∃ x, apN tt uu N L ml = x := ⟨_, rfl⟩
    obtain ⟨L2, hL⟩ : ∃ x, apL tt uu N L ml = x := ⟨_, rfl⟩
    have HCA := Lib.hid (And.intro hc (And.intro hN hL))
    have HNo2 := Lib.hid (show c2 ≠ 0 → N2 = ⟨#[]⟩ ∧ L2 = [] from fun h => by rw [← hN, ← hL]; exact ap_none (by rw [hc]; exact h))
    have HNm2 := Lib.hid (show c2 = 0 → NmE tt uu N2 L2 ∧ N2 = N from fun h => ⟨by rw [← hN, ← hL]; exact ap_nm HNl.out (by rw [hc]; exact h), by rw [← hN]; exact ap_name (by rw [hc]; exact h)⟩)
    clear hc hN hL
    have HCx := Lib.hid (enNormal_s to tn tc co cn cc ts cs N go gn gc L _ ⟨to, tn, tc, co, cn, cc, rfl, HI.out.1.below HB.out, HI.out.2.below HB.out, HSM.out.1, HSM.out.2⟩ (by omega) HGa.out HZ.out.sm HZ.out.fv (HO.out.io.below HB.out))
    go_wp2_with fail
    refine HCx.out.mono ?_
    rintro e w2 hp
    unfold EnP at hp
    rw [HTU.out.1, HTU.out.2, HE.out.1, HE.out.2.1, HE.out.2.2.1] at hp
    obtain ⟨v2, rfl, ⟨so, sn, sc, rfl, hsa⟩, hb⟩ := hp
    have HSa := Lib.hid hsa
    clear hsa
    have HB := Lib.hid (HB.out.trans (hb.mono HB.out.size))
    have HS := Lib.hid (HS.out.step hb)
    have HX := Lib.hid (HX.out.step hb)
    have HY := Lib.hid (HY.out.step hb)
    have HGa := Lib.hid (HGa.out.below hb)
    clear s0 s1 x0 x1 y0 y1
    clear hb HCx
    have s0 := HS.out.cell (i := 0) rfl
    have s1 := HS.out.cell (i := 1) rfl
    have x0 := HX.out.cell (i := 0) rfl
    have x1 := HX.out.cell (i := 1) rfl
    have y0 := HY.out.cell (i := 0) rfl
    have y1 := HY.out.cell (i := 1) rfl
    have hbl := below_al w2 (.cells #[.string N, .slice so sn sc] 28)
    have HW := Lib.hid (kbl_new w2 (.cells #[.string N, .slice so sn sc] 28))
    have HB := Lib.hid (HB.out.trans (hbl.mono HB.out.size))
    have HS := Lib.hid (HS.out.step hbl)
    have HX := Lib.hid (HX.out.step hbl)
    have HY := Lib.hid (HY.out.step hbl)
    have HGa := Lib.hid (HGa.out.below hbl)
    have HSa := Lib.hid (HSa.out.below hbl)
    clear s0 s1 x0 x1 y0 y1
    clear hbl
    have s0 := HS.out.cell (i := 0) rfl
    have s1 := HS.out.cell (i := 1) rfl
    have x0 := HX.out.cell (i := 0) rfl
    have x1 := HX.out.cell (i := 1) rfl
    have y0 := HY.out.cell (i := 0) rfl
    have y1 := HY.out.cell (i := 1) rfl
    have z0 := HW.out.cell (i := 0) rfl
    have z1 := HW.out.cell (i := 1) rfl
    have HCx := Lib.hid (same8_s N N go so gn sn gc sc L L _ HGa.out HSa.out)
    rw [decide_eq_true ⟨rfl, rfl⟩] at HCx
    go_wp2_with fail
    refine HCx.out.mono ?_
    rintro e w3 ⟨rfl, hb⟩
    have HB := Lib.hid (HB.out.trans (hb.mono HB.out.size))
    have HS := Lib.hid (HS.out.step hb)
    have HX := Lib.hid (HX.out.step hb)
    have HY := Lib.hid (HY.out.step hb)
    have HW := Lib.hid (HW.out.step hb)
    have HGa := Lib.hid (HGa.out.below hb)
    have HSa := Lib.hid (HSa.out.below hb)
    clear s0 s1 x0 x1 y0 y1 z0 z1
    clear hb HCx
    have s0 := HS.out.cell (i := 0) rfl
    have s1 := HS.out.cell (i := 1) rfl
    have x0 := HX.out.cell (i := 0) rfl
    have x1 := HX.out.cell (i := 1) rfl
    have y0 := HY.out.cell (i := 0) rfl
    have y1 := HY.out.cell (i := 1) rfl
    have z0 := HW.out.cell (i := 0) rfl
    have z1 := HW.out.cell (i := 1) rfl
    have HCx := Lib.hid (apply_s to tn tc co cn cc ts cs N go gn gc L mo mk mc ml _ ⟨to, tn, tc, co, cn, cc, rfl, HI.out.1.below HB.out, HI.out.2.below HB.out, HSM.out.1, HSM.out.2⟩ (by omega) HGa.out HZ.out.sm HZ.out.fv (HM.out.below HB.out) HRm.out (HO.out.io.below HB.out))
    go_wp2_with fail
    refine HCx.out.mono ?_
    rintro e w4 hp
    unfold ApP at hp
    rw [HTU.out.1, HTU.out.2, HCA.out.1, HCA.out.2.1, HCA.out.2.2] at hp
    obtain ⟨v3, rfl, ⟨ro, rn, rc, rfl, hra⟩, hb⟩ := hp
    have HRa := Lib.hid hra
    clear hra
    have HB := Lib.hid (HB.out.trans (hb.mono HB.out.size))
    have HS := Lib.hid (HS.out.step hb)
    have HX := Lib.hid (HX.out.step hb)
    have HY := Lib.hid (HY.out.step hb)
    have HW := Lib.hid (HW.out.step hb)
    have HGa := Lib.hid (HGa.out.below hb)
    have HSa := Lib.hid (HSa.out.below hb)
    clear s0 s1 x0 x1 y0 y1 z0 z1
    clear hb HCx
    have s0 := HS.out.cell (i := 0) rfl
    have s1 := HS.out.cell (i := 1) rfl
    have x0 := HX.out.cell (i := 0) rfl
    have x1 := HX.out.cell (i := 1) rfl
    have y0 := HY.out.cell (i := 0) rfl
    have y1 := HY.out.cell (i := 1) rfl
    have z0 := HW.out.cell (i := 0) rfl
    have z1 := HW.out.cell (i := 1) rfl
    have hbl := below_al w4 (.cells #[.string N2, .slice ro rn rc] 28)
    have HV := Lib.hid (kbl_new w4 (.cells #[.string N2, .slice ro rn rc] 28))
    have HB := Lib.hid (HB.out.trans (hbl.mono HB.out.size))
    have HS := Lib.hid (HS.out.step hbl)
    have HX := Lib.hid (HX.out.step hbl)
    have HY := Lib.hid (HY.out.step hbl)
    have HW := Lib.hid (HW.out.step hbl)
    have HGa := Lib.hid (HGa.out.below hbl)
    have HSa := Lib.hid (HSa.out.below hbl)
    have HRa := Lib.hid (HRa.out.below hbl)
    clear s0 s1 x0 x1 y0 y1 z0 z1
    clear hbl
    have s0 := HS.out.cell (i := 0) rfl
    have s1 := HS.out.cell (i := 1) rfl
    have x0 := HX.out.cell (i := 0) rfl
    have x1 := HX.out.cell (i := 1) rfl
    have y0 := HY.out.cell (i := 0) rfl
    have y1 := HY.out.cell (i := 1) rfl
    have z0 := HW.out.cell (i := 0) rfl
    have z1 := HW.out.cell (i := 1) rfl
    have u0 := HV.out.cell (i := 0) rfl
    have u1 := HV.out.cell (i := 1) rfl
    by_cases h2 : c2 = 0
    · have d2 : (c2 != 0) = false := by rw [h2]; rfl
      have d3 : (c2 == 0) = true := by rw [h2]; rfl
      obtain ⟨hN2, hNN⟩ := HNm2.out h2
      have HE2 := Lib.hid hN2.en
      have HZ2 := Lib.hid hN2.sz
      clear hN2
      have e1 : (N2.toList == N.toList) = true := by rw [hNN]; simp
      have HNN := Lib.hid hNN
      have hNs2 := HZ2.out.en
      clear hNN
      have HCx := Lib.hid (enNormal_s to tn tc co cn cc ts cs N2 ro rn rc L2 _ ⟨to, tn, tc, co, cn, cc, rfl, HI.out.1.below HB.out, HI.out.2.below HB.out, HSM.out.1, HSM.out.2⟩ (by omega) HRa.out HZ2.out.sm HZ2.out.fv (HO.out.io.below HB.out))
      go_wp2_with fail
      refine HCx.out.mono ?_
      rintro e w5 hp
      unfold EnP at hp
      rw [HTU.out.1, HTU.out.2, HE2.out.1, HE2.out.2.1, HE2.out.2.2.1] at hp
      obtain ⟨v4, rfl, ⟨po, pn, pc, rfl, hpa⟩, hb⟩ := hp
      have HPa := Lib.hid hpa
      clear hpa
      have HB := Lib.hid (HB.out.trans (hb.mono HB.out.size))
      have HS := Lib.hid (HS.out.step hb)
      have HX := Lib.hid (HX.out.step hb)
      have HY := Lib.hid (HY.out.step hb)
      have HW := Lib.hid (HW.out.step hb)
      have HV := Lib.hid (HV.out.step hb)
      have HGa := Lib.hid (HGa.out.below hb)
      have HSa := Lib.hid (HSa.out.below hb)
      have HRa := Lib.hid (HRa.out.below hb)
      clear s0 s1 x0 x1 y0 y1 z0 z1 u0 u1
      clear hb HCx
      have s0 := HS.out.cell (i := 0) rfl
      have s1 := HS.out.cell (i := 1) rfl
      have x0 := HX.out.cell (i := 0) rfl
      have x1 := HX.out.cell (i := 1) rfl
      have y0 := HY.out.cell (i := 0) rfl
      have y1 := HY.out.cell (i := 1) rfl
      have z0 := HW.out.cell (i := 0) rfl
      have z1 := HW.out.cell (i := 1) rfl
      have u0 := HV.out.cell (i := 0) rfl
      have u1 := HV.out.cell (i := 1) rfl
      have hbl := below_al w5 (.cells #[.string N2, .slice po pn pc] 28)
      have HU := Lib.hid (kbl_new w5 (.cells #[.string N2, .slice po pn pc] 28))
      have HB := Lib.hid (HB.out.trans (hbl.mono HB.out.size))
      have HS := Lib.hid (HS.out.step hbl)
      have HX := Lib.hid (HX.out.step hbl)
      have HY := Lib.hid (HY.out.step hbl)
      have HW := Lib.hid (HW.out.step hbl)
      have HV := Lib.hid (HV.out.step hbl)
      have HGa := Lib.hid (HGa.out.below hbl)
      have HSa := Lib.hid (HSa.out.below hbl)
      have HRa := Lib.hid (HRa.out.below hbl)
      have HPa := Lib.hid (HPa.out.below hbl)
      clear s0 s1 x0 x1 y0 y1 z0 z1 u0 u1
      clear hbl
      have s0 := HS.out.cell (i := 0) rfl
      have s1 := HS.out.cell (i := 1) rfl
      have x0 := HX.out.cell (i := 0) rfl
      have x1 := HX.out.cell (i := 1) rfl
      have y0 := HY.out.cell (i := 0) rfl
      have y1 := HY.out.cell (i := 1) rfl
      have z0 := HW.out.cell (i := 0) rfl
      have z1 := HW.out.cell (i := 1) rfl
      have u0 := HV.out.cell (i := 0) rfl
      have u1 := HV.out.cell (i := 1) rfl
      have q0 := HU.out.cell (i := 0) rfl
      have q1 := HU.out.cell (i := 1) rfl
      have HCx := Lib.hid (same8_s N2 N2 ro po rn pn rc pc L2 L2 _ HRa.out HPa.out)
      rw [decide_eq_true ⟨rfl, rfl⟩] at HCx
      go_wp2_with fail
      refine HCx.out.mono ?_
      rintro e w6 ⟨rfl, hb⟩
      have HB := Lib.hid (HB.out.trans (hb.mono HB.out.size))
      have HS := Lib.hid (HS.out.step hb)
      have HX := Lib.hid (HX.out.step hb)
      have HY := Lib.hid (HY.out.step hb)
      have HW := Lib.hid (HW.out.step hb)
      have HV := Lib.hid (HV.out.step hb)
      have HU := Lib.hid (HU.out.step hb)
      have HGa := Lib.hid (HGa.out.below hb)
      have HSa := Lib.hid (HSa.out.below hb)
      have HRa := Lib.hid (HRa.out.below hb)
      have HPa := Lib.hid (HPa.out.below hb)
      clear s0 s1 x0 x1 y0 y1 z0 z1 u0 u1 q0 q1
      clear hb HCx
      have s0 := HS.out.cell (i := 0) rfl
      have s1 := HS.out.cell (i := 1) rfl
      have x0 := HX.out.cell (i := 0) rfl
      have x1 := HX.out.cell (i := 1) rfl
      have y0 := HY.out.cell (i := 0) rfl
      have y1 := HY.out.cell (i := 1) rfl
      have z0 := HW.out.cell (i := 0) rfl
      have z1 := HW.out.cell (i := 1) rfl
      have u0 := HV.out.cell (i := 0) rfl
      have u1 := HV.out.cell (i := 1) rfl
      have q0 := HU.out.cell (i := 0) rfl
      have q1 := HU.out.cell (i := 1) rfl
      have HCx := Lib.hid (example_e _ (HO.out.io.below HB.out))
      go_wp2_with fail
      refine HCx.out.mono ?_
      rintro e w99 ⟨rfl, hb⟩
      have HB := Lib.hid (HB.out.trans (hb.mono HB.out.size))
      clear hb
      go_wp2_with fail
      go_ret
      exact ⟨rfl, HB.out⟩
    · have d2 : (c2 != 0) = true := by simpa using h2
      obtain ⟨hn0, hl0⟩ := HNo2.out h2
      have hr0 : rn = 0 := by have := HRa.out.1; rw [hl0] at this; simpa using this.symm
      have hs0 : N2.size = 0 := by rw [hn0]; rfl
      have q0 : ((N2.size : Int) + (rn : Int) == 0) = true := by rw [hs0, hr0]; rfl
      have hlt : (N2.size : Int) + (rn : Int) ≤ 0 := by omega
      clear hn0 hl0 h2 hr0 hs0
      have HCx := Lib.hid (example_e _ (HO.out.io.below HB.out))
      go_wp2_with fail
      refine HCx.out.mono ?_
      rintro e w99 ⟨rfl, hb⟩
      have HB := Lib.hid (HB.out.trans (hb.mono HB.out.size))
      clear hb
      go_wp2_with fail
      go_ret
      exact ⟨rfl, HB.out⟩
  · have d0 : (c != 0) = true := by simpa using h0
    obtain ⟨hn0, hl0⟩ := HNo.out h0
    have hr0 : gn = 0 := by have := HGa.out.1; rw [hl0] at this; simpa using this.symm
    have hs0 : N.size = 0 := by rw [hn0]; rfl
    have q0 : ((N.size : Int) + (gn : Int) == 0) = true := by rw [hs0, hr0]; rfl
    have hlt : (N.size : Int) + (gn : Int) ≤ 0 := by omega
    clear hn0 hl0 h0 hr0 hs0
    have HCx := Lib.hid (example_e _ (HO.out.io.below HB.out))
    go_wp2_with fail
    refine HCx.out.mono ?_
    rintro e w99 ⟨rfl, hb⟩
    have HB := Lib.hid (HB.out.trans (hb.mono HB.out.size))
    clear hb
    go_wp2_with fail
    go_ret
    exact ⟨rfl, HB.out⟩

end Go.Proofs.YtonfkhkalodldabGreatDoor
end

section
/-
  The normal form of an entry is normal, and what Apply returns is normal, for every schema, entry and list of modifications of bulk at most 1048576 together. Condition: that bound.
-/
set_option maxRecDepth 100000
set_option linter.unusedVariables false
set_option linter.unusedSimpArgs false
set_option linter.unnecessarySimpa false
namespace Go.Proofs.YtonfkhkalodldabGreatDoor
open Go.ChangeShapes Go.WideShapes Go.ChangeAt Go.RowKit Go.PlainAid
open Go.ChangeMaps (open_string shut_string)


theorem estable_types : ∀ t ∈ [25, 28, 29], Tryz.prog.readableRec t = true ∧ t < Tryz.prog.types.size := by
  have h : ([25, 28, 29].all fun t => Tryz.prog.readableRec t && decide (t < Tryz.prog.types.size)) = true := by kernel_rfl
  intro t ht
  have := List.all_eq_true.1 h t ht
  simpa using this

theorem estable_contract (H : Type) (enc : TypeId × Value → H) (W : World) (base : Nat) (args : Array Value) (ds gs : List (DataW H)) (before : List MemPlace)
    (hval : ∀ (j : Nat) t v, Tryz.f3.params[j]? = some t → args[j]? = some v → Value.okWide Tryz.prog W .any base t v)
    (hW : DataW.Whole enc Tryz.prog Tryz.f3.params.toList Rows.entryStableSpec.vars false W args.toList ds gs before)
    (hk : Rows.uptoSmall H (ds ++ gs) = true)
    (hL : laidMetH Tryz.prog Rows.entryStableUptoRow.laid W) (hsh : W.ShapedOpen Tryz.prog) :
    Calls Tryz.prog 3 args W fun e W' => ∃ v, e = .returned v ∧ Rows.entryStableSpec.post enc Tryz.prog Tryz.f3 false true false false W args v W' := by
  have hW' := hW
  obtain ⟨p, q, hA0, hV, rfl, hfz, hnd⟩ := hW
  have hA : DataW.TrodAll enc Tryz.prog W 0 (fun _ => true) true Tryz.f3.params.toList args.toList ds p := hA0
  obtain ⟨rfl, rfl⟩ := trodVars_none hV
  simp only [List.append_nil] at hW'
  have hlt : ∀ x ∈ p, x.block < W.heap.size := fun x hx => by simpa using hW'.lt x hx
  have fin : ∀ W', Below W.heap.size W W' → DataW.TrodAll enc Tryz.prog W' 0 (fun b => decide (b < W.heap.size)) true [25, 28, 29] args.toList ds p := fun W' hb => by
    rw [Tryz.params3] at hA
    exact trodAll_below hb _ _ _ _ estable_types hA hlt
  clear hA0
  rw [Tryz.params3] at hA hval
  have hbk := bk_bound hk
  obtain ⟨v0, vs0, d0, ds0, p0, q0, hargs, rfl, hp0, h0, r0⟩ := trodAll_cons hA
  obtain ⟨v1, vs1, d1, ds1, p1, q1, rfl, rfl, hp1, h1, r1⟩ := trodAll_cons r0
  obtain ⟨v2, vs2, d2, ds2, p2, q2, rfl, rfl, hp2, h2, r2⟩ := trodAll_cons r1
  obtain ⟨rfl, rfl, rfl⟩ := trodAll_nil r2
  obtain rfl : args = #[v0, v1, v2] := by cases args; simp_all
  simp only [List.append_nil, Rows.uptoBulkAll] at hbk
  obtain ⟨to, tn, tc, ts, co, cn, cc, cs, rfl, ht0, rt0, hc0, rc0⟩ := open_schemaU (K := 1048576) (hval 0 25 v0 rfl rfl) h0 (by omega)
  obtain ⟨en, eo, ek, ec, el, rfl, hen, hel, rel⟩ := open_entryU (K := 1048576) (hval 1 28 v1 rfl rfl) h1 (by omega)
  obtain ⟨mo, mk, mc, ml, rfl, hml, rml⟩ := open_modsU (K := 1048576) (hval 2 29 v2 rfl rfl) h2 (by omega)
  refine (estable_s to tn tc ts co cn cc cs en eo ek ec el mo mk mc ml W ht0 rt0 hc0 rc0 hen hel rel hml rml (eok hL hsh)).mono fun e W' ⟨he, hb⟩ => ?_
  subst he
  exact ⟨_, rfl, _, _, _, [], p, [], hW', trodAll_mk1 (shut_bool Tryz.underlying4 _), fin W' hb, rfl, hb.frame _, fun h => by cases h⟩

theorem estable_lifted (os : Os) (started : os.Started) (H : Type) (enc : TypeId × Value → H) (F : Stop.Interp) :
    ReturnsInHanded {} Tryz.checked os 3 .any ((Rows.OpenSpec.upto Rows.entryStableSpec).preRow enc Tryz.prog Tryz.f3 Rows.entryStableUptoRow.domain false Rows.entryStableUptoRow.laid) (((Rows.OpenSpec.upto Rows.entryStableSpec).at F).post enc Tryz.prog Tryz.f3 false true false false) := by
  refine returnsInHanded_of_row (C := Tryz.checked) (s := Rows.OpenSpec.upto Rows.entryStableSpec) own started (by kernel_rfl) Tryz.func3
    (witness_row (enc := enc) (C := Tryz.checked) false (World.laidAll Tryz.prog os Rows.entryStableUptoRow.laid) #[.agg #[.slice none 0 0, .slice none 0 0], .agg #[.string ⟨#[]⟩, .slice none 0 0], .slice none 0 0] (World.laidAll_os _ _ _)
      (World.shaped_of_ZipB (by kernel_rfl) (by kernel_rfl)) (by kernel_rfl)
      (OpenSpec.preRow_of_cond 8 (x := ([.agg [.nil, .nil], .agg [.lit (.string []), .nil], .nil], [], [])) (by kernel_rfl) (by kernel_rfl) (fun k hk => by cases hk; kernel_rfl) (by kernel_rfl)
        (by rw [MakeChecks.laidMetH_plain _ _ _ (by kernel_rfl)]; exact laidMet_laidAll _ (by kernel_rfl) (by kernel_rfl)))) ?_
  intro W base args ds gs before hval hW _ hk _ hL hsh _
  exact estable_contract H enc W base args ds gs before hval hW (hk _ rfl) hL hsh

end Go.Proofs.YtonfkhkalodldabGreatDoor
end
