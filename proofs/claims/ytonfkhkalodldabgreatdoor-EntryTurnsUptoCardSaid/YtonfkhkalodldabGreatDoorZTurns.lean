/-
  The difference of two normal entries with the same name turns the first one into the second one, for every schema, entry and list of attributes of bulk at most 1048576 together. Condition: that bound.
-/
import Derived.Test.YtonfkhkalodldabGreatDoorT21
set_option linter.unusedVariables false
set_option linter.unusedSimpArgs false
set_option linter.unnecessarySimpa false

section
set_option maxRecDepth 100000
namespace Go.Proofs.YtonfkhkalodldabGreatDoor
open Go.RowKit Go.PlainAid
set_option maxHeartbeats 16000000 in
theorem eturns_s (to : Option Addr) (tn tc : Nat) (ts : List Ty) (co : Option Addr) (cn cc : Nat) (cs : List Cl) (en : ByteArray) (eo : Option Addr) (ek ec : Nat) (el : List At) (lo : Option Addr) (lk lc : Nat) (ll : List At) (W : World) (HT : TysAt W to tn tc ts) (RT : RTyU 1048576 ts) (HC : ClsAt W co cn cc cs) (RC : RClU 1048576 cs) (Men : en.size ≤ 1048576) (He : AttrsAt W eo ek ec el) (Re : RAU 1048576 el) (Hl : AttrsAt W lo lk lc ll) (Rl : RAU 1048576 ll) (hok : EOk W) :
  Calls Tryz.prog 4 #[.agg #[.slice to tn tc, .slice co cn cc], .agg #[.string en, .slice eo ek ec], .slice lo lk lc] W fun e w' => e = .returned (.bool true) ∧ Below W.heap.size W w' := by
 have Hel := Lib.hid He
 have HEM := Lib.hid (And.intro (Re.sm (Nat.le_refl _)) (Re.fv (Nat.le_refl _)))
 clear He Re
 have HI := Lib.hid (And.intro HT HC)
 have HSM := Lib.hid (And.intro (RT.sm (Nat.le_refl _)) (RC.sm (Nat.le_refl _)))
 clear HT HC RT RC
 have Hll := Lib.hid Hl
 have HLM := Lib.hid (And.intro (Rl.sm (Nat.le_refl _)) (Rl.fv (Nat.le_refl _)))
 clear Hl Rl
 have HO := Lib.hid hok
 clear hok
 have b0 := below_al W (.cells #[.slice to tn tc, .slice co cn cc] 25)
 have HS : Hid (Kb (W.alloc (.cells #[.slice to tn tc, .slice co cn cc] 25)) W.heap.size (.cells #[.slice to tn tc, .slice co cn cc] 25)) := Lib.hid (kbl_new _ _)
 have a0 := b0
 have b1 := below_al (W.alloc (.cells #[.slice to tn tc, .slice co cn cc] 25)) (.cells #[.string en, .slice eo ek ec] 28)
 have HS := Lib.hid (HS.out.step b1)
 have HX : Hid (Kb ((W.alloc (.cells #[.slice to tn tc, .slice co cn cc] 25)).alloc (.cells #[.string en, .slice eo ek ec] 28)) (W.heap.size + 1) (.cells #[.string en, .slice eo ek ec] 28)) := Lib.hid (by have := kbl_new (W.alloc (.cells #[.slice to tn tc, .slice co cn cc] 25)) (.cells #[.string en, .slice eo ek ec] 28); simpa using this)
 have a1 := a0.trans (b1.mono a0.size)
 have HB := Lib.hid a1
 clear a0 b0 a1 b1
 have s0 := HS.out.cell (i := 0) rfl
 have s1 := HS.out.cell (i := 1) rfl
 have x0 := HX.out.cell (i := 0) rfl
 have x1 := HX.out.cell (i := 1) rfl
 go_enter Tryz.func4, Tryz.ntmps4
 obtain ⟨tt, htt⟩ : ∃ x, soundT ts cs = x := ⟨_, rfl⟩
 obtain ⟨uu, huu⟩ : ∃ x, soundC ts cs = x := ⟨_, rfl⟩
 have HTU := Lib.hid (And.intro htt huu)
 clear htt huu
 obtain ⟨c1, hc⟩ : ∃ x, enE tt uu en el = x := ⟨_, rfl⟩
 obtain ⟨N1, hN⟩ : ∃ x, enN tt uu en el = x := ⟨_, rfl⟩
 obtain ⟨L1, hL⟩ : ∃ x, enL tt uu en el = x := ⟨_, rfl⟩
 have HCT1 := Lib.hid (And.intro hc (And.intro hN hL))
 have HNm1 := Lib.hid (show c1 = 0 → NmE tt uu N1 L1 from fun h => by rw [← hN, ← hL]; exact en_nm (by rw [hc]; exact h))
 clear hc hN hL
 obtain ⟨c2, hc⟩ : ∃ x, enE tt uu en ll = x := ⟨_, rfl⟩
 obtain ⟨N2, hN⟩ : ∃ x, enN tt uu en ll = x := ⟨_, rfl⟩
 obtain ⟨L2, hL⟩ : ∃ x, enL tt uu en ll = x := ⟨_, rfl⟩
 have HCT2 := Lib.hid (And.intro hc (And.intro hN hL))
 have HNm2 := Lib.hid (show c2 = 0 → NmE tt uu N2 L2 from fun h => by rw [← hN, ← hL]; exact en_nm (by rw [hc]; exact h))
 clear hc hN hL
 have HNN := Lib.hid (show c1 = 0 → c2 = 0 → N1 = N2 from fun h k => by rw [← HCT1.out.2.1, ← HCT2.out.2.1]; exact en_name (by rw [HCT1.out.1]; exact h) (by rw [HCT2.out.1]; exact k))
 have HCx := Lib.hid (enNormal_s to tn tc co cn cc ts cs en eo ek ec el _ ⟨to, tn, tc, co, cn, cc, rfl, HI.out.1.below HB.out, HI.out.2.below HB.out, HSM.out.1, HSM.out.2⟩ (by omega) (Hel.out.below HB.out) HEM.out.1 HEM.out.2 (HO.out.io.below HB.out))
 go_wp2_with fail
 refine HCx.out.mono ?_
 rintro e w1 hp
 unfold EnP at hp
 rw [HTU.out.1, HTU.out.2, HCT1.out.1, HCT1.out.2.1, HCT1.out.2.2] at hp
 obtain ⟨v1, rfl, ⟨go, gn, gc, rfl, hga⟩, hb⟩ := hp
 have HGa := Lib.hid hga
 clear hga
 have HB := Lib.hid (HB.out.trans (hb.mono HB.out.size))
 have HS := Lib.hid (HS.out.step hb)
 have HX := Lib.hid (HX.out.step hb)
 clear s0 s1 x0 x1
 clear hb HCx
 have s0 := HS.out.cell (i := 0) rfl
 have s1 := HS.out.cell (i := 1) rfl
 have x0 := HX.out.cell (i := 0) rfl
 have x1 := HX.out.cell (i := 1) rfl
 have hbl := below_al w1 (.cells #[.string N1, .slice go gn gc] 28)
 have HY := Lib.hid (kbl_new w1 (.cells #[.string N1, .slice go gn gc] 28))
 have HB := Lib.hid (HB.out.trans (hbl.mono HB.out.size))
 have HS := Lib.hid (HS.out.step hbl)
 have HX := Lib.hid (HX.out.step hbl)
 have HGa := Lib.hid (HGa.out.below hbl)
 clear s0 s1 x0 x1
 clear hbl
 have s0 := HS.out.cell (i := 0) rfl
 have s1 := HS.out.cell (i := 1) rfl
 have x0 := HX.out.cell (i := 0) rfl
 have x1 := HX.out.cell (i := 1) rfl
 have y0 := HY.out.cell (i := 0) rfl
 have y1 := HY.out.cell (i := 1) rfl
 have HCx := Lib.hid (enNormal_s to tn tc co cn cc ts cs en lo lk lc ll _ ⟨to, tn, tc, co, cn, cc, rfl, HI.out.1.below HB.out, HI.out.2.below HB.out, HSM.out.1, HSM.out.2⟩ (by omega) (Hll.out.below HB.out) HLM.out.1 HLM.out.2 (HO.out.io.below HB.out))
 go_wp2_with fail
 refine HCx.out.mono ?_
 rintro e w2 hp
 unfold EnP at hp
 rw [HTU.out.1, HTU.out.2, HCT2.out.1, HCT2.out.2.1, HCT2.out.2.2] at hp
 obtain ⟨v2, rfl, ⟨so, sn, sc, rfl, hsa⟩, hb⟩ := hp
 have HSa := Lib.hid hsa
 clear hsa
 have HB := Lib.hid (HB.out.trans (hb.mono HB.out.size))
 have HS := Lib.hid (HS.out.step hb)
 have HX := Lib.hid (HX.out.step hb)
 have HY := Lib.hid (HY.out.step hb)
 have HGa := Lib.hid (HGa.out.below hb)
 clear s0 s1 x0 x1 y0 y1
 clear hb HCx
 have s0 := HS.out.cell (i := 0) rfl
 have s1 := HS.out.cell (i := 1) rfl
 have x0 := HX.out.cell (i := 0) rfl
 have x1 := HX.out.cell (i := 1) rfl
 have y0 := HY.out.cell (i := 0) rfl
 have y1 := HY.out.cell (i := 1) rfl
 have hbl := below_al w2 (.cells #[.string N2, .slice so sn sc] 28)
 have HW := Lib.hid (kbl_new w2 (.cells #[.string N2, .slice so sn sc] 28))
 have HB := Lib.hid (HB.out.trans (hbl.mono HB.out.size))
 have HS := Lib.hid (HS.out.step hbl)
 have HX := Lib.hid (HX.out.step hbl)
 have HY := Lib.hid (HY.out.step hbl)
 have HGa := Lib.hid (HGa.out.below hbl)
 have HSa := Lib.hid (HSa.out.below hbl)
 clear s0 s1 x0 x1 y0 y1
 clear hbl
 have s0 := HS.out.cell (i := 0) rfl
 have s1 := HS.out.cell (i := 1) rfl
 have x0 := HX.out.cell (i := 0) rfl
 have x1 := HX.out.cell (i := 1) rfl
 have y0 := HY.out.cell (i := 0) rfl
 have y1 := HY.out.cell (i := 1) rfl
 have z0 := HW.out.cell (i := 0) rfl
 have z1 := HW.out.cell (i := 1) rfl
 by_cases h1 : c1 = 0
 ·have d1 : (c1 != 0) = false := by rw [h1]; rfl
  by_cases h2 : c2 = 0
  ·have d2 : (c2 != 0) = false := by rw [h2]; rfl
   have HA := Lib.hid (HNm1.out h1)
   have HD := Lib.hid (HNm2.out h2)
   have HNe := Lib.hid (HNN.out h1 h2)
   clear h1 h2
   have HZa := Lib.hid HA.out.sz
   have HZb := Lib.hid HD.out.sz
   have hNa := HZa.out.en
   have hNb := HZb.out.en
   obtain ⟨M, hM⟩ : ∃ x, difL L1 L2 = x := ⟨_, rfl⟩
   have HM := Lib.hid hM
   have HSmM := Lib.hid (show SmM M from by rw [← hM]; exact dif_sm HA.out HD.out)
   have HeD := Lib.hid (show enD N1 L1 N2 L2 = M from by rw [← hM]; exact enD_nm HA.out HD.out)
   clear hM
   have HCx := Lib.hid (diff_s N1 go gn gc L1 N2 so sn sc L2 _ hNa hNb HGa.out HSa.out HZa.out.sm HZa.out.fv HZb.out.sm HZb.out.fv)
   go_wp2_with fail
   refine HCx.out.mono ?_
   rintro e w3 hdv
   obtain ⟨u1, T1, rfl, hT1, hD1⟩ := hdv
   obtain ⟨mo, mc, rfl, hM1⟩ := hD1.mds
   rw [hT1, HeD.out] at hM1
   obtain ⟨mn, hmn⟩ : ∃ x, T1.length = x := ⟨_, rfl⟩
   rw [hmn] at hM1
   have HMd := Lib.hid hM1
   have HMl := Lib.hid hM1.1
   have hb := hD1.low
   rw [hmn]
   clear hT1 hD1 hM1 hmn
   have HB := Lib.hid (HB.out.trans (hb.mono HB.out.size))
   have HS := Lib.hid (HS.out.step hb)
   have HX := Lib.hid (HX.out.step hb)
   have HY := Lib.hid (HY.out.step hb)
   have HW := Lib.hid (HW.out.step hb)
   have HGa := Lib.hid (HGa.out.below hb)
   have HSa := Lib.hid (HSa.out.below hb)
   clear s0 s1 x0 x1 y0 y1 z0 z1
   clear hb HCx
   have s0 := HS.out.cell (i := 0) rfl
   have s1 := HS.out.cell (i := 1) rfl
   have x0 := HX.out.cell (i := 0) rfl
   have x1 := HX.out.cell (i := 1) rfl
   have y0 := HY.out.cell (i := 0) rfl
   have y1 := HY.out.cell (i := 1) rfl
   have z0 := HW.out.cell (i := 0) rfl
   have z1 := HW.out.cell (i := 1) rfl
   have HP0 : Hid (Below W.heap.size W w3 ∧ Kb w3 W.heap.size (.cells #[.slice to tn tc, .slice co cn cc] 25) ∧ Kb w3 (W.heap.size + 1) (.cells #[.string en, .slice eo ek ec] 28) ∧ Kb w3 w1.heap.size (.cells #[.string N1, .slice go gn gc] 28) ∧ Kb w3 w2.heap.size (.cells #[.string N2, .slice so sn sc] 28) ∧ AttrsAt w3 go gn gc L1 ∧ AttrsAt w3 so sn sc L2 ∧ MdsAt w3 mo mn mc M) := Lib.hid ⟨HB.out, HS.out, HX.out, HY.out, HW.out, HGa.out, HSa.out, HMd.out⟩
   have HSt := Lib.hid (show ∀ V X : World, (Below W.heap.size W V ∧ Kb V W.heap.size (.cells #[.slice to tn tc, .slice co cn cc] 25) ∧ Kb V (W.heap.size + 1) (.cells #[.string en, .slice eo ek ec] 28) ∧ Kb V w1.heap.size (.cells #[.string N1, .slice go gn gc] 28) ∧ Kb V w2.heap.size (.cells #[.string N2, .slice so sn sc] 28) ∧ AttrsAt V go gn gc L1 ∧ AttrsAt V so sn sc L2 ∧ MdsAt V mo mn mc M) → Below V.heap.size V X → (Below W.heap.size W X ∧ Kb X W.heap.size (.cells #[.slice to tn tc, .slice co cn cc] 25) ∧ Kb X (W.heap.size + 1) (.cells #[.string en, .slice eo ek ec] 28) ∧ Kb X w1.heap.size (.cells #[.string N1, .slice go gn gc] 28) ∧ Kb X w2.heap.size (.cells #[.string N2, .slice so sn sc] 28) ∧ AttrsAt X go gn gc L1 ∧ AttrsAt X so sn sc L2 ∧ MdsAt X mo mn mc M) from fun V X h hb => ⟨h.1.trans (hb.mono h.1.size), h.2.1.step hb, h.2.2.1.step hb, h.2.2.2.1.step hb, h.2.2.2.2.1.step hb, h.2.2.2.2.2.1.below hb, h.2.2.2.2.2.2.1.below hb, h.2.2.2.2.2.2.2.below hb⟩)
   clear s0 s1 x0 x1 y0 y1 z0 z1
   clear HB HS HX HY HW HGa HSa HMd
   go_wp2_with fail
   go_loopw [12, 13] (fun mv iv wr => ∃ k : Nat, k ≤ sn ∧ mv = .int .i64 ((moreL L1 L2 k : Nat) : Int) ∧ iv = .int .i64 k ∧ Hid (Below W.heap.size W wr ∧ Kb wr W.heap.size (.cells #[.slice to tn tc, .slice co cn cc] 25) ∧ Kb wr (W.heap.size + 1) (.cells #[.string en, .slice eo ek ec] 28) ∧ Kb wr w1.heap.size (.cells #[.string N1, .slice go gn gc] 28) ∧ Kb wr w2.heap.size (.cells #[.string N2, .slice so sn sc] 28) ∧ AttrsAt wr go gn gc L1 ∧ AttrsAt wr so sn sc L2 ∧ MdsAt wr mo mn mc M)) (fun _ iv _ => sn - (intOf iv).toNat)
   case atStart => exact ⟨0, Nat.zero_le _, rfl, rfl, HP0⟩
   case round =>
    obtain ⟨k, hk, rfl, rfl, HP⟩ := hrel
    clear HP0
    have y1 := HP.out.2.2.2.1.cell (i := 1) rfl
    have z1 := HP.out.2.2.2.2.1.cell (i := 1) rfl
    obtain ⟨md, hmd⟩ : ∃ x, moreL L1 L2 k = x := ⟨_, rfl⟩
    have HMo := Lib.hid hmd
    have hmk : md ≤ k := by rw [← hmd]; exact more_le _ _ _
    rw [hmd]
    have hsl := HP.out.2.2.2.2.2.2.1.1
    have HSl := Lib.hid hsl
    have hsb := HZb.out.few.len
    rw [hsl] at hsb
    clear hmd hsl
    by_cases hlt : k < sn
    ·have e1 : (k : Int) < (sn : Int) := by omega
     have i0 : (0 : Int) ≤ (k : Int) := by omega
     obtain ⟨bs, off, hso, hbs, hat⟩ := HP.out.2.2.2.2.2.2.1.2.2.2 (by omega)
     have ha0 := (hat k hlt).1
     clear hat
     obtain ⟨nm, hnm⟩ : ∃ x, (atD L2 k).1 = x := ⟨_, rfl⟩
     rw [hnm] at ha0
     have HNmk := Lib.hid hnm
     have HLw := Lib.hid (show lowS nm = nm by rw [← hnm]; exact nf_lowD HD.out.nof (by rw [HSl.out]; exact hlt))
     have HNz := Lib.hid (show nm.size ≤ 1100000 by rw [← hnm]; exact (HZb.out.sm _ (at_mem L2 k (by rw [HSl.out]; exact hlt))).1)
     clear hnm
     obtain ⟨q, hq⟩ : ∃ x, (vals L1 nm).length = x := ⟨_, rfl⟩
     have HQ := Lib.hid hq
     clear hq
     subst hso
     have HC := Lib.hid (show ∀ V : World, V.cell? ⟨bs, off + k * 2, none⟩ = some (.string nm) → (Below W.heap.size W V ∧ Kb V W.heap.size (.cells #[.slice to tn tc, .slice co cn cc] 25) ∧ Kb V (W.heap.size + 1) (.cells #[.string en, .slice eo ek ec] 28) ∧ Kb V w1.heap.size (.cells #[.string N1, .slice go gn gc] 28) ∧ Kb V w2.heap.size (.cells #[.string N2, .slice (some ⟨bs, off, none⟩) sn sc] 28) ∧ AttrsAt V go gn gc L1 ∧ AttrsAt V (some ⟨bs, off, none⟩) sn sc L2 ∧ MdsAt V mo mn mc M) → (V.cell? ⟨w1.heap.size, 1, none⟩ = some (.slice go gn gc) ∧ V.cell? ⟨w2.heap.size, 1, none⟩ = some (.slice (some ⟨bs, off, none⟩) sn sc) ∧ V.cell? ⟨bs, off + k * 2, none⟩ = some (.string nm) ∧ Hid (Below W.heap.size W V ∧ Kb V W.heap.size (.cells #[.slice to tn tc, .slice co cn cc] 25) ∧ Kb V (W.heap.size + 1) (.cells #[.string en, .slice eo ek ec] 28) ∧ Kb V w1.heap.size (.cells #[.string N1, .slice go gn gc] 28) ∧ Kb V w2.heap.size (.cells #[.string N2, .slice (some ⟨bs, off, none⟩) sn sc] 28) ∧ AttrsAt V go gn gc L1 ∧ AttrsAt V (some ⟨bs, off, none⟩) sn sc L2 ∧ MdsAt V mo mn mc M)) from fun V hc h => ⟨h.2.2.2.1.cell rfl, h.2.2.2.2.1.cell rfl, hc, Lib.hid h⟩)
     have HB := Lib.hid HP.out.1
     have hbk := hbs
     go_wp2_with fail
     have S0 := HC.out _ (show wr.drew.cell? ⟨bs, off + k * 2, none⟩ = some (.string nm) from ha0) (HSt.out _ _ HP.out (Below.refl _ _).drew)
     clear y1 z1 ha0
     refine wp_region_held_drew (S := fun V => V.cell? ⟨w1.heap.size, 1, none⟩ = some (.slice go gn gc) ∧ V.cell? ⟨w2.heap.size, 1, none⟩ = some (.slice (some ⟨bs, off, none⟩) sn sc) ∧ V.cell? ⟨bs, off + k * 2, none⟩ = some (.string nm) ∧ Hid (Below W.heap.size W V ∧ Kb V W.heap.size (.cells #[.slice to tn tc, .slice co cn cc] 25) ∧ Kb V (W.heap.size + 1) (.cells #[.string en, .slice eo ek ec] 28) ∧ Kb V w1.heap.size (.cells #[.string N1, .slice go gn gc] 28) ∧ Kb V w2.heap.size (.cells #[.string N2, .slice (some ⟨bs, off, none⟩) sn sc] 28) ∧ AttrsAt V go gn gc L1 ∧ AttrsAt V (some ⟨bs, off, none⟩) sn sc L2 ∧ MdsAt V mo mn mc M)) (by kernel_rfl) (S0) (fun hS => ?_)
     refine rgT 0 (some 48) ?_
     refine rgT 1 (some 49) ?_
     refine rgT 2 (some 50) ?_
     refine rgT 3 (some 51) ?_
     refine rgT 4 (some 52) ?_
     refine rgT 5 (some 53) ?_
     refine rgT 6 (some 54) ?_
     refine rgT 7 (some 55) ?_
     refine rgC 8 (fun K hK => ?_)
     go_simp
     refine (rget_s go gn gc L1 nm _ hS.2.2.2.out.2.2.2.2.2.1 HZa.out.few HNz.out).mono ?_
     rintro e v1 ⟨gv, rfl, ⟨xo, xn, xc, rfl, hx⟩, hb⟩
     have HX1 := Lib.hid (show xn = q from by rw [← hx.1, HLw.out]; exact HQ.out)
     have hc3 := (hb.cell (p := ⟨bs, off + k * 2, none⟩) (show bs < _ from Nat.lt_of_lt_of_le hbk (Nat.le_refl _))).trans hS.2.2.1
     have HKp := HSt.out _ _ hS.2.2.2.out hb
     clear hx
     go_wp2_with fail
     refine hK.out _ _ ?_ (fun hHeld => ?_)
     ·exact HC.out _ hc3 HKp
     clear hK K
     try simp only [Act.put, lsA, lsZ, lsS]
     refine rgT 9 (some 57) ?_
     refine rgT 10 (some 58) ?_
     refine wpAnyH_done (by kernel_rfl) ?_ _
     have HP := Lib.hid hHeld.2.2.2.out
     clear hHeld
     obtain rfl := HX1.out
     by_cases hq0 : xn = 0
     ·have q0 : ((xn : Int) == 0) = true := by rw [hq0]; rfl
      have HSp := Lib.hid (show moreL L1 L2 (k + 1) = md + 1 from by rw [more_step (by rw [HSl.out]; exact hlt), HMo.out, HNmk.out, HQ.out, if_pos hq0])
      go_wp2_with fail
      go_roundw
      case rel => exact ⟨k + 1, by omega, by rw [HSp.out]; go_num, by go_num, HP⟩
      case measure => simp [intOf]; omega
     ·have q0 : ((xn : Int) == 0) = false := by simp; omega
      have HSp := Lib.hid (show moreL L1 L2 (k + 1) = md from by rw [more_step (by rw [HSl.out]; exact hlt), HMo.out, HNmk.out, HQ.out, if_neg hq0, Nat.add_zero])
      go_wp2_with fail
      go_roundw
      case rel => exact ⟨k + 1, by omega, by rw [HSp.out], by go_num, HP⟩
      case measure => simp [intOf]; omega
    ·have e1 : ¬ (k : Int) < (sn : Int) := by omega
     obtain rfl : sn = k := by omega
     have HAll := Lib.hid (show (sortU (names L1 ++ names L2)).length ≤ gn + md from by have := more_all HA.out.nof HD.out.nof; rw [HSl.out, HMo.out, HP.out.2.2.2.2.2.1.1] at this; exact this)
     have HB := Lib.hid HP.out.1
     have HS := Lib.hid HP.out.2.1
     have HX := Lib.hid HP.out.2.2.1
     have HY := Lib.hid HP.out.2.2.2.1
     have HW := Lib.hid HP.out.2.2.2.2.1
     have HGa := Lib.hid HP.out.2.2.2.2.2.1
     have HSa := Lib.hid HP.out.2.2.2.2.2.2.1
     have HMd := Lib.hid HP.out.2.2.2.2.2.2.2
     clear HP y1 z1 hlt
     have hgl := HGa.out.1
     have hgb := HZa.out.few.len
     rw [hgl] at hgb
     clear hgl
     have s0 := HS.out.cell (i := 0) rfl
     have s1 := HS.out.cell (i := 1) rfl
     have x0 := HX.out.cell (i := 0) rfl
     have x1 := HX.out.cell (i := 1) rfl
     have y0 := HY.out.cell (i := 0) rfl
     have y1 := HY.out.cell (i := 1) rfl
     have z0 := HW.out.cell (i := 0) rfl
     have z1 := HW.out.cell (i := 1) rfl
     by_cases hm32 : 32 < mn
     ·have q1 : (32 : Int) < (mn : Int) := by omega
      have q2 : decide ((32 : Int) < (mn : Int)) = true := decide_eq_true q1
      have HCx := Lib.hid (example_e _ (HO.out.io.below HB.out))
      go_wp2_with fail
      refine HCx.out.mono ?_
      rintro e w99 ⟨rfl, hb⟩
      have HB := Lib.hid (HB.out.trans (hb.mono HB.out.size))
      clear hb
      go_wp2_with fail
      go_ret
      exact ⟨rfl, HB.out⟩
     ·have q1 : ¬ (32 : Int) < (mn : Int) := by omega
      have q2 : decide ((32 : Int) < (mn : Int)) = false := decide_eq_false q1
      by_cases hg32 : 32 < gn + md
      ·have q3 : (32 : Int) < (gn : Int) + (md : Int) := by omega
       have q4 : decide ((32 : Int) < (gn : Int) + (md : Int)) = true := decide_eq_true q3
       have HCx := Lib.hid (example_e _ (HO.out.io.below HB.out))
       go_wp2_with fail
       refine HCx.out.mono ?_
       rintro e w99 ⟨rfl, hb⟩
       have HB := Lib.hid (HB.out.trans (hb.mono HB.out.size))
       clear hb
       go_wp2_with fail
       go_ret
       exact ⟨rfl, HB.out⟩
      ·have q3 : ¬ (32 : Int) < (gn : Int) + (md : Int) := by omega
       have q4 : decide ((32 : Int) < (gn : Int) + (md : Int)) = false := decide_eq_false q3
       have H32 := Lib.hid (show (sortU (names L1 ++ names L2)).length ≤ 32 by have := HAll.out; omega)
       have HAp := Lib.hid (show apE tt uu N1 L1 M = 0 ∧ apN tt uu N1 L1 M = N1 ∧ apL tt uu N1 L1 M = L2 from by rw [← HM.out]; exact ap_turns HA.out (by have h := HD.out; rw [← HNe.out] at h; exact h) H32.out (by rw [HM.out, HMl.out]; omega))
       have HNl := Lib.hid (show (mn = 0) ↔ nf L1 = nf L2 from by have := dif_nil HA.out HD.out H32.out; rw [HM.out, HMl.out] at this; exact this)
       have HCx := Lib.hid (apply_s to tn tc co cn cc ts cs N1 go gn gc L1 mo mn mc M _ ⟨to, tn, tc, co, cn, cc, rfl, HI.out.1.below HB.out, HI.out.2.below HB.out, HSM.out.1, HSM.out.2⟩ (by omega) HGa.out HZa.out.sm HZa.out.fv HMd.out HSmM.out (HO.out.io.below HB.out))
       go_wp2_with fail
       refine HCx.out.mono ?_
       rintro e w4 hp
       unfold ApP at hp
       rw [HTU.out.1, HTU.out.2, HAp.out.1, HAp.out.2.1, HAp.out.2.2] at hp
       obtain ⟨v4, rfl, ⟨po, pn, pc, rfl, hpa⟩, hb⟩ := hp
       have HPa := Lib.hid hpa
       clear hpa
       have HB := Lib.hid (HB.out.trans (hb.mono HB.out.size))
       have HS := Lib.hid (HS.out.step hb)
       have HX := Lib.hid (HX.out.step hb)
       have HY := Lib.hid (HY.out.step hb)
       have HW := Lib.hid (HW.out.step hb)
       have HGa := Lib.hid (HGa.out.below hb)
       have HSa := Lib.hid (HSa.out.below hb)
       have HMd := Lib.hid (HMd.out.below hb)
       clear s0 s1 x0 x1 y0 y1 z0 z1
       clear hb HCx
       have s0 := HS.out.cell (i := 0) rfl
       have s1 := HS.out.cell (i := 1) rfl
       have x0 := HX.out.cell (i := 0) rfl
       have x1 := HX.out.cell (i := 1) rfl
       have y0 := HY.out.cell (i := 0) rfl
       have y1 := HY.out.cell (i := 1) rfl
       have z0 := HW.out.cell (i := 0) rfl
       have z1 := HW.out.cell (i := 1) rfl
       have hbl := below_al w4 (.cells #[.string N1, .slice po pn pc] 28)
       have HV := Lib.hid (kbl_new w4 (.cells #[.string N1, .slice po pn pc] 28))
       have HB := Lib.hid (HB.out.trans (hbl.mono HB.out.size))
       have HS := Lib.hid (HS.out.step hbl)
       have HX := Lib.hid (HX.out.step hbl)
       have HY := Lib.hid (HY.out.step hbl)
       have HW := Lib.hid (HW.out.step hbl)
       have HGa := Lib.hid (HGa.out.below hbl)
       have HSa := Lib.hid (HSa.out.below hbl)
       have HMd := Lib.hid (HMd.out.below hbl)
       have HPa := Lib.hid (HPa.out.below hbl)
       clear s0 s1 x0 x1 y0 y1 z0 z1
       clear hbl
       have s0 := HS.out.cell (i := 0) rfl
       have s1 := HS.out.cell (i := 1) rfl
       have x0 := HX.out.cell (i := 0) rfl
       have x1 := HX.out.cell (i := 1) rfl
       have y0 := HY.out.cell (i := 0) rfl
       have y1 := HY.out.cell (i := 1) rfl
       have z0 := HW.out.cell (i := 0) rfl
       have z1 := HW.out.cell (i := 1) rfl
       have u0 := HV.out.cell (i := 0) rfl
       have u1 := HV.out.cell (i := 1) rfl
       have HCx := Lib.hid (same8_s N1 N2 po so pn sn pc sc L2 L2 _ HPa.out HSa.out)
       rw [decide_eq_true ⟨HNe.out, rfl⟩] at HCx
       go_wp2_with fail
       refine HCx.out.mono ?_
       rintro e w5 ⟨rfl, hb⟩
       have HB := Lib.hid (HB.out.trans (hb.mono HB.out.size))
       have HS := Lib.hid (HS.out.step hb)
       have HX := Lib.hid (HX.out.step hb)
       have HY := Lib.hid (HY.out.step hb)
       have HW := Lib.hid (HW.out.step hb)
       have HV := Lib.hid (HV.out.step hb)
       have HGa := Lib.hid (HGa.out.below hb)
       have HSa := Lib.hid (HSa.out.below hb)
       have HMd := Lib.hid (HMd.out.below hb)
       have HPa := Lib.hid (HPa.out.below hb)
       clear s0 s1 x0 x1 y0 y1 z0 z1 u0 u1
       clear hb HCx
       have s0 := HS.out.cell (i := 0) rfl
       have s1 := HS.out.cell (i := 1) rfl
       have x0 := HX.out.cell (i := 0) rfl
       have x1 := HX.out.cell (i := 1) rfl
       have y0 := HY.out.cell (i := 0) rfl
       have y1 := HY.out.cell (i := 1) rfl
       have z0 := HW.out.cell (i := 0) rfl
       have z1 := HW.out.cell (i := 1) rfl
       have u0 := HV.out.cell (i := 0) rfl
       have u1 := HV.out.cell (i := 1) rfl
       obtain ⟨z, hz⟩ : ∃ x, decide (nf L1 = nf L2) = x := ⟨_, rfl⟩
       have HZz := Lib.hid hz
       have HZe := Lib.hid (show ((mn : Int) == 0) = z from by
        by_cases e : mn = 0
        ·rw [← hz, decide_eq_true (HNl.out.1 e), e]; rfl
        ·rw [← hz, decide_eq_false (fun k => e (HNl.out.2 k))]; simp; omega)
       have q5 := HZe.out
       have q6 : (z == z) = true := by simp
       clear hz
       have HCx := Lib.hid (requal_s go so gn sn gc sc L1 L2 _ HGa.out HSa.out HZa.out.few HZb.out.few)
       rw [HZz.out] at HCx
       go_wp2_with fail
       refine HCx.out.mono ?_
       rintro e w6 ⟨rfl, hb⟩
       have HB := Lib.hid (HB.out.trans (hb.mono HB.out.size))
       have HS := Lib.hid (HS.out.step hb)
       have HX := Lib.hid (HX.out.step hb)
       have HY := Lib.hid (HY.out.step hb)
       have HW := Lib.hid (HW.out.step hb)
       have HV := Lib.hid (HV.out.step hb)
       have HGa := Lib.hid (HGa.out.below hb)
       have HSa := Lib.hid (HSa.out.below hb)
       have HMd := Lib.hid (HMd.out.below hb)
       have HPa := Lib.hid (HPa.out.below hb)
       clear s0 s1 x0 x1 y0 y1 z0 z1 u0 u1
       clear hb HCx
       have s0 := HS.out.cell (i := 0) rfl
       have s1 := HS.out.cell (i := 1) rfl
       have x0 := HX.out.cell (i := 0) rfl
       have x1 := HX.out.cell (i := 1) rfl
       have y0 := HY.out.cell (i := 0) rfl
       have y1 := HY.out.cell (i := 1) rfl
       have z0 := HW.out.cell (i := 0) rfl
       have z1 := HW.out.cell (i := 1) rfl
       have u0 := HV.out.cell (i := 0) rfl
       have u1 := HV.out.cell (i := 1) rfl
       have HCx := Lib.hid (example_e _ (HO.out.io.below HB.out))
       go_wp2_with fail
       refine HCx.out.mono ?_
       rintro e w99 ⟨rfl, hb⟩
       have HB := Lib.hid (HB.out.trans (hb.mono HB.out.size))
       clear hb
       go_wp2_with fail
       go_ret
       exact ⟨rfl, HB.out⟩
  ·have d2 : (c2 != 0) = true := by simpa using h2
   have HCx := Lib.hid (example_e _ (HO.out.io.below HB.out))
   go_wp2_with fail
   refine HCx.out.mono ?_
   rintro e w99 ⟨rfl, hb⟩
   have HB := Lib.hid (HB.out.trans (hb.mono HB.out.size))
   clear hb
   go_wp2_with fail
   go_ret
   exact ⟨rfl, HB.out⟩
 ·have d1 : (c1 != 0) = true := by simpa using h1
  have HCx := Lib.hid (example_e _ (HO.out.io.below HB.out))
  go_wp2_with fail
  refine HCx.out.mono ?_
  rintro e w99 ⟨rfl, hb⟩
  have HB := Lib.hid (HB.out.trans (hb.mono HB.out.size))
  clear hb
  go_wp2_with fail
  go_ret
  exact ⟨rfl, HB.out⟩

end Go.Proofs.YtonfkhkalodldabGreatDoor
end

section
set_option maxRecDepth 100000
namespace Go.Proofs.YtonfkhkalodldabGreatDoor
open Go.ChangeShapes Go.WideShapes Go.ChangeAt Go.RowKit Go.PlainAid
open Go.ChangeMaps (open_string shut_string)
theorem eturns_types : ∀ t ∈ [25, 28, 26], Tryz.prog.readableRec t = true ∧ t < Tryz.prog.types.size := by
 have h : ([25, 28, 26].all fun t => Tryz.prog.readableRec t && decide (t < Tryz.prog.types.size)) = true := by kernel_rfl
 intro t ht
 have := List.all_eq_true.1 h t ht
 simpa using this

theorem eturns_contract (H : Type) (enc : TypeId × Value → H) (W : World) (base : Nat) (args : Array Value) (ds gs : List (DataW H)) (before : List MemPlace)
  (hval : ∀ (j : Nat) t v, Tryz.f4.params[j]? = some t → args[j]? = some v → Value.okWide Tryz.prog W .any base t v)
  (hW : DataW.Whole enc Tryz.prog Tryz.f4.params.toList Rows.entryTurnsSpec.vars false W args.toList ds gs before)
  (hk : Rows.uptoSmall H (ds ++ gs) = true)
  (hL : laidMetH Tryz.prog Rows.entryTurnsUptoRow.laid W) (hsh : W.ShapedOpen Tryz.prog) :
  Calls Tryz.prog 4 args W fun e W' => ∃ v, e = .returned v ∧ Rows.entryTurnsSpec.post enc Tryz.prog Tryz.f4 false true false false W args v W' := by
 have hW' := hW
 obtain ⟨p, q, hA0, hV, rfl, hfz, hnd⟩ := hW
 have hA : DataW.TrodAll enc Tryz.prog W 0 (fun _ => true) true Tryz.f4.params.toList args.toList ds p := hA0
 obtain ⟨rfl, rfl⟩ := trodVars_none hV
 simp only [List.append_nil] at hW'
 have hlt : ∀ x ∈ p, x.block < W.heap.size := fun x hx => by simpa using hW'.lt x hx
 have fin : ∀ W', Below W.heap.size W W' → DataW.TrodAll enc Tryz.prog W' 0 (fun b => decide (b < W.heap.size)) true [25, 28, 26] args.toList ds p := fun W' hb => by
  rw [Tryz.params4] at hA
  exact trodAll_below hb _ _ _ _ eturns_types hA hlt
 clear hA0
 rw [Tryz.params4] at hA hval
 have hbk := bk_bound hk
 obtain ⟨v0, vs0, d0, ds0, p0, q0, hargs, rfl, hp0, h0, r0⟩ := trodAll_cons hA
 obtain ⟨v1, vs1, d1, ds1, p1, q1, rfl, rfl, hp1, h1, r1⟩ := trodAll_cons r0
 obtain ⟨v2, vs2, d2, ds2, p2, q2, rfl, rfl, hp2, h2, r2⟩ := trodAll_cons r1
 obtain ⟨rfl, rfl, rfl⟩ := trodAll_nil r2
 obtain rfl : args = #[v0, v1, v2] := by cases args; simp_all
 simp only [List.append_nil, Rows.uptoBulkAll] at hbk
 obtain ⟨to, tn, tc, ts, co, cn, cc, cs, rfl, ht0, rt0, hc0, rc0⟩ := open_schemaU (K := 1048576) (hval 0 25 v0 rfl rfl) h0 (by omega)
 obtain ⟨en, eo, ek, ec, el, rfl, hen, hel, rel⟩ := open_entryU (K := 1048576) (hval 1 28 v1 rfl rfl) h1 (by omega)
 obtain ⟨lo, lk, lc, ll, rfl, hll, rll⟩ := open_attrsU (K := 1048576) (hval 2 26 v2 rfl rfl) h2 (by omega)
 refine (eturns_s to tn tc ts co cn cc cs en eo ek ec el lo lk lc ll W ht0 rt0 hc0 rc0 hen hel rel hll rll (eok hL hsh)).mono fun e W' ⟨he, hb⟩ => ?_
 subst he
 exact ⟨_, rfl, _, _, _, [], p, [], hW', trodAll_mk1 (shut_bool Tryz.underlying4 _), fin W' hb, rfl, hb.frame _, fun h => by cases h⟩

theorem eturns_lifted (os : Os) (started : os.Started) (H : Type) (enc : TypeId × Value → H) (F : Stop.Interp) :
  ReturnsInHanded {} Tryz.checked os 4 .any ((Rows.OpenSpec.upto Rows.entryTurnsSpec).preRow enc Tryz.prog Tryz.f4 Rows.entryTurnsUptoRow.domain false Rows.entryTurnsUptoRow.laid) (((Rows.OpenSpec.upto Rows.entryTurnsSpec).at F).post enc Tryz.prog Tryz.f4 false true false false) := by
 refine returnsInHanded_of_row (C := Tryz.checked) (s := Rows.OpenSpec.upto Rows.entryTurnsSpec) own started (by kernel_rfl) Tryz.func4
  (witness_row (enc := enc) (C := Tryz.checked) false (World.laidAll Tryz.prog os Rows.entryTurnsUptoRow.laid) #[.agg #[.slice none 0 0, .slice none 0 0], .agg #[.string ⟨#[]⟩, .slice none 0 0], .slice none 0 0] (World.laidAll_os _ _ _)
   (World.shaped_of_ZipB (by kernel_rfl) (by kernel_rfl)) (by kernel_rfl)
   (OpenSpec.preRow_of_cond 8 (x := ([.agg [.nil, .nil], .agg [.lit (.string []), .nil], .nil], [], [])) (by kernel_rfl) (by kernel_rfl) (fun k hk => by cases hk; kernel_rfl) (by kernel_rfl)
    (by rw [MakeChecks.laidMetH_plain _ _ _ (by kernel_rfl)]; exact laidMet_laidAll _ (by kernel_rfl) (by kernel_rfl)))) ?_
 intro W base args ds gs before hval hW _ hk _ hL hsh _
 exact eturns_contract H enc W base args ds gs before hval hW (hk _ rfl) hL hsh

end Go.Proofs.YtonfkhkalodldabGreatDoor
end
